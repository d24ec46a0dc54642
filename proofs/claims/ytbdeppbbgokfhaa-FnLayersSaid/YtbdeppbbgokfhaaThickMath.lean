/- A closed card: how many steps of a strip cover each part of the page. Pure mathematics. -/
import Derived.Test.YtbdeppbbgokfhaaTurnMath
import Derived.Test.YtbdeppbbgokfhaaPlaceMath
namespace Go.Proofs.Ytbdeppbbgokfhaa.Thick
open Go.Proofs.Ytbdeppbbgokfhaa.Strip Go.Proofs.Ytbdeppbbgokfhaa.Kerf Go.Proofs.Ytbdeppbbgokfhaa.Order Go.Proofs.Ytbdeppbbgokfhaa.Turn
open Go.Proofs.Ytbdeppbbgokfhaa.Place (hiF hiF_le le_hiF hiF_ge hiF_start firsts firsts_length firsts_get max_firsts cnt_take frame_of fx)
set_option linter.unusedVariables false

/-- The place of point k of a strip on the page; the part that step k covers. -/
def pl (l : List UInt8) (k : Nat) : Nat := cnt 100 l + 2 * ff l k - k
def pt (l : List UInt8) (k : Nat) : Nat := min (pl l k) (pl l (k + 1))
theorem pl_in {l : List UInt8} (hok : okL l = true) (k : Nat) (hk : k ≤ l.length) : k ≤ cnt 100 l + 2 * ff l k ∧ pl l k ≤ l.length := by
  have h1 := dd_eq hok k hk
  have h2 := cnt_take 100 l k
  have h3 := ff_le_all l k
  have h4 := cnt_sum l hok
  unfold pl
  omega
theorem pl_zero (l : List UInt8) : pl l 0 = cnt 100 l := by unfold pl; rw [ff_zero]; omega
theorem pt_d {l : List UInt8} (hok : okL l = true) (k : Nat) (hk : k < l.length) (h : l.getD k 0 = 100) : pl l k = pl l (k + 1) + 1 ∧ pt l k = pl l (k + 1) := by
  have h1 := pl_in hok (k + 1) (by omega)
  have h2 := ff_succ l k hk
  rw [h, if_neg (by decide)] at h2
  unfold pt pl at *
  omega
theorem pt_f {l : List UInt8} (hok : okL l = true) (k : Nat) (hk : k < l.length) (h : l.getD k 0 = 102) : pl l (k + 1) = pl l k + 1 ∧ pt l k = pl l k := by
  have h1 := pl_in hok k (by omega)
  have h2 := ff_succ l k hk
  rw [h, if_pos rfl] at h2
  unfold pt pl at *
  omega
theorem pt_lt {l : List UInt8} (hok : okL l = true) (k : Nat) (hk : k < l.length) : pt l k < l.length := by
  have h1 := pl_in hok k (by omega)
  have h2 := pl_in hok (k + 1) (by omega)
  rcases ok_at hok k hk with h | h
  · have := pt_d hok k hk h; omega
  · have := pt_f hok k hk h; omega

/-- Step j covers part x. -/
def hit (l : List UInt8) (x j : Nat) : Int := if pt l j = x then 1 else 0
def hits (l : List UInt8) (k x : Nat) : Int := sumN k (hit l x)
theorem hits_succ (l : List UInt8) (k x : Nat) : hits l (k + 1) x = hits l k x + (if pt l k = x then 1 else 0) := rfl
theorem hits_in (l : List UInt8) (k x : Nat) : 0 ≤ hits l k x ∧ hits l k x ≤ k := by
  induction k with
  | zero => exact ⟨Int.le_refl _, Int.le_refl _⟩
  | succ k ih => rw [hits_succ]; split <;> omega
/-- The layers of the first k steps; what LayersOf returns. -/
def rowK (l : List UInt8) (k : Nat) : List Int := firsts (hits l k) l.length
def layL (l : List UInt8) : List Int := if stripB l = true then rowK l l.length else []
theorem layL_yes {l : List UInt8} (h : stripB l = true) : layL l = rowK l l.length := by unfold layL; rw [if_pos h]
theorem layL_no {l : List UInt8} (h : stripB l = false) : layL l = [] := by unfold layL; rw [if_neg (by rw [h]; simp)]
theorem rowK_length (l : List UInt8) (k : Nat) : (rowK l k).length = l.length := firsts_length _ _
theorem rowK_at (l : List UInt8) (k x : Nat) (h : x < l.length) : (rowK l k)[x]? = some (hits l k x) := by unfold rowK firsts; simp [h]
theorem rowK_get (l : List UInt8) (k x : Nat) (h : x < (rowK l k).length) : (rowK l k)[x] = hits l k x := by
  have h1 := rowK_at l k x (by rw [rowK_length] at h; exact h)
  rw [List.getElem?_eq_getElem h] at h1
  exact Option.some.inj h1
theorem rowK_zero (l : List UInt8) : rowK l 0 = List.replicate l.length 0 := by
  refine List.ext_getElem? fun x => ?_
  by_cases hx : x < l.length
  · rw [rowK_at l 0 x hx, List.getElem?_replicate, if_pos hx]; rfl
  · rw [List.getElem?_eq_none (by rw [rowK_length]; omega), List.getElem?_eq_none (by simp; omega)]
theorem rowK_set (l : List UInt8) (k p : Nat) (hp : pt l k = p) : (rowK l k).set p (hits l k p + 1) = rowK l (k + 1) := by
  refine List.ext_getElem? fun x => ?_
  by_cases hx : x < l.length
  · rw [rowK_at l (k + 1) x hx, List.getElem?_set, hits_succ, hp]
    by_cases e : p = x
    · subst e; rw [if_pos rfl, if_pos (by rw [rowK_length]; omega), if_pos rfl]
    · rw [if_neg e, rowK_at l k x hx, if_neg e, Int.add_zero]
  · rw [List.getElem?_eq_none (by simp [rowK_length]; omega), List.getElem?_eq_none (by rw [rowK_length]; omega)]
theorem rowK_in (l : List UInt8) (k : Nat) : ∀ x ∈ rowK l k, 0 ≤ x ∧ x ≤ k := by
  intro x hx
  unfold rowK firsts at hx
  obtain ⟨i, _, rfl⟩ := List.mem_map.1 hx
  exact hits_in l k i
theorem strip_len {l : List UInt8} (h : stripB l = true) : 2 ≤ l.length ∧ l.length ≤ 16 := by
  have := frame_of h
  omega
theorem layL_length {l : List UInt8} (h : stripB l = true) : (layL l).length = l.length := by rw [layL_yes h, rowK_length]
theorem layL_le (l : List UInt8) : (layL l).length ≤ 16 := by
  cases h : stripB l with
  | false => rw [layL_no h]; simp
  | true => rw [layL_length h]; exact (strip_len h).2
theorem layL_pos {l : List UInt8} (h : stripB l = true) : 1 ≤ (layL l).length := by
  rw [layL_length h]
  have := strip_len h
  omega
theorem layL_in {l : List UInt8} (h : stripB l = true) : ∀ x ∈ layL l, 0 ≤ x ∧ x ≤ 16 := by
  rw [layL_yes h]
  intro x hx
  have h1 := rowK_in l _ x hx
  have h2 := strip_len h
  omega

/-! ### all steps -/
theorem sumL_set (l : List Int) (x : Int) : ∀ i (h : i < l.length), sumL (l.set i x) = sumL l - l[i] + x := by
  induction l with
  | nil => intro i h; simp at h
  | cons a l ih =>
    intro i h
    cases i with
    | zero =>
      show x + sumL l = a + sumL l - a + x
      omega
    | succ i =>
      have hi : i < l.length := by simpa using h
      have h2 := ih i hi
      show a + sumL (l.set i x) = a + sumL l - l[i] + x
      omega
theorem sumL_zeros (n : Nat) : sumL (List.replicate n 0) = 0 := by
  induction n with
  | zero => rfl
  | succ n ih =>
    rw [List.replicate_succ]
    show 0 + sumL (List.replicate n 0) = 0
    omega
theorem sum_rowK {l : List UInt8} (hok : okL l = true) : ∀ k, k ≤ l.length → sumL (rowK l k) = k := by
  intro k
  induction k with
  | zero => intro _; rw [rowK_zero, sumL_zeros]; rfl
  | succ k ih =>
    intro hk
    have hp := pt_lt hok k hk
    have hp2 : pt l k < (rowK l k).length := by rw [rowK_length]; exact hp
    rw [← rowK_set l k _ rfl, sumL_set _ _ _ hp2, ih (by omega), rowK_get]
    omega
theorem sum_layL {l : List UInt8} (h : stripB l = true) : sumL (layL l) = l.length := by
  rw [layL_yes h]
  exact sum_rowK (stripB_ok h) _ (Nat.le_refl _)

/-! ### parts that are free, and the thickest -/
def zerK (r : List Int) (n : Nat) : Int := sumN n fun i => if r.getD i 0 = 0 then 1 else 0
def topK (r : List Int) (n : Nat) : Int := hiF 0 (fun i => r.getD i 0) n
def freeV (l : List UInt8) : Int := if stripB l = true then zerK (layL l) (layL l).length else -1
def thickV (l : List UInt8) : Int := if stripB l = true then topK (layL l) (layL l).length else -1
theorem zerK_in (r : List Int) (n : Nat) : 0 ≤ zerK r n ∧ zerK r n ≤ n := by
  induction n with
  | zero => exact ⟨Int.le_refl _, Int.le_refl _⟩
  | succ n ih =>
    have e : zerK r (n + 1) = zerK r n + (if r.getD n 0 = 0 then 1 else 0) := rfl
    rw [e]; split <;> omega
theorem zerK_succ (r : List Int) (n : Nat) (h : n < r.length) : zerK r (n + 1) = zerK r n + (if r[n] = 0 then 1 else 0) := by
  have e : zerK r (n + 1) = zerK r n + (if r.getD n 0 = 0 then 1 else 0) := rfl
  rw [e]; simp [List.getD, h]
theorem topK_succ (r : List Int) (n : Nat) (h : n < r.length) : topK r (n + 1) = max (topK r n) r[n] := by
  have e : topK r (n + 1) = max (topK r n) (r.getD n 0) := rfl
  rw [e]; simp [List.getD, h]
theorem topK_in {r : List Int} (h : ∀ x ∈ r, 0 ≤ x ∧ x ≤ 16) (n : Nat) (hn : n ≤ r.length) : 0 ≤ topK r n ∧ topK r n ≤ 16 := by
  refine ⟨hiF_ge n, hiF_le (by omega) n fun k hk => ?_⟩
  have hk2 : k < r.length := by omega
  simp only [List.getD, List.getElem?_eq_getElem hk2, Option.getD_some]
  exact (h _ (List.getElem_mem hk2)).2
theorem hiF_congr {a : Int} {f g : Nat → Int} (n : Nat) (h : ∀ k, k < n → f k = g k) : hiF a f n = hiF a g n := by
  induction n with
  | zero => rfl
  | succ n ih => rw [hiF, hiF, ih fun k hk => h k (by omega), h n (by omega)]
/-- From any number that is not greater than the first. -/
theorem top_from {a : Int} {r : List Int} (ha : a ≤ 0) (hr : ∀ x ∈ r, 0 ≤ x ∧ x ≤ 16) (n : Nat) (h1 : 1 ≤ n) (hn : n ≤ r.length) : hiF a (fun i => r.getD i 0) n = topK r n := by
  obtain ⟨m, rfl⟩ : ∃ m, n = m + 1 := ⟨n - 1, by omega⟩
  have h0 : (0 : Int) ≤ r.getD 0 0 := by
    have hl : 0 < r.length := by omega
    simp only [List.getD, List.getElem?_eq_getElem hl, Option.getD_some]
    exact (hr _ (List.getElem_mem hl)).1
  unfold topK
  rw [hiF_start (f := fun i => r.getD i 0) (a := a) (Int.le_trans ha h0), hiF_start (f := fun i => r.getD i 0) (a := 0) h0]
theorem maxOf_lay {l : List UInt8} (h : stripB l = true) : Lib.maxOf (layL l) = thickV l := by
  unfold thickV
  rw [if_pos h]
  obtain ⟨m, hm⟩ : ∃ m, l.length = m + 1 := ⟨l.length - 1, by have := strip_len h; omega⟩
  have e : layL l = firsts (hits l l.length) (m + 1) := by rw [layL_yes h]; unfold rowK; rw [hm]
  have h0 := hits_in l l.length 0
  rw [e, max_firsts, firsts_length]
  unfold topK
  rw [hiF_congr (m + 1) (f := fun i => (firsts (hits l l.length) (m + 1)).getD i 0) (g := hits l l.length) (fun k hk => firsts_get _ _ k hk)]
  exact (hiF_start (a := 0) h0.1 m).symm
theorem thick_in {l : List UInt8} (h : stripB l = true) : 1 ≤ thickV l ∧ thickV l ≤ 16 := by
  unfold thickV
  rw [if_pos h]
  refine ⟨?_, (topK_in (layL_in h) _ (Nat.le_refl _)).2⟩
  have hok := stripB_ok h
  have hn := strip_len h
  have hp := pt_lt hok 0 (by omega)
  have hp2 : pt l 0 < (layL l).length := by rw [layL_length h]; exact hp
  refine Int.le_trans ?_ (le_hiF (a := 0) (f := fun i => (layL l).getD i 0) _ _ hp2)
  simp only [List.getD, List.getElem?_eq_getElem hp2, Option.getD_some]
  have e : (layL l)[pt l 0] = hits l l.length (pt l 0) := by
    have := rowK_at l l.length (pt l 0) hp
    rw [← layL_yes h, List.getElem?_eq_getElem hp2] at this
    exact Option.some.inj this
  rw [e]
  have hmono : ∀ k, 1 ≤ k → 1 ≤ hits l k (pt l 0) := by
    intro k
    induction k with
    | zero => intro h; omega
    | succ k ih =>
      intro _
      rw [hits_succ]
      have hb := hits_in l k (pt l 0)
      by_cases hk : 1 ≤ k
      · have := ih hk
        split <;> omega
      · obtain rfl : k = 0 := by omega
        rw [if_pos rfl]; omega
  exact hmono _ (by omega)
theorem free_in {l : List UInt8} (h : stripB l = true) : 0 ≤ freeV l ∧ freeV l ≤ 16 := by
  unfold freeV
  rw [if_pos h]
  have h1 := zerK_in (layL l) (layL l).length
  have h2 := layL_le l
  omega

/-! ### from the other page -/
theorem pl_turn {l : List UInt8} (hok : okL l = true) (k : Nat) (hk : k ≤ l.length) : pl (turnN l) k = pl l (l.length - k) := by
  have h1 := ff_turn hok k hk
  have h2 := cnt_turn_d hok
  have h3 := cnt_sum l hok
  have h4 := pl_in hok (l.length - k) (by omega)
  have h5 := pl_in (turnN_ok l) k (by rw [turnN_length]; exact hk)
  unfold pl at *
  omega
theorem pt_turn {l : List UInt8} (hok : okL l = true) (k : Nat) (hk : k < l.length) : pt (turnN l) k = pt l (l.length - 1 - k) := by
  unfold pt
  rw [pl_turn hok k (by omega), pl_turn hok (k + 1) (by omega), show l.length - 1 - k + 1 = l.length - k by omega, show l.length - (k + 1) = l.length - 1 - k by omega, Nat.min_comm]
theorem sumN_turn (g : Nat → Int) (n : Nat) : sumN n (fun k => g (n - 1 - k)) = sumN n g := by
  have h := sumN_back (fun k => g (k - 1)) n
  have e1 : sumN n (fun k => (fun k => g (k - 1)) (n - k)) = sumN n (fun k => g (n - 1 - k)) := sumN_congr fun k hk => by
    show g (n - k - 1) = g (n - 1 - k)
    rw [show n - k - 1 = n - 1 - k by omega]
  rw [e1] at h
  rw [h]
  have h2 : ∀ m, sumN (m + 1) (fun k => g (k - 1)) = g 0 + sumN m g := fun m => by
    rw [sumN_shift]
    show g (0 - 1) + sumN m (fun k => g (k + 1 - 1)) = _
    rw [show (0 - 1 : Nat) = 0 by omega]
    congr 1
  cases n with
  | zero => show (0 : Int) + g (0 - 1) - g (0 - 1) = 0; omega
  | succ n =>
    rw [h2 n]
    show g 0 + sumN n g + g (n + 1 - 1) - g (0 - 1) = sumN n g + g n
    rw [show (0 - 1 : Nat) = 0 by omega, show n + 1 - 1 = n by omega]
    omega
theorem lay_turn {l : List UInt8} (h : stripB l = true) : layL (turnL l) = layL l := by
  have hok := stripB_ok h
  rw [layL_yes (strip_turn h), layL_yes h, turn_yes h]
  refine List.ext_getElem? fun x => ?_
  rw [turnN_length]
  by_cases hx : x < l.length
  · rw [rowK_at _ _ x (by rw [turnN_length]; exact hx), rowK_at _ _ x hx]
    congr 1
    unfold hits
    rw [← sumN_turn (hit l x)]
    refine sumN_congr fun k hk => ?_
    unfold hit
    rw [pt_turn hok k hk]
  · rw [List.getElem?_eq_none (by rw [rowK_length, turnN_length]; omega), List.getElem?_eq_none (by rw [rowK_length]; omega)]

/-! ### the highest strip -/
def freeOk (d f : Nat) : Bool := decide (freeV (highL d f) = ((min d f : Nat) : Int))
theorem free_all : ((List.range 4).all fun a => (List.range 4).all fun b => freeOk (a + 1) (b + 1)) = true := by decide +kernel
theorem free_high {d f : Int} (h1 : 1 ≤ d) (h2 : d ≤ 4) (h3 : 1 ≤ f) (h4 : f ≤ 4) : freeV (highL d f) = if f < d then f else d := by
  obtain ⟨a, rfl⟩ : ∃ a : Nat, d = ((a + 1 : Nat) : Int) := ⟨(d - 1).toNat, by omega⟩
  obtain ⟨b, rfl⟩ : ∃ b : Nat, f = ((b + 1 : Nat) : Int) := ⟨(f - 1).toNat, by omega⟩
  have h := free_all
  rw [List.all_eq_true] at h
  have h := h a (List.mem_range.2 (by omega))
  rw [List.all_eq_true] at h
  have h := h b (List.mem_range.2 (by omega))
  unfold freeOk at h
  rw [decide_eq_true_eq] at h
  rw [h]
  split <;> omega
end Go.Proofs.Ytbdeppbbgokfhaa.Thick
