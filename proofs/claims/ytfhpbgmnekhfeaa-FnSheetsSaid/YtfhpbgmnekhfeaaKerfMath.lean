/- CUTS between two strips: the steps that they do not share, the area between them, longest parts without gaps. Pure mathematics. -/
import Derived.Test.YtfhpbgmnekhfeaaStripSpec2
namespace Go.Proofs.Ytfhpbgmnekhfeaa.Kerf
open Go.Proofs.Ytfhpbgmnekhfeaa.Strip
set_option linter.unusedVariables false

/-- Letters f among the first k steps. -/
def ff (l : List UInt8) (k : Nat) : Nat := cnt 102 (l.take k)
/-- Is step k another step in both? -/
def cutB (a b : List UInt8) (k : Nat) : Bool := !(decide (a.getD k 0 = b.getD k 0) && decide (ff a k = ff b k))
def cutN (a b : List UInt8) (n : Nat) : List Int := ((List.range n).filter (cutB a b)).map fun (k : Nat) => (k : Int)
/-- What CutsBetween returns. -/
def cutsL (a b : List UInt8) : List Int := if sameB a b = true then cutN a b a.length else []

theorem cutN_zero (a b : List UInt8) : cutN a b 0 = [] := rfl
theorem cutN_yes {a b : List UInt8} {n : Nat} (h : cutB a b n = true) : cutN a b (n + 1) = cutN a b n ++ [(n : Int)] := by
  unfold cutN
  rw [List.range_succ, List.filter_append, List.map_append]
  simp [List.filter, h]
theorem cutN_no {a b : List UInt8} {n : Nat} (h : cutB a b n = false) : cutN a b (n + 1) = cutN a b n := by
  unfold cutN
  rw [List.range_succ, List.filter_append, List.map_append]
  simp [List.filter, h]
theorem cutN_le (a b : List UInt8) (n : Nat) : (cutN a b n).length ≤ n := by
  unfold cutN
  rw [List.length_map]
  exact Nat.le_trans (List.length_filter_le _ _) (by simp)
theorem cutN_mem {a b : List UInt8} {n : Nat} {x : Int} : x ∈ cutN a b n ↔ ∃ k : Nat, k < n ∧ cutB a b k = true ∧ x = (k : Int) := by
  unfold cutN
  simp only [List.mem_map, List.mem_filter, List.mem_range]
  constructor
  · rintro ⟨k, ⟨h1, h2⟩, h3⟩; exact ⟨k, h1, h2, h3.symm⟩
  · rintro ⟨k, h1, h2, h3⟩; exact ⟨k, ⟨h1, h2⟩, h3.symm⟩

theorem ff_succ (l : List UInt8) (k : Nat) (h : k < l.length) : ff l (k + 1) = ff l k + (if l.getD k 0 = 102 then 1 else 0) := by
  unfold ff
  have hx : l.getD k 0 = l[k] := by simp [List.getD, h]
  rw [List.take_succ_eq_append_getElem h, cnt_snoc, hx]
theorem ff_zero (l : List UInt8) : ff l 0 = 0 := by simp [ff, cnt]
theorem ff_le (l : List UInt8) (k : Nat) : ff l k ≤ k := by
  unfold ff
  have h := cnt_le 102 (l.take k)
  rw [List.length_take] at h
  omega
theorem ff_mono (l : List UInt8) {j k : Nat} (h : j ≤ k) : ff l j ≤ ff l k := by
  unfold ff cnt
  have e : l.take j = (l.take k).take j := by rw [List.take_take, Nat.min_eq_left h]
  rw [e]
  exact List.Sublist.count_le _ (List.take_sublist _ _)
theorem ff_all (l : List UInt8) (k : Nat) (h : l.length ≤ k) : ff l k = cnt 102 l := by
  unfold ff; rw [List.take_of_length_le h]
theorem ff_le_all (l : List UInt8) (k : Nat) : ff l k ≤ cnt 102 l := by
  unfold ff cnt
  exact List.Sublist.count_le _ (List.take_sublist _ _)
/-- Letters d among the first k steps. -/
theorem dd_eq {l : List UInt8} (hok : okL l = true) (k : Nat) (h : k ≤ l.length) : cnt 100 (l.take k) + ff l k = k := by
  have := cnt_sum _ (okL_take l k hok)
  rw [List.length_take] at this
  unfold ff; omega
theorem ok_at {l : List UInt8} (hok : okL l = true) (k : Nat) (h : k < l.length) : l.getD k 0 = 100 ∨ l.getD k 0 = 102 := by
  unfold okL at hok
  rw [List.all_eq_true] at hok
  have hx : l.getD k 0 = l[k] := by simp [List.getD, h]
  have := hok l[k] (List.getElem_mem h)
  rw [hx]
  simpa using this

/-! ### distances and sums -/
def dst (x y : Int) : Int := if x < y then y - x else x - y
theorem dst_comm (x y : Int) : dst x y = dst y x := by unfold dst; split <;> split <;> omega
theorem dst_nonneg (x y : Int) : 0 ≤ dst x y := by unfold dst; split <;> omega
theorem dst_tri (x y z : Int) : dst x z ≤ dst x y + dst y z := by unfold dst; split <;> split <;> split <;> omega
theorem dst_zero {x y : Int} : dst x y = 0 ↔ x = y := by unfold dst; split <;> omega

def sumN : Nat → (Nat → Int) → Int
  | 0, _ => 0
  | n + 1, f => sumN n f + f n
theorem sumN_congr {n : Nat} {f g : Nat → Int} (h : ∀ k, k < n → f k = g k) : sumN n f = sumN n g := by
  induction n with
  | zero => rfl
  | succ n ih => show sumN n f + f n = sumN n g + g n; rw [ih fun k hk => h k (by omega), h n (by omega)]
theorem sumN_add (n : Nat) (f g : Nat → Int) : sumN n (fun k => f k + g k) = sumN n f + sumN n g := by
  induction n with
  | zero => rfl
  | succ n ih => show sumN n (fun k => f k + g k) + (f n + g n) = sumN n f + f n + (sumN n g + g n); rw [ih]; omega
theorem sumN_nonneg {n : Nat} {f : Nat → Int} (h : ∀ k, k < n → 0 ≤ f k) : 0 ≤ sumN n f := by
  induction n with
  | zero => exact Int.le_refl _
  | succ n ih => have h1 := ih fun k hk => h k (by omega)
                 have h2 := h n (by omega)
                 show 0 ≤ sumN n f + f n; omega
theorem sumN_le {n : Nat} {f g : Nat → Int} (h : ∀ k, k < n → f k ≤ g k) : sumN n f ≤ sumN n g := by
  induction n with
  | zero => exact Int.le_refl _
  | succ n ih => have h1 := ih fun k hk => h k (by omega)
                 have h2 := h n (by omega)
                 show sumN n f + f n ≤ sumN n g + g n; omega
theorem sumN_const_zero (n : Nat) : sumN n (fun _ => 0) = 0 := by
  induction n with
  | zero => rfl
  | succ n ih => show sumN n (fun _ => 0) + 0 = 0; rw [ih]; rfl
theorem sumN_swap (m n : Nat) (f : Nat → Nat → Int) : sumN m (fun i => sumN n (fun k => f i k)) = sumN n (fun k => sumN m (fun i => f i k)) := by
  induction m with
  | zero => exact (sumN_const_zero n).symm
  | succ m ih =>
    show sumN m (fun i => sumN n (fun k => f i k)) + sumN n (fun k => f m k) = sumN n (fun k => sumN m (fun i => f i k) + f m k)
    rw [ih, sumN_add]
theorem sumN_shift (n : Nat) (f : Nat → Int) : sumN (n + 1) f = f 0 + sumN n (fun k => f (k + 1)) := by
  induction n with
  | zero => show 0 + f 0 = f 0 + 0; omega
  | succ n ih => show sumN (n + 1) f + f (n + 1) = f 0 + (sumN n (fun k => f (k + 1)) + f (n + 1)); rw [ih]; omega
theorem sumN_zero {n : Nat} {f : Nat → Int} (h : ∀ k, k < n → 0 ≤ f k) (hs : sumN n f = 0) : ∀ k, k < n → f k = 0 := by
  induction n with
  | zero => intro k hk; omega
  | succ n ih =>
    have h1 := sumN_nonneg (n := n) fun k hk => h k (by omega)
    have h2 := h n (by omega)
    have h3 : sumN n f + f n = 0 := hs
    intro k hk
    by_cases e : k = n
    · subst e; omega
    · exact ih (fun k hk => h k (by omega)) (by omega) k (by omega)

/-- One for each k where just one of p, q has been reached. -/
theorem sumN_reach (n p q : Nat) : sumN n (fun k => if decide (p ≤ k) = decide (q ≤ k) then 0 else 1) = dst ((min p n : Nat) : Int) ((min q n : Nat) : Int) := by
  induction n with
  | zero => simp [sumN, dst]
  | succ n ih =>
    show sumN n _ + _ = _
    rw [ih]
    unfold dst
    by_cases h1 : p ≤ n <;> by_cases h2 : q ≤ n <;> simp only [h1, h2, decide_true, decide_false, if_true, if_false, Bool.false_eq_true, Bool.true_eq_false] <;> split <;> split <;> omega
theorem sumN_below (n p q : Nat) : sumN n (fun i => if decide (i < p) = decide (i < q) then 0 else 1) = dst ((min p n : Nat) : Int) ((min q n : Nat) : Int) := by
  induction n with
  | zero => simp [sumN, dst]
  | succ n ih =>
    show sumN n _ + _ = _
    rw [ih]
    unfold dst
    by_cases h1 : n < p <;> by_cases h2 : n < q <;> simp only [h1, h2, decide_true, decide_false, if_true, if_false, Bool.false_eq_true, Bool.true_eq_false] <;> split <;> split <;> omega

/-! ### heights -/
/-- The heights at which a strip takes its steps forward, from height u on. -/
def hts : Int → List UInt8 → List Int
  | _, [] => []
  | u, b :: l => if b = 102 then u :: hts u l else hts (u - 1) l
theorem hts_snoc (l : List UInt8) (b : UInt8) : ∀ u : Int, hts u (l ++ [b]) = hts u l ++ (if b = 102 then [u - ((l.length : Int) - cnt 102 l)] else []) := by
  induction l with
  | nil =>
    intro u
    show (if b = 102 then u :: hts u [] else hts (u - 1) []) = _
    by_cases h : b = 102
    · rw [if_pos h, if_pos h]; simp [hts, cnt]
    · rw [if_neg h, if_neg h]; rfl
  | cons c l ih =>
    intro u
    have hc : cnt 102 (c :: l) = cnt 102 l + (if c = 102 then 1 else 0) := by unfold cnt; rw [List.count_cons]; congr 1; simp
    show (if c = 102 then u :: hts u (l ++ [b]) else hts (u - 1) (l ++ [b])) = (if c = 102 then u :: hts u l else hts (u - 1) l) ++ _
    rw [hc]
    by_cases h : c = 102
    · rw [if_pos h, if_pos h, if_pos h, ih]
      by_cases hb : b = 102
      · rw [if_pos hb, if_pos hb, List.cons_append]
        congr 3
        rw [List.length_cons]; omega
      · rw [if_neg hb, if_neg hb, List.cons_append]
    · rw [if_neg h, if_neg h, if_neg h, ih]
      by_cases hb : b = 102
      · rw [if_pos hb, if_pos hb]
        congr 2
        rw [List.length_cons]; omega
      · rw [if_neg hb, if_neg hb]
theorem hts_length (l : List UInt8) : ∀ u : Int, (hts u l).length = cnt 102 l := by
  induction l with
  | nil => intro u; rfl
  | cons c l ih =>
    intro u
    have hc : cnt 102 (c :: l) = cnt 102 l + (if c = 102 then 1 else 0) := by unfold cnt; rw [List.count_cons]; congr 1; simp
    show (if c = 102 then u :: hts u l else hts (u - 1) l).length = _
    rw [hc]
    by_cases h : c = 102
    · rw [if_pos h, if_pos h, List.length_cons, ih]
    · rw [if_neg h, if_neg h, ih]; rfl

/-- Height and place of the step forward with the number i. -/
theorem hts_at {l : List UInt8} (hok : okL l = true) (u : Int) : ∀ m, m ≤ l.length → ∀ i, i < ff l m → ∃ p : Nat, (hts u (l.take m))[i]? = some (u - (p : Int)) ∧ p + i < m ∧ ∀ k, k < m → (p + i ≤ k ↔ i < ff l (k + 1)) := by
  intro m
  induction m with
  | zero => intro _ i hi; rw [ff_zero] at hi; omega
  | succ m ih =>
    intro hm i hi
    have hlt : m < l.length := by omega
    have hx : l.getD m 0 = l[m] := by simp [List.getD, hlt]
    have hlen : (hts u (l.take m)).length = ff l m := hts_length _ _
    have hsn := hts_snoc (l.take m) l[m] u
    rw [← List.take_succ_eq_append_getElem hlt] at hsn
    have hfs := ff_succ l m hlt
    rw [hx] at hfs
    have hdd := dd_eq hok m (by omega)
    by_cases hi2 : i < ff l m
    · obtain ⟨p, h1, h2, h3⟩ := ih (by omega) i hi2
      refine ⟨p, ?_, by omega, ?_⟩
      · rw [hsn, List.getElem?_append_left (by omega)]; exact h1
      · intro k hk
        by_cases e : k = m
        · subst e
          have : ff l k ≤ ff l (k + 1) := ff_mono l (by omega)
          constructor <;> intro _ <;> omega
        · exact h3 k (by omega)
    · have h102 : l[m] = 102 := by
        by_cases h : l[m] = 102
        · exact h
        · rw [if_neg h] at hfs; omega
      rw [if_pos h102] at hfs hsn
      have hie : i = ff l m := by omega
      refine ⟨m - ff l m, ?_, by omega, ?_⟩
      · rw [hsn, List.getElem?_append_right (by omega), hlen, hie, Nat.sub_self]
        show some _ = some _
        congr 1
        have : ((l.take m).length : Int) = (m : Int) := by rw [List.length_take]; omega
        have h5 : cnt 102 (l.take m) = ff l m := rfl
        rw [this, h5]
        omega
      · intro k hk
        by_cases e : k = m
        · subst e
          constructor <;> intro _ <;> omega
        · have : ff l (k + 1) ≤ ff l m := ff_mono l (by omega)
          constructor <;> intro _ <;> omega

/-- How many squares lie between two strips. -/
def areaS (a b : List UInt8) : Int := sumN (cnt 102 a) (fun i => dst ((hts (cnt 100 a) a).getD i 0) ((hts (cnt 100 b) b).getD i 0))
/-- What AreaBetween returns. -/
def areaI (a b : List UInt8) : Int := if sameB a b = true then areaS a b else -1

theorem same_facts {a b : List UInt8} (h : sameB a b = true) : stripB a = true ∧ stripB b = true ∧ cnt 100 a = cnt 100 b ∧ cnt 102 a = cnt 102 b ∧ a.length = b.length := by
  unfold sameB at h
  simp only [Bool.and_eq_true, decide_eq_true_eq] at h
  have h1 := cnt_sum _ (stripB_ok h.1.1.1)
  have h2 := cnt_sum _ (stripB_ok h.1.1.2)
  exact ⟨h.1.1.1, h.1.1.2, h.1.2, h.2, by omega⟩
theorem same_of {a b : List UInt8} (h1 : stripB a = true) (h2 : stripB b = true) (h3 : cnt 100 a = cnt 100 b) (h4 : cnt 102 a = cnt 102 b) : sameB a b = true := by
  unfold sameB; simp [h1, h2, h3, h4]

/-- The area counted along the diagonals. -/
theorem area_diag {a b : List UInt8} (h : sameB a b = true) : areaS a b = sumN a.length (fun k => dst (ff a (k + 1) : Int) (ff b (k + 1) : Int)) := by
  obtain ⟨ha, hb, h3, h4, h5⟩ := same_facts h
  have e1 : ∀ i, i < cnt 102 a → dst ((hts (cnt 100 a) a).getD i 0) ((hts (cnt 100 b) b).getD i 0) = sumN a.length (fun k => if decide (i < ff a (k + 1)) = decide (i < ff b (k + 1)) then 0 else 1) := by
    intro i hi
    obtain ⟨p, p1, p2, p3⟩ := hts_at (stripB_ok ha) (cnt 100 a) a.length (Nat.le_refl _) i (by rw [ff_all _ _ (Nat.le_refl _)]; exact hi)
    obtain ⟨q, q1, q2, q3⟩ := hts_at (stripB_ok hb) (cnt 100 b) b.length (Nat.le_refl _) i (by rw [ff_all _ _ (Nat.le_refl _)]; omega)
    rw [List.take_length] at p1 q1
    have g1 : (hts (cnt 100 a) a).getD i 0 = (cnt 100 a : Int) - p := by simp [List.getD, p1]
    have g2 : (hts (cnt 100 b) b).getD i 0 = (cnt 100 b : Int) - q := by simp [List.getD, q1]
    rw [g1, g2]
    have hs := sumN_reach a.length (p + i) (q + i)
    rw [Nat.min_eq_left (by omega), Nat.min_eq_left (by omega)] at hs
    have e2 : sumN a.length (fun k => if decide (i < ff a (k + 1)) = decide (i < ff b (k + 1)) then (0 : Int) else 1) = sumN a.length (fun k => if decide (p + i ≤ k) = decide (q + i ≤ k) then 0 else 1) := by
      apply sumN_congr
      intro k hk
      rw [show decide (i < ff a (k + 1)) = decide (p + i ≤ k) from by rw [Bool.eq_iff_iff]; simp only [decide_eq_true_eq]; exact (p3 k hk).symm, show decide (i < ff b (k + 1)) = decide (q + i ≤ k) from by rw [Bool.eq_iff_iff]; simp only [decide_eq_true_eq]; exact (q3 k (by omega)).symm]
    rw [e2, hs]
    unfold dst
    split <;> split <;> omega
  unfold areaS
  rw [sumN_congr e1, sumN_swap]
  apply sumN_congr
  intro k hk
  rw [sumN_below, Nat.min_eq_left (ff_le_all _ _), h4, Nat.min_eq_left (ff_le_all _ _)]

theorem areaS_nonneg (a b : List UInt8) : 0 ≤ areaS a b := sumN_nonneg fun _ _ => dst_nonneg _ _
theorem areaS_comm {a b : List UInt8} (h : sameB a b = true) : areaS a b = areaS b a := by
  obtain ⟨ha, hb, h3, h4, h5⟩ := same_facts h
  unfold areaS
  rw [h4]
  exact sumN_congr fun k _ => dst_comm _ _
theorem areaS_tri {r s t : List UInt8} (h : sameB r s = true) (h' : sameB s t = true) : areaS r t ≤ areaS r s + areaS s t := by
  obtain ⟨ha, hb, h3, h4, h5⟩ := same_facts h
  unfold areaS
  rw [← h4, ← sumN_add]
  exact sumN_le fun k _ => dst_tri _ _ _

/-- Strips with the same counts are one. -/
theorem eq_of_ff {a b : List UInt8} (h : sameB a b = true) (hf : ∀ k, k ≤ a.length → ff a k = ff b k) : a = b := by
  obtain ⟨ha, hb, h3, h4, h5⟩ := same_facts h
  apply List.ext_getElem h5
  intro k hk hk2
  have e1 := ff_succ a k hk
  have e2 := ff_succ b k hk2
  have o1 := ok_at (stripB_ok ha) k hk
  have o2 := ok_at (stripB_ok hb) k hk2
  have x1 : a.getD k 0 = a[k] := by simp [List.getD, hk]
  have x2 : b.getD k 0 = b[k] := by simp [List.getD, hk2]
  have f1 := hf k (by omega)
  have f2 := hf (k + 1) (by omega)
  rw [x1] at e1 o1
  rw [x2] at e2 o2
  rcases o1 with h1 | h1 <;> rcases o2 with h2 | h2 <;> rw [h1] at e1 <;> rw [h2] at e2 <;> simp at e1 e2 <;> first | omega | (rw [h1, h2])

theorem areaS_zero {a b : List UInt8} (h : sameB a b = true) : areaS a b = 0 ↔ a = b := by
  constructor
  · intro hz
    rw [area_diag h] at hz
    have hz := sumN_zero (fun _ _ => dst_nonneg _ _) hz
    refine eq_of_ff h fun k hk => ?_
    cases k with
    | zero => rw [ff_zero, ff_zero]
    | succ k => have := dst_zero.1 (hz k (by omega)); omega
  · rintro rfl
    unfold areaS
    rw [sumN_congr (g := fun _ => 0) fun k _ => dst_zero.2 rfl]
    exact sumN_const_zero _

theorem cutB_comm (a b : List UInt8) (k : Nat) : cutB a b k = cutB b a k := by
  unfold cutB
  rw [show decide (a.getD k 0 = b.getD k 0) = decide (b.getD k 0 = a.getD k 0) from by rw [Bool.eq_iff_iff]; simp only [decide_eq_true_eq]; exact eq_comm, show decide (ff a k = ff b k) = decide (ff b k = ff a k) from by rw [Bool.eq_iff_iff]; simp only [decide_eq_true_eq]; exact eq_comm]
theorem cutN_comm (a b : List UInt8) (n : Nat) : cutN a b n = cutN b a n := by
  unfold cutN
  rw [show cutB a b = cutB b a from funext fun k => cutB_comm a b k]
theorem cutN_sum (a b : List UInt8) (n : Nat) : ((cutN a b n).length : Int) = sumN n (fun k => if cutB a b k = true then 1 else 0) := by
  induction n with
  | zero => rfl
  | succ n ih =>
    show _ = sumN n _ + (if cutB a b n = true then (1 : Int) else 0)
    rw [← ih]
    cases h : cutB a b n with
    | true => rw [cutN_yes h, if_pos rfl]; simp
    | false => rw [cutN_no h, if_neg Bool.false_ne_true]; simp
theorem cutN_nil {a b : List UInt8} (h : sameB a b = true) : cutN a b a.length = [] ↔ a = b := by
  obtain ⟨ha, hb, h3, h4, h5⟩ := same_facts h
  constructor
  · intro hz
    apply List.ext_getElem h5
    intro k hk hk2
    cases hc : cutB a b k with
    | true =>
      have : (k : Int) ∈ cutN a b a.length := cutN_mem.2 ⟨k, hk, hc, rfl⟩
      rw [hz] at this
      simp at this
    | false =>
      have x1 : a.getD k 0 = a[k] := by simp [List.getD, hk]
      have x2 : b.getD k 0 = b[k] := by simp [List.getD, hk2]
      unfold cutB at hc
      simp only [Bool.not_eq_false', Bool.and_eq_true, decide_eq_true_eq] at hc
      rw [← x1, ← x2]; exact hc.1
  · rintro rfl
    have : ∀ n, cutN a a n = [] := by
      intro n
      induction n with
      | zero => rfl
      | succ n ih => rw [cutN_no (by simp [cutB])]; exact ih
    exact this _
/-- There are at most twice as many cuts as squares. -/
theorem cutN_area {a b : List UInt8} (h : sameB a b = true) : ((cutN a b a.length).length : Int) ≤ 2 * areaS a b := by
  obtain ⟨ha, hb, h3, h4, h5⟩ := same_facts h
  rw [cutN_sum, area_diag h]
  have h0 : sumN a.length (fun k => if cutB a b k = true then (1 : Int) else 0) ≤ sumN a.length (fun k => dst (ff a k : Int) (ff b k : Int) + dst (ff a (k + 1) : Int) (ff b (k + 1) : Int)) := by
    apply sumN_le
    intro k hk
    have n1 := dst_nonneg (ff a k : Int) (ff b k : Int)
    have n2 := dst_nonneg (ff a (k + 1) : Int) (ff b (k + 1) : Int)
    show (if cutB a b k = true then (1 : Int) else 0) ≤ _
    by_cases hc : cutB a b k = true
    · rw [if_pos hc]
      by_cases hf : ff a k = ff b k
      · have hne : a.getD k 0 ≠ b.getD k 0 := by
          intro e
          unfold cutB at hc
          rw [decide_eq_true e, decide_eq_true hf] at hc
          simp at hc
        have e1 := ff_succ a k hk
        have e2 := ff_succ b k (by omega)
        have o1 := ok_at (stripB_ok ha) k hk
        have o2 := ok_at (stripB_ok hb) k (by omega)
        have : ff a (k + 1) ≠ ff b (k + 1) := by
          rcases o1 with h1 | h1 <;> rcases o2 with h2 | h2 <;> rw [h1, h2] at hne <;> rw [h1] at e1 <;> rw [h2] at e2 <;> simp at e1 e2 hne <;> omega
        have hz : dst (ff a (k + 1) : Int) (ff b (k + 1) : Int) ≠ 0 := fun e => this (by have := dst_zero.1 e; omega)
        omega
      · have hz : dst (ff a k : Int) (ff b k : Int) ≠ 0 := fun e => hf (by have := dst_zero.1 e; omega)
        omega
    · rw [if_neg hc]; omega
  rw [sumN_add] at h0
  have h6 : sumN (a.length + 1) (fun k => dst (ff a k : Int) (ff b k : Int)) = dst (ff a 0 : Int) (ff b 0 : Int) + sumN a.length (fun k => dst (ff a (k + 1) : Int) (ff b (k + 1) : Int)) := sumN_shift a.length (fun k => dst (ff a k : Int) (ff b k : Int))
  have h7 : sumN (a.length + 1) (fun k => dst (ff a k : Int) (ff b k : Int)) = sumN a.length (fun k => dst (ff a k : Int) (ff b k : Int)) + dst (ff a a.length : Int) (ff b a.length : Int) := rfl
  have h8 := dst_nonneg (ff a a.length : Int) (ff b a.length : Int)
  have h9 : dst (ff a 0 : Int) (ff b 0 : Int) = 0 := by simp [ff_zero, dst]
  omega

/-! ### ascending -/
theorem cutN_asc (a b : List UInt8) (n : Nat) : (cutN a b n).Pairwise (· < ·) := by
  induction n with
  | zero => exact List.Pairwise.nil
  | succ n ih =>
    cases h : cutB a b n with
    | true =>
      rw [cutN_yes h, List.pairwise_append]
      refine ⟨ih, by simp, ?_⟩
      intro x hx y hy
      obtain ⟨k, hk, _, rfl⟩ := cutN_mem.1 hx
      simp at hy
      omega
    | false => rw [cutN_no h]; exact ih

/-! ### longest parts without gaps -/
/-- A number comes behind the parts so far. -/
def addR : List (Int × Int) → Int → List (Int × Int)
  | [], x => [(x, x)]
  | [p], x => if p.2 = x - 1 then [(p.1, x)] else [p, (x, x)]
  | p :: q :: r, x => p :: addR (q :: r) x
def runsR (l : List Int) : List (Int × Int) := l.foldl addR []
theorem runsR_snoc (l : List Int) (x : Int) : runsR (l ++ [x]) = addR (runsR l) x := by unfold runsR; rw [List.foldl_append]; rfl
theorem addR_join (g : List (Int × Int)) (p q x : Int) (h : q = x - 1) : addR (g ++ [(p, q)]) x = g ++ [(p, x)] := by
  induction g with
  | nil => show (if q = x - 1 then _ else _) = _; rw [if_pos h]; rfl
  | cons a g ih =>
    cases g with
    | nil => show a :: addR [(p, q)] x = _; rw [show addR [(p, q)] x = [(p, x)] from ih]; rfl
    | cons c g => show a :: addR (c :: (g ++ [(p, q)])) x = _; rw [show addR (c :: (g ++ [(p, q)])) x = (c :: g) ++ [(p, x)] from ih]; rfl
theorem addR_new (g : List (Int × Int)) (p q x : Int) (h : q ≠ x - 1) : addR (g ++ [(p, q)]) x = (g ++ [(p, q)]) ++ [(x, x)] := by
  induction g with
  | nil => show (if q = x - 1 then _ else _) = _; rw [if_neg h]; rfl
  | cons a g ih =>
    cases g with
    | nil => show a :: addR [(p, q)] x = _; rw [show addR [(p, q)] x = [(p, q), (x, x)] from ih]; rfl
    | cons c g => show a :: addR (c :: (g ++ [(p, q)])) x = _; rw [show addR (c :: (g ++ [(p, q)])) x = ((c :: g) ++ [(p, q)]) ++ [(x, x)] from ih]; rfl

def lenR : List (Int × Int) → Int
  | [] => 0
  | p :: r => p.2 - p.1 + 1 + lenR r
theorem lenR_append (a b : List (Int × Int)) : lenR (a ++ b) = lenR a + lenR b := by
  induction a with
  | nil => show _ = 0 + _; simp
  | cons p a ih => show _ + lenR (a ++ b) = _ + lenR a + _; rw [ih]; omega

/-- What holds of the parts of an ascending row that is not empty. -/
def Parts (l : List Int) (g : List (Int × Int)) : Prop :=
  ∃ i p q, g = i ++ [(p, q)] ∧ (∀ y ∈ l, y ≤ q) ∧ q ∈ l ∧ p ≤ q ∧ p ∈ l ∧ (∀ r ∈ i, r.1 ≤ r.2 ∧ r.1 ∈ l ∧ ¬ (r.2 + 1 ∈ l) ∧ r.2 + 1 < q) ∧ lenR g = l.length
theorem parts_one (x : Int) : Parts [x] (runsR [x]) := ⟨[], x, x, rfl, by simp, by simp, Int.le_refl _, by simp, by simp, by show x - x + 1 + 0 = 1; omega⟩
theorem parts_snoc {l : List Int} {x : Int} (h : Parts l (runsR l)) (hx : ∀ y ∈ l, y < x) : Parts (l ++ [x]) (runsR (l ++ [x])) := by
  obtain ⟨i, p, q, e, hm, hq, hpq, hp, hi, hn⟩ := h
  rw [runsR_snoc]
  have hqx := hx q hq
  rw [e, lenR_append] at hn
  have hn2 : lenR i + (q - p + 1 + 0) = l.length := hn
  by_cases hj : q = x - 1
  · rw [e, addR_join _ _ _ _ hj]
    refine ⟨i, p, x, rfl, ?_, by simp, by omega, by simp [hp], ?_, ?_⟩
    · intro y hy
      rcases List.mem_append.1 hy with h | h
      · have := hx y h; omega
      · simp at h; omega
    · intro r hr
      obtain ⟨h1, h2, h3, h4⟩ := hi r hr
      refine ⟨h1, by simp [h2], ?_, by omega⟩
      intro hc
      rcases List.mem_append.1 hc with h | h
      · exact h3 h
      · simp at h; omega
    · rw [lenR_append, List.length_append]
      show lenR i + (x - p + 1 + 0) = _
      simp; omega
  · rw [e, addR_new _ _ _ _ hj]
    refine ⟨i ++ [(p, q)], x, x, rfl, ?_, by simp, Int.le_refl _, by simp, ?_, ?_⟩
    · intro y hy
      rcases List.mem_append.1 hy with h | h
      · have := hx y h; omega
      · simp at h; omega
    · intro r hr
      rcases List.mem_append.1 hr with h | h
      · obtain ⟨h1, h2, h3, h4⟩ := hi r h
        refine ⟨h1, by simp [h2], ?_, by omega⟩
        intro hc
        rcases List.mem_append.1 hc with h | h
        · exact h3 h
        · simp at h; omega
      · simp at h
        subst h
        refine ⟨hpq, by simp [hp], ?_, by omega⟩
        intro hc
        rcases List.mem_append.1 hc with h | h
        · have := hm _ h; simp at this; omega
        · simp at h; omega
    · rw [lenR_append, lenR_append, List.length_append]
      show lenR i + (q - p + 1 + 0) + (x - x + 1 + 0) = _
      simp; omega
theorem parts_take {l : List Int} (ha : l.Pairwise (· < ·)) : ∀ k, 1 ≤ k → k ≤ l.length → Parts (l.take k) (runsR (l.take k)) := by
  intro k
  induction k with
  | zero => intro h; omega
  | succ k ih =>
    intro _ hk
    rw [List.take_succ_eq_append_getElem (by omega)]
    by_cases h0 : k = 0
    · subst h0; exact parts_one _
    · refine parts_snoc (ih (by omega) (by omega)) ?_
      intro y hy
      obtain ⟨j, hj, rfl⟩ := List.getElem_of_mem hy
      rw [List.length_take] at hj
      rw [List.getElem_take]
      exact List.pairwise_iff_getElem.1 ha j k (by omega) (by omega) (by omega)
/-- All parts of an ascending row. -/
theorem parts_all {l : List Int} (ha : l.Pairwise (· < ·)) : (∀ r ∈ runsR l, r.1 ≤ r.2 ∧ r.1 ∈ l ∧ ¬ (r.2 + 1 ∈ l)) ∧ lenR (runsR l) = l.length := by
  cases hl : l with
  | nil => exact ⟨by simp [runsR], rfl⟩
  | cons x r =>
    rw [← hl]
    have hp := parts_take ha l.length (by rw [hl]; simp) (Nat.le_refl _)
    rw [List.take_length] at hp
    obtain ⟨i, p, q, e, hm, hq, hpq, hp, hi, hn⟩ := hp
    refine ⟨?_, hn⟩
    intro r hr
    rw [e] at hr
    rcases List.mem_append.1 hr with h | h
    · obtain ⟨h1, h2, h3, _⟩ := hi r h; exact ⟨h1, h2, h3⟩
    · simp at h
      subst h
      exact ⟨hpq, hp, fun hc => by have := hm _ hc; simp at this; omega⟩
end Go.Proofs.Ytfhpbgmnekhfeaa.Kerf
