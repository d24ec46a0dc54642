/- THE ORDER of strips: the strip whose beginnings have the greater (the lesser) number of letters f of two strips; strips above others; rooms under strips. Pure mathematics. -/
import Derived.Test.YtfhpbgmnekhfeaaKerfMath
namespace Go.Proofs.Ytfhpbgmnekhfeaa.Order
open Go.Proofs.Ytfhpbgmnekhfeaa.Strip Go.Proofs.Ytfhpbgmnekhfeaa.Kerf
set_option linter.unusedVariables false

def pick (up : Bool) (x y : Nat) : Nat := if up = true then max x y else min x y
/-- The chosen number of letters f among the first k steps. -/
def mf (up : Bool) (a b : List UInt8) (k : Nat) : Nat := pick up (ff a k) (ff b k)
def mixN (up : Bool) (a b : List UInt8) (n : Nat) : List UInt8 := (List.range n).map fun k => if mf up a b k < mf up a b (k + 1) then 102 else 100
/-- What UpperOf and LowerOf return. -/
def mixL (up : Bool) (a b : List UInt8) : List UInt8 := if sameB a b = true then mixN up a b a.length else []
/-- What IsAbove returns. -/
def aboveB (a b : List UInt8) : Bool := sameB a b && (List.range (a.length + 1)).all fun k => decide (ff b k ≤ ff a k)

theorem mix_yes {up : Bool} {a b : List UInt8} (h : sameB a b = true) : mixL up a b = mixN up a b a.length := by unfold mixL; rw [h]; rfl
theorem mix_no {up : Bool} {a b : List UInt8} (h : sameB a b = false) : mixL up a b = [] := by unfold mixL; rw [h]; rfl

theorem mf_zero (up : Bool) (a b : List UInt8) : mf up a b 0 = 0 := by unfold mf pick; rw [ff_zero, ff_zero]; simp
theorem mf_step (up : Bool) (a b : List UInt8) (k : Nat) (ha : k < a.length) (hb : k < b.length) : mf up a b (k + 1) = mf up a b k ∨ mf up a b (k + 1) = mf up a b k + 1 := by
  have h1 := ff_succ a k ha
  have h2 := ff_succ b k hb
  unfold mf pick
  cases up <;> simp only [if_true, if_false, Bool.false_eq_true] <;> split at h1 <;> split at h2 <;> omega
theorem mixN_succ (up : Bool) (a b : List UInt8) (n : Nat) : mixN up a b (n + 1) = mixN up a b n ++ [if mf up a b n < mf up a b (n + 1) then 102 else 100] := by
  unfold mixN
  rw [List.range_succ, List.map_append]
  rfl
theorem mixN_length (up : Bool) (a b : List UInt8) (n : Nat) : (mixN up a b n).length = n := by unfold mixN; simp
theorem mixN_ok (up : Bool) (a b : List UInt8) (n : Nat) : okL (mixN up a b n) = true := by
  unfold okL mixN
  rw [List.all_eq_true]
  intro x hx
  obtain ⟨k, _, rfl⟩ := List.mem_map.1 hx
  split <;> rfl
theorem mixN_cnt (up : Bool) (a b : List UInt8) (n : Nat) (ha : n ≤ a.length) (hb : n ≤ b.length) : cnt 102 (mixN up a b n) = mf up a b n := by
  induction n with
  | zero => rw [mf_zero]; rfl
  | succ n ih =>
    have h := mf_step up a b n (by omega) (by omega)
    rw [mixN_succ, cnt_snoc, ih (by omega) (by omega)]
    by_cases hlt : mf up a b n < mf up a b (n + 1)
    · rw [if_pos hlt, if_pos rfl]; omega
    · rw [if_neg hlt, if_neg (by decide)]; omega
theorem mixN_take (up : Bool) (a b : List UInt8) (n k : Nat) (h : k ≤ n) : (mixN up a b n).take k = mixN up a b k := by
  unfold mixN
  rw [← List.map_take, List.take_range, Nat.min_eq_left h]
theorem ff_mix {up : Bool} {a b : List UInt8} (h : sameB a b = true) (k : Nat) (hk : k ≤ a.length) : ff (mixL up a b) k = mf up a b k := by
  have h5 := (same_facts h).2.2.2.2
  rw [mix_yes h]
  unfold ff
  rw [mixN_take _ _ _ _ _ hk, mixN_cnt _ _ _ _ hk (by omega)]
theorem mix_length {up : Bool} {a b : List UInt8} (h : sameB a b = true) : (mixL up a b).length = a.length := by rw [mix_yes h, mixN_length]
theorem mix_le (up : Bool) (a b : List UInt8) : (mixL up a b).length ≤ a.length := by
  cases h : sameB a b with
  | true => rw [mix_length h]; exact Nat.le_refl _
  | false => rw [mix_no h]; exact Nat.zero_le _
theorem mix_same {up : Bool} {a b : List UInt8} (h : sameB a b = true) : sameB a (mixL up a b) = true := by
  obtain ⟨h1, h2, h3, h4, h5⟩ := same_facts h
  have hc : cnt 102 (mixL up a b) = cnt 102 a := by
    have e := ff_mix (up := up) h a.length (Nat.le_refl _)
    rw [ff_all _ _ (by rw [mix_length h]; exact Nat.le_refl _)] at e
    rw [e]
    unfold mf pick
    rw [ff_all a _ (Nat.le_refl _), ff_all b _ (by omega), ← h4]
    split <;> omega
  have ho : okL (mixL up a b) = true := by rw [mix_yes h]; exact mixN_ok _ _ _ _
  have e1 := cnt_sum _ ho
  have e2 := cnt_sum _ (stripB_ok h1)
  have hl := mix_length (up := up) h
  have hd : cnt 100 (mixL up a b) = cnt 100 a := by omega
  refine same_of h1 ?_ hd.symm hc.symm
  unfold stripB
  rw [ho, hd, hc, stripB_frame h1]; rfl

theorem same_self {a : List UInt8} (h : stripB a = true) : sameB a a = true := same_of h h rfl rfl
theorem same_swap {a b : List UInt8} (h : sameB a b = true) : sameB b a = true := by
  obtain ⟨h1, h2, h3, h4, _⟩ := same_facts h
  exact same_of h2 h1 h3.symm h4.symm
theorem same_chain {a b c : List UInt8} (h : sameB a b = true) (h' : sameB b c = true) : sameB a c = true := by
  obtain ⟨h1, h2, h3, h4, _⟩ := same_facts h
  obtain ⟨_, g2, g3, g4, _⟩ := same_facts h'
  exact same_of h1 g2 (h3.trans g3) (h4.trans g4)

theorem above_iff {a b : List UInt8} : aboveB a b = true ↔ sameB a b = true ∧ ∀ k, k ≤ a.length → ff b k ≤ ff a k := by
  unfold aboveB
  rw [Bool.and_eq_true, List.all_eq_true]
  constructor
  · rintro ⟨h1, h2⟩
    exact ⟨h1, fun k hk => by simpa using h2 k (List.mem_range.2 (by omega))⟩
  · rintro ⟨h1, h2⟩
    exact ⟨h1, fun k hk => decide_eq_true (h2 k (by have := List.mem_range.1 hk; omega))⟩

/-- A strip that is the upper one of both lies above. -/
theorem upper_is {a b : List UInt8} (h : sameB a b = true) : mixL true a b = a ↔ aboveB a b = true := by
  rw [above_iff]
  constructor
  · intro e
    refine ⟨h, fun k hk => ?_⟩
    have e2 := ff_mix (up := true) h k hk
    rw [e] at e2
    unfold mf pick at e2
    simp only [if_true] at e2
    omega
  · rintro ⟨_, h2⟩
    refine (eq_of_ff (mix_same h) fun k hk => ?_).symm
    rw [ff_mix h k hk]
    unfold mf pick
    have := h2 k hk
    simp only [if_true]
    omega
theorem above_is (a b : List UInt8) : aboveB a b = (sameB a b && decide (mixL true a b = a)) := by
  cases h : sameB a b with
  | false => unfold aboveB; rw [h]; rfl
  | true =>
    rw [Bool.true_and, Bool.eq_iff_iff, decide_eq_true_eq]
    exact (upper_is h).symm

/-! ### the lattice -/
theorem mix_comm {up : Bool} {a b : List UInt8} (h : sameB a b = true) : mixL up b a = mixL up a b := by
  have h' := same_swap h
  have h5 := (same_facts h).2.2.2.2
  refine eq_of_ff (same_chain (same_chain (same_swap (mix_same h')) h') (mix_same h)) fun k hk => ?_
  have hk' : k ≤ a.length := by rw [mix_length h'] at hk; omega
  rw [ff_mix h k hk', ff_mix h' k (by omega)]
  unfold mf pick
  split <;> omega
theorem up_above {a b : List UInt8} (h : sameB a b = true) : aboveB (mixL true a b) a = true := by
  rw [above_iff]
  refine ⟨same_swap (mix_same h), fun k hk => ?_⟩
  rw [ff_mix h k (by rw [mix_length h] at hk; exact hk)]
  unfold mf pick
  simp only [if_true]
  omega
theorem up_above2 {a b : List UInt8} (h : sameB a b = true) : aboveB (mixL true a b) b = true := by
  rw [← mix_comm h]; exact up_above (same_swap h)
theorem low_below {a b : List UInt8} (h : sameB a b = true) : aboveB a (mixL false a b) = true := by
  rw [above_iff]
  refine ⟨mix_same h, fun k hk => ?_⟩
  rw [ff_mix h k hk]
  unfold mf pick
  simp only [Bool.false_eq_true, if_false]
  omega
theorem low_below2 {a b : List UInt8} (h : sameB a b = true) : aboveB b (mixL false a b) = true := by
  rw [← mix_comm h]; exact low_below (same_swap h)
theorem absorb {a b : List UInt8} (h : sameB a b = true) (up : Bool) : mixL up a (mixL (!up) a b) = a := by
  have h2 := mix_same (up := !up) h
  refine (eq_of_ff (mix_same h2) fun k hk => ?_).symm
  rw [ff_mix h2 k hk]
  unfold mf
  rw [ff_mix h k hk]
  unfold mf pick
  cases up <;> simp <;> omega
theorem distrib {r s t : List UInt8} (h : sameB r s = true) (h' : sameB s t = true) : mixL false r (mixL true s t) = mixL true (mixL false r s) (mixL false r t) := by
  have hrt := same_chain h h'
  have hru := same_chain h (mix_same (up := true) h')
  have h1 := mix_same (up := false) h
  have h2 := mix_same (up := false) hrt
  have h12 := same_chain (same_swap h1) h2
  have e1 := (same_facts h).2.2.2.2
  refine eq_of_ff (same_chain (same_swap (mix_same hru)) (same_chain h1 (mix_same h12))) fun k hk => ?_
  rw [mix_length hru] at hk
  rw [ff_mix hru k hk, ff_mix h12 k (by rw [mix_length h]; exact hk)]
  unfold mf
  rw [ff_mix h' k (by omega), ff_mix h k hk, ff_mix hrt k hk]
  unfold mf pick
  simp
  omega
theorem above_both {r s t : List UInt8} (h' : sameB s t = true) (h1 : aboveB r s = true) (h2 : aboveB r t = true) : aboveB r (mixL true s t) = true := by
  rw [above_iff] at h1 h2 ⊢
  refine ⟨same_chain h1.1 (mix_same h'), fun k hk => ?_⟩
  have e1 := (same_facts h1.1).2.2.2.2
  have g1 := h1.2 k hk
  have g2 := h2.2 k hk
  rw [ff_mix h' k (by omega)]
  unfold mf pick
  simp only [if_true]
  omega
theorem above_law {r s t : List UInt8} (h' : sameB s t = true) : (aboveB r s && aboveB r t && !aboveB r (mixL true s t)) = false := by
  cases h1 : aboveB r s with
  | false => rfl
  | true =>
    cases h2 : aboveB r t with
    | false => rfl
    | true => rw [above_both h' h1 h2]; rfl
/-- Which of both is comparable: the upper one is one of them. -/
theorem comparable_is {s t : List UInt8} (h : sameB s t = true) : (aboveB s t || aboveB t s) = (decide (mixL true s t = s) || decide (mixL true s t = t)) := by
  rw [above_is s t, above_is t s, h, same_swap h, Bool.true_and, Bool.true_and, mix_comm h]

/-! ### rooms -/
def sumL : List Int → Int
  | [] => 0
  | x :: l => x + sumL l
theorem sumL_append (a b : List Int) : sumL (a ++ b) = sumL a + sumL b := by
  induction a with
  | nil => show sumL b = 0 + sumL b; omega
  | cons x a ih => show x + sumL (a ++ b) = x + sumL a + sumL b; rw [ih]; omega
theorem sumL_take (l : List Int) (k : Nat) (h : k < l.length) : sumL (l.take (k + 1)) = sumL (l.take k) + l[k] := by
  rw [List.take_succ_eq_append_getElem h, sumL_append]
  show _ + (l[k] + 0) = _
  omega
theorem sumL_bound {l : List Int} (h : ∀ x ∈ l, 0 ≤ x ∧ x ≤ 8) : 0 ≤ sumL l ∧ sumL l ≤ 8 * l.length := by
  induction l with
  | nil => exact ⟨Int.le_refl _, Int.le_refl _⟩
  | cons x l ih =>
    have h1 := ih fun y hy => h y (List.mem_cons_of_mem _ hy)
    have h2 := h x (List.mem_cons_self ..)
    rw [List.length_cons]
    show 0 ≤ x + sumL l ∧ x + sumL l ≤ _
    omega
/-- The room under a strip, -1 where the text is no strip: what RoomUnder returns. -/
def roomI (l : List UInt8) : Int := if stripB l = true then sumL (hts (cnt 100 l) l) else -1
def tri : Nat → Int
  | 0 => 0
  | x + 1 => tri x + x + 1
/-- The room counted along the diagonals. -/
theorem room_diag {l : List UInt8} (hok : okL l = true) (D : Int) : ∀ m, m ≤ l.length → sumL (hts D (l.take m)) = (ff l m : Int) * (D - m) + sumN m (fun k => (ff l k : Int)) + tri (ff l m) := by
  intro m
  induction m with
  | zero => intro _; rw [ff_zero]; show (0 : Int) = ((0 : Nat) : Int) * (D - _) + 0 + 0; simp
  | succ m ih =>
    intro hm
    have hlt : m < l.length := by omega
    have hx : l.getD m 0 = l[m] := by simp [List.getD, hlt]
    have hsn := hts_snoc (l.take m) l[m] D
    rw [← List.take_succ_eq_append_getElem hlt] at hsn
    have hfs := ff_succ l m hlt
    rw [hx] at hfs
    have h5 : cnt 102 (l.take m) = ff l m := rfl
    have h6 : ((l.take m).length : Int) = (m : Int) := by rw [List.length_take]; omega
    have ih := ih (by omega)
    rw [h5, h6] at hsn
    rw [hsn, sumL_append, ih]
    show _ = _ + (sumN m (fun k => (ff l k : Int)) + (ff l m : Int)) + _
    generalize sumN m (fun k => (ff l k : Int)) = T
    generalize ff l m = x at *
    by_cases h : l[m] = 102
    · rw [if_pos h] at hfs ⊢
      rw [hfs]
      show _ + (D - ((m : Int) - (x : Int)) + 0) = ((x + 1 : Nat) : Int) * (D - ((m + 1 : Nat) : Int)) + _ + (tri x + x + 1)
      have e0 := Int.mul_sub (x : Int) D m
      have e : ((x + 1 : Nat) : Int) * (D - ((m + 1 : Nat) : Int)) = (x : Int) * (D - m) - x + (D - m) - 1 := by
        rw [show D - ((m + 1 : Nat) : Int) = D - m - 1 from by omega, show ((x + 1 : Nat) : Int) = (x : Int) + 1 from by omega, Int.add_mul, Int.mul_sub _ (D - (m : Int)) 1]
        omega
      rw [e]
      omega
    · rw [if_neg h] at hfs ⊢
      rw [hfs]
      show _ + 0 = ((x + 0 : Nat) : Int) * (D - ((m + 1 : Nat) : Int)) + _ + tri x
      have e : ((x + 0 : Nat) : Int) * (D - ((m + 1 : Nat) : Int)) = (x : Int) * (D - m) - x := by
        rw [show D - ((m + 1 : Nat) : Int) = D - m - 1 from by omega, Nat.add_zero, Int.mul_sub _ (D - (m : Int)) 1]
        omega
      rw [e]
      omega
theorem room_sum {l : List UInt8} (h : stripB l = true) : roomI l = (cnt 102 l : Int) * ((cnt 100 l : Int) - l.length) + sumN l.length (fun k => (ff l k : Int)) + tri (cnt 102 l) := by
  unfold roomI
  rw [if_pos h]
  have := room_diag (stripB_ok h) (cnt 100 l) l.length (Nat.le_refl _)
  rw [List.take_length, ff_all _ _ (Nat.le_refl _)] at this
  exact this
theorem room_diff {a b : List UInt8} (h : sameB a b = true) : roomI a - roomI b = sumN a.length (fun k => (ff a k : Int)) - sumN a.length (fun k => (ff b k : Int)) := by
  obtain ⟨h1, h2, h3, h4, h5⟩ := same_facts h
  rw [room_sum h1, room_sum h2, h3, h4, h5]
  omega
theorem sumN_sub (n : Nat) (f g : Nat → Int) : sumN n (fun k => f k - g k) = sumN n f - sumN n g := by
  induction n with
  | zero => rfl
  | succ n ih => show sumN n (fun k => f k - g k) + (f n - g n) = sumN n f + f n - (sumN n g + g n); rw [ih]; omega
theorem mix_sum {a b : List UInt8} (h : sameB a b = true) : sumN a.length (fun k => (ff (mixL true a b) k : Int)) + sumN a.length (fun k => (ff (mixL false a b) k : Int)) = sumN a.length (fun k => (ff a k : Int)) + sumN a.length (fun k => (ff b k : Int)) := by
  rw [← sumN_add, ← sumN_add]
  apply sumN_congr
  intro k hk
  rw [ff_mix h k (by omega), ff_mix h k (by omega)]
  unfold mf pick
  simp
  omega
/-- The rooms under both pairs are equal. -/
theorem room_both {a b : List UInt8} (h : sameB a b = true) : roomI (mixL true a b) + roomI (mixL false a b) = roomI a + roomI b := by
  have e1 := room_diff (mix_same (up := true) h)
  have e2 := room_diff (mix_same (up := false) h)
  have e3 := room_diff h
  have e4 := mix_sum h
  omega
/-- The room between both is the area. -/
theorem room_area {a b : List UInt8} (h : sameB a b = true) : roomI (mixL true a b) - roomI (mixL false a b) = areaI a b := by
  obtain ⟨h1, h2, h3, h4, h5⟩ := same_facts h
  have e1 := room_diff (mix_same (up := true) h)
  have e2 := room_diff (mix_same (up := false) h)
  unfold areaI
  rw [if_pos h, area_diag h]
  have e5 : sumN a.length (fun k => dst (ff a (k + 1) : Int) (ff b (k + 1) : Int)) = sumN a.length (fun k => dst (ff a k : Int) (ff b k : Int)) := by
    have g1 := sumN_shift a.length (fun k => dst (ff a k : Int) (ff b k : Int))
    have g2 : sumN (a.length + 1) (fun k => dst (ff a k : Int) (ff b k : Int)) = sumN a.length (fun k => dst (ff a k : Int) (ff b k : Int)) + dst (ff a a.length : Int) (ff b a.length : Int) := rfl
    rw [ff_all a _ (Nat.le_refl _), ff_all b a.length (by omega), h4, dst_zero.2 rfl] at g2
    rw [ff_zero, ff_zero, dst_zero.2 rfl] at g1
    omega
  have e6 : sumN a.length (fun k => dst (ff a k : Int) (ff b k : Int)) = sumN a.length (fun k => (ff (mixL true a b) k : Int)) - sumN a.length (fun k => (ff (mixL false a b) k : Int)) := by
    rw [← sumN_sub]
    apply sumN_congr
    intro k hk
    rw [ff_mix h k (by omega), ff_mix h k (by omega)]
    unfold mf pick dst
    simp
    split <;> omega
  rw [e5, e6]
  omega

/-! ### as texts -/
/-- What UpperOf and LowerOf return, as a text. -/
def mixS (up : Bool) (s t : ByteArray) : ByteArray := ⟨(mixL up s.data.toList t.data.toList).toArray⟩
theorem mixS_list (up : Bool) (s t : ByteArray) : (mixS up s t).data.toList = mixL up s.data.toList t.data.toList := rfl
theorem mixS_size (up : Bool) (s t : ByteArray) : (mixS up s t).size ≤ s.size := by
  have := mix_le up s.data.toList t.data.toList
  have e : s.data.toList.length = s.size := by simp
  show (mixL up s.data.toList t.data.toList).toArray.size ≤ _
  rw [List.size_toArray]
  omega
theorem of_list {s t : ByteArray} (h : s.data.toList = t.data.toList) : s = t := ByteArray.ext (Array.ext' h)
theorem list_beq (a b : ByteArray) : (a.toList == b.toList) = decide (a = b) := by
  by_cases h : a = b
  · subst h; simp
  · have hne : ¬ a.toList = b.toList := fun e => h (by
      rw [ByteArray.toList_eq, ByteArray.toList_eq] at e
      exact ByteArray.ext (Array.ext' e))
    rw [decide_eq_false h]; simpa using hne
end Go.Proofs.Ytfhpbgmnekhfeaa.Order
