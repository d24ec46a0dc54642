/- SQUARES that are added to strips: valleys and mountains exchanged, the ways from one strip up to another one, and their number. Pure mathematics. -/
import Derived.Test.YtekmladindlmoaaOrderMath
import Derived.Test.YtekmladindlmoaaCorner
namespace Go.Proofs.Ytekmladindlmoaa.Flip
open Go.Proofs.Ytekmladindlmoaa.Strip Go.Proofs.Ytekmladindlmoaa.Kerf Go.Proofs.Ytekmladindlmoaa.Order Go.Proofs.Ytekmladindlmoaa.Corner
set_option linter.unusedVariables false

/-- The letters k - 1 and k written anew. -/
def swapL (x y : UInt8) (l : List UInt8) (k : Nat) : List UInt8 := l.take (k - 1) ++ x :: y :: l.drop (k + 1)
def raiseL (l : List UInt8) (k : Nat) : List UInt8 := swapL 102 100 l k
def lowerL (l : List UInt8) (k : Nat) : List UInt8 := swapL 100 102 l k

/-- A corner parts its word: x, y in the middle. -/
theorem corner_parts {x y : UInt8} (hxy : x = 100 ∧ y = 102 ∨ x = 102 ∧ y = 100) {l : List UInt8} {k : Nat} (h : cornerB x l (k : Int) = true) :
    stripB l = true ∧ 1 ≤ k ∧ k < l.length ∧ ∃ a b, l = a ++ x :: y :: b ∧ a.length + 1 = k ∧ a = l.take (k - 1) ∧ b = l.drop (k + 1) := by
  unfold cornerB at h
  simp only [Bool.and_eq_true, decide_eq_true_eq, Int.toNat_natCast, beq_iff_eq] at h
  obtain ⟨⟨hs, h1, h2⟩, h3, h4⟩ := h
  have k1 : 1 ≤ k := by omega
  have k2 : k < l.length := by omega
  refine ⟨hs, k1, k2, l.take (k - 1), l.drop (k + 1), ?_, by rw [List.length_take]; omega, rfl, rfl⟩
  have e1 : l = l.take (k - 1) ++ l.drop (k - 1) := (List.take_append_drop _ _).symm
  have e2 : l.drop (k - 1) = l[k - 1] :: l.drop (k - 1 + 1) := List.drop_eq_getElem_cons (by omega)
  have e3 : l.drop k = l[k] :: l.drop (k + 1) := List.drop_eq_getElem_cons k2
  have g1 : l[k - 1] = x := by
    rw [List.getElem?_eq_getElem (by omega)] at h4
    exact Option.some.inj h4
  have g2 : l[k] = y := by
    unfold turn at h3
    rw [Bool.and_eq_true, List.getElem?_eq_getElem k2, List.getElem?_eq_getElem (by omega), g1] at h3
    have h5 : l[k] ≠ x := by simpa using h3.2
    have h6 := ok_at (stripB_ok hs) k k2
    rw [show l.getD k 0 = l[k] by simp [List.getD, k2]] at h6
    rcases hxy with ⟨rfl, rfl⟩ | ⟨rfl, rfl⟩
    · rcases h6 with h6 | h6
      · exact absurd h6 h5
      · exact h6
    · rcases h6 with h6 | h6
      · exact h6
      · exact absurd h6 h5
  rw [show k - 1 + 1 = k by omega, e3, g1, g2] at e2
  rw [← e2]; exact e1

theorem corner_back {x y : UInt8} (hxy : x ≠ y) (a b : List UInt8) (hs : stripB (a ++ x :: y :: b) = true) : cornerB x (a ++ x :: y :: b) ((a.length + 1 : Nat) : Int) = true := by
  unfold cornerB
  have e1 : (a ++ x :: y :: b)[a.length + 1]? = some y := by rw [List.getElem?_append_right (by omega)]; simp
  have e2 : (a ++ x :: y :: b)[a.length]? = some x := by rw [List.getElem?_append_right (by omega)]; simp
  have e3 : turn (a ++ x :: y :: b) (a.length + 1) = true := by
    unfold turn
    rw [show a.length + 1 - 1 = a.length by omega, e1, e2]
    simpa using fun h => hxy h.symm
  simp only [Bool.and_eq_true, decide_eq_true_eq, Int.toNat_natCast, beq_iff_eq]
  refine ⟨⟨hs, by omega, by simp; omega⟩, e3, by rw [show a.length + 1 - 1 = a.length by omega]; exact e2⟩

theorem swap_parts {x y u v : UInt8} {l a b : List UInt8} {k : Nat} (e : l = a ++ x :: y :: b) (hk : a.length + 1 = k) : swapL u v l k = a ++ u :: v :: b := by
  subst e hk
  unfold swapL
  have e1 : (a ++ x :: y :: b).take (a.length + 1 - 1) = a := by
    rw [show a.length + 1 - 1 = a.length by omega, List.take_left]
  have e2 : (a ++ x :: y :: b).drop (a.length + 1 + 1) = b := by
    rw [show a.length + 1 + 1 = a.length + 2 by omega, ← List.drop_drop, List.drop_left]; rfl
  rw [e1, e2]

theorem cnt_append (x : UInt8) (a b : List UInt8) : cnt x (a ++ b) = cnt x a + cnt x b := by unfold cnt; exact List.count_append
theorem cnt_two (z x y : UInt8) (b : List UInt8) : cnt z (x :: y :: b) = cnt z (y :: x :: b) := by
  unfold cnt; simp only [List.count_cons]; omega
theorem okL_append (a b : List UInt8) : okL (a ++ b) = (okL a && okL b) := by unfold okL; exact List.all_append
theorem okL_two (x y : UInt8) (b : List UInt8) : okL (x :: y :: b) = okL (y :: x :: b) := by
  unfold okL; simp only [List.all_cons]; rw [← Bool.and_assoc, ← Bool.and_assoc, Bool.and_comm (x == 100 || x == 102)]

/-- What is exchanged stays in its frame. -/
theorem swap_same {x y : UInt8} {a b : List UInt8} (hs : stripB (a ++ x :: y :: b) = true) : sameB (a ++ x :: y :: b) (a ++ y :: x :: b) = true := by
  have c (z : UInt8) : cnt z (a ++ y :: x :: b) = cnt z (a ++ x :: y :: b) := by rw [cnt_append, cnt_append, cnt_two z y x b]
  have o : okL (a ++ y :: x :: b) = okL (a ++ x :: y :: b) := by rw [okL_append, okL_append, okL_two y x b]
  refine same_of hs ?_ (c 100).symm (c 102).symm
  unfold stripB at hs ⊢
  rw [o, c, c]; exact hs

def oneN (b : Bool) : Nat := if b = true then 1 else 0
theorem ff_two (a b : List UInt8) (x y : UInt8) (j : Nat) :
    ff (a ++ y :: x :: b) j + (if j = a.length + 1 then oneN (x == 102) else 0) = ff (a ++ x :: y :: b) j + (if j = a.length + 1 then oneN (y == 102) else 0) := by
  unfold ff
  rw [List.take_append, List.take_append, cnt_append, cnt_append]
  by_cases h : j ≤ a.length
  · rw [show j - a.length = 0 by omega, if_neg (by omega), if_neg (by omega)]; rfl
  · by_cases h1 : j = a.length + 1
    · subst h1
      rw [show a.length + 1 - a.length = 1 by omega, if_pos rfl, if_pos rfl]
      unfold cnt oneN
      simp [List.count_cons]
      omega
    · rw [if_neg h1, if_neg h1]
      obtain ⟨m, hm⟩ : ∃ m, j - a.length = m + 1 + 1 := ⟨j - a.length - 2, by omega⟩
      rw [hm]
      simp only [List.take_succ_cons]
      rw [cnt_two 102 y x]

/-- A valley raised: one letter f more among the first k steps, and nowhere else. -/
theorem raise_facts {l : List UInt8} {k : Nat} (h : cornerB 100 l (k : Int) = true) :
    sameB l (raiseL l k) = true ∧ (∀ j, ff (raiseL l k) j = ff l j + (if j = k then 1 else 0)) ∧ cornerB 102 (raiseL l k) (k : Int) = true ∧ lowerL (raiseL l k) k = l := by
  obtain ⟨hs, k1, k2, a, b, e, ea, _, _⟩ := corner_parts (.inl ⟨rfl, rfl⟩) h
  have er : raiseL l k = a ++ 102 :: 100 :: b := swap_parts e ea
  rw [er]
  have hsame : sameB (a ++ 100 :: 102 :: b) (a ++ 102 :: 100 :: b) = true := swap_same (by rw [← e]; exact hs)
  refine ⟨by rw [e]; exact hsame, fun j => ?_, ?_, ?_⟩
  · have := ff_two a b 100 102 j
    rw [← e] at this
    rw [ea] at this
    simpa [oneN] using this
  · have := corner_back (x := 102) (y := 100) (by decide) a b (same_facts hsame).2.1
    rw [ea] at this; exact this
  · rw [e]; exact swap_parts rfl ea
theorem lower_facts {l : List UInt8} {k : Nat} (h : cornerB 102 l (k : Int) = true) : sameB l (lowerL l k) = true := by
  obtain ⟨hs, k1, k2, a, b, e, ea, _, _⟩ := corner_parts (.inr ⟨rfl, rfl⟩) h
  have er : lowerL l k = a ++ 100 :: 102 :: b := swap_parts e ea
  rw [er, e]
  exact swap_same (by rw [← e]; exact hs)

theorem sumN_one : ∀ (n k : Nat), k < n → sumN n (fun j => if j = k then 1 else 0) = 1
  | 0, k, h => by omega
  | n + 1, k, h => by
    show sumN n (fun j => if j = k then 1 else 0) + (if n = k then 1 else 0) = 1
    by_cases e : n = k
    · rw [if_pos e, sumN_congr (g := fun _ => 0) fun j hj => if_neg (by omega), sumN_const_zero]; rfl
    · rw [if_neg e, sumN_one n k (by omega)]; rfl
/-- One square of room more. -/
theorem raise_room {l : List UInt8} {k : Nat} (h : cornerB 100 l (k : Int) = true) : roomI (raiseL l k) = roomI l + 1 := by
  obtain ⟨hsame, hff, _⟩ := raise_facts h
  obtain ⟨_, _, k2, _⟩ := corner_parts (.inl ⟨rfl, rfl⟩) h
  have e := room_diff (same_swap hsame)
  rw [← (same_facts hsame).2.2.2.2, ← sumN_sub] at e
  have e2 : sumN l.length (fun j => (ff (raiseL l k) j : Int) - (ff l j : Int)) = sumN l.length (fun j => if j = k then 1 else 0) := by
    apply sumN_congr
    intro j hj
    rw [hff]
    split <;> omega
  rw [e2, sumN_one _ _ k2] at e
  omega

theorem area_above {l t : List UInt8} (h : aboveB t l = true) : areaI l t = roomI t - roomI l := by
  have h' := (above_iff.1 h).1
  have hs := same_swap h'
  have e := room_area hs
  have e2 := room_both hs
  have e3 : mixL true l t = t := by rw [mix_comm h']; exact (upper_is h').2 h
  rw [e3] at e e2
  omega
theorem above_len {l t : List UInt8} (h : aboveB t l = true) : t.length = l.length := (same_facts (above_iff.1 h).1).2.2.2.2
theorem above_self {l : List UInt8} (h : stripB l = true) : aboveB l l = true := above_iff.2 ⟨same_self h, fun _ _ => Nat.le_refl _⟩
theorem above_strip {l t : List UInt8} (h : aboveB t l = true) : stripB l = true ∧ stripB t = true := by
  obtain ⟨h1, h2, _⟩ := same_facts (above_iff.1 h).1
  exact ⟨h2, h1⟩
theorem above_zero {l t : List UInt8} (h : aboveB t l = true) (ha : areaI l t = 0) : l = t := by
  have hs := same_swap (above_iff.1 h).1
  unfold areaI at ha
  rw [if_pos hs] at ha
  exact (areaS_zero hs).1 ha
theorem above_nonneg {l t : List UInt8} (h : aboveB t l = true) : 0 ≤ areaI l t := by
  have hs := same_swap (above_iff.1 h).1
  unfold areaI
  rw [if_pos hs]
  exact areaS_nonneg _ _

/-- Is the valley k of l raised to a strip that t is above? -/
def nextB (l t : List UInt8) (k : Nat) : Bool := cornerB 100 l (k : Int) && aboveB t (raiseL l k)
/-- The least first. -/
def nexts (l t : List UInt8) : List Nat := (List.range l.length).filter (nextB l t)

theorem next_iff {l t : List UInt8} {k : Nat} (h : aboveB t l = true) : nextB l t k = true ↔ cornerB 100 l (k : Int) = true ∧ ff l k < ff t k := by
  unfold nextB
  rw [Bool.and_eq_true]
  constructor
  · rintro ⟨h1, h2⟩
    refine ⟨h1, ?_⟩
    obtain ⟨hs, hf, _⟩ := raise_facts h1
    obtain ⟨_, _, k2, _⟩ := corner_parts (.inl ⟨rfl, rfl⟩) h1
    have := (above_iff.1 h2).2 k (by have := above_len h; omega)
    rw [hf, if_pos rfl] at this
    omega
  · rintro ⟨h1, h2⟩
    refine ⟨h1, above_iff.2 ?_⟩
    obtain ⟨hs, hf, _⟩ := raise_facts h1
    refine ⟨same_chain (above_iff.1 h).1 hs, fun j hj => ?_⟩
    rw [hf]
    have := (above_iff.1 h).2 j hj
    split
    · rename_i e; subst e; omega
    · omega
theorem next_below {l t : List UInt8} {k : Nat} (h : nextB l t k = true) : aboveB t l = true := by
  unfold nextB at h
  rw [Bool.and_eq_true] at h
  obtain ⟨hs, hf, _⟩ := raise_facts h.1
  obtain ⟨h2, h3⟩ := above_iff.1 h.2
  refine above_iff.2 ⟨same_chain h2 (same_swap hs), fun j hj => ?_⟩
  have := h3 j hj
  rw [hf] at this
  omega
theorem next_facts {l t : List UInt8} {k : Nat} (h : nextB l t k = true) :
    cornerB 100 l (k : Int) = true ∧ aboveB t (raiseL l k) = true ∧ aboveB t l = true ∧ areaI (raiseL l k) t = areaI l t - 1 ∧ k < l.length ∧ 1 ≤ k ∧ (raiseL l k).length = l.length := by
  have hb := next_below h
  unfold nextB at h
  rw [Bool.and_eq_true] at h
  obtain ⟨_, k1, k2, _⟩ := corner_parts (.inl ⟨rfl, rfl⟩) h.1
  refine ⟨h.1, h.2, hb, ?_, k2, k1, ((same_facts (raise_facts h.1).1).2.2.2.2).symm⟩
  rw [area_above h.2, area_above hb, raise_room h.1]; omega
theorem nexts_mem {l t : List UInt8} {k : Nat} : k ∈ nexts l t ↔ nextB l t k = true := by
  unfold nexts
  rw [List.mem_filter, List.mem_range]
  exact ⟨fun h => h.2, fun h => ⟨(next_facts h).2.2.2.2.1, h⟩⟩
theorem nexts_not {l t : List UInt8} (h : aboveB t l = false) : nexts l t = [] := by
  refine List.eq_nil_iff_forall_not_mem.2 fun k hk => ?_
  have := next_below (nexts_mem.1 hk)
  rw [h] at this; cases this
theorem nexts_end (t : List UInt8) : nexts t t = [] := by
  refine List.eq_nil_iff_forall_not_mem.2 fun k hk => ?_
  have h := nexts_mem.1 hk
  have := ((next_iff (next_below h)).1 h).2
  omega

/-- From a step down on, the next step forward is a valley. -/
theorem climb {l t : List UInt8} (h : aboveB t l = true) : ∀ n j, l.length - j = n → 1 ≤ j → j ≤ l.length → ff l j < ff t j → l.getD (j - 1) 0 = 100 → ∃ k, nextB l t k = true := by
  intro n
  induction n with
  | zero =>
    intro j hn h1 h2 h3 _
    obtain ⟨hs, _⟩ := above_iff.1 h
    have e1 := ff_all l j (by omega)
    have e2 := ff_all t j (by have := above_len h; omega)
    have := (same_facts hs).2.2.2.1
    omega
  | succ n ih =>
    intro j hn h1 h2 h3 h4
    have hj : j < l.length := by omega
    have hok := stripB_ok (above_strip h).1
    rcases ok_at hok j hj with e | e
    · refine ih (j + 1) (by omega) (by omega) (by omega) ?_ (by rw [show j + 1 - 1 = j by omega]; exact e)
      rw [ff_succ l j hj, e]
      have := ff_mono t (show j ≤ j + 1 by omega)
      have e0 : (if (100 : UInt8) = 102 then 1 else 0) = 0 := rfl
      rw [e0]
      omega
    · refine ⟨j, (next_iff h).2 ⟨?_, h3⟩⟩
      unfold cornerB
      have g1 : l[j - 1]? = some 100 := by rw [List.getElem?_eq_getElem (by omega)]; rw [← h4]; simp [List.getD, show j - 1 < l.length by omega]
      have g2 : l[j]? = some 102 := by rw [List.getElem?_eq_getElem hj]; rw [← e]; simp [List.getD, hj]
      have g3 : turn l j = true := by unfold turn; rw [g1, g2]; simp [h1]
      simp only [Bool.and_eq_true, decide_eq_true_eq, Int.toNat_natCast, beq_iff_eq]
      exact ⟨⟨(above_strip h).1, by omega, by omega⟩, g3, g1⟩
theorem least_of (p : Nat → Bool) : ∀ n, p n = true → ∃ m, m ≤ n ∧ p m = true ∧ ∀ j, j < m → p j = false := by
  intro n
  induction n using Nat.strongRecOn with
  | ind n ih =>
    intro h
    by_cases hx : ∃ j, j < n ∧ p j = true
    · obtain ⟨j, h1, h2⟩ := hx
      obtain ⟨m, h3, h4, h5⟩ := ih j h1 h2
      exact ⟨m, by omega, h4, h5⟩
    · refine ⟨n, Nat.le_refl _, h, fun j hj => ?_⟩
      cases e : p j with
      | false => rfl
      | true => exact absurd ⟨j, hj, e⟩ hx
theorem nexts_some {l t : List UInt8} (h : aboveB t l = true) (hne : l ≠ t) : nexts l t ≠ [] := by
  obtain ⟨hs, hle⟩ := above_iff.1 h
  have hlen := above_len h
  have hx : ∃ j, j ≤ l.length ∧ ff l j < ff t j := by
    refine Classical.byContradiction fun hc => hne ?_
    refine eq_of_ff (same_swap hs) fun k hk => ?_
    have h1 := hle k (by omega)
    have h2 : ¬ ff l k < ff t k := fun h3 => hc ⟨k, hk, h3⟩
    omega
  obtain ⟨j, hj, hlt⟩ := hx
  obtain ⟨m, m1, m2, m3⟩ := least_of (fun j => decide (ff l j < ff t j)) j (decide_eq_true hlt)
  have m2 := of_decide_eq_true m2
  have m0 : 1 ≤ m := by
    rcases Nat.eq_zero_or_pos m with e | e
    · subst e; rw [ff_zero, ff_zero] at m2; omega
    · exact e
  have m4 := of_decide_eq_false (m3 (m - 1) (by omega))
  have e1 := ff_succ l (m - 1) (by omega)
  have e2 := ff_succ t (m - 1) (by omega)
  rw [show m - 1 + 1 = m by omega] at e1 e2
  have e3 : l.getD (m - 1) 0 = 100 := by
    rcases ok_at (stripB_ok (above_strip h).1) (m - 1) (by omega) with e | e
    · exact e
    · rw [if_pos e] at e1
      have : (if t.getD (m - 1) 0 = 102 then 1 else 0) ≤ 1 := by split <;> omega
      omega
  obtain ⟨k, hk⟩ := climb h (l.length - m) m rfl m0 (by omega) m2 e3
  intro e
  have := nexts_mem.2 hk
  rw [e] at this; cases this

theorem nexts_head {l t : List UInt8} {k : Nat} (h : nextB l t k = true) (hl : ∀ j, j < k → nextB l t j = false) : ∃ r, nexts l t = k :: r := by
  have hk := (next_facts h).2.2.2.2.1
  have e : List.range l.length = List.range k ++ k :: (List.range' (k + 1) (l.length - (k + 1))) := by
    rw [List.range_eq_range', List.range_eq_range', ← List.range'_succ, show l.length - (k + 1) + 1 = l.length - k by omega]
    have := List.range'_append (s := 0) (m := k) (n := l.length - k) (step := 1)
    rw [show 0 + 1 * k = k by omega, show k + (l.length - k) = l.length by omega] at this
    exact this.symm
  unfold nexts
  rw [e, List.filter_append, List.filter_cons, if_pos h]
  have : (List.range k).filter (nextB l t) = [] := by
    rw [List.filter_eq_nil_iff]
    intro j hj
    rw [hl j (List.mem_range.1 hj)]; simp
  exact ⟨_, by rw [this]; rfl⟩

/-! ### the number of the ways -/
def wy : Nat → List UInt8 → List UInt8 → Nat
  | 0, l, t => if l = t then 1 else 0
  | n + 1, l, t => ((nexts l t).map fun k => wy n (raiseL l k) t).sum

theorem sum_ge {α : Type} (f : α → Nat) : ∀ (l : List α) (x : α), x ∈ l → f x ≤ (l.map f).sum
  | y :: l, x, h => by
    rw [List.map_cons, List.sum_cons]
    rcases List.mem_cons.1 h with rfl | h
    · omega
    · have := sum_ge f l x h; omega
theorem sum_le {α : Type} (f : α → Nat) (m : Nat) : ∀ (l : List α), (∀ x ∈ l, f x ≤ m) → (l.map f).sum ≤ l.length * m
  | [], _ => by simp
  | y :: l, h => by
    rw [List.map_cons, List.sum_cons, List.length_cons, Nat.succ_mul]
    have h1 := h y List.mem_cons_self
    have h2 := sum_le f m l fun x hx => h x (List.mem_cons_of_mem _ hx)
    omega
theorem wy_pos : ∀ (n : Nat) {l t : List UInt8}, aboveB t l = true → areaI l t = (n : Int) → 1 ≤ wy n l t
  | 0, l, t, h, ha => by
    have := above_zero h ha
    unfold wy; rw [if_pos this]; exact Nat.le_refl _
  | n + 1, l, t, h, ha => by
    have hne : l ≠ t := by
      intro e
      subst e
      rw [area_above h] at ha; omega
    obtain ⟨k, hk⟩ := List.exists_mem_of_ne_nil _ (nexts_some h hne)
    obtain ⟨h1, h2, h3, h4, _⟩ := next_facts (nexts_mem.1 hk)
    have := wy_pos n h2 (by rw [h4, ha]; omega)
    unfold wy
    have := sum_ge (fun k => wy n (raiseL l k) t) _ k hk
    omega
theorem nexts_len (l t : List UInt8) : (nexts l t).length ≤ 16 := by
  cases h : aboveB t l with
  | false => rw [nexts_not h]; simp
  | true =>
    have h1 := (strip_size (above_strip h).1).2
    have h2 : (nexts l t).length ≤ l.length := by unfold nexts; exact Nat.le_trans (List.length_filter_le _ _) (by simp)
    omega
theorem wy_le : ∀ (n : Nat) (l t : List UInt8), wy n l t ≤ 16 ^ n
  | 0, l, t => by unfold wy; split <;> simp
  | n + 1, l, t => by
    unfold wy
    have h1 := sum_le (fun k => wy n (raiseL l k) t) (16 ^ n) (nexts l t) fun k _ => wy_le n _ _
    have h2 := Nat.mul_le_mul_right (16 ^ n) (nexts_len l t)
    rw [Nat.pow_succ, Nat.mul_comm (16 ^ n) 16]
    omega

/-- What CountWays returns. -/
def waysV (s t : List UInt8) : Int := if aboveB t s = true ∧ areaI s t ≤ 12 then (wy (areaI s t).toNat s t : Int) else 0
theorem wy_small {n : Nat} (h : n ≤ 12) (l t : List UInt8) : wy n l t ≤ 281474976710656 := by
  have h1 := wy_le n l t
  have h2 : 16 ^ n ≤ 16 ^ 12 := Nat.pow_le_pow_right (by decide) h
  have h3 : (16 : Nat) ^ 12 = 281474976710656 := by decide
  omega

theorem nexts_nodup (l t : List UInt8) : (nexts l t).Nodup := List.Nodup.sublist List.filter_sublist List.nodup_range
/-- One square: one way. -/
theorem wy_one {l t : List UInt8} (h : aboveB t l = true) (ha : areaI l t = 1) : wy 1 l t = 1 := by
  have hp := wy_pos 1 h ha
  have hu : ∀ k ∈ nexts l t, raiseL l k = t := by
    intro k hk
    obtain ⟨h1, h2, h3, h4, _⟩ := next_facts (nexts_mem.1 hk)
    exact above_zero h2 (by omega)
  have hone : ∀ k ∈ nexts l t, ∀ j ∈ nexts l t, k = j := by
    intro k hk j hj
    have e1 := (raise_facts (next_facts (nexts_mem.1 hk)).1).2.1 k
    have e2 := (raise_facts (next_facts (nexts_mem.1 hj)).1).2.1 k
    rw [hu k hk, if_pos rfl] at e1
    rw [hu j hj] at e2
    split at e2
    · assumption
    · omega
  have hlen : (nexts l t).length ≤ 1 := by
    have hd := nexts_nodup l t
    revert hone hd
    cases nexts l t with
    | nil => intros; simp
    | cons a r =>
      cases r with
      | nil => intros; simp
      | cons b r =>
        intro h1 h2
        have := h1 a (by simp) b (by simp)
        subst this
        simp at h2
  have hle : wy 1 l t ≤ (nexts l t).length * 1 := by
    show ((nexts l t).map fun k => wy 0 (raiseL l k) t).sum ≤ _
    exact sum_le _ 1 _ fun k _ => by unfold wy; split <;> omega
  omega

/-! ### the way up -/
def way : Nat → List UInt8 → List UInt8 → List Int
  | 0, _, _ => []
  | n + 1, l, t => match nexts l t with
    | [] => []
    | k :: _ => (k : Int) :: way n (raiseL l k) t
/-- What WayUp returns. -/
def wayL (s t : List UInt8) : List Int := if aboveB t s = true then way (areaI s t).toNat s t else []
theorem way_cons {n : Nat} {l t : List UInt8} {k : Nat} {r : List Nat} (h : nexts l t = k :: r) : way (n + 1) l t = (k : Int) :: way n (raiseL l k) t := by
  show (match nexts l t with | [] => [] | k :: _ => (k : Int) :: way n (raiseL l k) t) = _
  rw [h]
theorem way_length : ∀ (n : Nat) {l t : List UInt8}, aboveB t l = true → areaI l t = (n : Int) → (way n l t).length = n
  | 0, l, t, h, ha => rfl
  | n + 1, l, t, h, ha => by
    have hne : l ≠ t := by
      intro e
      subst e
      rw [area_above h] at ha; omega
    cases e : nexts l t with
    | nil => exact absurd e (nexts_some h hne)
    | cons k r =>
      obtain ⟨h1, h2, h3, h4, _⟩ := next_facts (nexts_mem.1 (show k ∈ nexts l t by rw [e]; simp))
      rw [way_cons e, List.length_cons, way_length n h2 (by rw [h4, ha]; omega)]
theorem area_bound {l t : List UInt8} (h : aboveB t l = true) : areaI l t ≤ 256 := by
  have hs := (above_iff.1 h).1
  have h1 := (strip_size (above_strip h).1).2
  have e := area_diag (same_swap hs)
  unfold areaI
  rw [if_pos (same_swap hs), e]
  have h2 : sumN l.length (fun k => dst (ff l (k + 1) : Int) (ff t (k + 1) : Int)) ≤ sumN l.length (fun _ => 16) := by
    refine sumN_le fun k hk => ?_
    have g1 := ff_le l (k + 1)
    have g2 := ff_le t (k + 1)
    unfold dst
    split <;> omega
  have h3 : ∀ n : Nat, sumN n (fun _ => 16) = 16 * (n : Int) := by
    intro n
    induction n with
    | zero => rfl
    | succ n ih => show sumN n (fun _ => 16) + 16 = _; rw [ih]; omega
  rw [h3] at h2
  omega

/-! ### valleys -/
/-- What RaisesOf returns. -/
def valleysN (l : List UInt8) (n : Nat) : List Int := ((List.range n).filter fun (k : Nat) => cornerB 100 l (k : Int)).map fun (k : Nat) => (k : Int)
def raisesL (l : List UInt8) : List Int := valleysN l l.length
theorem valleys_yes {l : List UInt8} {n : Nat} (h : cornerB 100 l (n : Int) = true) : valleysN l (n + 1) = valleysN l n ++ [(n : Int)] := by
  unfold valleysN; rw [List.range_succ]; simp [h]
theorem valleys_no {l : List UInt8} {n : Nat} (h : cornerB 100 l (n : Int) = false) : valleysN l (n + 1) = valleysN l n := by
  unfold valleysN; rw [List.range_succ]; simp [h]
theorem valleys_not {l : List UInt8} (h : stripB l = false) (n : Nat) : valleysN l n = [] := by
  unfold valleysN
  rw [List.map_eq_nil_iff, List.filter_eq_nil_iff]
  intro k hk
  rw [corner_not h]; simp
where corner_not {l : List UInt8} (h : stripB l = false) {x : Int} : cornerB 100 l x = false := by unfold cornerB; rw [h]; rfl
end Go.Proofs.Ytekmladindlmoaa.Flip
