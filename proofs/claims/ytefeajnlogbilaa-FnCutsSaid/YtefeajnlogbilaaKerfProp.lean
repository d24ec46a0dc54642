/- The facts that the property of chapter 7 asks. -/
import Derived.Test.YtefeajnlogbilaaKerfLen
import Derived.Test.YtefeajnlogbilaaKerfImpl
import Derived.Test.YtefeajnlogbilaaKerfRuns2
namespace Go.Proofs.Ytefeajnlogbilaa.Kerf
open Go.Proofs.Ytefeajnlogbilaa.Strip Go.Proofs.Ytefeajnlogbilaa.Strs Go.Proofs.Ytefeajnlogbilaa.Card Go.Proofs.Ytefeajnlogbilaa.Corner
set_option linter.unusedVariables false

theorem same_comm {a b : List UInt8} (h : sameB a b = true) : sameB b a = true := by
  obtain ⟨h1, h2, h3, h4, _⟩ := same_facts h
  exact same_of h2 h1 h3.symm h4.symm
theorem same_trans {a b c : List UInt8} (h : sameB a b = true) (h' : sameB b c = true) : sameB a c = true := by
  obtain ⟨h1, h2, h3, h4, _⟩ := same_facts h
  obtain ⟨_, g2, g3, g4, _⟩ := same_facts h'
  exact same_of h1 g2 (h3.trans g3) (h4.trans g4)
theorem cuts_comm {a b : List UInt8} (h : sameB a b = true) : cutsL b a = cutsL a b := by
  rw [cuts_yes h, cuts_yes (same_comm h), ← (same_facts h).2.2.2.2, cutN_comm]
theorem area_yes {a b : List UInt8} (h : sameB a b = true) : areaI a b = areaS a b := by unfold areaI; rw [h]; rfl
theorem area_comm {a b : List UInt8} (h : sameB a b = true) : areaI b a = areaI a b := by
  rw [area_yes h, area_yes (same_comm h), areaS_comm h]
theorem area_nonneg {a b : List UInt8} (h : sameB a b = true) : 0 ≤ areaI a b := by rw [area_yes h]; exact areaS_nonneg _ _
theorem area_zero {a b : List UInt8} (h : sameB a b = true) : areaI a b = 0 ↔ a = b := by rw [area_yes h]; exact areaS_zero h
theorem cuts_nil {a b : List UInt8} (h : sameB a b = true) : cutsL a b = [] ↔ a = b := by rw [cuts_yes h]; exact cutN_nil h
theorem area_tri {r s t : List UInt8} (h : sameB r s = true) (h' : sameB s t = true) : areaI r t ≤ areaI r s + areaI s t := by
  rw [area_yes h, area_yes h', area_yes (same_trans h h')]; exact areaS_tri h h'
theorem cuts_area {a b : List UInt8} (h : sameB a b = true) : ((cutsL a b).length : Int) ≤ 2 * areaI a b := by
  rw [cuts_yes h, area_yes h]; exact cutN_area h
theorem area_le {a b : List UInt8} (h : sameB a b = true) : areaI a b ≤ 512 := by
  rw [area_yes h, ← areaS_P]
  obtain ⟨h1, h2, _, _, _⟩ := same_facts h
  have h3 := areaP_le _ _ (strip_in h1) (strip_in h2) (cnt 102 a)
  have h4 := cnt_le 102 a
  have h5 := strip_size h1
  omega
theorem cuts_asc {a b : List UInt8} : (cutsL a b).Pairwise (· < ·) := by
  cases h : sameB a b with
  | false => rw [cuts_no h]; exact List.Pairwise.nil
  | true => rw [cuts_yes h]; exact cutN_asc _ _ _
theorem bytes_iff {s t : ByteArray} : s.data.toList = t.data.toList ↔ s = t := by
  constructor
  · intro h; exact ByteArray.ext (Array.ext' h)
  · rintro rfl; rfl
/-- The two tests of the law against the equality of both texts. -/
theorem area_beq {s t : ByteArray} (h : sameB s.data.toList t.data.toList = true) : (areaI s.data.toList t.data.toList == 0) = (s.toList == t.toList) := by
  rw [Face.toList_beq, Bool.eq_iff_iff]
  simp only [beq_iff_eq, decide_eq_true_eq]
  rw [area_zero h, bytes_iff]
theorem cuts_beq {s t : ByteArray} (h : sameB s.data.toList t.data.toList = true) : (((cutsL s.data.toList t.data.toList).length : Int) == 0) = (s.toList == t.toList) := by
  rw [Face.toList_beq, Bool.eq_iff_iff]
  simp only [beq_iff_eq, decide_eq_true_eq]
  rw [← bytes_iff, ← cuts_nil h]
  constructor
  · intro e; exact List.eq_nil_of_length_eq_zero (by omega)
  · intro e; rw [e]; rfl

/-- How many numbers the first parts hold. -/
theorem lenR_take_next {g : List (Int × Int)} {k : Nat} (h : k < g.length) : lenR (g.take (k + 1)) = lenR (g.take k) + (g[k].2 - g[k].1 + 1) := by
  rw [List.take_succ_eq_append_getElem h, lenR_append]
  show _ + (g[k].2 - g[k].1 + 1 + 0) = _
  omega
theorem lenR_bound {g : List (Int × Int)} (h : ∀ r ∈ g, r.1 ≤ r.2 ∧ 0 ≤ r.1 ∧ r.2 ≤ 16) (k : Nat) (hk : k ≤ g.length) : 0 ≤ lenR (g.take k) ∧ lenR (g.take k) ≤ 17 * k := by
  induction k with
  | zero => exact ⟨Int.le_refl _, Int.le_refl _⟩
  | succ k ih =>
    rw [lenR_take_next (by omega)]
    have h1 := ih (by omega)
    have h2 := h g[k] (List.getElem_mem _)
    omega
/-- The last number of a part is one of the row. -/
theorem runs_mem {l : List Int} (ha : l.Pairwise (· < ·)) : ∀ r ∈ runsR l, r.2 ∈ l := by
  intro r hr
  cases hl : l with
  | nil => rw [hl] at hr; simp [runsR] at hr
  | cons x t =>
    have hp : ∀ k, k < l.length → ∀ r ∈ runsR (l.take (k + 1)), r.2 ∈ l := by
      intro k
      induction k with
      | zero =>
        intro h r hr
        rw [List.take_succ_eq_append_getElem h, runsR_snoc] at hr
        have : r = (l[0], l[0]) := by simpa [runsR, addR] using hr
        rw [this]; exact List.getElem_mem h
      | succ k ih =>
        intro h r hr
        obtain ⟨g, p, e⟩ := runsR_last l k (by omega)
        rw [List.take_succ_eq_append_getElem h, runsR_snoc, e] at hr
        by_cases hj : l[k] = l[k + 1] - 1
        · rw [addR_join _ _ _ _ hj] at hr
          rcases List.mem_append.1 hr with h2 | h2
          · exact ih (by omega) r (by rw [e]; exact List.mem_append_left _ h2)
          · have : r = (p, l[k + 1]) := by simpa using h2
            rw [this]; exact List.getElem_mem h
        · rw [addR_new _ _ _ _ hj] at hr
          rcases List.mem_append.1 hr with h2 | h2
          · exact ih (by omega) r (by rw [e]; exact h2)
          · have : r = (l[k + 1], l[k + 1]) := by simpa using h2
            rw [this]; exact List.getElem_mem h
    rw [← hl]
    have h1 := hp (l.length - 1) (by rw [hl]; simp)
    rw [show l.length - 1 + 1 = l.length by rw [hl]; simp, List.take_length] at h1
    exact h1 r hr

/-- What the law asks of the parts of two strips. -/
structure PartsOf (l : List Int) (g : List (Int × Int)) : Prop where
  len : g.length ≤ 16
  ord : ∀ r ∈ g, r.1 ≤ r.2 ∧ 0 ≤ r.1 ∧ r.2 ≤ 16
  fst : ∀ r ∈ g, decide (r.1 ∈ l) = true
  gap : ∀ r ∈ g, decide (r.2 + 1 ∈ l) = false
  all : lenR g = l.length
theorem parts_of (a b : List UInt8) : PartsOf (cutsL a b) (runsR (cutsL a b)) := by
  obtain ⟨h1, h2⟩ := parts_all (cuts_asc (a := a) (b := b))
  have hb := cuts_bound a b
  refine ⟨?_, ?_, ?_, ?_, h2⟩
  · have h3 := runsR_length (cutsL a b) (cutsL a b).length
    rw [List.take_length] at h3
    have := cuts_16 a b
    omega
  · intro r hr
    have h3 := h1 r hr
    have h4 := hb _ h3.2.1
    have h5 := hb _ (runs_mem cuts_asc r hr)
    exact ⟨h3.1, h4.1, by omega⟩
  · intro r hr; exact decide_eq_true (h1 r hr).2.1
  · intro r hr; exact decide_eq_false (h1 r hr).2.2

/-- The card of three strips of one frame. -/
theorem card_three {r s t : ByteArray} (h : sameB r.data.toList s.data.toList = true) (h' : sameB s.data.toList t.data.toList = true) : cardB (cnt 100 s.data.toList : Int) (cnt 102 s.data.toList : Int) [r, s, t] = true := by
  obtain ⟨r1, s1, r3, r4, _⟩ := same_facts h
  obtain ⟨_, t1, t3, t4, _⟩ := same_facts h'
  have hf : frameB (cnt 100 s.data.toList : Int) (cnt 102 s.data.toList : Int) = true := by
    have := s1
    unfold stripB at this
    rw [Bool.and_eq_true] at this
    exact this.2
  rw [cardB_iff]
  refine ⟨hf, by simp, by simp, ?_⟩
  intro x hx
  unfold goodB numV
  simp only [List.mem_cons, List.not_mem_nil, or_false] at hx
  rcases hx with rfl | rfl | rfl
  · rw [r1]; simp only [if_true, decide_eq_true_eq]; omega
  · rw [s1]; simp
  · rw [t1]; simp only [if_true, decide_eq_true_eq]; omega
theorem len_three {r s t : ByteArray} (h : sameB r.data.toList s.data.toList = true) (h' : sameB s.data.toList t.data.toList = true) :
    clV (cnt 100 s.data.toList : Int) (cnt 102 s.data.toList : Int) [r, s, t] = ((cutsL r.data.toList s.data.toList).length : Int) + ((cutsL s.data.toList t.data.toList).length : Int) := by
  unfold clV
  rw [card_three h h', if_pos rfl]
  show (0 + cutC [r, s, t] 0) + cutC [r, s, t] 1 = _
  unfold cutC
  simp
theorem free_three {r s t : ByteArray} (h : sameB r.data.toList s.data.toList = true) (h' : sameB s.data.toList t.data.toList = true) :
    feV (cnt 100 s.data.toList : Int) (cnt 102 s.data.toList : Int) [r, s, t] = 2 * (((cutsL r.data.toList s.data.toList).length : Int) + ((cutsL s.data.toList t.data.toList).length : Int)) + 2 * (s.size : Int) := by
  have h1 := len_three h h'
  unfold clV at h1
  unfold feV
  rw [card_three h h', if_pos rfl] at h1 ⊢
  rw [h1]
  have h2 := cnt_sum _ (stripB_ok (same_facts h).2.1)
  have h3 : s.data.toList.length = s.size := by simp
  omega
end Go.Proofs.Ytefeajnlogbilaa.Kerf
