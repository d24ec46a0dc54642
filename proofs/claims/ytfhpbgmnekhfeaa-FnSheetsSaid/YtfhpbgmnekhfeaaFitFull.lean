/- Chapter 19, pure: the bands' strips and their sums; the numbers so far. -/
import Derived.Test.YtfhpbgmnekhfeaaFitMath
namespace Go.Proofs.Ytfhpbgmnekhfeaa.Sheet
open Go.Proofs.Ytfhpbgmnekhfeaa.Order
set_option linter.unusedVariables false

/-- The bands' strips, whose sums are the loads. -/
structure Full (k : Nat) (ls : List (List Int)) (L : List Int) : Prop where
  sums : ls.map sumL = L
  small : ∀ b ∈ ls, b.length ≤ k ∧ ∀ x ∈ b, 1 ≤ x ∧ x ≤ 1000
theorem Full.len {k : Nat} {ls : List (List Int)} {L : List Int} (h : Full k ls L) : L.length = ls.length := by rw [← h.sums, List.length_map]
theorem Full.nil : Full 0 [] [] := ⟨rfl, by simp⟩
theorem Full.new {k : Nat} {ls : List (List Int)} {L : List Int} {x : Int} (h : Full k ls L) (hx : 1 ≤ x ∧ x ≤ 1000) : Full (k + 1) (ls ++ [[x]]) (L ++ [x]) := by
  refine ⟨by rw [List.map_append, h.sums]; simp [sumL], fun b hb => ?_⟩
  rcases List.mem_append.1 hb with e | e
  · have h1 := h.small b e
    exact ⟨by omega, h1.2⟩
  · simp at e
    subst e
    exact ⟨by simp, fun y hy => by simp at hy; subst hy; exact hx⟩
theorem Full.inn {k j : Nat} {ls : List (List Int)} {L b : List Int} {x : Int} (h : Full k ls L) (hx : 1 ≤ x ∧ x ≤ 1000) (hb : ls[j]? = some b) (hj : j < L.length) : Full (k + 1) (ls.set j (b ++ [x])) (L.set j (L[j] + x)) := by
  have hm := List.mem_of_getElem? hb
  refine ⟨?_, fun c hc => ?_⟩
  · rw [List.map_set, h.sums, sumL_append]
    congr 1
    have e : L[j]? = some (sumL b) := by rw [← h.sums, List.getElem?_map, hb]; rfl
    rw [List.getElem?_eq_getElem hj] at e
    rw [Option.some.inj e]
    simp [sumL]
  · rcases List.mem_or_eq_of_mem_set hc with e | e
    · have h1 := h.small c e
      exact ⟨by omega, h1.2⟩
    · subst e
      have h1 := h.small b hm
      refine ⟨by rw [List.length_append]; simp; omega, fun y hy => ?_⟩
      rcases List.mem_append.1 hy with e | e
      · exact h1.2 y e
      · simp at e; subst e; exact hx
/-- The numbers of the first k strips, then zeros. -/
def numN (W : Int) (l : List Int) (k : Nat) : List Int := nums W (l.take k) ++ List.replicate (l.length - k) 0
theorem numN_length (W : Int) (l : List Int) (k : Nat) (h : k ≤ l.length) : (numN W l k).length = l.length := by
  unfold numN
  rw [List.length_append, nums_length W l k h, List.length_replicate]; omega
theorem numN_zero (W : Int) (l : List Int) : numN W l 0 = List.replicate l.length 0 := by
  unfold numN
  show [] ++ _ = _
  simp
theorem numN_all (W : Int) (l : List Int) : numN W l l.length = nums W l := by unfold numN; simp
theorem numN_set (W : Int) (l : List Int) (k : Nat) (h : k < l.length) : (numN W l k).set k ((firstB W l[k] (loads W (l.take k)) : Nat) : Int) = numN W l (k + 1) := by
  unfold numN
  rw [List.set_append_right _ _ (by rw [nums_length W l k (by omega)]; exact Nat.le_refl _), nums_length W l k (by omega), Nat.sub_self, show l.length - k = (l.length - (k + 1)) + 1 from by omega, List.replicate_succ, List.set_cons_zero, nums_take W l k h, List.append_assoc]
  rfl
theorem ff_short (W : Int) (l : List Int) : (ffV W l).length ≤ 1000000 := by
  unfold ffV
  split
  · rename_i h
    have h1 := (rowsB_iff.1 h).2.1
    have h2 := nums_length W l l.length (Nat.le_refl _)
    rw [List.take_length] at h2
    omega
  · simp
end Go.Proofs.Ytfhpbgmnekhfeaa.Sheet
