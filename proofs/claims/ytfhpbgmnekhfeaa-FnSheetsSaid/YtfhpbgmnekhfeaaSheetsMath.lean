/- Chapter 19, pure: what the property asks of the bands. -/
import Derived.Test.YtfhpbgmnekhfeaaFitFull
namespace Go.Proofs.Ytfhpbgmnekhfeaa.Sheet
open Go.Proofs.Ytfhpbgmnekhfeaa.Order
set_option linter.unusedVariables false

theorem nums_at (W : Int) (l : List Int) (k : Nat) (hk : k < l.length) : ∀ m, k < m → m ≤ l.length → (nums W (l.take m))[k]? = some ((firstB W l[k] (loads W (l.take k)) : Nat) : Int)
  | 0, h, _ => by omega
  | m + 1, h, hm => by
    rw [nums_take W l m (by omega)]
    have hl := nums_length W l m (by omega)
    by_cases e : k = m
    · subst e
      rw [List.getElem?_append_right (by omega), hl, Nat.sub_self]
      rfl
    · rw [List.getElem?_append_left (by omega)]
      exact nums_at W l k hk m (by omega) (by omega)
theorem nums_get (W : Int) (l : List Int) (k : Nat) (hk : k < l.length) : (nums W l)[k]? = some ((firstB W l[k] (loads W (l.take k)) : Nat) : Int) := by
  have h := nums_at W l k hk l.length hk (Nat.le_refl _)
  rwa [List.take_length] at h

/-- The loads, then zeros. -/
def padL (K : Nat) (L : List Int) : List Int := L ++ List.replicate (K - L.length) 0
theorem padL_length {K : Nat} {L : List Int} (h : L.length ≤ K) : (padL K L).length = K := by unfold padL; simp; omega
theorem padL_nil (K : Nat) : padL K [] = List.replicate K 0 := by unfold padL; simp
theorem padL_get {K : Nat} {L : List Int} {j : Nat} (h : j < L.length) : (padL K L)[j]? = some L[j] := by
  unfold padL
  rw [List.getElem?_append_left h, List.getElem?_eq_getElem h]
/-- A strip is added to its band. -/
theorem pad_step {W x : Int} {K J : Nat} {L : List Int} (hJ : firstB W x L = J) (hK : L.length < K) :
    ∃ y, (padL K L)[J]? = some y ∧ (padL K L).set J (y + x) = padL K (stepB W x L) ∧ ((∃ z ∈ L, y = z) ∨ y = 0) := by
  have hle := first_le W x L
  rw [hJ] at hle
  by_cases h : J < L.length
  · refine ⟨L[J], padL_get h, ?_, .inl ⟨_, List.getElem_mem h, rfl⟩⟩
    subst hJ
    rw [step_in h]
    unfold padL
    rw [List.set_append_left _ _ h, List.length_set]
  · have e : J = L.length := by omega
    have hn : ¬ firstB W x L < L.length := by omega
    rw [step_new hn]
    unfold padL
    obtain ⟨z, hz⟩ : ∃ z, K - L.length = z + 1 := ⟨K - L.length - 1, by omega⟩
    refine ⟨0, ?_, ?_, .inr rfl⟩
    · rw [e, List.getElem?_append_right (Nat.le_refl _), Nat.sub_self, hz, List.replicate_succ]; rfl
    · rw [e, List.set_append_right _ _ (Nat.le_refl _), Nat.sub_self, hz, List.replicate_succ, List.set_cons_zero, List.length_append, List.append_assoc]
      simp only [List.length_cons, List.length_nil, Int.zero_add]
      rw [show K - (L.length + (0 + 1)) = z from by omega]
      rfl
/-- The number of the last band behind one more strip. -/
theorem most_step {W x : Int} {J : Nat} {L : List Int} (hJ : firstB W x L = J) : (if (L.length : Int) - 1 < (J : Int) then (J : Int) else (L.length : Int) - 1) = ((stepB W x L).length : Int) - 1 := by
  have hle := first_le W x L
  rw [hJ] at hle
  by_cases h : J < L.length
  · rw [step_in (by rw [hJ]; exact h), List.length_set, if_neg (by omega)]
  · rw [step_new (by rw [hJ]; exact h), List.length_append, if_pos (by omega)]
    simp only [List.length_cons, List.length_nil]
    omega
end Go.Proofs.Ytfhpbgmnekhfeaa.Sheet
