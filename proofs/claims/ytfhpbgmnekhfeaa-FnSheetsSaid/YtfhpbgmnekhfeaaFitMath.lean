/- Chapter 19, pure: what is left in the bands behind the first strips. -/
import Derived.Test.YtfhpbgmnekhfeaaSheetMath
namespace Go.Proofs.Ytfhpbgmnekhfeaa.Sheet
open Go.Proofs.Ytfhpbgmnekhfeaa.Order
set_option linter.unusedVariables false

/-- .. of the strips so far. -/
theorem loads_pre {W : Int} {l : List Int} {k : Nat} (hk : k ≤ l.length) (h : ∀ x ∈ l.take k, 1 ≤ x ∧ x ≤ W) : Loads W k (sumL (l.take k)) (loads W (l.take k)) := by
  have h1 := loads_in h k (by rw [List.length_take]; omega)
  rwa [List.take_take, Nat.min_self] at h1
/-- What is left in the bands. -/
def lefts (W : Int) (l : List Int) : List Int := (loads W l).map (fun y => W - y)
theorem lefts_length (W : Int) (l : List Int) : (lefts W l).length = (loads W l).length := by unfold lefts; simp
theorem lefts_get {W : Int} {l : List Int} {j : Nat} (h : j < (loads W l).length) (h2 : j < (lefts W l).length) : (lefts W l)[j] = W - (loads W l)[j] := List.getElem_map _
theorem lefts_in {W : Int} {l : List Int} {k J : Nat} (hk : k < l.length) (hJ : firstB W l[k] (loads W (l.take k)) = J) (hl : J < (loads W (l.take k)).length) :
    (lefts W (l.take k)).set J (W - (loads W (l.take k))[J] - l[k]) = lefts W (l.take (k + 1)) := by
  subst hJ
  unfold lefts
  rw [loads_take W l k hk, step_in hl, List.map_set]
  congr 1
  omega
theorem lefts_new {W : Int} {l : List Int} {k : Nat} (hk : k < l.length) (hl : ¬ firstB W l[k] (loads W (l.take k)) < (loads W (l.take k)).length) :
    (lefts W (l.take k) ++ [W]).set (loads W (l.take k)).length (W - l[k]) = lefts W (l.take (k + 1)) := by
  unfold lefts
  rw [loads_take W l k hk, step_new hl, List.set_append_right _ _ (by simp), List.map_append]
  simp
theorem rowsB_bad {W : Int} {l : List Int} (k : Nat) (hk : k < l.length) (h : ¬ (1 ≤ l[k] ∧ l[k] ≤ W)) : ffV W l = [] := by
  unfold ffV
  rw [if_neg]
  rw [rowsB_iff]
  exact fun e => h (e.2.2 _ (List.getElem_mem hk))
theorem rowsB_frame {W : Int} {l : List Int} (h : ¬ ((1 ≤ W ∧ W ≤ 1000) ∧ l.length ≤ 30)) : ffV W l = [] := by
  unfold ffV
  rw [if_neg]
  rw [rowsB_iff]
  exact fun e => h ⟨e.1, e.2.1⟩
theorem rowsB_good {W : Int} {l : List Int} (h : (1 ≤ W ∧ W ≤ 1000) ∧ l.length ≤ 30) (ha : ∀ x ∈ l, 1 ≤ x ∧ x ≤ W) : ffV W l = nums W l := by
  unfold ffV
  rw [if_pos (rowsB_iff.2 ⟨h.1, h.2, ha⟩)]
/-- One more strip: its band, what is left behind it, the numbers. -/
structure Spot (W x : Int) (J : Nat) (L L2 S S2 : List Int) : Prop where
  le : J ≤ L.length
  few : L.length ≤ 30
  bad : ∀ j (h : j < L.length), j < J → L[j] < x
  fit : ∀ h : J < L.length, x ≤ L[J]
  rng : ∀ j (h : j < L.length), 0 ≤ L[j] ∧ L[j] ≤ 1000
  inn : ∀ h : J < L.length, L.set J (L[J] - x) = L2
  new : J = L.length → (L ++ [W]).set J (W - x) = L2
  num : S2 = S ++ [(J : Int)]
theorem spot_of {W : Int} {l : List Int} {k : Nat} (hW : 1 ≤ W ∧ W ≤ 1000) (hk : k < l.length) (h30 : l.length ≤ 30) (hA : ∀ x ∈ l.take k, 1 ≤ x ∧ x ≤ W) :
    ∃ J, Spot W l[k] J (lefts W (l.take k)) (lefts W (l.take (k + 1))) (nums W (l.take k)) (nums W (l.take (k + 1))) := by
  have h := loads_pre (W := W) (by omega) hA
  have hlen := lefts_length W (l.take k)
  refine ⟨firstB W l[k] (loads W (l.take k)), ⟨by rw [hlen]; exact first_le _ _ _, by rw [hlen]; have := h.few; omega, fun j hj hJ => ?_, fun hJ => ?_, fun j hj => ?_, fun hJ => ?_, fun hJ => ?_, nums_take W l k hk⟩⟩
  · rw [lefts_get (by omega) hj]
    have := first_full (W := W) (x := l[k]) (loads W (l.take k)) j (by omega) hJ
    omega
  · rw [lefts_get (by omega) hJ]
    have := first_fits (W := W) (x := l[k]) (loads W (l.take k)) (by omega)
    omega
  · rw [lefts_get (by omega) hj]
    have := h.low _ (List.getElem_mem (show j < (loads W (l.take k)).length by omega))
    omega
  · rw [lefts_get (by omega) hJ]
    exact lefts_in hk rfl (by omega)
  · have e := lefts_new (W := W) hk (by omega)
    rw [hJ, hlen]
    exact e
end Go.Proofs.Ytfhpbgmnekhfeaa.Sheet
