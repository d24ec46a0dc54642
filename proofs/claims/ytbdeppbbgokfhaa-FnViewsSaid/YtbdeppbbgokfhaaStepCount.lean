/- What CountSteps returns: the model's. -/
import Derived.Test.YtbdeppbbgokfhaaViewTopSpec
namespace Go.Proofs.Ytbdeppbbgokfhaa.View
open Go.ChangeShapes Go.WideShapes Go.ChangeAt Go.RowKit
open Go.Proofs.Ytbdeppbbgokfhaa.Strip Go.Proofs.Ytbdeppbbgokfhaa.Ints Go.Proofs.Ytbdeppbbgokfhaa.Corner Go.Proofs.Ytbdeppbbgokfhaa.Strs Go.Proofs.Ytbdeppbbgokfhaa.Card Go.Proofs.Ytbdeppbbgokfhaa.Kerf Go.Proofs.Ytbdeppbbgokfhaa.Order
set_option linter.unusedVariables false

/-- The heights of strip i. -/
def rowAt (l : List ByteArray) (i : Nat) : List Int := htsL (l.getD i ⟨#[]⟩).data.toList
theorem rowAt_in {l : List ByteArray} {i : Nat} (h : i < l.length) : rowAt l i = htsL l[i].data.toList := by unfold rowAt; simp [List.getD, h]
/-- At how many squares strips i and i + 1 differ; the same of all pairs as far as the k-th. -/
def stC (f : Int) (l : List ByteArray) (i : Nat) : Int := difN (rowAt l i) (rowAt l (i + 1)) f.toNat
def stT (f : Int) (l : List ByteArray) (k : Nat) : Int := sumN k (stC f l)
/-- What CountSteps returns. -/
def csV (d f : Int) (l : List ByteArray) : Int := if cardB d f l = true then stT f l (l.length - 1) else -1
theorem stT_succ (f : Int) (l : List ByteArray) (k : Nat) : stT f l (k + 1) = stT f l k + difN (rowAt l k) (rowAt l (k + 1)) f.toNat := rfl
theorem stT_in (f : Int) (hf : f ≤ 8) (l : List ByteArray) (k : Nat) : 0 ≤ stT f l k ∧ stT f l k ≤ 8 * k := by
  induction k with
  | zero => exact ⟨Int.le_refl _, Int.le_refl _⟩
  | succ k ih =>
    have h := difN_in (rowAt l k) (rowAt l (k + 1)) f.toNat
    rw [stT_succ]
    omega
theorem card_frame {d f : Int} {l : List ByteArray} (h : cardB d f l = true) : 1 ≤ d ∧ d ≤ 8 ∧ 1 ≤ f ∧ f ≤ 8 := by
  have := (cardB_iff.1 h).1
  unfold frameB at this
  exact of_decide_eq_true this
theorem card_cnt {d f : Int} {l : List ByteArray} (h : cardB d f l = true) (s : ByteArray) (hs : s ∈ l) : (cnt 100 s.data.toList : Int) = d ∧ (cnt 102 s.data.toList : Int) = f := by
  have h1 := (cardB_iff.1 h).2.2.2 s hs
  have h2 := card_strip h s hs
  unfold goodB at h1
  rw [decide_eq_true_eq] at h1
  unfold numV at h1
  rw [h2] at h1
  exact h1
theorem card_row {d f : Int} {l : List ByteArray} (h : cardB d f l = true) (s : ByteArray) (hs : s ∈ l) : (htsL s.data.toList).length = f.toNat := by
  rw [htsL_length (card_strip h s hs)]
  have := (card_cnt h s hs).2
  omega
theorem card_deep {d f : Int} {l : List ByteArray} (h : cardB d f l = true) (s : ByteArray) (hs : s ∈ l) : (dpsL s.data.toList).length = d.toNat := by
  rw [dpsL_length (card_strip h s hs)]
  have := (card_cnt h s hs).1
  omega
theorem difN_next (a b : List Int) (t : Nat) (ha : t < a.length) (hb : t < b.length) : difN a b (t + 1) = difN a b t + (if a[t] = b[t] then 0 else 1) := by
  rw [difN_succ]
  simp [List.getD, ha, hb]

end Go.Proofs.Ytbdeppbbgokfhaa.View
