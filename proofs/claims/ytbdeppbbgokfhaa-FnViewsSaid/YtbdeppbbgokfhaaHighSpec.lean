/- What the model of chapter 13 returns: FromHeights. -/
import Derived.Test.YtbdeppbbgokfhaaViewMath
import Derived.Test.YtbdeppbbgokfhaaIntRow
import Derived.Test.YtbdeppbbgokfhaaOrderSpec
import Derived.Test.YtbdeppbbgokfhaaStripMany
namespace Go.Proofs.Ytbdeppbbgokfhaa.View
open Go.ChangeShapes Go.WideShapes Go.ChangeAt Go.RowKit
open Go.Proofs.Ytbdeppbbgokfhaa.Strip Go.Proofs.Ytbdeppbbgokfhaa.Ints Go.Proofs.Ytbdeppbbgokfhaa.Kerf Go.Proofs.Ytbdeppbbgokfhaa.Order
set_option linter.unusedVariables false

/-- The steps as far as the k-th height; the height there; whether all is well so far. -/
def sP (d : Int) (hs : List Int) (k : Nat) : List UInt8 := descP d (hs.take k)
def hP1 (d : Int) (hs : List Int) (k : Nat) : Int := lastH d (hs.take k)
def okP (d : Int) (hs : List Int) (k : Nat) : Bool := fine d (hs.take k)
theorem okP_in {d : Int} {hs : List Int} {k : Nat} (hd : 1 ≤ d ∧ d ≤ 8) (hk : k ≤ hs.length) (hn : hs.length ≤ 8) (h : okP d hs k = true) : 0 ≤ hP1 d hs k ∧ hP1 d hs k ≤ 8 ∧ (sP d hs k).length ≤ 16 := by
  have h1 := lastH_in (u := d) (by omega) h
  have h2 := descP_size (u := d) (by omega) h
  rw [List.length_take] at h2
  unfold hP1 sP
  omega
theorem okP_bad {d : Int} {hs : List Int} {k : Nat} (h : okP d hs k = false) : fromH d hs = [] := by
  unfold fromH
  rw [fine_bad d hs k h]
  split <;> rfl
theorem okP_step (d : Int) (hs : List Int) (k : Nat) (h : k < hs.length) : okP d hs (k + 1) = (okP d hs k && decide (0 ≤ hs[k] ∧ hs[k] ≤ hP1 d hs k)) := by
  unfold okP hP1
  rw [List.take_succ_eq_append_getElem h, fine_snoc]
theorem hP1_step (d : Int) (hs : List Int) (k : Nat) (h : k < hs.length) : hP1 d hs (k + 1) = hs[k] := by
  unfold hP1
  rw [List.take_succ_eq_append_getElem h, lastH_snoc]
theorem sP_step (d : Int) (hs : List Int) (k : Nat) (h : k < hs.length) : sP d hs (k + 1) = sP d hs k ++ List.replicate (hP1 d hs k - hs[k]).toNat 100 ++ [102] := by
  unfold sP hP1
  rw [List.take_succ_eq_append_getElem h, descP_snoc]
theorem okP_all {d : Int} {hs : List Int} (hf : frameB d hs.length = true) (h : okP d hs hs.length = true) : fromH d hs = sP d hs hs.length ++ List.replicate (hP1 d hs hs.length).toNat 100 := by
  unfold okP at h
  unfold fromH sP hP1
  rw [List.take_length] at h ⊢
  rw [if_pos hf, if_pos h]
  rfl
theorem high_no {d : Int} {hs : List Int} (hf : frameB d hs.length = false) : fromH d hs = [] := by unfold fromH; rw [if_neg (by rw [hf]; simp)]

end Go.Proofs.Ytbdeppbbgokfhaa.View
