/- What the model's SameCard returns. -/
import Derived.Test.YtekmladindlmoaaCardOk
namespace Go.Proofs.Ytekmladindlmoaa.Card
open Go.ChangeShapes Go.WideShapes Go.ChangeAt Go.RowKit
open Go.Proofs.Ytekmladindlmoaa.Strip Go.Proofs.Ytekmladindlmoaa.Strs
set_option linter.unusedVariables false

/-- Two cards are equal. -/
def sameC (d f : Int) (l : List ByteArray) (d2 f2 : Int) (l2 : List ByteArray) : Bool := decide (d = d2 ∧ f = f2 ∧ l = l2)

theorem same_no {d f d2 f2 : Int} {l l2 : List ByteArray} (h : ¬ (d = d2 ∧ f = f2 ∧ l = l2)) : sameC d f l d2 f2 l2 = false := decide_eq_false h
theorem same_self (d f : Int) (l : List ByteArray) : sameC d f l d f l = true := decide_eq_true ⟨rfl, rfl, rfl⟩

/-- The two blocks with which a function of two cards begins. -/
theorem beginTwo (w : World) (d f d2 f2 : Int) (v v2 : Value) : ∃ W, W = (w.alloc (.cells #[.int .i64 d, .int .i64 f, v] 26)).alloc (.cells #[.int .i64 d2, .int .i64 f2, v2] 26) ∧ Var W w.heap.size d f v ∧ Var W (w.heap.size + 1) d2 f2 v2 ∧ Below w.heap.size w W ∧ W.heap.size = w.heap.size + 1 + 1 := by
  refine ⟨_, rfl, (Var.new w d f v).below (alloc_below _ _), ?_, ((Below.refl _ _).alloc (Nat.le_refl _) _).alloc (by simp) _, by simp⟩
  have h := Var.new (w.alloc (.cells #[.int .i64 d, .int .i64 f, v] 26)) d2 f2 v2
  rwa [show (w.alloc (.cells #[.int .i64 d, .int .i64 f, v] 26)).heap.size = w.heap.size + 1 by simp] at h

theorem str_ne {x y : ByteArray} (h : ¬ x = y) : (x.toList == y.toList) = false := by
  rw [beq_eq_false_iff_ne, Go.ByteArray.toList_eq, Go.ByteArray.toList_eq]
  intro e
  apply h
  apply ByteArray.ext
  exact Array.toList_inj.1 e
theorem take_eq_succ {l m : List ByteArray} {k : Nat} (hl : k < l.length) (hm : k < m.length) (h : l.take k = m.take k) (he : l[k] = m[k]) : l.take (k + 1) = m.take (k + 1) := by
  rw [List.take_succ_eq_append_getElem hl, List.take_succ_eq_append_getElem hm, h, he]

end Go.Proofs.Ytekmladindlmoaa.Card
