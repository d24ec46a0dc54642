/- When all moves of a round are zero: what '==' says of two arrays of eight ints. -/
import Derived.Test.YtmjknjgfcngacaaSlideArr8
import Derived.ChangeKeysEq
import Derived.Laws.StructEq
namespace Go.Proofs.Ytmjknjgfcngacaa.Slide
open Go.ChangeShapes Go.WideShapes Go.ChangeAt Go.RowKit Go.Sort
set_option linter.unusedVariables false

def restB (mm : Moves) : Bool := (List.range 8).all fun i => decide (mm i = 0)
theorem restB_iff {mm : Moves} : restB mm = true ↔ ∀ i, i < 8 → mm i = 0 := by
  unfold restB
  rw [List.all_eq_true]
  constructor
  · intro h i hi; simpa using h i (List.mem_range.2 hi)
  · intro h i hi; simpa using h i (List.mem_range.1 hi)
theorem restB_no {mm : Moves} (h : restB mm = false) : ∃ i, i < 8 ∧ mm i ≠ 0 := by
  unfold restB at h
  rw [List.all_eq_false] at h
  obtain ⟨i, hi, h2⟩ := h
  exact ⟨i, List.mem_range.1 hi, by simpa using h2⟩
theorem items_int (d : Nat) (xs ys : Array Value) (i : Nat) (is : List Nat) (a b : Int) (w : World) (hx : xs[i]? = some (.int .i64 a)) (hy : ys[i]? = some (.int .i64 b)) :
    (Op.eqItems (d + 1) 3 1 xs ys (i :: is)).run Try.prog w = if a = b then (Op.eqItems (d + 1) 3 1 xs ys is).run Try.prog w else .ok false w := by
  have u3 := Try.underlying3
  simp only [Op.eqItems, Nat.mul_one]
  go_simp
theorem eq_shifts (mm : Moves) (w : World) :
    (Op.equalIn 10000 69 (.agg #[.int .i64 (mm 0), .int .i64 (mm 1), .int .i64 (mm 2), .int .i64 (mm 3), .int .i64 (mm 4), .int .i64 (mm 5), .int .i64 (mm 6), .int .i64 (mm 7)]) (.agg #[.int .i64 0, .int .i64 0, .int .i64 0, .int .i64 0, .int .i64 0, .int .i64 0, .int .i64 0, .int .i64 0])).run Try.prog w = .ok (restB mm) w := by
  obtain ⟨i0, hi⟩ : ∃ i, Try.prog.info? 3 = some i := Option.isSome_iff_exists.1 (by kernel_rfl)
  rw [show (10000 : Nat) = 9999 + 1 from rfl, run_equalIn_array w 9999 _ _ Try.underlying69 hi]
  rw [show Try.prog.cellsOf 3 = 1 by kernel_rfl]
  show (Op.eqItems (9998 + 1) 3 1 _ _ [0, 1, 2, 3, 4, 5, 6, 7]).run _ w = _
  rw [items_int 9998 _ _ 0 _ (mm 0) 0 w rfl rfl, items_int 9998 _ _ 1 _ (mm 1) 0 w rfl rfl, items_int 9998 _ _ 2 _ (mm 2) 0 w rfl rfl, items_int 9998 _ _ 3 _ (mm 3) 0 w rfl rfl, items_int 9998 _ _ 4 _ (mm 4) 0 w rfl rfl, items_int 9998 _ _ 5 _ (mm 5) 0 w rfl rfl, items_int 9998 _ _ 6 _ (mm 6) 0 w rfl rfl, items_int 9998 _ _ 7 _ (mm 7) 0 w rfl rfl]
  cases hb : restB mm with
  | true =>
    have h := restB_iff.1 hb
    rw [if_pos (h 0 (by omega)), if_pos (h 1 (by omega)), if_pos (h 2 (by omega)), if_pos (h 3 (by omega)), if_pos (h 4 (by omega)), if_pos (h 5 (by omega)), if_pos (h 6 (by omega)), if_pos (h 7 (by omega))]
    rfl
  | false =>
    obtain ⟨i, hi, hne⟩ := restB_no hb
    have h : i = 0 ∨ i = 1 ∨ i = 2 ∨ i = 3 ∨ i = 4 ∨ i = 5 ∨ i = 6 ∨ i = 7 := by omega
    rcases h with rfl | rfl | rfl | rfl | rfl | rfl | rfl | rfl <;> rw [if_neg hne] <;> (repeat' split) <;> rfl
end Go.Proofs.Ytmjknjgfcngacaa.Slide
