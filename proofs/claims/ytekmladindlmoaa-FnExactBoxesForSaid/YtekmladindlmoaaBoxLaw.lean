/- What the laws of chapter 11 have in common: a box of the laws' own type, toBox, eqBox. -/
import Derived.Test.YtekmladindlmoaaBoxVar
import Derived.Test.YtekmladindlmoaaCardOkLaw
import Derived.Test.YtekmladindlmoaaCardArg
namespace Go.Proofs.Ytekmladindlmoaa.Box
open Go.ChangeShapes Go.WideShapes Go.ChangeAt Go.RowKit Go.Sort Go.Joins
open Go.Proofs.Ytekmladindlmoaa.Strip Go.Proofs.Ytekmladindlmoaa.Strs Go.Proofs.Ytekmladindlmoaa.Card
set_option linter.unusedVariables false

/-- Block b is a variable that holds a box of the laws' own type. -/
def LBox (w : World) (b : Nat) (x y : Int) (v : Value) : Prop := w.heap[b]? = some (.cells #[.int .i64 x, .int .i64 y, v] 46 (0, 0))
theorem LBox.new (w : World) (x y : Int) (v : Value) : LBox (w.alloc (.cells #[.int .i64 x, .int .i64 y, v] 46)) w.heap.size x y v := heap_alloc_new w _
theorem LBox.lt {w : World} {b : Nat} {x y : Int} {v : Value} (h : LBox w b x y v) : b < w.heap.size := (Array.getElem?_eq_some_iff.1 h).1
theorem LBox.below {w w' : World} {b : Nat} {x y : Int} {v : Value} (h : LBox w b x y v) (hb : Below w.heap.size w w') : LBox w' b x y v := (hb.block b h.lt).trans h
theorem LBox.mark {w w' : World} {b : Nat} {x y : Int} {v v2 : Value} (h : LBox w b x y v) (hg : w.grownBy w' v2.ownBlock) (hne : ∀ k, v2.ownBlock = some k → b ≠ k) : LBox w' b x y v :=
  (hg.block b h.lt (fun e => hne b e.symm rfl)).trans h
theorem LBox.cells {w : World} {b : Nat} {x y : Int} {v : Value} (h : LBox w b x y v) : w.cell? ⟨b, 0, none⟩ = some (.int .i64 x) ∧ w.cell? ⟨b, 1, none⟩ = some (.int .i64 y) ∧ w.cell? ⟨b, 2, none⟩ = some v := by
  unfold LBox at h
  simp [World.cell?, h]

set_option maxRecDepth 100000 in
theorem to_box (x y z : Int) (w : World) : Calls Try.prog 26 #[.agg #[.int .i64 x, .int .i64 y, .int .i64 z]] w fun e w' => e = .returned (.agg #[.int .i64 x, .int .i64 y, .int .i64 z]) ∧ Below w.heap.size w w' := by
  go_enter Try.func26, Try.ntmps26
  go_wp2_with fail
  refine bodyPost_ret (v := .agg #[.int .i64 x, .int .i64 y, .int .i64 z]) (by simp [results, Try.results26, go_sem]) rfl ⟨rfl, ?_⟩
  exact (((Below.refl _ _).alloc (Nat.le_refl _) _).alloc (by simp) _).alloc (by simp; omega) _
set_option maxRecDepth 100000 in
theorem eq_box (x y z : Int) (w : World) : Calls Try.prog 40 #[.agg #[.int .i64 x, .int .i64 y, .int .i64 z], .agg #[.int .i64 x, .int .i64 y, .int .i64 z]] w fun e w' => e = .returned (.bool true) ∧ Below w.heap.size w w' := by
  have h1 : (x != x) = false := by simp
  have h2 : (y != y) = false := by simp
  have h3 : (z != z) = false := by simp
  go_enter Try.func40, Try.ntmps40
  go_wp2
  go_ret
  exact ⟨rfl, ((Below.refl _ _).alloc (Nat.le_refl _) _).alloc (by simp) _⟩

theorem i64_bounds {n : Int} (h : (Lit.int .i64 n).wf = true) : -9223372036854775808 ≤ n ∧ n ≤ 9223372036854775807 := by
  simp [Lit.wf, IntKind.min, IntKind.max, IntKind.signed, IntKind.bits] at h
  omega

theorem lawBox_cells : Try.prog.cellsOf 46 = 3 := by kernel_rfl

set_option maxRecDepth 100000 in
theorem open_box {H : Type} {enc : TypeId × Value → H} {W : World} {r : Reach} {b0 : Nat} {spare : Nat → Bool} {held : Bool} {v : Value} {d : DataW H} {p : List MemPlace}
    (hv : Value.okWide Try.prog W r b0 46 v) (h : DataW.Trod enc Try.prog W 0 spare held 46 v d p) :
    ∃ x y z : Int, v = .agg #[.int .i64 x, .int .i64 y, .int .i64 z] ∧ (Lit.int .i64 x).wf = true ∧ (Lit.int .i64 y).wf = true ∧ (Lit.int .i64 z).wf = true := by
  obtain ⟨c0, c1, c2, y0, y1, y2, m, rfl, _, _, h0, h1, h2⟩ := open_agg3 Try.underlying46 (by kernel_rfl) lawBox_cells hv h
  obtain ⟨x, e0, _, w0⟩ := DataW.trod_int Try.underlying3 h0
  obtain ⟨y, e1, _, w1⟩ := DataW.trod_int Try.underlying3 h1
  obtain ⟨z, e2, _, w2⟩ := DataW.trod_int Try.underlying3 h2
  simp at e0 e1 e2
  subst e0 e1 e2
  exact ⟨x, y, z, rfl, by first | exact w0 | exact w0.2 | exact w0.1, by first | exact w1 | exact w1.2 | exact w1.1, by first | exact w2 | exact w2.2 | exact w2.1⟩
end Go.Proofs.Ytekmladindlmoaa.Box
