/- What the laws of chapter 16 have in common: a bridge of the laws' own type, toBridge, szBridge. -/
import Derived.Test.YthigiemgdejdhaaDoorBridge
import Derived.ProofKit
import Derived.OpenShut
import Derived.Lib.SmallJoins
namespace Go.Proofs.YthigiemgdejdhaaDoor.Tab
open Go.ChangeShapes Go.WideShapes Go.ChangeAt Go.RowKit Go.Joins
open Go.Proofs.YthigiemgdejdhaaDoor.Strip
set_option linter.unusedVariables false

/-- Block b is a variable that holds a bridge of the laws' own type. -/
def LBridge (w : World) (b : Nat) (p q : Int) (t : ByteArray) : Prop := w.heap[b]? = some (.cells #[.int .i64 p, .int .i64 q, .string t] 37 (0, 0))
theorem LBridge.new (w : World) (p q : Int) (t : ByteArray) : LBridge (w.alloc (.cells #[.int .i64 p, .int .i64 q, .string t] 37)) w.heap.size p q t := heap_alloc_new w _
theorem LBridge.lt {w : World} {b : Nat} {p q : Int} {t : ByteArray} (h : LBridge w b p q t) : b < w.heap.size := (Array.getElem?_eq_some_iff.1 h).1
theorem LBridge.below {w w' : World} {b : Nat} {p q : Int} {t : ByteArray} (h : LBridge w b p q t) (hb : Below w.heap.size w w') : LBridge w' b p q t := (hb.block b h.lt).trans h
theorem LBridge.cells {w : World} {b : Nat} {p q : Int} {t : ByteArray} (h : LBridge w b p q t) : w.cell? ⟨b, 0, none⟩ = some (.int .i64 p) ∧ w.cell? ⟨b, 1, none⟩ = some (.int .i64 q) ∧ w.cell? ⟨b, 2, none⟩ = some (.string t) := by
  unfold LBridge at h
  simp [World.cell?, h]

set_option maxRecDepth 100000 in
theorem to_bridge (p q : Int) (t : ByteArray) (w : World) : Calls Tryd.prog 23 #[.agg #[.int .i64 p, .int .i64 q, .string t]] w fun e w' => e = .returned (.agg #[.int .i64 p, .int .i64 q, .string t]) ∧ Below w.heap.size w w' := by
  go_enter Tryd.func23, Tryd.ntmps23
  go_wp2_with fail
  refine bodyPost_ret (v := .agg #[.int .i64 p, .int .i64 q, .string t]) (by simp [results, Tryd.results23, go_sem]) rfl ⟨rfl, ?_⟩
  exact (((Below.refl _ _).alloc (Nat.le_refl _) _).alloc (by simp) _).alloc (by simp; omega) _
/-- What szBridge leaves of a million letters. -/
def leftV (n : Nat) : Int := if n ≤ 1048576 then 1048576 - (n : Int) else -1
set_option maxRecDepth 100000 in
theorem sz_bridge (p q : Int) (t : ByteArray) (w : World) (ht : t.size ≤ maxLen) : Calls Tryd.prog 22 #[.agg #[.int .i64 p, .int .i64 q, .string t], .int .i64 1048576] w fun e w' => e = .returned (.int .i64 (leftV t.size)) ∧ Below w.heap.size w w' := by
  unfold maxLen at ht
  unfold leftV
  by_cases h : t.size ≤ 1048576
  · have h1 : ¬ (1048576 - (t.size : Int) < 0) := by omega
    rw [if_pos h]
    go_enter Tryd.func22, Tryd.ntmps22
    go_wp2
    go_ret
    exact ⟨rfl, (Below.refl _ _).alloc (Nat.le_refl _) _⟩
  · have h1 : 1048576 - (t.size : Int) < 0 := by omega
    rw [if_neg h]
    go_enter Tryd.func22, Tryd.ntmps22
    go_wp2
    go_ret
    exact ⟨rfl, (Below.refl _ _).alloc (Nat.le_refl _) _⟩

theorem lawBridge_cells : Tryd.prog.cellsOf 37 = 3 := by kernel_rfl

set_option maxRecDepth 100000 in
theorem open_bridge {H : Type} {enc : TypeId × Value → H} {W : World} {r : Reach} {b0 : Nat} {spare : Nat → Bool} {held : Bool} {v : Value} {d : DataW H} {ps : List MemPlace}
    (hv : Value.okWide Tryd.prog W r b0 37 v) (h : DataW.Trod enc Tryd.prog W 0 spare held 37 v d ps) :
    ∃ (p q : Int) (t : ByteArray), v = .agg #[.int .i64 p, .int .i64 q, .string t] ∧ (Lit.int .i64 p).wf = true ∧ (Lit.int .i64 q).wf = true ∧ t.size ≤ maxLen := by
  obtain ⟨c0, c1, c2, y0, y1, y2, m, rfl, _, _, h0, h1, h2⟩ := open_agg3 Tryd.underlying37 (by kernel_rfl) lawBridge_cells hv h
  obtain ⟨p, e0, _, w0⟩ := DataW.trod_int Tryd.underlying3 h0
  obtain ⟨q, e1, _, w1⟩ := DataW.trod_int Tryd.underlying3 h1
  obtain ⟨t, e2, _, w2⟩ := DataW.trod_string Tryd.underlying9 h2
  simp at e0 e1 e2
  subst e0 e1 e2
  exact ⟨p, q, t, rfl, by first | exact w0 | exact w0.2 | exact w0.1, by first | exact w1 | exact w1.2 | exact w1.1, w2⟩
theorem i64_in {n : Int} (h : (Lit.int .i64 n).wf = true) : -9223372036854775808 ≤ n ∧ n ≤ 9223372036854775807 := by
  simp [Lit.wf, IntKind.min, IntKind.max, IntKind.signed, IntKind.bits] at h
  omega
end Go.Proofs.YthigiemgdejdhaaDoor.Tab
