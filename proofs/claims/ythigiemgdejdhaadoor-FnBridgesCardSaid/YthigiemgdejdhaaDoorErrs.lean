/- The sentinel of chapter 16 (impl.errMisfit): what the row's condition gives of it, also in later worlds; errors.Is of it and of nil. -/
import Derived.Test.YthigiemgdejdhaaDoorRows
import Derived.WalkKit
import Derived.ProofKit
import Derived.LaidEql
import Derived.Stop.LaidErr
import Derived.LaidMore
import Derived.MakeChecks
import Derived.OpenShut
import Derived.Below
import Derived.WalkSmall
import Derived.RowKitTokens
import Derived.Lib.Hide
namespace Go.Proofs.YthigiemgdejdhaaDoor.Errs
open Go.ChangeShapes Go.WideShapes Go.ChangeAt Go.RowKit
set_option linter.unusedVariables false

theorem gErr : Tryd.prog.globalNamed "loop.example/g03305/impl.errMisfit" = some 0 := by kernel_rfl
theorem gErrT : (Tryd.prog.globals[0]?).map (·.type) = some 46 := by kernel_rfl
theorem starred : "*" ++ "errors.errorString" = "*errors.errorString" := by decide
theorem only_errorString (u : TypeId) (h : Tryd.prog.typeName? 3 u = some "*errors.errorString") : u = 95 :=
  typeName_ptr_named (nm := "errors.errorString") (by rw [starred]; kernel_rfl) (by kernel_rfl) (by decide) u (by rw [starred]; exact h)

/-- The value of a pointer to an error of errors.New's make. -/
abbrev errV (a : Addr) : Value := .iface 95 (.pointer (some a))
/-- errMisfit points to a. -/
def Sent (w : World) (a : Addr) : Prop := w.var? Tryd.prog "loop.example/g03305/impl.errMisfit" = some #[errV a]
theorem Sent.cell {w : World} {a : Addr} (h : Sent w a) : w.cell? ⟨0, 0, none⟩ = some (errV a) := by simpa using World.var?_cell gErr h 0
theorem Sent.lt {w : World} {a : Addr} (h : Sent w a) : 0 < w.heap.size := World.block_lt_of_cell? _ _ h.cell
theorem Sent.below {w w' : World} {a : Addr} (h : Sent w a) (hb : Below w.heap.size w w') : Sent w' a := var?_below hb gErr h.lt h
theorem Sent.since {w w' : World} {a : Addr} {B : Nat} (h : Sent w a) (hb : Below B w w') (hB : w.heap.size ≤ B) : Sent w' a := var?_below hb gErr (Nat.lt_of_lt_of_le h.lt hB) h
theorem sent_of {r : List (String × DataW Unit)} {w : World} (h : laidMet Tryd.prog (("loop.example/g03305/impl.errMisfit", Rows.laid_loop_example_g03305_impl_errMisfit) :: r) w) : ∃ a, Sent w a := by
  obtain ⟨a, s, hv, _⟩ := laid_sentinel h gErr gErrT Tryd.underlying46 only_errorString Tryd.underlying95 Tryd.underlying120 rfl rfl Tryd.underlying9 (by kernel_rfl) (by kernel_rfl)
  exact ⟨a, hv⟩
/-- It reads as one token, in every world that holds it so. -/
theorem sent_read {H : Type} (enc : TypeId × Value → H) {w : World} {a : Addr} (h : Sent w a) (sp : Nat → Bool) :
    DataW.TrodVars enc Tryd.prog w sp ["loop.example/g03305/impl.errMisfit"] [tok enc (errV a)] [.cell 0 0] :=
  vars_read1 enc gErr gErrT Tryd.underlying46 h trivial sp

set_option maxRecDepth 100000 in
/-- Of nil. -/
theorem is_none (a : Addr) (w : World) :
    Calls Tryd.prog 31 #[.nilIface, errV a] w fun e w' => e = .returned (.bool false) ∧ w = w' := by
  have hn := run_eql_iface_nil_left (P := Tryd.prog) w 95 (.pointer (some a)) Tryd.underlying46
  go_enter Tryd.func31, Tryd.ntmps31
  go_wp2
  go_ret
  exact ⟨rfl, rfl⟩

set_option maxRecDepth 100000 in
/-- The type of such an error, as reflectlite tells it: comparable. -/
theorem type_told : ∃ t : Value, (∀ (v : Value) (w : World), (callFunc 51 #[.iface 95 v]).run Tryd.prog w = .ok (.value (.iface 76 t)) w) ∧
    (∀ (n : Nat) (w : World), (Go.method (n + 1) 76 t "Comparable").run Tryd.prog w = .ok (94, t) w) ∧
    ∀ w : World, (callFunc 94 #[t]).run Tryd.prog w = .ok (.value (.bool true)) w :=
  ⟨.agg #[.pointer (some ⟨Tryd.prog.globals.size, 95, none⟩)], fun _ _ => by kernel_rfl, fun _ _ => by kernel_rfl, fun _ => by kernel_rfl⟩
set_option maxRecDepth 100000 in
/-- The search through what an error wraps ends at once, where it begins at the error that is sought. -/
theorem found_first (a : Addr) (w : World) :
    Calls Tryd.prog 52 #[.iface 95 (.pointer (some a)), .iface 95 (.pointer (some a)), .bool true] w fun e w' => e = .returned (.bool true) ∧ w = w' := by
  have c1 : (Tryd.prog.info? 95).map (·.comparable) = some true := by kernel_rfl
  have c2 : ((Tryd.prog.info? 120).map fun _ => ()) = some () := by kernel_rfl
  obtain ⟨i, hi, hc⟩ := Option.map_eq_some_iff.1 c1
  obtain ⟨j, hj, _⟩ := Option.map_eq_some_iff.1 c2
  have same := run_eql_iface_ptr_same (P := Tryd.prog) w a Tryd.underlying46 Tryd.underlying95 hi hc hj
  clear c1 c2 hi hc hj
  go_enter Tryd.func52, Tryd.ntmps52
  go_wp2_with fail
  refine wp_loop_rounds 1 ?_
  rw [rounds_succ]
  go_wp2
  go_ret
  exact ⟨rfl, rfl⟩

set_option maxRecDepth 100000 in
/-- Of itself. -/
theorem is_self (a : Addr) (w : World) :
    Calls Tryd.prog 31 #[errV a, errV a] w fun e w' => e = .returned (.bool true) ∧ w = w' := by
  have HT := Lib.hid type_told
  show Calls Tryd.prog 31 #[.iface 95 (.pointer (some a)), .iface 95 (.pointer (some a))] w _
  go_enter Tryd.func31, Tryd.ntmps31
  go_wp2_with fail
  obtain ⟨t, h1, h2, h3⟩ := HT.out
  rw [h1]
  go_wp2_with fail
  refine (found_first a w).mono ?_
  rintro e w' ⟨rfl, rfl⟩
  go_wp2
  go_ret
  exact ⟨rfl, rfl⟩
end Go.Proofs.YthigiemgdejdhaaDoor.Errs
