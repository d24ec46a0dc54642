/- What slices.Replace returns where one string is cut out. -/
import Derived.Test.YtekmladindlmoaaReplOne
namespace Go.Proofs.Ytekmladindlmoaa.Strs
open Go.ChangeShapes Go.WideShapes Go.ChangeAt Go.RowKit
set_option linter.unusedVariables false

theorem zero_str : ∀ w, (zeroValue 9).run Try.prog w = .ok (.string ⟨#[]⟩) w := by intro w; kernel_rfl

/-- One cell is cleared. -/
theorem run_clear_one (w : World) (g o c : Nat) (ty : TypeId) (hc : (w.cell? ⟨g, o, none⟩).isSome = true) (hf : w.frozen? ⟨g, o, none⟩ = false) :
    (Builtin.clear_ #[24] ty #[.slice (some ⟨g, o, none⟩) 1 c]).run Try.prog w = .ok (.tuple #[]) (w.setCells g o [.string ⟨#[]⟩]) :=
  Lib.run_clear_slice w _ _ ty _ Try.underlying24 zero_str rfl rfl g o 1 c (by omega) (fun j hj => by have e : j = 0 := (by omega); subst e; exact hc) (fun j hj => by have e : j = 0 := (by omega); subst e; exact hf)

end Go.Proofs.Ytekmladindlmoaa.Strs
