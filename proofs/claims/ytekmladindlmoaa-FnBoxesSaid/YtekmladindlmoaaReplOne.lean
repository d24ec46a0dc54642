/- What slices.Replace returns where one string is put in the place of one. -/
import Derived.Test.YtekmladindlmoaaRepl
import Derived.Test.YtekmladindlmoaaKit
import Derived.Shelf.RegionOpenPlain
namespace Go.Proofs.Ytekmladindlmoaa.Strs
open Go.ChangeShapes Go.WideShapes Go.ChangeAt Go.RowKit
set_option linter.unusedVariables false

/-- The post, behind a name: the row is written in place, or a new one is made. -/
def Replaced (w : World) (base : Nat) (v : Value) (l : List ByteArray) (e : Ending) (w' : World) : Prop :=
  ∃ a c, e = .returned (.slice a l.length c) ∧ Own w' base (.slice a l.length c) l ∧ w.grownBy w' v.ownBlock

theorem info_sz : (Try.prog.info? 9).map (·.size) = some 1 := by kernel_rfl
theorem add_lit (g j : Nat) : (⟨g, 0, none⟩ : Addr).add j = ⟨g, j, none⟩ := by unfold Addr.add; split <;> simp_all

theorem run_clear_zero (a : Option Addr) (c : Nat) (ty : TypeId) (w : World) : (Builtin.clear_ #[24] ty #[.slice a 0 c]).run Try.prog w = .ok (.tuple #[]) w := by
  cases a <;> simp [Builtin.clear_, run_underlying Try.underlying24]

end Go.Proofs.Ytekmladindlmoaa.Strs
