/- What the model and the program of chapter 2 return for FlatStrip and HighStrip. -/
import Derived.Test.YthigiemgdejdhaaStripSpec2
import Derived.Test.YthigiemgdejdhaaKit
import Derived.Deep.RegionWith
namespace Go.Proofs.Ythigiemgdejdhaa.Strip
open Go.ChangeShapes Go.WideShapes Go.ChangeAt Go.RowKit
set_option linter.unusedVariables false

theorem cat_lists (a b : List UInt8) : (⟨a.toArray⟩ : ByteArray) ++ ⟨b.toArray⟩ = ⟨(a ++ b).toArray⟩ := by
  apply ByteArray.ext
  simp [ByteArray.data_append]

theorem frameB_iff {d f : Int} : frameB d f = true ↔ (1 ≤ d ∧ d ≤ 8 ∧ 1 ≤ f ∧ f ≤ 8) := by unfold frameB; simp

end Go.Proofs.Ythigiemgdejdhaa.Strip
