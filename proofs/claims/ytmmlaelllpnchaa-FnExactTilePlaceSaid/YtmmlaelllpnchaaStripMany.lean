/- What the model and the program of chapter 2 return for FlatStrip and HighStrip. -/
import Derived.Test.YtmmlaelllpnchaaStripSpec2
import Derived.Test.YtmmlaelllpnchaaKit
import Derived.Deep.RegionWith
namespace Go.Proofs.Ytmmlaelllpnchaa.Strip
open Go.ChangeShapes Go.WideShapes Go.ChangeAt Go.RowKit
set_option linter.unusedVariables false

theorem cat_lists (a b : List UInt8) : (⟨a.toArray⟩ : ByteArray) ++ ⟨b.toArray⟩ = ⟨(a ++ b).toArray⟩ := by
  apply ByteArray.ext
  simp [ByteArray.data_append]

theorem frame_spec (d f : Int) (w : World) :
    Calls Try.prog 17 #[.int .i64 d, .int .i64 f] w fun e w' => e = .returned (.bool (frameB d f)) ∧ w = w' := by
  by_cases hq : 1 ≤ d ∧ d ≤ 8
  · have hq' : decide (1 ≤ d ∧ d ≤ 8) = true := by simpa using hq
    go_enter Try.func17, Try.ntmps17
    go_wp2_with fail
    refine (in_at _ 1 8 _).mono ?_
    rintro e w' ⟨rfl, rfl⟩
    rw [hq']
    go_wp2_with fail
    refine (in_at _ 1 8 _).mono ?_
    rintro e w' ⟨rfl, rfl⟩
    go_wp2
    go_ret
    refine ⟨?_, rfl⟩
    unfold frameB
    simp [hq.1, hq.2]
  · have hq' : decide (1 ≤ d ∧ d ≤ 8) = false := by simpa using hq
    go_enter Try.func17, Try.ntmps17
    go_wp2_with fail
    refine (in_at _ 1 8 _).mono ?_
    rintro e w' ⟨rfl, rfl⟩
    rw [hq']
    go_wp2
    go_ret
    refine ⟨?_, rfl⟩
    unfold frameB
    have : ¬ (1 ≤ d ∧ d ≤ 8 ∧ 1 ≤ f ∧ f ≤ 8) := fun h => hq ⟨h.1, h.2.1⟩
    simp [this]

theorem frameB_iff {d f : Int} : frameB d f = true ↔ (1 ≤ d ∧ d ≤ 8 ∧ 1 ≤ f ∧ f ≤ 8) := by unfold frameB; simp

end Go.Proofs.Ytmmlaelllpnchaa.Strip
