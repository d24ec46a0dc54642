/- The walk of the law FnExactSliderOk (printed by wip/gen_slidelaw.py). -/
import Derived.Test.YtmjknjgfcngacaaSliderRow
import Derived.Test.YtmjknjgfcngacaaSlideOk
namespace Go.Proofs.Ytmjknjgfcngacaa.Slide
open Go.ChangeShapes Go.WideShapes Go.ChangeAt Go.RowKit Go.Sort
open Go.Proofs.Ytmjknjgfcngacaa.Tri
set_option linter.unusedVariables false

set_option maxRecDepth 100000 in
set_option maxHeartbeats 2000000 in
theorem exactSliderOk (x y z : Int) (w : World) : Calls Try.prog 4 #[.agg #[.int .i64 x, .int .i64 y, .int .i64 z]] w fun e w' => e = .returned (.bool true) ∧ Below w.heap.size w w' := by
  have HT := Lib.hid (SlR.to_box x y z)
  have HS := Lib.hid (ok_spec x y z)
  have HI := Lib.hid (ok_impl x y z)
  obtain ⟨b, hb⟩ : ∃ b, okS (x, y, z) = b := ⟨_, rfl⟩
  rw [hb] at HS HI
  clear hb
  have hne : (b != b) = false := by simp
  have hb := alloc_below w (.cells #[.int .i64 x, .int .i64 y, .int .i64 z] 40)
  have HV := Lib.hid (VarT.new (T := 40) w (x, y, z))
  have HB := Lib.hid hb
  clear hb
  go_enter Try.func4, Try.ntmps4
  obtain ⟨m0, m1, m2⟩ := HV.out.cells
  simp only at m0 m1 m2
  go_wp2_with fail
  refine (HT.out _).mono ?_
  rintro e w' ⟨rfl, hb⟩
  have HB := Lib.hid (HB.out.trans (hb.mono HB.out.size))
  have HV := Lib.hid (HV.out.below hb)
  clear hb m0 m1 m2
  obtain ⟨m0, m1, m2⟩ := HV.out.cells
  simp only at m0 m1 m2
  go_wp2_with fail
  refine (HS.out _).mono ?_
  rintro e w' ⟨rfl, hb⟩
  have HB := Lib.hid (HB.out.trans (hb.mono HB.out.size))
  have HV := Lib.hid (HV.out.below hb)
  clear hb m0 m1 m2
  obtain ⟨m0, m1, m2⟩ := HV.out.cells
  simp only at m0 m1 m2
  go_wp2_with fail
  refine (HT.out _).mono ?_
  rintro e w' ⟨rfl, hb⟩
  have HB := Lib.hid (HB.out.trans (hb.mono HB.out.size))
  have HV := Lib.hid (HV.out.below hb)
  clear hb m0 m1 m2
  obtain ⟨m0, m1, m2⟩ := HV.out.cells
  simp only at m0 m1 m2
  go_wp2_with fail
  refine (HI.out _).mono ?_
  rintro e w' ⟨rfl, hb⟩
  have HB := Lib.hid (HB.out.trans (hb.mono HB.out.size))
  have HV := Lib.hid (HV.out.below hb)
  clear hb m0 m1 m2
  go_wp2
  go_ret
  exact ⟨rfl, HB.out⟩
end Go.Proofs.Ytmjknjgfcngacaa.Slide
