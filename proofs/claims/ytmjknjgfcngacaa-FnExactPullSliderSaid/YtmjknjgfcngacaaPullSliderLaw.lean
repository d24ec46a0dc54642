/- The walk of the law FnExactPullSlider (printed by wip/gen_slidelaw.py). -/
import Derived.Test.YtmjknjgfcngacaaSliderRow
import Derived.Test.YtmjknjgfcngacaaSlidePull
namespace Go.Proofs.Ytmjknjgfcngacaa.Slide
open Go.ChangeShapes Go.WideShapes Go.ChangeAt Go.RowKit Go.Sort
open Go.Proofs.Ytmjknjgfcngacaa.Tri
set_option linter.unusedVariables false

set_option maxRecDepth 100000 in
set_option maxHeartbeats 2000000 in
theorem exactPullSlider (x y z q : Int) (w : World) : Calls Try.prog 5 #[.agg #[.int .i64 x, .int .i64 y, .int .i64 z], .int .i64 q] w fun e w' => e = .returned (.bool true) ∧ Below w.heap.size w w' := by
  have HT := Lib.hid (SlR.to_box x y z)
  have HS := Lib.hid (pull_spec x y z q)
  have HI := Lib.hid (pull_impl x y z q)
  generalize nowV (x, y, z) q = v at *
  have HE := Lib.hid (SlR.eq_box x y v)
  have hb := alloc_below w (.cells #[.int .i64 x, .int .i64 y, .int .i64 z] 40)
  have HV := Lib.hid (VarT.new (T := 40) w (x, y, z))
  have HB := Lib.hid hb
  clear hb
  go_enter Try.func5, Try.ntmps5
  obtain ⟨m0, m1, m2⟩ := HV.out.cells
  simp only at m0 m1 m2
  go_wp2_with fail
  refine (HT.out _).mono ?_
  rintro e w' ⟨rfl, hb⟩
  have HB := Lib.hid (HB.out.trans (hb.mono HB.out.size))
  have HV := Lib.hid (HV.out.below hb)
  clear hb m0 m1 m2
  obtain ⟨m0, m1, m2⟩ := HV.out.cells
  simp only at m0 m1 m2
  go_wp2_with fail
  refine (HS.out _).mono ?_
  rintro e w' ⟨rfl, hb⟩
  have HB := Lib.hid (HB.out.trans (hb.mono HB.out.size))
  have HV := Lib.hid (HV.out.below hb)
  clear hb m0 m1 m2
  have hb := alloc_below w' (.cells #[.int .i64 x, .int .i64 y, .int .i64 v] 33)
  have HW0 := Lib.hid (VarT.new (T := 33) w' (x, y, v))
  have HV := Lib.hid (HV.out.below hb)
  have HB := Lib.hid (HB.out.trans (hb.mono HB.out.size))
  clear hb
  obtain ⟨m0, m1, m2⟩ := HV.out.cells
  simp only at m0 m1 m2
  go_wp2_with fail
  refine (HT.out _).mono ?_
  rintro e w' ⟨rfl, hb⟩
  have HB := Lib.hid (HB.out.trans (hb.mono HB.out.size))
  have HV := Lib.hid (HV.out.below hb)
  have HW0 := Lib.hid (HW0.out.below hb)
  clear hb m0 m1 m2
  obtain ⟨m0, m1, m2⟩ := HV.out.cells
  simp only at m0 m1 m2
  go_wp2_with fail
  refine (HI.out _).mono ?_
  rintro e w' ⟨rfl, hb⟩
  have HB := Lib.hid (HB.out.trans (hb.mono HB.out.size))
  have HV := Lib.hid (HV.out.below hb)
  have HW0 := Lib.hid (HW0.out.below hb)
  clear hb m0 m1 m2
  have hb := alloc_below w' (.cells #[.int .i64 x, .int .i64 y, .int .i64 v] 33)
  have HG0 := Lib.hid (VarT.new (T := 33) w' (x, y, v))
  have HW0 := Lib.hid (HW0.out.below hb)
  have HB := Lib.hid (HB.out.trans (hb.mono HB.out.size))
  clear hb
  obtain ⟨a0, a1, a2⟩ := HW0.out.cells
  obtain ⟨b0, b1, b2⟩ := HG0.out.cells
  simp only at a0 a1 a2 b0 b1 b2
  go_wp2_with fail
  refine (HE.out _).mono ?_
  rintro e w3 ⟨rfl, hb⟩
  have HB := Lib.hid (HB.out.trans (hb.mono HB.out.size))
  clear hb
  go_wp2
  go_ret
  exact ⟨rfl, HB.out⟩
end Go.Proofs.Ytmjknjgfcngacaa.Slide
