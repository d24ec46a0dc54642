/- The law of BridgeCount: the walk (printed by wip/gen_bcountspec.py). -/
import Derived.Test.YthigiemgdejdhaaTabCount
import Derived.Test.YthigiemgdejdhaaBridgeCountSpec
namespace Go.Proofs.Ythigiemgdejdhaa.Tab
open Go.ChangeShapes Go.WideShapes Go.ChangeAt Go.RowKit
open Go.Proofs.Ythigiemgdejdhaa.Strip
set_option linter.unusedVariables false

set_option maxRecDepth 100000 in
theorem exactBridgeCount (s : ByteArray) (p q : Int) (w : World) (hm : s.size ≤ maxLen) :
    Calls Try.prog 3 #[.string s, .int .i64 p, .int .i64 q] w fun e w' => e = .returned (.bool true) ∧ Below w.heap.size w w' := by
  unfold maxLen at hm
  by_cases hbig : 1048576 < s.size
  · have hbi : 1048576 < (s.size : Int) := by omega
    go_enter Try.func3, Try.ntmps3
    go_wp2
    go_ret
    exact ⟨rfl, Below.refl _ _⟩
  · have hs : s.size ≤ 1048576 := by omega
    have hsp := fun w => bcount_spec s p q w hs
    have him := fun w => bcount_impl s p q w hs
    generalize countV s.data.toList p q = v at *
    have HSP := Lib.hid hsp
    have HIM := Lib.hid him
    clear hsp him hbig
    have hd : (v != v) = false := by simp
    go_enter Try.func3, Try.ntmps3
    go_wp2_with fail
    refine (HSP.out _).mono ?_
    rintro e w1 ⟨rfl, hb⟩
    have HB := Lib.hid hb
    clear hb
    go_wp2_with fail
    refine (HIM.out _).mono ?_
    rintro e w2 ⟨rfl, hb⟩
    have HB2 := Lib.hid (HB.out.trans (hb.mono HB.out.size))
    clear hb
    go_wp2
    go_ret
    exact ⟨rfl, HB2.out⟩
end Go.Proofs.Ythigiemgdejdhaa.Tab
