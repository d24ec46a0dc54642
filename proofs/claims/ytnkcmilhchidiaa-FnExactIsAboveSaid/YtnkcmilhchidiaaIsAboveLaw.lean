/- The law of IsAbove: the walk (printed by wip/gen_orderlaw.py). -/
import Derived.Test.YtnkcmilhchidiaaOrderImpl
namespace Go.Proofs.Ytnkcmilhchidiaa.Order
open Go.ChangeShapes Go.WideShapes Go.ChangeAt Go.RowKit
open Go.Proofs.Ytnkcmilhchidiaa.Strip Go.Proofs.Ytnkcmilhchidiaa.Kerf
set_option linter.unusedVariables false

set_option maxRecDepth 100000 in
set_option maxHeartbeats 4000000 in
theorem exactIsAbove (s t : ByteArray) (w : World) (hm : s.size ≤ maxLen) (hm' : t.size ≤ maxLen) :
    Calls Try.prog 4 #[.string s, .string t] w fun e w' => e = .returned (.bool true) ∧ Below w.heap.size w w' := by
  unfold maxLen at hm hm'
  by_cases hbig : 1048576 < s.size
  · go_enter Try.func4, Try.ntmps4
    go_wp2
    go_ret
    exact ⟨rfl, Below.refl _ _⟩
  by_cases hbig2 : 1048576 < t.size
  · go_enter Try.func4, Try.ntmps4
    go_wp2
    go_ret
    exact ⟨rfl, Below.refl _ _⟩
  have hs : s.size ≤ 1048576 := by omega
  have ht : t.size ≤ 1048576 := by omega
  have hsp := fun w => above_spec s t w hs ht
  have him := fun w => above_impl s t w hs ht
  generalize aboveB s.data.toList t.data.toList = v at *
  have HSP := Lib.hid hsp; clear hsp
  have HIM := Lib.hid him; clear him
  have hd : (v != v) = false := by simp
  go_enter Try.func4, Try.ntmps4
  go_wp2_with fail
  refine (HSP.out _).mono ?_
  rintro e w' ⟨rfl, rfl⟩
  go_wp2_with fail
  refine (HIM.out _).mono ?_
  rintro e w2 ⟨rfl, hb⟩
  have HB2 := Lib.hid hb; clear hb
  go_wp2
  go_ret
  exact ⟨rfl, HB2.out⟩
end Go.Proofs.Ytnkcmilhchidiaa.Order
