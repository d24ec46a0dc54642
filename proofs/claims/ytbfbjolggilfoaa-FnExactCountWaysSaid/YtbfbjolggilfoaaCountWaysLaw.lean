/- The law of CountWays: the walk (printed by wip/gen_two.py). -/
import Derived.Test.YtbfbjolggilfoaaFlipCount
import Derived.Test.YtbfbjolggilfoaaFlipCountImpl
namespace Go.Proofs.Ytbfbjolggilfoaa.Kerf
open Go.ChangeShapes Go.WideShapes Go.ChangeAt Go.RowKit
open Go.Proofs.Ytbfbjolggilfoaa.Strip Go.Proofs.Ytbfbjolggilfoaa.Ints Go.Proofs.Ytbfbjolggilfoaa.Corner Go.Proofs.Ytbfbjolggilfoaa.Flip
set_option linter.unusedVariables false

set_option maxRecDepth 100000 in
set_option maxHeartbeats 4000000 in
theorem exactCountWays (s t : ByteArray) (w : World) (hm : s.size ≤ maxLen) (hm' : t.size ≤ maxLen) :
    Calls Try.prog 9 #[.string s, .string t] w fun e w' => e = .returned (.bool true) ∧ Below w.heap.size w w' := by
  unfold maxLen at hm hm'
  by_cases hbig : 1048576 < s.size
  · go_enter Try.func9, Try.ntmps9
    go_wp2
    go_ret
    exact ⟨rfl, Below.refl _ _⟩
  by_cases hbig2 : 1048576 < t.size
  · go_enter Try.func9, Try.ntmps9
    go_wp2
    go_ret
    exact ⟨rfl, Below.refl _ _⟩
  have hs : s.size ≤ 1048576 := by omega
  have ht : t.size ≤ 1048576 := by omega
  have hsp := fun w => ways_spec s t w hs ht
  have him := fun w => ways_impl s t w hs ht
  generalize waysV s.data.toList t.data.toList = v at *
  have HSP := Lib.hid hsp; clear hsp
  have HIM := Lib.hid him; clear him
  have hd : (v != v) = false := by simp
  go_enter Try.func9, Try.ntmps9
  go_wp2_with fail
  refine (HSP.out _).mono ?_
  rintro e w1 ⟨rfl, hb⟩
  have HB1 := Lib.hid hb; clear hb
  go_wp2_with fail
  refine (HIM.out _).mono ?_
  rintro e w2 ⟨rfl, hb⟩
  have HB2 := Lib.hid (HB1.out.trans (hb.mono HB1.out.size)); clear hb
  go_wp2
  go_ret
  exact ⟨rfl, HB2.out⟩
end Go.Proofs.Ytbfbjolggilfoaa.Kerf
