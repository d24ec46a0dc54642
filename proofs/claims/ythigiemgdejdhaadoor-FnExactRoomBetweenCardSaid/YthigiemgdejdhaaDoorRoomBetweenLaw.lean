/- The law of RoomBetween: the walk (printed by wip/gen_bridgelaw.py). -/
import Derived.Test.YthigiemgdejdhaaDoorTabSpec
import Derived.Test.YthigiemgdejdhaaDoorTabImpl
import Derived.Test.YthigiemgdejdhaaDoorBridgeLaw
namespace Go.Proofs.YthigiemgdejdhaaDoor.Tab
open Go.ChangeShapes Go.WideShapes Go.ChangeAt Go.RowKit
open Go.Proofs.YthigiemgdejdhaaDoor.Strip Go.Proofs.YthigiemgdejdhaaDoor.Kerf Go.Proofs.YthigiemgdejdhaaDoor.Order Go.Proofs.YthigiemgdejdhaaDoor.Area Go.Proofs.YthigiemgdejdhaaDoor.Errs
set_option linter.unusedVariables false

set_option maxRecDepth 100000 in
set_option maxHeartbeats 2000000 in
theorem exactRoomBetween (s : ByteArray) (p q : Int) (t : ByteArray) (a : Addr) (w : World) (hm : s.size ≤ maxLen) (ht : t.size ≤ maxLen) (hS : Sent w a) :
    Calls Tryd.prog 6 #[.string s, .agg #[.int .i64 p, .int .i64 q, .string t]] w fun e w' => e = .returned (.bool true) ∧ Below w.heap.size w w' := by
  have HSZ := Lib.hid (fun w => sz_bridge p q t w ht)
  obtain ⟨W, hW⟩ : ∃ W, w.alloc (.cells #[.int .i64 p, .int .i64 q, .string t] 37) = W := ⟨_, rfl⟩
  have hv := LBridge.new w p q t
  have hb := below_new w (.cells #[.int .i64 p, .int .i64 q, .string t] 37)
  rw [hW] at hv hb
  have HW := Lib.hid hW
  have HB := Lib.hid hb
  have HV := Lib.hid hv
  have HS := Lib.hid (hS.below hb)
  obtain ⟨v0, v1, v2⟩ := hv.cells
  unfold maxLen at hm
  clear hW hv hb hS ht
  by_cases hbig : 1048576 < s.size
  · have hbi : 1048576 < (s.size : Int) := by omega
    go_enter Tryd.func6, Tryd.ntmps6
    go_wp2_with fail
    rw [HW.out]
    go_wp2
    go_ret
    exact ⟨rfl, HB.out⟩
  by_cases hbig2 : 1048576 < t.size
  · rw [show leftV t.size = -1 from by unfold leftV; rw [if_neg (by omega)]] at HSZ
    go_enter Tryd.func6, Tryd.ntmps6
    go_wp2_with fail
    rw [HW.out]
    go_wp2_with fail
    refine (HSZ.out _).mono ?_
    rintro e w1 ⟨rfl, hb⟩
    have HB1 := Lib.hid (HB.out.trans (hb.mono HB.out.size))
    clear hb v0 v1 v2
    go_wp2
    go_ret
    exact ⟨rfl, HB1.out⟩
  have hs : s.size ≤ 1048576 := by omega
  have hl : t.size ≤ 1048576 := by omega
  have hlv : 0 ≤ leftV t.size := by unfold leftV; rw [if_pos hl]; omega
  generalize leftV t.size = left at *
  have hsp := fun w => roomB_spec s p q t w hs hl
  have him := fun w h => roomB_impl s p q t a w hs hl h
  generalize roomB s.data.toList p q t.data.toList = v at *
  have HSP := Lib.hid hsp
  have HIM := Lib.hid him
  have HTO := Lib.hid (fun w => to_bridge p q t w)
  clear hsp him hbig hbig2 hl
  have hd : (v != v) = false := by simp
  go_enter Tryd.func6, Tryd.ntmps6
  go_wp2_with fail
  rw [HW.out]
  go_wp2_with fail
  refine (HSZ.out _).mono ?_
  rintro e w1 ⟨rfl, hb⟩
  have HV := Lib.hid (HV.out.below hb)
  have HS := Lib.hid (HS.out.below hb)
  have HB := Lib.hid (HB.out.trans (hb.mono HB.out.size))
  clear hb v0 v1 v2
  obtain ⟨v0, v1, v2⟩ := HV.out.cells
  go_wp2_with fail
  refine (HTO.out _).mono ?_
  rintro e w2 ⟨rfl, hb⟩
  have HV := Lib.hid (HV.out.below hb)
  have HS := Lib.hid (HS.out.below hb)
  have HB := Lib.hid (HB.out.trans (hb.mono HB.out.size))
  clear hb v0 v1 v2
  go_wp2_with fail
  refine (HSP.out _).mono ?_
  rintro e w3 ⟨rfl, hb⟩
  have HV := Lib.hid (HV.out.below hb)
  have HS := Lib.hid (HS.out.below hb)
  have HB := Lib.hid (HB.out.trans (hb.mono HB.out.size))
  clear hb
  obtain ⟨v0, v1, v2⟩ := HV.out.cells
  go_wp2_with fail
  refine (HTO.out _).mono ?_
  rintro e w4 ⟨rfl, hb⟩
  have HS := Lib.hid (HS.out.below hb)
  have HB := Lib.hid (HB.out.trans (hb.mono HB.out.size))
  clear hb v0 v1 v2
  go_wp2_with fail
  refine (HIM.out _ HS.out).mono ?_
  rintro e w5 ⟨rfl, hb⟩
  have HB := Lib.hid (HB.out.trans (hb.mono HB.out.size))
  clear hb
  go_wp2
  go_ret
  exact ⟨rfl, HB.out⟩
end Go.Proofs.YthigiemgdejdhaaDoor.Tab
