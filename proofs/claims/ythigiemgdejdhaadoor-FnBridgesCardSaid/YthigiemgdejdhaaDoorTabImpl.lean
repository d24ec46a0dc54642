/- What BridgeOk, BridgedStrip, RoomBetween and BridgeCount of the program return. -/
import Derived.Test.YthigiemgdejdhaaDoorGlue
import Derived.Test.YthigiemgdejdhaaDoorKerfImpl
import Derived.Test.YthigiemgdejdhaaDoorAreaUp
namespace Go.Proofs.YthigiemgdejdhaaDoor.Tab
open Go.ChangeShapes Go.WideShapes Go.ChangeAt Go.RowKit
open Go.Proofs.YthigiemgdejdhaaDoor.Strip Go.Proofs.YthigiemgdejdhaaDoor.Kerf Go.Proofs.YthigiemgdejdhaaDoor.Order Go.Proofs.YthigiemgdejdhaaDoor.Area Go.Proofs.YthigiemgdejdhaaDoor.Errs
set_option linter.unusedVariables false

/-- The block of a bridge that is handed over, and what stands there. -/
theorem beginG (w : World) (p q : Int) (t : ByteArray) {a : Addr} (h : Sent w a) : ∃ W, w.alloc (.cells #[.int .i64 p, .int .i64 q, .string t] 25) = W ∧ GVar W w.heap.size p q t ∧ Below w.heap.size w W ∧ Sent W a :=
  ⟨_, rfl, GVar.new w p q t, below_new w _, h.below (below_new w _)⟩
theorem is_mis (b : Bool) (a : Addr) (w : World) :
    Calls Tryd.prog 31 #[misV b a, errV a] w fun e w' => e = .returned (.bool (!b)) ∧ w = w' := by
  cases b with
  | true => exact is_none a w
  | false => exact is_self a w

set_option maxRecDepth 100000 in
theorem okB_impl (s : ByteArray) (p q : Int) (t : ByteArray) (a : Addr) (w : World) (hm : s.size ≤ 1048576) (ht : t.size ≤ 1048576) (hs : Sent w a) :
    Calls Tryd.prog 10 #[.string s, .agg #[.int .i64 p, .int .i64 q, .string t]] w fun e w' =>
      e = .returned (.bool (okB s.data.toList p q t.data.toList)) ∧ Below w.heap.size w w' := by
  obtain ⟨W, hW, hv, hb, hs⟩ := beginG w p q t hs
  have HW := Lib.hid hW
  have HB := Lib.hid hb
  have HS := Lib.hid hs
  have HG := Lib.hid (fun w h => glue_impl s p q t a w hm ht h)
  obtain ⟨v0, v1, v2⟩ := hv.cells
  clear hW hv hb hs
  generalize okB s.data.toList p q t.data.toList = ok at *
  generalize bridgeS s p q t = z at *
  go_enter Tryd.func10, Tryd.ntmps10
  go_wp2_with fail
  rw [HW.out]
  go_wp2_with fail
  refine (HG.out _ HS.out).mono ?_
  rintro e w1 ⟨rfl, hb⟩
  have hg := (HS.out.below hb).cell
  have HB2 := Lib.hid (HB.out.trans (hb.mono HB.out.size))
  clear hb v0 v1 v2
  go_wp2_with fail
  refine (is_mis ok a _).mono ?_
  rintro e w2 ⟨rfl, rfl⟩
  go_wp2
  go_ret
  exact ⟨by simp, HB2.out⟩

set_option maxRecDepth 100000 in
theorem bridged_impl (s : ByteArray) (p q : Int) (t : ByteArray) (a : Addr) (w : World) (hm : s.size ≤ 1048576) (ht : t.size ≤ 1048576) (hs : Sent w a) :
    Calls Tryd.prog 11 #[.string s, .agg #[.int .i64 p, .int .i64 q, .string t]] w fun e w' =>
      e = .returned (.string (bridgeS s p q t)) ∧ Below w.heap.size w w' := by
  obtain ⟨W, hW, hv, hb, hs⟩ := beginG w p q t hs
  have HW := Lib.hid hW
  have HB := Lib.hid hb
  have HS := Lib.hid hs
  have HG := Lib.hid (fun w h => glue_impl s p q t a w hm ht h)
  obtain ⟨v0, v1, v2⟩ := hv.cells
  clear hW hv hb hs
  generalize okB s.data.toList p q t.data.toList = ok at *
  generalize bridgeS s p q t = z at *
  go_enter Tryd.func11, Tryd.ntmps11
  go_wp2_with fail
  rw [HW.out]
  go_wp2_with fail
  refine (HG.out _ HS.out).mono ?_
  rintro e w1 ⟨rfl, hb⟩
  have HB2 := Lib.hid (HB.out.trans (hb.mono HB.out.size))
  clear hb v0 v1 v2
  go_wp2
  go_ret
  exact ⟨rfl, HB2.out⟩

set_option maxRecDepth 100000 in
theorem roomB_impl (s : ByteArray) (p q : Int) (t : ByteArray) (a : Addr) (w : World) (hm : s.size ≤ 1048576) (ht : t.size ≤ 1048576) (hs : Sent w a) :
    Calls Tryd.prog 12 #[.string s, .agg #[.int .i64 p, .int .i64 q, .string t]] w fun e w' =>
      e = .returned (.int .i64 (roomB s.data.toList p q t.data.toList)) ∧ Below w.heap.size w w' := by
  obtain ⟨W, hW, hv, hb, hs⟩ := beginG w p q t hs
  have HW := Lib.hid hW
  have HB := Lib.hid hb
  have HS := Lib.hid hs
  have HG := Lib.hid (fun w h => bridged_impl s p q t a w hm ht h)
  have hr : roomB s.data.toList p q t.data.toList = areaI s.data.toList (bridgeS s p q t).data.toList := by unfold roomB; rw [bridge_text]
  have har := fun w => area_impl s (bridgeS s p q t) w hm (by have := bridge_size s p q t; omega)
  rw [hr]
  have HA := Lib.hid har
  obtain ⟨v0, v1, v2⟩ := hv.cells
  clear hW hv hb hs hr har
  generalize bridgeS s p q t = z at *
  go_enter Tryd.func12, Tryd.ntmps12
  go_wp2_with fail
  rw [HW.out]
  go_wp2_with fail
  refine (HG.out _ HS.out).mono ?_
  rintro e w1 ⟨rfl, hb⟩
  have HB2 := Lib.hid (HB.out.trans (hb.mono HB.out.size))
  clear hb v0 v1 v2
  go_wp2_with fail
  refine (HA.out _).mono ?_
  rintro e w2 ⟨rfl, hb⟩
  have HB3 := Lib.hid (HB2.out.trans (hb.mono HB2.out.size))
  clear hb
  go_wp2
  go_ret
  exact ⟨rfl, HB3.out⟩
end Go.Proofs.YthigiemgdejdhaaDoor.Tab
