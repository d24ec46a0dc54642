/- The law of PlainCard: the walk, out of what the model and the program return (printed by wip/gen_cardlaw.py). -/
import Derived.Test.YtofljefeimmabaaCardLaw
namespace Go.Proofs.Ytofljefeimmabaa.Card
open Go.ChangeShapes Go.WideShapes Go.ChangeAt Go.RowKit
open Go.Proofs.Ytofljefeimmabaa.Strip Go.Proofs.Ytofljefeimmabaa.Strs
set_option linter.unusedVariables false

set_option maxRecDepth 100000 in
set_option maxHeartbeats 8000000 in
theorem walkPlainCard (d : Int) (f : Int) (k : Int) (d2 f2 : Int) (l2 : List ByteArray) (ok : Bool) (w : World) (hm2 : l2.length ≤ 1048576) (hsp : ∀ w' : World, Calls Try.prog 26 #[.int .i64 d, .int .i64 f, .int .i64 k] w' (Gave2 w' d2 f2 l2 ok)) (him : ∀ w' : World, Calls Try.prog 19 #[.int .i64 d, .int .i64 f, .int .i64 k] w' (Gave2 w' d2 f2 l2 ok)) :
    Calls Try.prog 5 #[.int .i64 d, .int .i64 f, .int .i64 k] w fun e w' => e = .returned (.bool true) ∧ Below w.heap.size w w' := by
  have HSP := Lib.hid hsp
  have HIM := Lib.hid him
  clear hsp him
  have hok : (ok != ok) = false := by simp
  have hmm : (0 : Int) ≤ (l2.length : Int) := Int.natCast_nonneg _
  have hmm2 : (l2.length : Int) ≤ 1048576 := by omega
  have hqq : ((1 + (l2.length : Int)) != (1 + (l2.length : Int))) = false := by simp
  have HB := Lib.hid (Below.refl w.heap.size w)
  go_enter Try.func5, Try.ntmps5
  go_wp2_with fail
  refine (HSP.out _).mono ?_
  rintro e w1 ⟨aw, cw, rfl, hb, ho⟩
  have HB := Lib.hid (HB.out.trans (hb.mono HB.out.size))
  have hs_w1 : w.heap.size ≤ w1.heap.size := hb.size
  clear hb
  have Ow := Lib.hid ho
  have Nw := Lib.hid (ho.lt)
  clear ho
  go_wp2_with fail
  have hv0 := Var.new w1 d2 f2 (.slice aw l2.length cw)
  have hb := alloc_below w1 (.cells #[.int .i64 d2, .int .i64 f2, .slice aw l2.length cw] 26)
  have Ow := Lib.hid (Ow.out.below hb)
  have HB := Lib.hid (HB.out.trans (hb.mono HB.out.size))
  have hs_w2 : w1.heap.size < (w1.alloc (.cells #[.int .i64 d2, .int .i64 f2, .slice aw l2.length cw] 26)).heap.size := hv0.lt
  have VW := Lib.hid hv0
  clear hv0 hb
  generalize (w1.alloc (.cells #[.int .i64 d2, .int .i64 f2, .slice aw l2.length cw] 26)) = w2 at *
  refine (HIM.out _).mono ?_
  rintro e w3 ⟨ag, cg, rfl, hb, ho⟩
  have Ow := Lib.hid (Ow.out.below hb)
  have VW := Lib.hid (VW.out.below hb)
  have HB := Lib.hid (HB.out.trans (hb.mono HB.out.size))
  have hs_w3 : w2.heap.size ≤ w3.heap.size := hb.size
  clear hb
  have Og := Lib.hid ho
  have Ng := Lib.hid (ho.lt)
  clear ho
  obtain ⟨vw_0, vw_1, vw_2⟩ := (VW.out.below (alloc_below w3 (.cells #[.int .i64 d2, .int .i64 f2, .slice ag l2.length cg] 26))).cells
  go_wp2_with fail
  clear vw_0 vw_1 vw_2
  have hv0 := Var.new w3 d2 f2 (.slice ag l2.length cg)
  have hb := alloc_below w3 (.cells #[.int .i64 d2, .int .i64 f2, .slice ag l2.length cg] 26)
  have Ow := Lib.hid (Ow.out.below hb)
  have VW := Lib.hid (VW.out.below hb)
  have Og := Lib.hid (Og.out.below hb)
  have HB := Lib.hid (HB.out.trans (hb.mono HB.out.size))
  have hs_w4 : w3.heap.size < (w3.alloc (.cells #[.int .i64 d2, .int .i64 f2, .slice ag l2.length cg] 26)).heap.size := hv0.lt
  have VG := Lib.hid hv0
  clear hv0 hb
  generalize (w3.alloc (.cells #[.int .i64 d2, .int .i64 f2, .slice ag l2.length cg] 26)) = w4 at *
  refine (eq_card d2 f2 l2.length cg cw ag aw l2 rfl hm2 _ Og.out.row2.2 Ow.out.row2.2).mono ?_
  rintro e w5 ⟨rfl, hb⟩
  have Ow := Lib.hid (Ow.out.below hb)
  have VW := Lib.hid (VW.out.below hb)
  have Og := Lib.hid (Og.out.below hb)
  have VG := Lib.hid (VG.out.below hb)
  have HB := Lib.hid (HB.out.trans (hb.mono HB.out.size))
  have hs_w5 : w4.heap.size ≤ w5.heap.size := hb.size
  clear hb
  obtain ⟨vg_0, vg_1, vg_2⟩ := VG.out.cells
  go_wp2_with fail
  clear vg_0 vg_1 vg_2
  refine (mark_card d2 f2 _ ag cg l2 hm2 _ Og.out).mono ?_
  rintro e w6 ⟨rfl, hmk, hg⟩
  have Ow := Lib.hid (Own.mark Ow.out hg (fun k k2 e e2 => by have h1 := Ng.out k2 e2; have h2 := Nw.out k e; omega))
  have VW := Lib.hid (VW.out.mark hg (fun k e => by have h1 := Ng.out k e; omega))
  have VG := Lib.hid (VG.out.mark hg (fun k e => by have h1 := Ng.out k e; omega))
  have HB := Lib.hid (HB.out.grown hg HB.out.size (fun k e => by have h1 := Ng.out k e; omega))
  have hs_w6 : w5.heap.size ≤ w6.heap.size := hg.size
  have Og := Lib.hid hmk
  clear hmk hg
  obtain ⟨vg_0, vg_1, vg_2⟩ := VG.out.cells
  go_wp2_with fail
  clear vg_0 vg_1 vg_2
  refine (held_card d2 f2 _ ag l2.length cg hm2 _ Og.out).mono ?_
  rintro e w7 ⟨rfl, hb⟩
  have Ow := Lib.hid (Ow.out.below hb)
  have VW := Lib.hid (VW.out.below hb)
  have Og := Lib.hid (Og.out.below hb)
  have VG := Lib.hid (VG.out.below hb)
  have HB := Lib.hid (HB.out.trans (hb.mono HB.out.size))
  have hs_w7 : w6.heap.size ≤ w7.heap.size := hb.size
  clear hb
  go_wp2_with fail
  refine (HIM.out _).mono ?_
  rintro e w8 ⟨ah, ch, rfl, hb, ho⟩
  have Ow := Lib.hid (Ow.out.below hb)
  have VW := Lib.hid (VW.out.below hb)
  have Og := Lib.hid (Og.out.below hb)
  have VG := Lib.hid (VG.out.below hb)
  have HB := Lib.hid (HB.out.trans (hb.mono HB.out.size))
  have hs_w8 : w7.heap.size ≤ w8.heap.size := hb.size
  clear hb
  have Oh := Lib.hid ho
  have Nh := Lib.hid (ho.lt)
  clear ho
  obtain ⟨vw_0, vw_1, vw_2⟩ := (VW.out.below (alloc_below w8 (.cells #[.int .i64 d2, .int .i64 f2, .slice ah l2.length ch] 26))).cells
  go_wp2_with fail
  clear vw_0 vw_1 vw_2
  have hv0 := Var.new w8 d2 f2 (.slice ah l2.length ch)
  have hb := alloc_below w8 (.cells #[.int .i64 d2, .int .i64 f2, .slice ah l2.length ch] 26)
  have Ow := Lib.hid (Ow.out.below hb)
  have VW := Lib.hid (VW.out.below hb)
  have Og := Lib.hid (Og.out.below hb)
  have VG := Lib.hid (VG.out.below hb)
  have Oh := Lib.hid (Oh.out.below hb)
  have HB := Lib.hid (HB.out.trans (hb.mono HB.out.size))
  have hs_w9 : w8.heap.size < (w8.alloc (.cells #[.int .i64 d2, .int .i64 f2, .slice ah l2.length ch] 26)).heap.size := hv0.lt
  have VH := Lib.hid hv0
  clear hv0 hb
  generalize (w8.alloc (.cells #[.int .i64 d2, .int .i64 f2, .slice ah l2.length ch] 26)) = w9 at *
  refine (eq_card d2 f2 l2.length ch cw ah aw l2 rfl hm2 _ Oh.out.row2.2 Ow.out.row2.2).mono ?_
  rintro e w10 ⟨rfl, hb⟩
  have Ow := Lib.hid (Ow.out.below hb)
  have VW := Lib.hid (VW.out.below hb)
  have Og := Lib.hid (Og.out.below hb)
  have VG := Lib.hid (VG.out.below hb)
  have Oh := Lib.hid (Oh.out.below hb)
  have VH := Lib.hid (VH.out.below hb)
  have HB := Lib.hid (HB.out.trans (hb.mono HB.out.size))
  have hs_w10 : w9.heap.size ≤ w10.heap.size := hb.size
  clear hb
  obtain ⟨vg_0, vg_1, vg_2⟩ := VG.out.cells
  go_wp2_with fail
  clear vg_0 vg_1 vg_2
  refine (held_card d2 f2 _ ag l2.length cg hm2 _ Og.out).mono ?_
  rintro e w11 ⟨rfl, hb⟩
  have Ow := Lib.hid (Ow.out.below hb)
  have VW := Lib.hid (VW.out.below hb)
  have Og := Lib.hid (Og.out.below hb)
  have VG := Lib.hid (VG.out.below hb)
  have Oh := Lib.hid (Oh.out.below hb)
  have VH := Lib.hid (VH.out.below hb)
  have HB := Lib.hid (HB.out.trans (hb.mono HB.out.size))
  have hs_w11 : w10.heap.size ≤ w11.heap.size := hb.size
  clear hb
  go_wp2
  go_ret
  exact ⟨rfl, HB.out⟩
end Go.Proofs.Ytofljefeimmabaa.Card
