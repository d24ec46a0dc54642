/- The law of LowerCard: the walk (printed by wip/gen_cardlaw2.py). -/
import Derived.Test.YtnkcmilhchidiaaCardOkLaw
import Derived.Test.YtnkcmilhchidiaaMarkTwo
import Derived.Test.YtnkcmilhchidiaaOrderLcImpl
import Derived.Test.YtnkcmilhchidiaaOrderLcSpec
import Derived.Deep.DeepCutAuto
import Derived.Deep.RegionHeld3
namespace Go.Proofs.Ytnkcmilhchidiaa.Order
open Go.ChangeShapes Go.WideShapes Go.ChangeAt Go.RowKit
open Go.Proofs.Ytnkcmilhchidiaa.Strip Go.Proofs.Ytnkcmilhchidiaa.Strs Go.Proofs.Ytnkcmilhchidiaa.Card
set_option linter.unusedVariables false

set_option maxRecDepth 100000 in
set_option maxHeartbeats 16000000 in
theorem exactLowerCard (d f : Int) (a : Option Addr) (c : Nat) (l : List ByteArray) (d2 f2 : Int) (a2 : Option Addr) (c2 : Nat) (l2 : List ByteArray) (w : World) (hn : l.length ≤ maxLen) (hz : ∀ s ∈ l, s.size ≤ maxLen) (hr : ARow w a l) (hn2 : l2.length ≤ maxLen) (hz2 : ∀ s ∈ l2, s.size ≤ maxLen) (hr2 : ARow w a2 l2) :
    Calls Try.prog 9 #[.agg #[.int .i64 d, .int .i64 f, .slice a l.length c], .agg #[.int .i64 d2, .int .i64 f2, .slice a2 l2.length c2]] w fun e w' => e = .returned (.bool true) ∧ Below w.heap.size w w' := by
  have HSZ := Lib.hid (fun (w' : World) (hr : ARow w' a l) => sz_card 1048576 (by omega) (by omega) d f a l.length c l w' rfl hn hz hr)
  have HR := Lib.hid hr
  have HR2 := Lib.hid hr2
  have HB := Lib.hid (Below.refl w.heap.size w)
  have hnx := hn
  have hnx2 := hn2
  unfold maxLen at hnx hnx2
  by_cases hneg : szV 1048576 l < 0
  · rw [sz_big hneg] at HSZ
    clear hr hz hneg hr2 hz2
    go_enter Try.func9, Try.ntmps9
    go_wp2_with fail
    refine (HSZ.out _ ((HR.out.below (alloc_below _ _)).below (alloc_below _ _))).mono ?_
    rintro e w1 ⟨rfl, hb⟩
    go_wp2
    go_ret
    exact ⟨rfl, ((alloc_below w _).trans ((alloc_below _ _).mono (by simp))).trans (hb.mono (by simp; omega))⟩
  · obtain ⟨g1, g2, g3, g4⟩ := szV_ok hneg
    have HSZ2 := Lib.hid (fun (w' : World) (hr : ARow w' a2 l2) => sz_card (szV 1048576 l) g3 g4 d2 f2 a2 l2.length c2 l2 w' rfl hn2 hz2 hr)
    have HLEN := Lib.hid (show l.length ≤ 1048576 by omega)
    have HZ1 := Lib.hid (show ∀ s ∈ l, s.size ≤ 1048576 from fun s hs => by have := g2 s hs; omega)
    clear g2
    generalize szV 1048576 l = r at *
    clear g1 hneg hz hr
    by_cases hneg : szV r l2 < 0
    · have hm1 : szV r l2 = -1 := by unfold szV at *; split at hneg <;> omega
      rw [hm1] at HSZ2
      clear hm1 hneg hr2 hz2
      go_enter Try.func9, Try.ntmps9
      go_wp2_with fail
      have LV := Lib.hid ((LVar.new w d f (.slice a l.length c)).below (alloc_below _ (.cells #[.int .i64 d2, .int .i64 f2, .slice a2 l2.length c2] 38)))
      have hx := LVar.new (w.alloc (.cells #[.int .i64 d, .int .i64 f, .slice a l.length c] 38)) d2 f2 (.slice a2 l2.length c2)
      rw [show (w.alloc (.cells #[.int .i64 d, .int .i64 f, .slice a l.length c] 38)).heap.size = w.heap.size + 1 by simp] at hx
      have LU := Lib.hid hx
      have hs_w1 : w.heap.size + 1 < ((w.alloc (.cells #[.int .i64 d, .int .i64 f, .slice a l.length c] 38)).alloc (.cells #[.int .i64 d2, .int .i64 f2, .slice a2 l2.length c2] 38)).heap.size := hx.lt
      clear hx
      have HB := Lib.hid ((HB.out.alloc HB.out.size (.cells #[.int .i64 d, .int .i64 f, .slice a l.length c] 38)).alloc (by simp) (.cells #[.int .i64 d2, .int .i64 f2, .slice a2 l2.length c2] 38))
      generalize ((w.alloc (.cells #[.int .i64 d, .int .i64 f, .slice a l.length c] 38)).alloc (.cells #[.int .i64 d2, .int .i64 f2, .slice a2 l2.length c2] 38)) = w1 at *
      refine (HSZ.out _ (HR.out.since (Nat.le_refl _) HB.out)).mono ?_
      rintro e w2 ⟨rfl, hb⟩
      have LV := Lib.hid (LV.out.below hb)
      have LU := Lib.hid (LU.out.below hb)
      have HB := Lib.hid (HB.out.trans (hb.mono HB.out.size))
      have hs_w2 : w1.heap.size ≤ w2.heap.size := hb.size
      clear hb
      obtain ⟨lu_0, lu_1, lu_2⟩ := LU.out.cells
      go_wp2_with fail
      clear lu_0 lu_1 lu_2
      refine (HSZ2.out _ (HR2.out.since (Nat.le_refl _) HB.out)).mono ?_
      rintro e w3 ⟨rfl, hb⟩
      have LV := Lib.hid (LV.out.below hb)
      have LU := Lib.hid (LU.out.below hb)
      have HB := Lib.hid (HB.out.trans (hb.mono HB.out.size))
      have hs_w3 : w2.heap.size ≤ w3.heap.size := hb.size
      clear hb
      go_wp2
      go_ret
      exact ⟨rfl, HB.out⟩
    · obtain ⟨q1, q2, q3, q4⟩ := szV_ok hneg
      have HLEN2 := Lib.hid (show l2.length ≤ 1048576 by omega)
      have HZ2 := Lib.hid (show ∀ s ∈ l2, s.size ≤ 1048576 from fun s hs => by have := q2 s hs; omega)
      clear q2
      generalize szV r l2 = r2 at *
      clear q1 hneg hr2 hz2
      have hsp := fun (w' : World) (x y : Nat) (a' : Option Addr) (c' : Nat) (b' : Option Addr) (e' : Nat) (h : Own w' x (.slice a' l.length c') l) (h2 : Own w' y (.slice b' l2.length e') l2) => lowerC_spec d f d2 f2 x y l.length l2.length c' e' a' b' l l2 w' HLEN.out HLEN2.out HZ1.out HZ2.out h h2
      have him := fun (w' : World) (x y : Nat) (a' : Option Addr) (c' : Nat) (b' : Option Addr) (e' : Nat) (h : Own w' x (.slice a' l.length c') l) (h2 : Own w' y (.slice b' l2.length e') l2) => lowerC_impl d f d2 f2 x y l.length l2.length c' e' a' b' l l2 w' HLEN.out HLEN2.out HZ1.out HZ2.out h h2
      unfold BothPost at hsp him
      have hml := bothL_size false d f l d2 f2 l2
      generalize bothD d f l d2 f2 l2 = D at *
      generalize bothF d f l d2 f2 l2 = E at *
      generalize bothL false d f l d2 f2 l2 = L at *
      generalize bothB d f l d2 f2 l2 = ok at *
      have hm2 : L.length ≤ 1048576 := by have := HLEN.out; omega
      have HSP := Lib.hid hsp
      have HIM := Lib.hid him
      clear hsp him hml
      have hok : (ok != ok) = false := by simp
      have hLL0 : (0 : Int) ≤ (L.length : Int) := Int.natCast_nonneg _
      have hLL1 : (L.length : Int) ≤ 1048576 := by omega
      have hl0 : (0 : Int) ≤ (l.length : Int) := Int.natCast_nonneg _
      have hl1 : (l.length : Int) ≤ 1048576 := by have := HLEN.out; omega
      have hk0 : (0 : Int) ≤ (l2.length : Int) := Int.natCast_nonneg _
      have hk1 : (l2.length : Int) ≤ 1048576 := by have := HLEN2.out; omega
      have hqq : ((1 + (L.length : Int)) != (1 + (L.length : Int))) = false := by simp
      go_enter Try.func9, Try.ntmps9
      go_wp2_with fail
      have LV := Lib.hid ((LVar.new w d f (.slice a l.length c)).below (alloc_below _ (.cells #[.int .i64 d2, .int .i64 f2, .slice a2 l2.length c2] 38)))
      have hx := LVar.new (w.alloc (.cells #[.int .i64 d, .int .i64 f, .slice a l.length c] 38)) d2 f2 (.slice a2 l2.length c2)
      rw [show (w.alloc (.cells #[.int .i64 d, .int .i64 f, .slice a l.length c] 38)).heap.size = w.heap.size + 1 by simp] at hx
      have LU := Lib.hid hx
      have hs_w1 : w.heap.size + 1 < ((w.alloc (.cells #[.int .i64 d, .int .i64 f, .slice a l.length c] 38)).alloc (.cells #[.int .i64 d2, .int .i64 f2, .slice a2 l2.length c2] 38)).heap.size := hx.lt
      clear hx
      have HB := Lib.hid ((HB.out.alloc HB.out.size (.cells #[.int .i64 d, .int .i64 f, .slice a l.length c] 38)).alloc (by simp) (.cells #[.int .i64 d2, .int .i64 f2, .slice a2 l2.length c2] 38))
      generalize ((w.alloc (.cells #[.int .i64 d, .int .i64 f, .slice a l.length c] 38)).alloc (.cells #[.int .i64 d2, .int .i64 f2, .slice a2 l2.length c2] 38)) = w1 at *
      refine (HSZ.out _ (HR.out.since (Nat.le_refl _) HB.out)).mono ?_
      rintro e w2 ⟨rfl, hb⟩
      have LV := Lib.hid (LV.out.below hb)
      have LU := Lib.hid (LU.out.below hb)
      have HB := Lib.hid (HB.out.trans (hb.mono HB.out.size))
      have hs_w2 : w1.heap.size ≤ w2.heap.size := hb.size
      clear hb
      obtain ⟨lu_0, lu_1, lu_2⟩ := LU.out.cells
      go_wp2_with fail
      clear lu_0 lu_1 lu_2
      refine (HSZ2.out _ (HR2.out.since (Nat.le_refl _) HB.out)).mono ?_
      rintro e w3 ⟨rfl, hb⟩
      have LV := Lib.hid (LV.out.below hb)
      have LU := Lib.hid (LU.out.below hb)
      have HB := Lib.hid (HB.out.trans (hb.mono HB.out.size))
      have hs_w3 : w2.heap.size ≤ w3.heap.size := hb.size
      clear hb
      go_upto_region 8 with (fail)
      obtain ⟨lv_0, lv_1, lv_2⟩ := LV.out.cells
      obtain ⟨lu_0, lu_1, lu_2⟩ := LU.out.cells
      have S0 : w3.cell? ⟨w.heap.size, 0, none⟩ = some (.int .i64 d) ∧ w3.cell? ⟨w.heap.size, 1, none⟩ = some (.int .i64 f) ∧ w3.cell? ⟨w.heap.size, 2, none⟩ = some (.slice a l.length c) ∧ w3.cell? ⟨w.heap.size + 1, 0, none⟩ = some (.int .i64 d2) ∧ w3.cell? ⟨w.heap.size + 1, 1, none⟩ = some (.int .i64 f2) ∧ w3.cell? ⟨w.heap.size + 1, 2, none⟩ = some (.slice a2 l2.length c2) ∧ Below w3.heap.size w3 w3 := ⟨lv_0, lv_1, lv_2, lu_0, lu_1, lu_2, Below.refl _ _⟩
      have HTO := Lib.hid (fun (w' : World) (hb : Below w3.heap.size w3 w') => to_card d f a l.length c l w' rfl HLEN.out (HR.out.since (Nat.le_refl _) (HB.out.trans (hb.mono HB.out.size))))
      have HTO2 := Lib.hid (fun (w' : World) (hb : Below w3.heap.size w3 w') => to_card d2 f2 a2 l2.length c2 l2 w' rfl HLEN2.out (HR2.out.since (Nat.le_refl _) (HB.out.trans (hb.mono HB.out.size))))
      go_cut [6, 7] (fun s6 s7 wx => ∃ (b6 : Nat) (aw : Option Addr) (cw : Nat), s6 = .pointer (some ⟨b6, 0, none⟩) ∧ s7 = .bool ok ∧ Hid (Var wx b6 D E (.slice aw L.length cw)) ∧ Hid (Own wx w3.heap.size (.slice aw L.length cw) L) ∧ Hid (Below w3.heap.size w3 wx) ∧ w3.heap.size ≤ b6)
      case first =>
        go_region_held3 (fun w' => w'.cell? ⟨w.heap.size, 0, none⟩ = some (.int .i64 d) ∧ w'.cell? ⟨w.heap.size, 1, none⟩ = some (.int .i64 f) ∧ w'.cell? ⟨w.heap.size, 2, none⟩ = some (.slice a l.length c) ∧ w'.cell? ⟨w.heap.size + 1, 0, none⟩ = some (.int .i64 d2) ∧ w'.cell? ⟨w.heap.size + 1, 1, none⟩ = some (.int .i64 f2) ∧ w'.cell? ⟨w.heap.size + 1, 2, none⟩ = some (.slice a2 l2.length c2) ∧ Below w3.heap.size w3 w')
          (first | with_reducible exact S0 | with_reducible exact eqs_drew S0 | with_reducible exact eqs_next (by assumption) hb | with_reducible exact eqs_drew (by assumption) | with_reducible assumption | with_reducible exact eqs_next (by assumption) (alloc_below _ _) | with_reducible exact six_of S0 (HWZ.out.alloc HWZ.out.size _) | with_reducible exact six_of S0 (((HWZ.out.setCell (by first | exact HWZ.out.size | exact hbx.size | exact hby.size | exact Nat.le_refl _ | (simp; done) | omega) _).setCell (by first | exact HWZ.out.size | exact hbx.size | exact hby.size | exact Nat.le_refl _ | (simp; done) | omega) _).setCell (by first | exact HWZ.out.size | exact hbx.size | exact hby.size | exact Nat.le_refl _ | (simp; done) | omega) _))
          ((first | (go_at_call_of 28 (Value.agg #[.int .i64 d, .int .i64 f, .slice a l.length c]); refine (HTO.out _ (eqs_below (by assumption))).mono ?_; rintro e wx ⟨as_, cs_, rfl, hb, hox⟩; have hbx : Below w3.heap.size w3 wx := Below.trans (eqs_below (by assumption)) (hb.mono (Below.size (eqs_below (by assumption)))); have OX := Lib.hid hox; clear hox; (first | (have HV := Lib.hid (HV.out.below hb)) | (have hv0 := Var.below (Var.new _ 0 0 (.slice none 0 0)) hb; have HV := Lib.hid hv0; clear hv0) | (have hv0 := Var.below (w := (w3.alloc (.cells #[.int .i64 0, .int .i64 0, .slice none 0 0] 30)).drew) (b := w3.heap.size) (Var.new w3 0 0 (.slice none 0 0)) hb; have HV := Lib.hid hv0; clear hv0) | skip)) | (go_at_call_of 28 (Value.agg #[.int .i64 d2, .int .i64 f2, .slice a2 l2.length c2]); refine (HTO2.out _ (eqs_below (by assumption))).mono ?_; rintro e wy ⟨at_, ct_, rfl, hb, hoy⟩; have hby : Below w3.heap.size w3 wy := Below.trans (eqs_below (by assumption)) (hb.mono (Below.size (eqs_below (by assumption)))); have OY := Lib.hid hoy; clear hoy; (first | (have OX := Lib.hid (OX.out.below hb)) | (have OX := Lib.hid ((OX.out.below (alloc_below _ _)).below hb))); (first | (have HV := Lib.hid (HV.out.below hb)) | (have hv0 := Var.below (Var.new _ 0 0 (.slice none 0 0)) hb; have HV := Lib.hid hv0; clear hv0) | (have hv0 := Var.below (w := (w3.alloc (.cells #[.int .i64 0, .int .i64 0, .slice none 0 0] 30)).drew) (b := w3.heap.size) (Var.new w3 0 0 (.slice none 0 0)) hb; have HV := Lib.hid hv0; clear hv0) | skip)) | (go_at_call 32; refine (HSP.out _ _ _ _ _ _ _ (by first | exact OX.out | exact OX.out.below (alloc_below _ _)) (by first | exact OY.out | exact OY.out.below (alloc_below _ _))).mono ?_; rintro e wz ⟨aw, cw, rfl, hb, how⟩; have hbz : Below w3.heap.size w3 wz := Below.trans (eqs_below (by assumption)) (hb.mono (Below.size (eqs_below (by assumption)))); have HWZ := Lib.hid hbz; have OW := Lib.hid (how.mono (base2 := w3.heap.size) (Below.size (eqs_below (by assumption)))); clear how; (first | (have HV := Lib.hid (HV.out.below hb)) | (have hv0 := Var.below (Var.new _ 0 0 (.slice none 0 0)) hb; have HV := Lib.hid hv0; clear hv0) | (have hv0 := Var.below (w := (w3.alloc (.cells #[.int .i64 0, .int .i64 0, .slice none 0 0] 30)).drew) (b := w3.heap.size) (Var.new w3 0 0 (.slice none 0 0)) hb; have HV := Lib.hid hv0; clear hv0) | skip); (first | (have hv_0 := HV.out.cells.1; have hv_1 := HV.out.cells.2.1; have hv_2 := HV.out.cells.2.2; have fv_0 := HV.out.free 0; have fv_1 := HV.out.free 1; have fv_2 := HV.out.free 2) | skip))))
        all_goals
          go_wp2_with fail
          go_meet
          refine ⟨_, aw, cw, rfl, rfl, ?_, ?_, ?_, ?_⟩
          · first | exact Lib.hid (Var.new wz D E (.slice aw L.length cw)) | exact Lib.hid (HV.out.set3 D E (.slice aw L.length cw))
          · first | exact Lib.hid (OW.out.below (alloc_below _ _)) | exact Lib.hid (Own.aside3 OW.out HV.out)
          · first | exact Lib.hid (HWZ.out.alloc HWZ.out.size _) | exact Lib.hid (below_set3 HWZ.out (by first | exact hbx.size | exact hby.size | exact Nat.le_refl _ | (simp; done) | omega))
          · first | exact HWZ.out.size | exact hbx.size | exact hby.size | exact Nat.le_refl _ | (simp; done) | omega
      case rest =>
        obtain ⟨bw, aw, cw, rfl, rfl, hv, ho, hb', hnw⟩ := hcut
        clear S0 HTO HTO2
        clear lv_0 lv_1 lv_2 lu_0 lu_1 lu_2
        have hb := hb'.out
        have hlw := hv.out.lt
        have Nw := Lib.hid ho.out.lt
        clear hb'
        generalize wc = w4 at *
        have LV := Lib.hid (LV.out.below hb)
        have LU := Lib.hid (LU.out.below hb)
        have HB := Lib.hid (HB.out.trans (hb.mono HB.out.size))
        have hs_w4 : w3.heap.size ≤ w4.heap.size := hb.size
        clear hb
        have VW := hv
        have Ow := ho
        clear hv ho
        obtain ⟨lv_0, lv_1, lv_2⟩ := LV.out.cells
        go_wp2_with fail
        clear lv_0 lv_1 lv_2
        refine (to_card d f a l.length c l _ rfl HLEN.out (HR.out.since (Nat.le_refl _) HB.out)).mono ?_
        rintro e w5 ⟨ax, cx, rfl, hb, ho⟩
        have LV := Lib.hid (LV.out.below hb)
        have LU := Lib.hid (LU.out.below hb)
        have VW := Lib.hid (VW.out.below hb)
        have Ow := Lib.hid (Ow.out.below hb)
        have HB := Lib.hid (HB.out.trans (hb.mono HB.out.size))
        have hs_w5 : w4.heap.size ≤ w5.heap.size := hb.size
        clear hb
        have Ox := Lib.hid ho
        have Nx := Lib.hid ho.lt
        clear ho
        obtain ⟨lu_0, lu_1, lu_2⟩ := (LU.out.below (alloc_below w5 (.cells #[.int .i64 d, .int .i64 f, .slice ax l.length cx] 30))).cells
        go_wp2_with fail
        clear lu_0 lu_1 lu_2
        have hv0 := Var.new w5 d f (.slice ax l.length cx)
        have hb := alloc_below w5 (.cells #[.int .i64 d, .int .i64 f, .slice ax l.length cx] 30)
        have LV := Lib.hid (LV.out.below hb)
        have LU := Lib.hid (LU.out.below hb)
        have VW := Lib.hid (VW.out.below hb)
        have Ow := Lib.hid (Ow.out.below hb)
        have Ox := Lib.hid (Ox.out.below hb)
        have HB := Lib.hid (HB.out.trans (hb.mono HB.out.size))
        have hs_w6 : w5.heap.size < (w5.alloc (.cells #[.int .i64 d, .int .i64 f, .slice ax l.length cx] 30)).heap.size := hv0.lt
        have VX := Lib.hid hv0
        clear hv0 hb
        generalize (w5.alloc (.cells #[.int .i64 d, .int .i64 f, .slice ax l.length cx] 30)) = w6 at *
        refine (to_card d2 f2 a2 l2.length c2 l2 _ rfl HLEN2.out (HR2.out.since (Nat.le_refl _) HB.out)).mono ?_
        rintro e w7 ⟨ay, cy, rfl, hb, ho⟩
        have LV := Lib.hid (LV.out.below hb)
        have LU := Lib.hid (LU.out.below hb)
        have VW := Lib.hid (VW.out.below hb)
        have Ow := Lib.hid (Ow.out.below hb)
        have Ox := Lib.hid (Ox.out.below hb)
        have VX := Lib.hid (VX.out.below hb)
        have HB := Lib.hid (HB.out.trans (hb.mono HB.out.size))
        have hs_w7 : w6.heap.size ≤ w7.heap.size := hb.size
        clear hb
        have Oy := Lib.hid ho
        have Ny := Lib.hid ho.lt
        clear ho
        obtain ⟨vx_0, vx_1, vx_2⟩ := (VX.out.below (alloc_below w7 (.cells #[.int .i64 d2, .int .i64 f2, .slice ay l2.length cy] 30))).cells
        go_wp2_with fail
        clear vx_0 vx_1 vx_2
        have hv0 := Var.new w7 d2 f2 (.slice ay l2.length cy)
        have hb := alloc_below w7 (.cells #[.int .i64 d2, .int .i64 f2, .slice ay l2.length cy] 30)
        have LV := Lib.hid (LV.out.below hb)
        have LU := Lib.hid (LU.out.below hb)
        have VW := Lib.hid (VW.out.below hb)
        have Ow := Lib.hid (Ow.out.below hb)
        have Ox := Lib.hid (Ox.out.below hb)
        have VX := Lib.hid (VX.out.below hb)
        have Oy := Lib.hid (Oy.out.below hb)
        have HB := Lib.hid (HB.out.trans (hb.mono HB.out.size))
        have hs_w8 : w7.heap.size < (w7.alloc (.cells #[.int .i64 d2, .int .i64 f2, .slice ay l2.length cy] 30)).heap.size := hv0.lt
        have VY := Lib.hid hv0
        clear hv0 hb
        generalize (w7.alloc (.cells #[.int .i64 d2, .int .i64 f2, .slice ay l2.length cy] 30)) = w8 at *
        refine (HIM.out _ _ _ _ _ _ _ Ox.out Oy.out).mono ?_
        rintro e w9 ⟨ag, cg, rfl, hb, ho⟩
        have LV := Lib.hid (LV.out.below hb)
        have LU := Lib.hid (LU.out.below hb)
        have VW := Lib.hid (VW.out.below hb)
        have Ow := Lib.hid (Ow.out.below hb)
        have Ox := Lib.hid (Ox.out.below hb)
        have VX := Lib.hid (VX.out.below hb)
        have Oy := Lib.hid (Oy.out.below hb)
        have VY := Lib.hid (VY.out.below hb)
        have HB := Lib.hid (HB.out.trans (hb.mono HB.out.size))
        have hs_w9 : w8.heap.size ≤ w9.heap.size := hb.size
        clear hb
        have Og := Lib.hid ho
        have Ng := Lib.hid ho.lt
        clear ho
        obtain ⟨vw_0, vw_1, vw_2⟩ := (VW.out.below (alloc_below w9 (.cells #[.int .i64 D, .int .i64 E, .slice ag L.length cg] 30))).cells
        go_wp2_with fail
        clear vw_0 vw_1 vw_2
        have hv0 := Var.new w9 D E (.slice ag L.length cg)
        have hb := alloc_below w9 (.cells #[.int .i64 D, .int .i64 E, .slice ag L.length cg] 30)
        have LV := Lib.hid (LV.out.below hb)
        have LU := Lib.hid (LU.out.below hb)
        have VW := Lib.hid (VW.out.below hb)
        have Ow := Lib.hid (Ow.out.below hb)
        have Ox := Lib.hid (Ox.out.below hb)
        have VX := Lib.hid (VX.out.below hb)
        have Oy := Lib.hid (Oy.out.below hb)
        have VY := Lib.hid (VY.out.below hb)
        have Og := Lib.hid (Og.out.below hb)
        have HB := Lib.hid (HB.out.trans (hb.mono HB.out.size))
        have hs_w10 : w9.heap.size < (w9.alloc (.cells #[.int .i64 D, .int .i64 E, .slice ag L.length cg] 30)).heap.size := hv0.lt
        have VG := Lib.hid hv0
        clear hv0 hb
        generalize (w9.alloc (.cells #[.int .i64 D, .int .i64 E, .slice ag L.length cg] 30)) = w10 at *
        refine (eq_card D E L.length cg cw ag aw L rfl hm2 _ Og.out.row2.2 Ow.out.row2.2).mono ?_
        rintro e w11 ⟨rfl, hb⟩
        have LV := Lib.hid (LV.out.below hb)
        have LU := Lib.hid (LU.out.below hb)
        have VW := Lib.hid (VW.out.below hb)
        have Ow := Lib.hid (Ow.out.below hb)
        have Ox := Lib.hid (Ox.out.below hb)
        have VX := Lib.hid (VX.out.below hb)
        have Oy := Lib.hid (Oy.out.below hb)
        have VY := Lib.hid (VY.out.below hb)
        have Og := Lib.hid (Og.out.below hb)
        have VG := Lib.hid (VG.out.below hb)
        have HB := Lib.hid (HB.out.trans (hb.mono HB.out.size))
        have hs_w11 : w10.heap.size ≤ w11.heap.size := hb.size
        clear hb
        obtain ⟨vx_0, vx_1, vx_2⟩ := VX.out.cells
        obtain ⟨lv_0, lv_1, lv_2⟩ := LV.out.cells
        go_wp2_with fail
        have S0 : w11.cell? ⟨w5.heap.size, 0, none⟩ = some (.int .i64 d) ∧ w11.cell? ⟨w5.heap.size, 1, none⟩ = some (.int .i64 f) ∧ w11.cell? ⟨w5.heap.size, 2, none⟩ = some (.slice ax l.length cx) ∧ w11.cell? ⟨w.heap.size, 0, none⟩ = some (.int .i64 d) ∧ w11.cell? ⟨w.heap.size, 1, none⟩ = some (.int .i64 f) ∧ w11.cell? ⟨w.heap.size, 2, none⟩ = some (.slice a l.length c) ∧ Below w11.heap.size w11 w11 := ⟨vx_0, vx_1, vx_2, lv_0, lv_1, lv_2, Below.refl _ _⟩
        have HTO := Lib.hid (fun (w' : World) (hb : Below w11.heap.size w11 w') => to_card d f a l.length c l w' rfl HLEN.out (HR.out.since (Nat.le_refl _) (HB.out.trans (hb.mono HB.out.size))))
        have HTO2 := Lib.hid (fun (w' : World) (hb : Below w11.heap.size w11 w') => to_card d2 f2 a2 l2.length c2 l2 w' rfl HLEN2.out (HR2.out.since (Nat.le_refl _) (HB.out.trans (hb.mono HB.out.size))))
        have HXR := Lib.hid (fun (w' : World) (hb : Below w11.heap.size w11 w') => (Ox.out.below hb).row2.2)
        go_region_held3 (fun w' => w'.cell? ⟨w5.heap.size, 0, none⟩ = some (.int .i64 d) ∧ w'.cell? ⟨w5.heap.size, 1, none⟩ = some (.int .i64 f) ∧ w'.cell? ⟨w5.heap.size, 2, none⟩ = some (.slice ax l.length cx) ∧ w'.cell? ⟨w.heap.size, 0, none⟩ = some (.int .i64 d) ∧ w'.cell? ⟨w.heap.size, 1, none⟩ = some (.int .i64 f) ∧ w'.cell? ⟨w.heap.size, 2, none⟩ = some (.slice a l.length c) ∧ Below w11.heap.size w11 w')
          (first | exact S0 | exact eqs_drew S0 | exact eqs_next (by assumption) hb | exact eqs_next (by assumption) hb2 | exact eqs_drew (by assumption) | assumption)
          ((first | (go_at_call 28; refine (HTO.out _ (eqs_below (by assumption))).mono ?_; rintro e wy ⟨at_, ct_, rfl, hb, hoy⟩; have OY := Lib.hid hoy; clear hoy) | (go_at_call 29; refine (eq_card d f l.length cx ct_ ax at_ l rfl HLEN.out _ (HXR.out _ (eqs_below (by assumption))) (OY.out.row2.2)).mono ?_; rintro e wz1 ⟨rfl, hb2⟩)))
        have hbz : Below w11.heap.size w11 wz1 := eqs_below (w' := wz1) (by assumption)
        clear S0 HTO HTO2 HXR hb hb2 OY
        clear vx_0 vx_1 vx_2 lv_0 lv_1 lv_2
        have LV := Lib.hid (LV.out.below hbz)
        have LU := Lib.hid (LU.out.below hbz)
        have VW := Lib.hid (VW.out.below hbz)
        have Ow := Lib.hid (Ow.out.below hbz)
        have Ox := Lib.hid (Ox.out.below hbz)
        have VX := Lib.hid (VX.out.below hbz)
        have Oy := Lib.hid (Oy.out.below hbz)
        have VY := Lib.hid (VY.out.below hbz)
        have Og := Lib.hid (Og.out.below hbz)
        have VG := Lib.hid (VG.out.below hbz)
        have HB := Lib.hid (HB.out.trans (hbz.mono HB.out.size))
        have hs_wz1 : w11.heap.size ≤ wz1.heap.size := hbz.size
        clear hbz
        obtain ⟨vy_0, vy_1, vy_2⟩ := VY.out.cells
        obtain ⟨lu_0, lu_1, lu_2⟩ := LU.out.cells
        go_wp2_with fail
        have S0 : wz1.cell? ⟨w7.heap.size, 0, none⟩ = some (.int .i64 d2) ∧ wz1.cell? ⟨w7.heap.size, 1, none⟩ = some (.int .i64 f2) ∧ wz1.cell? ⟨w7.heap.size, 2, none⟩ = some (.slice ay l2.length cy) ∧ wz1.cell? ⟨w.heap.size + 1, 0, none⟩ = some (.int .i64 d2) ∧ wz1.cell? ⟨w.heap.size + 1, 1, none⟩ = some (.int .i64 f2) ∧ wz1.cell? ⟨w.heap.size + 1, 2, none⟩ = some (.slice a2 l2.length c2) ∧ Below wz1.heap.size wz1 wz1 := ⟨vy_0, vy_1, vy_2, lu_0, lu_1, lu_2, Below.refl _ _⟩
        have HTO := Lib.hid (fun (w' : World) (hb : Below wz1.heap.size wz1 w') => to_card d f a l.length c l w' rfl HLEN.out (HR.out.since (Nat.le_refl _) (HB.out.trans (hb.mono HB.out.size))))
        have HTO2 := Lib.hid (fun (w' : World) (hb : Below wz1.heap.size wz1 w') => to_card d2 f2 a2 l2.length c2 l2 w' rfl HLEN2.out (HR2.out.since (Nat.le_refl _) (HB.out.trans (hb.mono HB.out.size))))
        have HXR := Lib.hid (fun (w' : World) (hb : Below wz1.heap.size wz1 w') => (Oy.out.below hb).row2.2)
        go_region_held3 (fun w' => w'.cell? ⟨w7.heap.size, 0, none⟩ = some (.int .i64 d2) ∧ w'.cell? ⟨w7.heap.size, 1, none⟩ = some (.int .i64 f2) ∧ w'.cell? ⟨w7.heap.size, 2, none⟩ = some (.slice ay l2.length cy) ∧ w'.cell? ⟨w.heap.size + 1, 0, none⟩ = some (.int .i64 d2) ∧ w'.cell? ⟨w.heap.size + 1, 1, none⟩ = some (.int .i64 f2) ∧ w'.cell? ⟨w.heap.size + 1, 2, none⟩ = some (.slice a2 l2.length c2) ∧ Below wz1.heap.size wz1 w')
          (first | exact S0 | exact eqs_drew S0 | exact eqs_next (by assumption) hb | exact eqs_next (by assumption) hb2 | exact eqs_drew (by assumption) | assumption)
          ((first | (go_at_call 28; refine (HTO2.out _ (eqs_below (by assumption))).mono ?_; rintro e wy ⟨at_, ct_, rfl, hb, hoy⟩; have OY := Lib.hid hoy; clear hoy) | (go_at_call 29; refine (eq_card d2 f2 l2.length cy ct_ ay at_ l2 rfl HLEN2.out _ (HXR.out _ (eqs_below (by assumption))) (OY.out.row2.2)).mono ?_; rintro e wz2 ⟨rfl, hb2⟩)))
        have hbz : Below wz1.heap.size wz1 wz2 := eqs_below (w' := wz2) (by assumption)
        clear S0 HTO HTO2 HXR hb hb2 OY
        clear vy_0 vy_1 vy_2 lu_0 lu_1 lu_2
        have LV := Lib.hid (LV.out.below hbz)
        have LU := Lib.hid (LU.out.below hbz)
        have VW := Lib.hid (VW.out.below hbz)
        have Ow := Lib.hid (Ow.out.below hbz)
        have Ox := Lib.hid (Ox.out.below hbz)
        have VX := Lib.hid (VX.out.below hbz)
        have Oy := Lib.hid (Oy.out.below hbz)
        have VY := Lib.hid (VY.out.below hbz)
        have Og := Lib.hid (Og.out.below hbz)
        have VG := Lib.hid (VG.out.below hbz)
        have HB := Lib.hid (HB.out.trans (hbz.mono HB.out.size))
        have hs_wz2 : wz1.heap.size ≤ wz2.heap.size := hbz.size
        clear hbz
        obtain ⟨vx_0, vx_1, vx_2⟩ := VX.out.cells
        go_wp2_with fail
        clear vx_0 vx_1 vx_2
        refine (mark_card d f _ ax cx l HLEN.out _ Ox.out).mono ?_
        rintro e w12 ⟨rfl, hmk, hg⟩
        have LV := Lib.hid (LV.out.mark hg (fun k e => by have h1 := Nx.out k e; omega))
        have LU := Lib.hid (LU.out.mark hg (fun k e => by have h1 := Nx.out k e; omega))
        have VW := Lib.hid (VW.out.mark hg (fun k e => by have h1 := Nx.out k e; omega))
        have Ow := Lib.hid (Own.mark Ow.out hg (fun k k2 e e2 => by have h1 := Nx.out k2 e2; have h2 := Nw.out k e; omega))
        have VX := Lib.hid (VX.out.mark hg (fun k e => by have h1 := Nx.out k e; omega))
        have Oy := Lib.hid (Own.mark Oy.out hg (fun k k2 e e2 => by have h1 := Nx.out k2 e2; have h2 := Ny.out k e; omega))
        have VY := Lib.hid (VY.out.mark hg (fun k e => by have h1 := Nx.out k e; omega))
        have Og := Lib.hid (Own.mark Og.out hg (fun k k2 e e2 => by have h1 := Nx.out k2 e2; have h2 := Ng.out k e; omega))
        have VG := Lib.hid (VG.out.mark hg (fun k e => by have h1 := Nx.out k e; omega))
        have HB := Lib.hid (HB.out.grown hg HB.out.size (fun k e => by have h1 := Nx.out k e; omega))
        have hs_w12 : wz2.heap.size ≤ w12.heap.size := hg.size
        have Ox := Lib.hid hmk
        clear hmk hg
        obtain ⟨vy_0, vy_1, vy_2⟩ := VY.out.cells
        go_wp2_with fail
        clear vy_0 vy_1 vy_2
        refine (mark_card2 l.length HLEN.out d2 f2 _ ay cy l2 HLEN2.out _ Oy.out).mono ?_
        rintro e w13 ⟨rfl, hmk, hg⟩
        have LV := Lib.hid (LV.out.mark hg (fun k e => by have h1 := Ny.out k e; omega))
        have LU := Lib.hid (LU.out.mark hg (fun k e => by have h1 := Ny.out k e; omega))
        have VW := Lib.hid (VW.out.mark hg (fun k e => by have h1 := Ny.out k e; omega))
        have Ow := Lib.hid (Own.mark Ow.out hg (fun k k2 e e2 => by have h1 := Ny.out k2 e2; have h2 := Nw.out k e; omega))
        have Ox := Lib.hid (Own.mark Ox.out hg (fun k k2 e e2 => by have h1 := Ny.out k2 e2; have h2 := Nx.out k e; omega))
        have VX := Lib.hid (VX.out.mark hg (fun k e => by have h1 := Ny.out k e; omega))
        have VY := Lib.hid (VY.out.mark hg (fun k e => by have h1 := Ny.out k e; omega))
        have Og := Lib.hid (Own.mark Og.out hg (fun k k2 e e2 => by have h1 := Ny.out k2 e2; have h2 := Ng.out k e; omega))
        have VG := Lib.hid (VG.out.mark hg (fun k e => by have h1 := Ny.out k e; omega))
        have HB := Lib.hid (HB.out.grown hg HB.out.size (fun k e => by have h1 := Ny.out k e; omega))
        have hs_w13 : w12.heap.size ≤ w13.heap.size := hg.size
        have Oy := Lib.hid hmk
        clear hmk hg
        obtain ⟨vg_0, vg_1, vg_2⟩ := VG.out.cells
        obtain ⟨vw_0, vw_1, vw_2⟩ := VW.out.cells
        go_wp2_with fail
        clear vg_0 vg_1 vg_2 vw_0 vw_1 vw_2
        refine (eq_card D E L.length cg cw ag aw L rfl hm2 _ Og.out.row2.2 Ow.out.row2.2).mono ?_
        rintro e w14 ⟨rfl, hb⟩
        have LV := Lib.hid (LV.out.below hb)
        have LU := Lib.hid (LU.out.below hb)
        have VW := Lib.hid (VW.out.below hb)
        have Ow := Lib.hid (Ow.out.below hb)
        have Ox := Lib.hid (Ox.out.below hb)
        have VX := Lib.hid (VX.out.below hb)
        have Oy := Lib.hid (Oy.out.below hb)
        have VY := Lib.hid (VY.out.below hb)
        have Og := Lib.hid (Og.out.below hb)
        have VG := Lib.hid (VG.out.below hb)
        have HB := Lib.hid (HB.out.trans (hb.mono HB.out.size))
        have hs_w14 : w13.heap.size ≤ w14.heap.size := hb.size
        clear hb
        obtain ⟨vg_0, vg_1, vg_2⟩ := VG.out.cells
        go_wp2_with fail
        clear vg_0 vg_1 vg_2
        refine (mark_card D E _ ag cg L hm2 _ Og.out).mono ?_
        rintro e w15 ⟨rfl, hmk, hg⟩
        have LV := Lib.hid (LV.out.mark hg (fun k e => by have h1 := Ng.out k e; omega))
        have LU := Lib.hid (LU.out.mark hg (fun k e => by have h1 := Ng.out k e; omega))
        have VW := Lib.hid (VW.out.mark hg (fun k e => by have h1 := Ng.out k e; omega))
        have Ow := Lib.hid (Own.mark Ow.out hg (fun k k2 e e2 => by have h1 := Ng.out k2 e2; have h2 := Nw.out k e; omega))
        have Ox := Lib.hid (Own.mark Ox.out hg (fun k k2 e e2 => by have h1 := Ng.out k2 e2; have h2 := Nx.out k e; omega))
        have VX := Lib.hid (VX.out.mark hg (fun k e => by have h1 := Ng.out k e; omega))
        have Oy := Lib.hid (Own.mark Oy.out hg (fun k k2 e e2 => by have h1 := Ng.out k2 e2; have h2 := Ny.out k e; omega))
        have VY := Lib.hid (VY.out.mark hg (fun k e => by have h1 := Ng.out k e; omega))
        have VG := Lib.hid (VG.out.mark hg (fun k e => by have h1 := Ng.out k e; omega))
        have HB := Lib.hid (HB.out.grown hg HB.out.size (fun k e => by have h1 := Ng.out k e; omega))
        have hs_w15 : w14.heap.size ≤ w15.heap.size := hg.size
        have Og := Lib.hid hmk
        clear hmk hg
        obtain ⟨vg_0, vg_1, vg_2⟩ := VG.out.cells
        go_wp2_with fail
        clear vg_0 vg_1 vg_2
        refine (held_card D E _ ag L.length cg hm2 _ Og.out).mono ?_
        rintro e w16 ⟨rfl, hb⟩
        have LV := Lib.hid (LV.out.below hb)
        have LU := Lib.hid (LU.out.below hb)
        have VW := Lib.hid (VW.out.below hb)
        have Ow := Lib.hid (Ow.out.below hb)
        have Ox := Lib.hid (Ox.out.below hb)
        have VX := Lib.hid (VX.out.below hb)
        have Oy := Lib.hid (Oy.out.below hb)
        have VY := Lib.hid (VY.out.below hb)
        have Og := Lib.hid (Og.out.below hb)
        have VG := Lib.hid (VG.out.below hb)
        have HB := Lib.hid (HB.out.trans (hb.mono HB.out.size))
        have hs_w16 : w15.heap.size ≤ w16.heap.size := hb.size
        clear hb
        go_upto_region 31 with (fail)
        obtain ⟨lv_0, lv_1, lv_2⟩ := LV.out.cells
        obtain ⟨lu_0, lu_1, lu_2⟩ := LU.out.cells
        have S0 : w16.cell? ⟨w.heap.size, 0, none⟩ = some (.int .i64 d) ∧ w16.cell? ⟨w.heap.size, 1, none⟩ = some (.int .i64 f) ∧ w16.cell? ⟨w.heap.size, 2, none⟩ = some (.slice a l.length c) ∧ w16.cell? ⟨w.heap.size + 1, 0, none⟩ = some (.int .i64 d2) ∧ w16.cell? ⟨w.heap.size + 1, 1, none⟩ = some (.int .i64 f2) ∧ w16.cell? ⟨w.heap.size + 1, 2, none⟩ = some (.slice a2 l2.length c2) ∧ Below w16.heap.size w16 w16 := ⟨lv_0, lv_1, lv_2, lu_0, lu_1, lu_2, Below.refl _ _⟩
        have HTO := Lib.hid (fun (w' : World) (hb : Below w16.heap.size w16 w') => to_card d f a l.length c l w' rfl HLEN.out (HR.out.since (Nat.le_refl _) (HB.out.trans (hb.mono HB.out.size))))
        have HTO2 := Lib.hid (fun (w' : World) (hb : Below w16.heap.size w16 w') => to_card d2 f2 a2 l2.length c2 l2 w' rfl HLEN2.out (HR2.out.since (Nat.le_refl _) (HB.out.trans (hb.mono HB.out.size))))
        go_cut [15, 16] (fun s6 s7 wx => ∃ (b6 : Nat) (aw : Option Addr) (cw : Nat), s6 = .pointer (some ⟨b6, 0, none⟩) ∧ s7 = .bool ok ∧ Hid (Var wx b6 D E (.slice aw L.length cw)) ∧ Hid (Own wx w16.heap.size (.slice aw L.length cw) L) ∧ Hid (Below w16.heap.size w16 wx) ∧ w16.heap.size ≤ b6)
        case first =>
          go_region_held3 (fun w' => w'.cell? ⟨w.heap.size, 0, none⟩ = some (.int .i64 d) ∧ w'.cell? ⟨w.heap.size, 1, none⟩ = some (.int .i64 f) ∧ w'.cell? ⟨w.heap.size, 2, none⟩ = some (.slice a l.length c) ∧ w'.cell? ⟨w.heap.size + 1, 0, none⟩ = some (.int .i64 d2) ∧ w'.cell? ⟨w.heap.size + 1, 1, none⟩ = some (.int .i64 f2) ∧ w'.cell? ⟨w.heap.size + 1, 2, none⟩ = some (.slice a2 l2.length c2) ∧ Below w16.heap.size w16 w')
            (first | with_reducible exact S0 | with_reducible exact eqs_drew S0 | with_reducible exact eqs_next (by assumption) hb | with_reducible exact eqs_drew (by assumption) | with_reducible assumption | with_reducible exact eqs_next (by assumption) (alloc_below _ _) | with_reducible exact six_of S0 (HWZ.out.alloc HWZ.out.size _) | with_reducible exact six_of S0 (((HWZ.out.setCell (by first | exact HWZ.out.size | exact hbx.size | exact hby.size | exact Nat.le_refl _ | (simp; done) | omega) _).setCell (by first | exact HWZ.out.size | exact hbx.size | exact hby.size | exact Nat.le_refl _ | (simp; done) | omega) _).setCell (by first | exact HWZ.out.size | exact hbx.size | exact hby.size | exact Nat.le_refl _ | (simp; done) | omega) _))
            ((first | (go_at_call_of 28 (Value.agg #[.int .i64 d, .int .i64 f, .slice a l.length c]); refine (HTO.out _ (eqs_below (by assumption))).mono ?_; rintro e wx ⟨as_, cs_, rfl, hb, hox⟩; have hbx : Below w16.heap.size w16 wx := Below.trans (eqs_below (by assumption)) (hb.mono (Below.size (eqs_below (by assumption)))); have OX := Lib.hid hox; clear hox; (first | (have HV := Lib.hid (HV.out.below hb)) | (have hv0 := Var.below (Var.new _ 0 0 (.slice none 0 0)) hb; have HV := Lib.hid hv0; clear hv0) | (have hv0 := Var.below (w := (w16.alloc (.cells #[.int .i64 0, .int .i64 0, .slice none 0 0] 30)).drew) (b := w16.heap.size) (Var.new w16 0 0 (.slice none 0 0)) hb; have HV := Lib.hid hv0; clear hv0) | skip)) | (go_at_call_of 28 (Value.agg #[.int .i64 d2, .int .i64 f2, .slice a2 l2.length c2]); refine (HTO2.out _ (eqs_below (by assumption))).mono ?_; rintro e wy ⟨at_, ct_, rfl, hb, hoy⟩; have hby : Below w16.heap.size w16 wy := Below.trans (eqs_below (by assumption)) (hb.mono (Below.size (eqs_below (by assumption)))); have OY := Lib.hid hoy; clear hoy; (first | (have OX := Lib.hid (OX.out.below hb)) | (have OX := Lib.hid ((OX.out.below (alloc_below _ _)).below hb))); (first | (have HV := Lib.hid (HV.out.below hb)) | (have hv0 := Var.below (Var.new _ 0 0 (.slice none 0 0)) hb; have HV := Lib.hid hv0; clear hv0) | (have hv0 := Var.below (w := (w16.alloc (.cells #[.int .i64 0, .int .i64 0, .slice none 0 0] 30)).drew) (b := w16.heap.size) (Var.new w16 0 0 (.slice none 0 0)) hb; have HV := Lib.hid hv0; clear hv0) | skip)) | (go_at_call 17; refine (HIM.out _ _ _ _ _ _ _ (by first | exact OX.out | exact OX.out.below (alloc_below _ _)) (by first | exact OY.out | exact OY.out.below (alloc_below _ _))).mono ?_; rintro e wz ⟨aw, cw, rfl, hb, how⟩; have hbz : Below w16.heap.size w16 wz := Below.trans (eqs_below (by assumption)) (hb.mono (Below.size (eqs_below (by assumption)))); have HWZ := Lib.hid hbz; have OW := Lib.hid (how.mono (base2 := w16.heap.size) (Below.size (eqs_below (by assumption)))); clear how; (first | (have HV := Lib.hid (HV.out.below hb)) | (have hv0 := Var.below (Var.new _ 0 0 (.slice none 0 0)) hb; have HV := Lib.hid hv0; clear hv0) | (have hv0 := Var.below (w := (w16.alloc (.cells #[.int .i64 0, .int .i64 0, .slice none 0 0] 30)).drew) (b := w16.heap.size) (Var.new w16 0 0 (.slice none 0 0)) hb; have HV := Lib.hid hv0; clear hv0) | skip); (first | (have hv_0 := HV.out.cells.1; have hv_1 := HV.out.cells.2.1; have hv_2 := HV.out.cells.2.2; have fv_0 := HV.out.free 0; have fv_1 := HV.out.free 1; have fv_2 := HV.out.free 2) | skip))))
          all_goals
            go_wp2_with fail
            go_meet
            refine ⟨_, aw, cw, rfl, rfl, ?_, ?_, ?_, ?_⟩
            · first | exact Lib.hid (Var.new wz D E (.slice aw L.length cw)) | exact Lib.hid (HV.out.set3 D E (.slice aw L.length cw))
            · first | exact Lib.hid (OW.out.below (alloc_below _ _)) | exact Lib.hid (Own.aside3 OW.out HV.out)
            · first | exact Lib.hid (HWZ.out.alloc HWZ.out.size _) | exact Lib.hid (below_set3 HWZ.out (by first | exact hbx.size | exact hby.size | exact Nat.le_refl _ | (simp; done) | omega))
            · first | exact HWZ.out.size | exact hbx.size | exact hby.size | exact Nat.le_refl _ | (simp; done) | omega
        case rest =>
          obtain ⟨bh, ah, ch, rfl, rfl, hv, ho, hb', hnh⟩ := hcut
          clear S0 HTO HTO2
          clear lv_0 lv_1 lv_2 lu_0 lu_1 lu_2
          have hb := hb'.out
          have hlh := hv.out.lt
          have Nh := Lib.hid ho.out.lt
          clear hb'
          generalize wc = w17 at *
          have LV := Lib.hid (LV.out.below hb)
          have LU := Lib.hid (LU.out.below hb)
          have VW := Lib.hid (VW.out.below hb)
          have Ow := Lib.hid (Ow.out.below hb)
          have Ox := Lib.hid (Ox.out.below hb)
          have VX := Lib.hid (VX.out.below hb)
          have Oy := Lib.hid (Oy.out.below hb)
          have VY := Lib.hid (VY.out.below hb)
          have Og := Lib.hid (Og.out.below hb)
          have VG := Lib.hid (VG.out.below hb)
          have HB := Lib.hid (HB.out.trans (hb.mono HB.out.size))
          have hs_w17 : w16.heap.size ≤ w17.heap.size := hb.size
          clear hb
          have VH := hv
          have Oh := ho
          clear hv ho
          obtain ⟨vw_0, vw_1, vw_2⟩ := VW.out.cells
          obtain ⟨vh_0, vh_1, vh_2⟩ := VH.out.cells
          go_wp2_with fail
          clear vw_0 vw_1 vw_2 vh_0 vh_1 vh_2
          refine (eq_card D E L.length ch cw ah aw L rfl hm2 _ Oh.out.row2.2 Ow.out.row2.2).mono ?_
          rintro e w18 ⟨rfl, hb⟩
          have LV := Lib.hid (LV.out.below hb)
          have LU := Lib.hid (LU.out.below hb)
          have VW := Lib.hid (VW.out.below hb)
          have Ow := Lib.hid (Ow.out.below hb)
          have Ox := Lib.hid (Ox.out.below hb)
          have VX := Lib.hid (VX.out.below hb)
          have Oy := Lib.hid (Oy.out.below hb)
          have VY := Lib.hid (VY.out.below hb)
          have Og := Lib.hid (Og.out.below hb)
          have VG := Lib.hid (VG.out.below hb)
          have VH := Lib.hid (VH.out.below hb)
          have Oh := Lib.hid (Oh.out.below hb)
          have HB := Lib.hid (HB.out.trans (hb.mono HB.out.size))
          have hs_w18 : w17.heap.size ≤ w18.heap.size := hb.size
          clear hb
          obtain ⟨vg_0, vg_1, vg_2⟩ := VG.out.cells
          go_wp2_with fail
          clear vg_0 vg_1 vg_2
          refine (held_card D E _ ag L.length cg hm2 _ Og.out).mono ?_
          rintro e w19 ⟨rfl, hb⟩
          have LV := Lib.hid (LV.out.below hb)
          have LU := Lib.hid (LU.out.below hb)
          have VW := Lib.hid (VW.out.below hb)
          have Ow := Lib.hid (Ow.out.below hb)
          have Ox := Lib.hid (Ox.out.below hb)
          have VX := Lib.hid (VX.out.below hb)
          have Oy := Lib.hid (Oy.out.below hb)
          have VY := Lib.hid (VY.out.below hb)
          have Og := Lib.hid (Og.out.below hb)
          have VG := Lib.hid (VG.out.below hb)
          have VH := Lib.hid (VH.out.below hb)
          have Oh := Lib.hid (Oh.out.below hb)
          have HB := Lib.hid (HB.out.trans (hb.mono HB.out.size))
          have hs_w19 : w18.heap.size ≤ w19.heap.size := hb.size
          clear hb
          go_wp2
          go_ret
          exact ⟨rfl, HB.out⟩
end Go.Proofs.Ytnkcmilhchidiaa.Order
