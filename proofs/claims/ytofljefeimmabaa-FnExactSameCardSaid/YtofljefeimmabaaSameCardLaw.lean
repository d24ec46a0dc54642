/- The law of SameCard: the walk (printed by wip/gen_samelaw.py). -/
import Derived.Test.YtofljefeimmabaaCardOkLaw
import Derived.Test.YtofljefeimmabaaCardSame2
namespace Go.Proofs.Ytofljefeimmabaa.Card
open Go.ChangeShapes Go.WideShapes Go.ChangeAt Go.RowKit
open Go.Proofs.Ytofljefeimmabaa.Strip Go.Proofs.Ytofljefeimmabaa.Strs
set_option linter.unusedVariables false

set_option maxRecDepth 100000 in
set_option maxHeartbeats 8000000 in
theorem exactSameCard (d f : Int) (a : Option Addr) (c : Nat) (l : List ByteArray) (d2 f2 : Int) (a2 : Option Addr) (c2 : Nat) (l2 : List ByteArray) (w : World) (hn : l.length ≤ maxLen) (hz : ∀ s ∈ l, s.size ≤ maxLen) (hr : ARow w a l) (hn2 : l2.length ≤ maxLen) (hz2 : ∀ s ∈ l2, s.size ≤ maxLen) (hr2 : ARow w a2 l2) :
    Calls Try.prog 9 #[.agg #[.int .i64 d, .int .i64 f, .slice a l.length c], .agg #[.int .i64 d2, .int .i64 f2, .slice a2 l2.length c2]] w fun e w' => e = .returned (.bool true) ∧ Below w.heap.size w w' := by
  have HSZ := Lib.hid (fun (w' : World) (hr : ARow w' a l) => sz_card 1048576 (by omega) (by omega) d f a l.length c l w' rfl hn hz hr)
  have HR := Lib.hid hr
  have HR2 := Lib.hid hr2
  have HB := Lib.hid (Below.refl w.heap.size w)
  have hnx := hn
  have hnx2 := hn2
  unfold maxLen at hnx hnx2
  by_cases hneg : szV 1048576 l < 0
  · rw [sz_big hneg] at HSZ
    clear hr hz hneg hr2 hz2
    go_enter Try.func9, Try.ntmps9
    go_wp2_with fail
    refine (HSZ.out _ ((HR.out.below (alloc_below _ _)).below (alloc_below _ _))).mono ?_
    rintro e w1 ⟨rfl, hb⟩
    go_wp2
    go_ret
    exact ⟨rfl, ((alloc_below w _).trans ((alloc_below _ _).mono (by simp))).trans (hb.mono (by simp; omega))⟩
  · obtain ⟨g1, g2, g3, g4⟩ := szV_ok hneg
    have HSZ2 := Lib.hid (fun (w' : World) (hr : ARow w' a2 l2) => sz_card (szV 1048576 l) g3 g4 d2 f2 a2 l2.length c2 l2 w' rfl hn2 hz2 hr)
    have HLEN := Lib.hid (show l.length ≤ 1048576 by omega)
    generalize szV 1048576 l = r at *
    clear g1 g2 hneg hz hr
    by_cases hneg : szV r l2 < 0
    · have hm1 : szV r l2 = -1 := by unfold szV at *; split at hneg <;> omega
      rw [hm1] at HSZ2
      clear hm1 hneg hr2 hz2
      go_enter Try.func9, Try.ntmps9
      go_wp2_with fail
      have LV := Lib.hid ((LVar.new w d f (.slice a l.length c)).below (alloc_below _ (.cells #[.int .i64 d2, .int .i64 f2, .slice a2 l2.length c2] 37)))
      have hx := LVar.new (w.alloc (.cells #[.int .i64 d, .int .i64 f, .slice a l.length c] 37)) d2 f2 (.slice a2 l2.length c2)
      rw [show (w.alloc (.cells #[.int .i64 d, .int .i64 f, .slice a l.length c] 37)).heap.size = w.heap.size + 1 by simp] at hx
      have LU := Lib.hid hx; clear hx
      have HB := Lib.hid ((HB.out.alloc HB.out.size (.cells #[.int .i64 d, .int .i64 f, .slice a l.length c] 37)).alloc (by simp) (.cells #[.int .i64 d2, .int .i64 f2, .slice a2 l2.length c2] 37))
      generalize ((w.alloc (.cells #[.int .i64 d, .int .i64 f, .slice a l.length c] 37)).alloc (.cells #[.int .i64 d2, .int .i64 f2, .slice a2 l2.length c2] 37)) = w1 at *
      refine (HSZ.out _ (HR.out.since (Nat.le_refl _) HB.out)).mono ?_
      rintro e w2 ⟨rfl, hb⟩
      have LV := Lib.hid (LV.out.below hb)
      have LU := Lib.hid (LU.out.below hb)
      have HB := Lib.hid (HB.out.trans (hb.mono HB.out.size))
      clear hb
      obtain ⟨lu_0, lu_1, lu_2⟩ := LU.out.cells
      go_wp2_with fail
      clear lu_0 lu_1 lu_2
      refine (HSZ2.out _ (HR2.out.since (Nat.le_refl _) HB.out)).mono ?_
      rintro e w3 ⟨rfl, hb⟩
      have LV := Lib.hid (LV.out.below hb)
      have LU := Lib.hid (LU.out.below hb)
      have HB := Lib.hid (HB.out.trans (hb.mono HB.out.size))
      clear hb
      go_wp2
      go_ret
      exact ⟨rfl, HB.out⟩
    · obtain ⟨q1, q2, q3, q4⟩ := szV_ok hneg
      have HLEN2 := Lib.hid (show l2.length ≤ 1048576 by omega)
      generalize szV r l2 = r2 at *
      clear q1 q2 hneg hr2 hz2
      obtain ⟨b, hbq⟩ : ∃ b, sameC d f l d2 f2 l2 = b := ⟨_, rfl⟩
      have HSP := Lib.hid (fun (w' : World) (x y : Nat) (a' : Option Addr) (c' : Nat) (b' : Option Addr) (e' : Nat) (h : Own w' x (.slice a' l.length c') l) (h2 : Own w' y (.slice b' l2.length e') l2) => sameCard_spec d f d2 f2 a' b' l.length l2.length c' e' l l2 w' rfl rfl HLEN.out HLEN2.out h.row2.2 h2.row2.2)
      have HIM := Lib.hid (fun (w' : World) (x y : Nat) (a' : Option Addr) (c' : Nat) (b' : Option Addr) (e' : Nat) (h : Own w' x (.slice a' l.length c') l) (h2 : Own w' y (.slice b' l2.length e') l2) => sameCard_impl d f d2 f2 a' b' l.length l2.length c' e' l l2 w' rfl rfl HLEN.out HLEN2.out h.row2.2 h2.row2.2)
      rw [hbq] at HSP HIM
      clear hbq
      have hbb : (b != b) = false := by simp
      go_enter Try.func9, Try.ntmps9
      go_wp2_with fail
      have LV := Lib.hid ((LVar.new w d f (.slice a l.length c)).below (alloc_below _ (.cells #[.int .i64 d2, .int .i64 f2, .slice a2 l2.length c2] 37)))
      have hx := LVar.new (w.alloc (.cells #[.int .i64 d, .int .i64 f, .slice a l.length c] 37)) d2 f2 (.slice a2 l2.length c2)
      rw [show (w.alloc (.cells #[.int .i64 d, .int .i64 f, .slice a l.length c] 37)).heap.size = w.heap.size + 1 by simp] at hx
      have LU := Lib.hid hx; clear hx
      have HB := Lib.hid ((HB.out.alloc HB.out.size (.cells #[.int .i64 d, .int .i64 f, .slice a l.length c] 37)).alloc (by simp) (.cells #[.int .i64 d2, .int .i64 f2, .slice a2 l2.length c2] 37))
      generalize ((w.alloc (.cells #[.int .i64 d, .int .i64 f, .slice a l.length c] 37)).alloc (.cells #[.int .i64 d2, .int .i64 f2, .slice a2 l2.length c2] 37)) = w1 at *
      refine (HSZ.out _ (HR.out.since (Nat.le_refl _) HB.out)).mono ?_
      rintro e w2 ⟨rfl, hb⟩
      have LV := Lib.hid (LV.out.below hb)
      have LU := Lib.hid (LU.out.below hb)
      have HB := Lib.hid (HB.out.trans (hb.mono HB.out.size))
      clear hb
      obtain ⟨lu_0, lu_1, lu_2⟩ := LU.out.cells
      go_wp2_with fail
      clear lu_0 lu_1 lu_2
      refine (HSZ2.out _ (HR2.out.since (Nat.le_refl _) HB.out)).mono ?_
      rintro e w3 ⟨rfl, hb⟩
      have LV := Lib.hid (LV.out.below hb)
      have LU := Lib.hid (LU.out.below hb)
      have HB := Lib.hid (HB.out.trans (hb.mono HB.out.size))
      clear hb
      obtain ⟨lv_0, lv_1, lv_2⟩ := LV.out.cells
      obtain ⟨lu_0, lu_1, lu_2⟩ := LU.out.cells
      go_wp2_with fail
      have S0 : w3.cell? ⟨w.heap.size, 0, none⟩ = some (.int .i64 d) ∧ w3.cell? ⟨w.heap.size, 1, none⟩ = some (.int .i64 f) ∧ w3.cell? ⟨w.heap.size, 2, none⟩ = some (.slice a l.length c) ∧ w3.cell? ⟨w.heap.size + 1, 0, none⟩ = some (.int .i64 d2) ∧ w3.cell? ⟨w.heap.size + 1, 1, none⟩ = some (.int .i64 f2) ∧ w3.cell? ⟨w.heap.size + 1, 2, none⟩ = some (.slice a2 l2.length c2) ∧ Below w3.heap.size w3 w3 := ⟨lv_0, lv_1, lv_2, lu_0, lu_1, lu_2, Below.refl _ _⟩
      have HTO := Lib.hid (fun (w' : World) (hb : Below w3.heap.size w3 w') => to_card d f a l.length c l w' rfl HLEN.out (HR.out.since (Nat.le_refl _) (HB.out.trans (hb.mono HB.out.size))))
      have HTO2 := Lib.hid (fun (w' : World) (hb : Below w3.heap.size w3 w') => to_card d2 f2 a2 l2.length c2 l2 w' rfl HLEN2.out (HR2.out.since (Nat.le_refl _) (HB.out.trans (hb.mono HB.out.size))))
      go_region_held3 (fun w' => w'.cell? ⟨w.heap.size, 0, none⟩ = some (.int .i64 d) ∧ w'.cell? ⟨w.heap.size, 1, none⟩ = some (.int .i64 f) ∧ w'.cell? ⟨w.heap.size, 2, none⟩ = some (.slice a l.length c) ∧ w'.cell? ⟨w.heap.size + 1, 0, none⟩ = some (.int .i64 d2) ∧ w'.cell? ⟨w.heap.size + 1, 1, none⟩ = some (.int .i64 f2) ∧ w'.cell? ⟨w.heap.size + 1, 2, none⟩ = some (.slice a2 l2.length c2) ∧ Below w3.heap.size w3 w')
        (first | exact S0 | exact eqs_drew S0 | exact eqs_next (by assumption) hb | exact eqs_next (by assumption) hb2 | exact eqs_drew (by assumption) | assumption)
        ((first | (go_at_call_of 24 (Value.agg #[.int .i64 d, .int .i64 f, .slice a l.length c]); refine (HTO.out _ (eqs_below (by assumption))).mono ?_; rintro e wx ⟨ax, cx, rfl, hb, hox⟩; have OX := Lib.hid hox; clear hox) | (go_at_call_of 24 (Value.agg #[.int .i64 d2, .int .i64 f2, .slice a2 l2.length c2]); refine (HTO2.out _ (eqs_below (by assumption))).mono ?_; rintro e wy ⟨ay, cy, rfl, hb, hoy⟩; have OY := Lib.hid hoy; have OX := Lib.hid (OX.out.below hb); clear hoy) | (go_at_call 32; refine (HSP.out _ _ _ _ _ _ _ OX.out OY.out).mono ?_; rintro e wz ⟨rfl, hb2⟩)))
      have hbz : Below w3.heap.size w3 wz := eqs_below (w' := wz) (by assumption)
      clear S0 HTO HTO2 hb2 OX OY
      clear lv_0 lv_1 lv_2 lu_0 lu_1 lu_2
      have LV := Lib.hid (LV.out.below hbz)
      have LU := Lib.hid (LU.out.below hbz)
      have HB := Lib.hid (HB.out.trans (hbz.mono HB.out.size))
      clear hbz
      obtain ⟨lv_0, lv_1, lv_2⟩ := LV.out.cells
      go_wp2_with fail
      clear lv_0 lv_1 lv_2
      refine (to_card d f a l.length c l _ rfl HLEN.out (HR.out.since (Nat.le_refl _) HB.out)).mono ?_
      rintro e w4 ⟨ap, cp, rfl, hb, ho⟩
      have LV := Lib.hid (LV.out.below hb)
      have LU := Lib.hid (LU.out.below hb)
      have HB := Lib.hid (HB.out.trans (hb.mono HB.out.size))
      clear hb
      have OP := Lib.hid ho; clear ho
      obtain ⟨lu_0, lu_1, lu_2⟩ := (LU.out.below (alloc_below w4 (.cells #[.int .i64 d, .int .i64 f, .slice ap l.length cp] 26))).cells
      go_wp2_with fail
      clear lu_0 lu_1 lu_2
      have hv0 := Var.new w4 d f (.slice ap l.length cp)
      have hb := alloc_below w4 (.cells #[.int .i64 d, .int .i64 f, .slice ap l.length cp] 26)
      have LV := Lib.hid (LV.out.below hb)
      have LU := Lib.hid (LU.out.below hb)
      have OP := Lib.hid (OP.out.below hb)
      have HB := Lib.hid (HB.out.trans (hb.mono HB.out.size))
      have VP := Lib.hid hv0
      clear hv0 hb
      generalize (w4.alloc (.cells #[.int .i64 d, .int .i64 f, .slice ap l.length cp] 26)) = w5 at *
      refine (to_card d2 f2 a2 l2.length c2 l2 _ rfl HLEN2.out (HR2.out.since (Nat.le_refl _) HB.out)).mono ?_
      rintro e w6 ⟨aq, cq, rfl, hb, ho⟩
      have LV := Lib.hid (LV.out.below hb)
      have LU := Lib.hid (LU.out.below hb)
      have OP := Lib.hid (OP.out.below hb)
      have VP := Lib.hid (VP.out.below hb)
      have HB := Lib.hid (HB.out.trans (hb.mono HB.out.size))
      clear hb
      have OQ := Lib.hid ho; clear ho
      obtain ⟨vp_0, vp_1, vp_2⟩ := (VP.out.below (alloc_below w6 (.cells #[.int .i64 d2, .int .i64 f2, .slice aq l2.length cq] 26))).cells
      go_wp2_with fail
      clear vp_0 vp_1 vp_2
      have hv0 := Var.new w6 d2 f2 (.slice aq l2.length cq)
      have hb := alloc_below w6 (.cells #[.int .i64 d2, .int .i64 f2, .slice aq l2.length cq] 26)
      have LV := Lib.hid (LV.out.below hb)
      have LU := Lib.hid (LU.out.below hb)
      have OP := Lib.hid (OP.out.below hb)
      have VP := Lib.hid (VP.out.below hb)
      have OQ := Lib.hid (OQ.out.below hb)
      have HB := Lib.hid (HB.out.trans (hb.mono HB.out.size))
      have VQ := Lib.hid hv0
      clear hv0 hb
      generalize (w6.alloc (.cells #[.int .i64 d2, .int .i64 f2, .slice aq l2.length cq] 26)) = w7 at *
      refine (HIM.out _ _ _ _ _ _ _ OP.out OQ.out).mono ?_
      rintro e w8 ⟨rfl, hb⟩
      have LV := Lib.hid (LV.out.below hb)
      have LU := Lib.hid (LU.out.below hb)
      have OP := Lib.hid (OP.out.below hb)
      have VP := Lib.hid (VP.out.below hb)
      have OQ := Lib.hid (OQ.out.below hb)
      have VQ := Lib.hid (VQ.out.below hb)
      have HB := Lib.hid (HB.out.trans (hb.mono HB.out.size))
      clear hb
      obtain ⟨vp_0, vp_1, vp_2⟩ := VP.out.cells
      obtain ⟨lv_0, lv_1, lv_2⟩ := LV.out.cells
      go_wp2_with fail
      have S0 : w8.cell? ⟨w4.heap.size, 0, none⟩ = some (.int .i64 d) ∧ w8.cell? ⟨w4.heap.size, 1, none⟩ = some (.int .i64 f) ∧ w8.cell? ⟨w4.heap.size, 2, none⟩ = some (.slice ap l.length cp) ∧ w8.cell? ⟨w.heap.size, 0, none⟩ = some (.int .i64 d) ∧ w8.cell? ⟨w.heap.size, 1, none⟩ = some (.int .i64 f) ∧ w8.cell? ⟨w.heap.size, 2, none⟩ = some (.slice a l.length c) ∧ Below w8.heap.size w8 w8 := ⟨vp_0, vp_1, vp_2, lv_0, lv_1, lv_2, Below.refl _ _⟩
      have HTO := Lib.hid (fun (w' : World) (hb : Below w8.heap.size w8 w') => to_card d f a l.length c l w' rfl HLEN.out (HR.out.since (Nat.le_refl _) (HB.out.trans (hb.mono HB.out.size))))
      have HTO2 := Lib.hid (fun (w' : World) (hb : Below w8.heap.size w8 w') => to_card d2 f2 a2 l2.length c2 l2 w' rfl HLEN2.out (HR2.out.since (Nat.le_refl _) (HB.out.trans (hb.mono HB.out.size))))
      have HXR := Lib.hid (fun (w' : World) (hb : Below w8.heap.size w8 w') => (OP.out.below hb).row2.2)
      go_region_held3 (fun w' => w'.cell? ⟨w4.heap.size, 0, none⟩ = some (.int .i64 d) ∧ w'.cell? ⟨w4.heap.size, 1, none⟩ = some (.int .i64 f) ∧ w'.cell? ⟨w4.heap.size, 2, none⟩ = some (.slice ap l.length cp) ∧ w'.cell? ⟨w.heap.size, 0, none⟩ = some (.int .i64 d) ∧ w'.cell? ⟨w.heap.size, 1, none⟩ = some (.int .i64 f) ∧ w'.cell? ⟨w.heap.size, 2, none⟩ = some (.slice a l.length c) ∧ Below w8.heap.size w8 w')
        (first | exact S0 | exact eqs_drew S0 | exact eqs_next (by assumption) hb | exact eqs_next (by assumption) hb2 | exact eqs_drew (by assumption) | assumption)
        ((first | (go_at_call 24; refine (HTO.out _ (eqs_below (by assumption))).mono ?_; rintro e wy ⟨ay, cy, rfl, hb, hoy⟩; have OY := Lib.hid hoy; clear hoy) | (go_at_call 25; refine (eq_card d f l.length cp cy ap ay l rfl HLEN.out _ (HXR.out _ (eqs_below (by assumption))) (OY.out.row2.2)).mono ?_; rintro e wz1 ⟨rfl, hb2⟩)))
      have hbz : Below w8.heap.size w8 wz1 := eqs_below (w' := wz1) (by assumption)
      clear S0 HTO HTO2 HXR hb hb2 OY
      clear vp_0 vp_1 vp_2 lv_0 lv_1 lv_2
      have LV := Lib.hid (LV.out.below hbz)
      have LU := Lib.hid (LU.out.below hbz)
      have OP := Lib.hid (OP.out.below hbz)
      have VP := Lib.hid (VP.out.below hbz)
      have OQ := Lib.hid (OQ.out.below hbz)
      have VQ := Lib.hid (VQ.out.below hbz)
      have HB := Lib.hid (HB.out.trans (hbz.mono HB.out.size))
      clear hbz
      obtain ⟨vq_0, vq_1, vq_2⟩ := VQ.out.cells
      obtain ⟨lu_0, lu_1, lu_2⟩ := LU.out.cells
      go_wp2_with fail
      have S0 : wz1.cell? ⟨w6.heap.size, 0, none⟩ = some (.int .i64 d2) ∧ wz1.cell? ⟨w6.heap.size, 1, none⟩ = some (.int .i64 f2) ∧ wz1.cell? ⟨w6.heap.size, 2, none⟩ = some (.slice aq l2.length cq) ∧ wz1.cell? ⟨w.heap.size + 1, 0, none⟩ = some (.int .i64 d2) ∧ wz1.cell? ⟨w.heap.size + 1, 1, none⟩ = some (.int .i64 f2) ∧ wz1.cell? ⟨w.heap.size + 1, 2, none⟩ = some (.slice a2 l2.length c2) ∧ Below wz1.heap.size wz1 wz1 := ⟨vq_0, vq_1, vq_2, lu_0, lu_1, lu_2, Below.refl _ _⟩
      have HTO := Lib.hid (fun (w' : World) (hb : Below wz1.heap.size wz1 w') => to_card d f a l.length c l w' rfl HLEN.out (HR.out.since (Nat.le_refl _) (HB.out.trans (hb.mono HB.out.size))))
      have HTO2 := Lib.hid (fun (w' : World) (hb : Below wz1.heap.size wz1 w') => to_card d2 f2 a2 l2.length c2 l2 w' rfl HLEN2.out (HR2.out.since (Nat.le_refl _) (HB.out.trans (hb.mono HB.out.size))))
      have HXR := Lib.hid (fun (w' : World) (hb : Below wz1.heap.size wz1 w') => (OQ.out.below hb).row2.2)
      go_region_held3 (fun w' => w'.cell? ⟨w6.heap.size, 0, none⟩ = some (.int .i64 d2) ∧ w'.cell? ⟨w6.heap.size, 1, none⟩ = some (.int .i64 f2) ∧ w'.cell? ⟨w6.heap.size, 2, none⟩ = some (.slice aq l2.length cq) ∧ w'.cell? ⟨w.heap.size + 1, 0, none⟩ = some (.int .i64 d2) ∧ w'.cell? ⟨w.heap.size + 1, 1, none⟩ = some (.int .i64 f2) ∧ w'.cell? ⟨w.heap.size + 1, 2, none⟩ = some (.slice a2 l2.length c2) ∧ Below wz1.heap.size wz1 w')
        (first | exact S0 | exact eqs_drew S0 | exact eqs_next (by assumption) hb | exact eqs_next (by assumption) hb2 | exact eqs_drew (by assumption) | assumption)
        ((first | (go_at_call 24; refine (HTO2.out _ (eqs_below (by assumption))).mono ?_; rintro e wy ⟨ay, cy, rfl, hb, hoy⟩; have OY := Lib.hid hoy; clear hoy) | (go_at_call 25; refine (eq_card d2 f2 l2.length cq cy aq ay l2 rfl HLEN2.out _ (HXR.out _ (eqs_below (by assumption))) (OY.out.row2.2)).mono ?_; rintro e wz2 ⟨rfl, hb2⟩)))
      have hbz : Below wz1.heap.size wz1 wz2 := eqs_below (w' := wz2) (by assumption)
      clear S0 HTO HTO2 HXR hb hb2 OY
      clear vq_0 vq_1 vq_2 lu_0 lu_1 lu_2
      have LV := Lib.hid (LV.out.below hbz)
      have LU := Lib.hid (LU.out.below hbz)
      have OP := Lib.hid (OP.out.below hbz)
      have VP := Lib.hid (VP.out.below hbz)
      have OQ := Lib.hid (OQ.out.below hbz)
      have VQ := Lib.hid (VQ.out.below hbz)
      have HB := Lib.hid (HB.out.trans (hbz.mono HB.out.size))
      clear hbz
      go_wp2
      go_ret
      exact ⟨rfl, HB.out⟩
end Go.Proofs.Ytofljefeimmabaa.Card
