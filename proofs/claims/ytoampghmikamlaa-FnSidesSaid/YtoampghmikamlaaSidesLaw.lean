/- The property of chapter 12: the walk (printed by wip/gen_sideslaw.py). -/
import Derived.Test.YtoampghmikamlaaSidesKit
import Derived.Test.YtoampghmikamlaaSidesA
import Derived.Lib.QuietBelow
import Derived.Deep.RegionHeld3
import Derived.Deep.DeepCutAuto
namespace Go.Proofs.Ytoampghmikamlaa.Turn
open Go.ChangeShapes Go.WideShapes Go.ChangeAt Go.RowKit Go.Sort
open Go.Proofs.Ytoampghmikamlaa.Strip Go.Proofs.Ytoampghmikamlaa.Strs Go.Proofs.Ytoampghmikamlaa.Card Go.Proofs.Ytoampghmikamlaa.Kerf Go.Proofs.Ytoampghmikamlaa.Order Go.Proofs.Ytoampghmikamlaa.Draw
set_option linter.unusedVariables false

set_option maxRecDepth 100000 in
set_option maxHeartbeats 32000000 in
theorem sides (ca : Option Addr) (cl cc : Nat) (w : World) (hm : cl ≤ maxLen) (hr : RowIn w ca cl) :
    Calls Try.prog 3 #[.slice ca cl cc] w fun e w' => e = .returned (.bool true) ∧ Below w.heap.size w w' := by
  by_cases hbig : 1048576 < cl
  · have hd : decide (1048576 < (cl : Int)) = true := by simp; omega
    go_enter Try.func3, Try.ntmps3
    go_wp2_with fail
    refine (big_at ca cl cc w hm).mono ?_
    rintro e w' ⟨rfl, rfl⟩
    rw [hd]
    go_wp2
    go_ret
    exact ⟨rfl, Below.refl _ _⟩
  · have hd : decide (1048576 < (cl : Int)) = false := by simp; omega
    have HR := Lib.hid hr; clear hr
    go_enter Try.func3, Try.ntmps3
    go_wp2_with fail
    refine (big_at ca cl cc w hm).mono ?_
    rintro e w' ⟨rfl, rfl⟩
    rw [hd]
    go_wp2_with fail
    refine drawCard_get ca cl cc w hm HR.out ?_
    intro d f a c l w1 hd4 hf4 hl6 hcb hb1 ho1
    obtain ⟨t, m, y, mt, vy, vc, sy, hS⟩ := sides_of hcb rfl
    have HC := Lib.hid hcb
    have HS := Lib.hid hS
    have HST := Lib.hid (card_strips hcb)
    have HSA := Lib.hid (fun (s p : ByteArray) (hs : s ∈ l) (hp : p ∈ l) => card_same hcb hs hp)
    have hl1 : 1 ≤ l.length := (cardB_iff.1 hcb).2.1
    have hln : l.length ≤ 1048576 := by omega
    have HB := Lib.hid hb1
    obtain ⟨g, hg⟩ : ∃ g, a = some ⟨g, 0, none⟩ := by
      rcases ho1.shape with ⟨_, _, e⟩ | h
      · rw [e] at hl1; simp at hl1
      · exact h
    subst hg
    have OC := Lib.hid ho1
    clear hb1 ho1 hd hcb hS
    go_wp2_with fail
    have hv0 := Var.new w1 d f (.slice (some ⟨g, 0, none⟩) l.length c)
    have hb := alloc_below w1 (.cells #[.int .i64 d, .int .i64 f, .slice (some ⟨g, 0, none⟩) l.length c] 26)
    have OC := Lib.hid (OC.out.below hb)
    have HB := Lib.hid (HB.out.trans (hb.mono HB.out.size))
    have VC := Lib.hid hv0
    clear hv0 hb
    generalize (w1.alloc (.cells #[.int .i64 d, .int .i64 f, .slice (some ⟨g, 0, none⟩) l.length c] 26)) = w2 at *
    generalize w1.heap.size = bVC at *
    refine (turn_good _ HC.out HS.out.t1 HS.out.nt hln OC.out).mono ?_
    rintro e w3 ⟨aT, cT, rfl, hb, ho⟩
    have ho := ho.mono (base2 := w.heap.size) HB.out.size
    have OC := Lib.hid (OC.out.below hb)
    have VC := Lib.hid (VC.out.below hb)
    have HB := Lib.hid (HB.out.trans (hb.mono HB.out.size))
    clear hb
    have OT := Lib.hid ho
    clear ho
    obtain ⟨vc_0, vc_1, vc_2⟩ := (VC.out.below (alloc_below w3 (.cells #[.int .i64 f, .int .i64 d, .slice aT l.length cT] 26))).cells
    go_wp2_with fail
    clear vc_0 vc_1 vc_2
    have hv0 := Var.new w3 f d (.slice aT l.length cT)
    have hb := alloc_below w3 (.cells #[.int .i64 f, .int .i64 d, .slice aT l.length cT] 26)
    have OC := Lib.hid (OC.out.below hb)
    have VC := Lib.hid (VC.out.below hb)
    have OT := Lib.hid (OT.out.below hb)
    have HB := Lib.hid (HB.out.trans (hb.mono HB.out.size))
    have VT := Lib.hid hv0
    clear hv0 hb
    generalize (w3.alloc (.cells #[.int .i64 f, .int .i64 d, .slice aT l.length cT] 26)) = w4 at *
    generalize w3.heap.size = bVT at *
    refine (mir_good _ HC.out HS.out.m1 HS.out.nm hln OC.out).mono ?_
    rintro e w5 ⟨aM, cM, rfl, hb, ho⟩
    have ho := ho.mono (base2 := w.heap.size) HB.out.size
    have OC := Lib.hid (OC.out.below hb)
    have VC := Lib.hid (VC.out.below hb)
    have OT := Lib.hid (OT.out.below hb)
    have VT := Lib.hid (VT.out.below hb)
    have HB := Lib.hid (HB.out.trans (hb.mono HB.out.size))
    clear hb
    have OM := Lib.hid ho
    clear ho
    obtain ⟨vc_0, vc_1, vc_2⟩ := (VC.out.below (alloc_below w5 (.cells #[.int .i64 d, .int .i64 f, .slice aM l.length cM] 26))).cells
    go_wp2_with fail
    clear vc_0 vc_1 vc_2
    have hv0 := Var.new w5 d f (.slice aM l.length cM)
    have hb := alloc_below w5 (.cells #[.int .i64 d, .int .i64 f, .slice aM l.length cM] 26)
    have OC := Lib.hid (OC.out.below hb)
    have VC := Lib.hid (VC.out.below hb)
    have OT := Lib.hid (OT.out.below hb)
    have VT := Lib.hid (VT.out.below hb)
    have OM := Lib.hid (OM.out.below hb)
    have HB := Lib.hid (HB.out.trans (hb.mono HB.out.size))
    have VM := Lib.hid hv0
    clear hv0 hb
    generalize (w5.alloc (.cells #[.int .i64 d, .int .i64 f, .slice aM l.length cM] 26)) = w6 at *
    generalize w5.heap.size = bVM at *
    refine (symm_good _ HC.out HS.out.y1 HS.out.ny hln OC.out).mono ?_
    rintro e w7 ⟨aY, cY, rfl, hb, ho⟩
    have ho := ho.mono (base2 := w.heap.size) HB.out.size
    have OC := Lib.hid (OC.out.below hb)
    have VC := Lib.hid (VC.out.below hb)
    have OT := Lib.hid (OT.out.below hb)
    have VT := Lib.hid (VT.out.below hb)
    have OM := Lib.hid (OM.out.below hb)
    have VM := Lib.hid (VM.out.below hb)
    have HB := Lib.hid (HB.out.trans (hb.mono HB.out.size))
    clear hb
    have OY := Lib.hid ho
    clear ho
    go_wp2_with fail
    have hv0 := Var.new w7 d f (.slice aY l.length cY)
    have hb := alloc_below w7 (.cells #[.int .i64 d, .int .i64 f, .slice aY l.length cY] 26)
    have OC := Lib.hid (OC.out.below hb)
    have VC := Lib.hid (VC.out.below hb)
    have OT := Lib.hid (OT.out.below hb)
    have VT := Lib.hid (VT.out.below hb)
    have OM := Lib.hid (OM.out.below hb)
    have VM := Lib.hid (VM.out.below hb)
    have OY := Lib.hid (OY.out.below hb)
    have HB := Lib.hid (HB.out.trans (hb.mono HB.out.size))
    have VY := Lib.hid hv0
    clear hv0 hb
    generalize (w7.alloc (.cells #[.int .i64 d, .int .i64 f, .slice aY l.length cY] 26)) = w8 at *
    generalize w7.heap.size = bVY at *
    go_loopw [7] (fun i wr => ∃ k : Nat, k ≤ l.length ∧ i = .int .i64 (k : Int) ∧ Hid (Below w8.heap.size w8 wr)) (fun i _ => l.length - (intOf i).toNat)
    case atStart => exact ⟨0, Nat.zero_le _, rfl, Below.refl _ _⟩
    case round =>
      obtain ⟨k, hk, rfl, HBR⟩ := hrel
      have hk0 : (0 : Int) ≤ (k : Int) := Int.natCast_nonneg _
      by_cases hlt : k < l.length
      · have hk1 : (k : Int) < (l.length : Int) := by omega
        have hms : l[k] ∈ l := List.getElem_mem hlt
        obtain ⟨q1, q2, q3, q4, q5⟩ := strip_law (HST.out _ hms)
        have VC := Lib.hid (VC.out.below HBR.out)
        have OC := Lib.hid (OC.out.below HBR.out)
        have hcell := OC.out.cell hlt
        by_cases hpos : 0 < k
        · have hpos2 := hpos
          obtain ⟨kp, hkp⟩ : ∃ kp : Nat, k = kp + 1 := ⟨k - 1, by omega⟩
          have hlp : kp < l.length := by omega
          have HKP := Lib.hid hkp; clear hkp
          obtain ⟨p, hpp⟩ : ∃ p, l[kp] = p := ⟨_, rfl⟩
          have hmp : p ∈ l := by rw [← hpp]; exact List.getElem_mem hlp
          have HPP := Lib.hid hpp; clear hpp
          have hab := two_law (HSA.out _ _ hms hmp)
          have hpz := size_of_strip (HST.out _ hmp)
          have HTP := Lib.hid (fun (w' : World) => turn_impl p w' (by omega))
          have hqz := turnS_size p
          generalize turnS p = pt at *
          generalize l[k]'_ = s at *
          have HT1 := Lib.hid (fun (w' : World) => turn_impl s w' (by omega))
          have HT2 := Lib.hid (fun (w' : World) => turn_impl (turnS s) w' (by omega))
          rw [q1] at HT2
          have HR1 := Lib.hid (fun (w' : World) => room_spec (turnS s) w' (by omega))
          have HR2 := Lib.hid (fun (w' : World) => room_spec s w' (by omega))
          rw [q2] at HR1
          have HBA := Lib.hid (fun (w' : World) => bal_impl s w' (by omega))
          have HA1 := Lib.hid (fun (w' : World) => above_spec s p w' (by omega) (by omega))
          have HA2 := Lib.hid (fun (w' : World) => above_spec (turnS s) pt w' (by omega) (by omega))
          rw [hab] at HA2
          generalize aboveB s.data.toList p.data.toList = ab at *
          have hq4 : (ab != ab) = false := by simp
          generalize turnS s = r at *
          generalize roomI s.data.toList = rx at *
          generalize balB s.data.toList = bx at *
          have hq1 : (s.toList != s.toList) = false := by simp
          have hq2 : (rx != rx) = false := by simp
          have hq3 : (bx != bx) = false := by simp
          clear q1 q2 q4 q5 hms hmp hab hpz hqz
          obtain ⟨vc_0, vc_1, vc_2⟩ := VC.out.cells
          go_wp2_with fail
          refine (HT1.out _).mono ?_
          rintro e z1 ⟨rfl, hb⟩
          have HBR := Lib.hid (HBR.out.trans (hb.mono HBR.out.size))
          have VC := Lib.hid (VC.out.below hb)
          have OC := Lib.hid (OC.out.below hb)
          clear hb
          clear vc_0 vc_1 vc_2
          clear hcell
          go_wp2_with fail
          refine (HT2.out _).mono ?_
          rintro e z2 ⟨rfl, hb⟩
          have HBR := Lib.hid (HBR.out.trans (hb.mono HBR.out.size))
          have VC := Lib.hid (VC.out.below hb)
          have OC := Lib.hid (OC.out.below hb)
          clear hb
          go_wp2_with fail
          refine (HR1.out _).mono ?_
          rintro e z3 ⟨rfl, hb⟩
          have HBR := Lib.hid (HBR.out.trans (hb.mono HBR.out.size))
          have VC := Lib.hid (VC.out.below hb)
          have OC := Lib.hid (OC.out.below hb)
          clear hb
          go_wp2_with fail
          refine (HR2.out _).mono ?_
          rintro e z4 ⟨rfl, hb⟩
          have HBR := Lib.hid (HBR.out.trans (hb.mono HBR.out.size))
          have VC := Lib.hid (VC.out.below hb)
          have OC := Lib.hid (OC.out.below hb)
          clear hb
          go_wp2_with fail
          refine (HBA.out _).mono ?_
          rintro e z5 ⟨rfl, hb⟩
          have HBR := Lib.hid (HBR.out.trans (hb.mono HBR.out.size))
          have VC := Lib.hid (VC.out.below hb)
          have OC := Lib.hid (OC.out.below hb)
          clear hb
          clear HT1 HT2 HR1 HR2 HBA
          go_wp2_with fail
          obtain ⟨vc_0, vc_1, vc_2⟩ := VC.out.cells
          have vc_0 := cell_regrown vc_0
          have vc_1 := cell_regrown vc_1
          have vc_2 := cell_regrown vc_2
          have hcp0 := OC.out.cell hlp
          rw [HPP.out] at hcp0
          have hcp := cell_regrown hcp0; clear hcp0
          have hA1 := fun (dd : Nat) (os : Array Obj) => Calls.regrown_of (calls_below (HA1.out (grow (redrawn z5 dd) os)))
          have hA2 := fun (dd : Nat) (os : Array Obj) => Calls.regrown_of (calls_below (HA2.out (grow (redrawn z5 dd) os)))
          have hTP := fun (dd : Nat) (os : Array Obj) => Calls.regrown_of (HTP.out (grow (redrawn z5 dd) os))
          have HA1 := Lib.hid hA1
          have HA2 := Lib.hid hA2
          have HTP := Lib.hid hTP
          clear hA1 hA2 hTP
          have hd1 : decide (0 < (k : Int)) = true := decide_eq_true (by omega)
          have hd2 : decide (0 < k) = true := decide_eq_true (by omega)
          have hsub : IntKind.i64.wrap ((k : Int) - 1) = (kp : Int) := by have := HKP.out; rw [IntKind.wrap_i64]; omega
          have hsub2 : (k : Int) - 1 = (kp : Int) := by have := HKP.out; omega
          have hp0 : (0 : Int) ≤ (kp : Int) := Int.natCast_nonneg _
          have hp1 : (kp : Int) < (l.length : Int) := by have := HKP.out; omega
          refine wp_region_quiet_below (by kernel_rfl) (by kernel_rfl) ?_
          repeat (go_big_quiet_step ((first | (go_at_call_of 19 (Value.string s); with_reducible exact HA1.out _ _) | (go_at_call_of 19 (Value.string r); with_reducible exact HA2.out _ _) | (go_at_call 16; with_reducible exact HTP.out _ _))))
          refine wpQuiet_nil ?_
          intro _ hw'
          obtain ⟨⟨dq, osq⟩, hw''⟩ := hw'
          subst hw''
          have hb := below_regrown z5 dq osq
          have HBR := Lib.hid (HBR.out.trans (hb.mono HBR.out.size))
          clear hb hd1 hd2
          clear vc_0 vc_1 vc_2
          clear HA1 HA2 HTP hcp hsub hsub2 hp0 hp1
          generalize (grow (redrawn z5 dq) osq) = wz at *
          go_wp2
          go_roundw
          case rel => exact ⟨k + 1, by omega, by go_num, HBR⟩
          case measure => simp [intOf]; omega
        · have hk00 : ¬ 0 < k := hpos
          generalize l[k]'_ = s at *
          have HT1 := Lib.hid (fun (w' : World) => turn_impl s w' (by omega))
          have HT2 := Lib.hid (fun (w' : World) => turn_impl (turnS s) w' (by omega))
          rw [q1] at HT2
          have HR1 := Lib.hid (fun (w' : World) => room_spec (turnS s) w' (by omega))
          have HR2 := Lib.hid (fun (w' : World) => room_spec s w' (by omega))
          rw [q2] at HR1
          have HBA := Lib.hid (fun (w' : World) => bal_impl s w' (by omega))
          generalize turnS s = r at *
          generalize roomI s.data.toList = rx at *
          generalize balB s.data.toList = bx at *
          have hq1 : (s.toList != s.toList) = false := by simp
          have hq2 : (rx != rx) = false := by simp
          have hq3 : (bx != bx) = false := by simp
          clear q1 q2 q4 q5 hms
          obtain ⟨vc_0, vc_1, vc_2⟩ := VC.out.cells
          go_wp2_with fail
          refine (HT1.out _).mono ?_
          rintro e z1 ⟨rfl, hb⟩
          have HBR := Lib.hid (HBR.out.trans (hb.mono HBR.out.size))
          have VC := Lib.hid (VC.out.below hb)
          have OC := Lib.hid (OC.out.below hb)
          clear hb
          clear vc_0 vc_1 vc_2
          clear hcell
          go_wp2_with fail
          refine (HT2.out _).mono ?_
          rintro e z2 ⟨rfl, hb⟩
          have HBR := Lib.hid (HBR.out.trans (hb.mono HBR.out.size))
          have VC := Lib.hid (VC.out.below hb)
          have OC := Lib.hid (OC.out.below hb)
          clear hb
          go_wp2_with fail
          refine (HR1.out _).mono ?_
          rintro e z3 ⟨rfl, hb⟩
          have HBR := Lib.hid (HBR.out.trans (hb.mono HBR.out.size))
          have VC := Lib.hid (VC.out.below hb)
          have OC := Lib.hid (OC.out.below hb)
          clear hb
          go_wp2_with fail
          refine (HR2.out _).mono ?_
          rintro e z4 ⟨rfl, hb⟩
          have HBR := Lib.hid (HBR.out.trans (hb.mono HBR.out.size))
          have VC := Lib.hid (VC.out.below hb)
          have OC := Lib.hid (OC.out.below hb)
          clear hb
          go_wp2_with fail
          refine (HBA.out _).mono ?_
          rintro e z5 ⟨rfl, hb⟩
          have HBR := Lib.hid (HBR.out.trans (hb.mono HBR.out.size))
          have VC := Lib.hid (VC.out.below hb)
          have OC := Lib.hid (OC.out.below hb)
          clear hb
          clear HT1 HT2 HR1 HR2 HBA
          go_wp2_with fail
          have hd1 : decide (0 < (k : Int)) = false := decide_eq_false (by omega)
          have hd2 : decide (0 < k) = false := decide_eq_false (by omega)
          refine wp_region_quiet_below (by kernel_rfl) (by kernel_rfl) ?_
          repeat (go_big_quiet_step ((fail)))
          refine wpQuiet_nil ?_
          intro _ hw'
          obtain ⟨⟨dq, osq⟩, hw''⟩ := hw'
          subst hw''
          have hb := below_regrown z5 dq osq
          have HBR := Lib.hid (HBR.out.trans (hb.mono HBR.out.size))
          clear hb hd1 hd2
          generalize (grow (redrawn z5 dq) osq) = wz at *
          go_wp2
          go_roundw
          case rel => exact ⟨k + 1, by omega, by go_num, HBR⟩
          case measure => simp [intOf]; omega
      · have hkl : k = l.length := by omega
        have OC := Lib.hid (OC.out.below HBR.out)
        have VC := Lib.hid (VC.out.below HBR.out)
        have OT := Lib.hid (OT.out.below HBR.out)
        have VT := Lib.hid (VT.out.below HBR.out)
        have OM := Lib.hid (OM.out.below HBR.out)
        have VM := Lib.hid (VM.out.below HBR.out)
        have OY := Lib.hid (OY.out.below HBR.out)
        have VY := Lib.hid (VY.out.below HBR.out)
        have HB := Lib.hid (HB.out.trans (HBR.out.mono HB.out.size))
        have hge : ¬ (k : Int) < (l.length : Int) := by omega
        clear hlt HBR
        obtain ⟨vc_0, vc_1, vc_2⟩ := VC.out.cells
        go_wp2_with fail
        clear vc_0 vc_1 vc_2
        obtain ⟨n0, hn0, hat⟩ := at_fix ca cl cc 0 (by omega) wr hm (HR.out.below HB.out (Nat.le_refl _))
        have HAT := Lib.hid (show Calls Try.prog 20 #[.slice ca cl cc, .int .i64 ((0 : Nat) : Int)] wr fun e w' => e = .returned (.int .i64 (n0 : Int)) ∧ wr = w' from hat 0); clear hat
        obtain ⟨r8, hr8⟩ : ∃ r8 : Nat, r8 = n0 % 8 := ⟨_, rfl⟩
        have ht : Int.tmod (n0 : Int) 8 = (r8 : Int) := by rw [hr8, Int.tmod_eq_emod_of_nonneg (by omega)]; exact (Int.natCast_emod _ _).symm
        have hr8b : r8 < 8 := by omega
        clear hr8
        refine HAT.out.mono ?_
        rintro e w' ⟨rfl, rfl⟩
        clear HAT
        clear hkl hge
        go_wp2_with fail
        obtain ⟨N, hN⟩ : ∃ N : Int, 1 + (r8 : Int) = N := ⟨_, rfl⟩
        have hN0 : 1 ≤ N := by omega
        have hN1 : N ≤ 8 := by omega
        rw [hN]
        obtain ⟨sh1, sh2⟩ := shift_ok hN0 hN1
        have HCB := Lib.hid (fun (w' : World) => bals_impl N w')
        generalize balN N = B at *
        clear hN hr8b ht hn0
        generalize wr = W at *
        obtain ⟨vc_0, vc_1, vc_2⟩ := VC.out.cells
        obtain ⟨vt_0, vt_1, vt_2⟩ := VT.out.cells
        obtain ⟨vm_0, vm_1, vm_2⟩ := VM.out.cells
        obtain ⟨vy_0, vy_1, vy_2⟩ := VY.out.cells
        have S0 : W.cell? ⟨bVC, 0, none⟩ = some (.int .i64 d) ∧ W.cell? ⟨bVC, 1, none⟩ = some (.int .i64 f) ∧ W.cell? ⟨bVC, 2, none⟩ = some (.slice (some ⟨g, 0, none⟩) l.length c) ∧ W.cell? ⟨bVT, 0, none⟩ = some (.int .i64 f) ∧ W.cell? ⟨bVT, 1, none⟩ = some (.int .i64 d) ∧ W.cell? ⟨bVT, 2, none⟩ = some (.slice aT l.length cT) ∧ W.cell? ⟨bVM, 0, none⟩ = some (.int .i64 d) ∧ W.cell? ⟨bVM, 1, none⟩ = some (.int .i64 f) ∧ W.cell? ⟨bVM, 2, none⟩ = some (.slice aM l.length cM) ∧ W.cell? ⟨bVY, 0, none⟩ = some (.int .i64 d) ∧ W.cell? ⟨bVY, 1, none⟩ = some (.int .i64 f) ∧ W.cell? ⟨bVY, 2, none⟩ = some (.slice aY l.length cY) ∧ Below W.heap.size W W := ⟨vc_0, vc_1, vc_2, vt_0, vt_1, vt_2, vm_0, vm_1, vm_2, vy_0, vy_1, vy_2, Below.refl _ _⟩
        clear vc_0 vc_1 vc_2 vt_0 vt_1 vt_2 vm_0 vm_1 vm_2 vy_0 vy_1 vy_2
        have HTT := Lib.hid (fun (w' : World) (h : Below W.heap.size W w') => turn_good w' HS.out.ct HS.out.tt HS.out.nl hln (OT.out.below h))
        have HMM := Lib.hid (fun (w' : World) (h : Below W.heap.size W w') => mir_good w' HS.out.cm HS.out.mm HS.out.nl hln (OM.out.below h))
        have HMT := Lib.hid (fun (w' : World) (h : Below W.heap.size W w') => mir_good w' HS.out.ct HS.out.mt1 HS.out.nx hln (OT.out.below h))
        have HTM := Lib.hid (fun (w' : World) (h : Below W.heap.size W w') => turn_good w' HS.out.cm HS.out.tm1 HS.out.nx hln (OM.out.below h))
        have HSC := Lib.hid (fun (w' : World) (h : Below W.heap.size W w') (a1 : Option Addr) (c1 : Nat) (h1 : Row w' a1 l) => sameCard_impl d f d f a1 (some ⟨g, 0, none⟩) l.length l.length c1 c l l w' rfl rfl hln hln h1 (OC.out.below h).row2.2)
        have HSX := Lib.hid (fun (w' : World) (a1 a2 : Option Addr) (c1 c2 : Nat) (h1 : Row w' a1 mt) (h2 : Row w' a2 mt) => sameCard_impl f d f d a1 a2 l.length l.length c1 c2 mt mt w' HS.out.nx HS.out.nx hln hln h1 h2)
        rw [Card.same_self] at HSC HSX
        have HSY := Lib.hid (fun (w' : World) (h : Below W.heap.size W w') => sym_impl d f w.heap.size l.length cY aY y w' hln HS.out.zy (OY.out.below h))
        have HSL := Lib.hid (fun (w' : World) (h : Below W.heap.size W w') => sym_impl d f w.heap.size l.length c (some ⟨g, 0, none⟩) l w' hln HS.out.zl (OC.out.below h))
        have HSS := Lib.hid (fun (w' : World) (h : Below W.heap.size W w') => sameCard_spec d f d f (some ⟨g, 0, none⟩) aY l.length l.length c cY l y w' rfl HS.out.ny hln hln (OC.out.below h).row2.2 (OY.out.below h).row2.2)
        have HVY := Lib.hid (fun (w' : World) (h : Below W.heap.size W w') => vol_spec d f aY l.length cY y w' HS.out.ny hln HS.out.zy (OY.out.below h).row2.2)
        have HVC := Lib.hid (fun (w' : World) (h : Below W.heap.size W w') => vol_spec d f (some ⟨g, 0, none⟩) l.length c l w' rfl hln HS.out.zl (OC.out.below h).row2.2)
        have HVT := Lib.hid (fun (w' : World) (h : Below W.heap.size W w') => vol_spec f d aT l.length cT t w' HS.out.nt hln HS.out.zt (OT.out.below h).row2.2)
        rw [HS.out.sy1] at HSY
        rw [HS.out.sy2] at HSL
        rw [HS.out.sy3] at HSS
        rw [HS.out.vy1] at HVY
        rw [HS.out.vc1] at HVC
        rw [HS.out.vt1] at HVT
        have hge1 : vc ≤ vy := HS.out.le
        have hge2 : decide (vc ≤ vy) = true := decide_eq_true hge1
        have heq1 : (sy == sy) = true := by simp
        have heq2 : (vc == vc) = true := by simp
        have heq3 : (B == B) = true := by simp
        have hsh0 : ¬ N < 0 := by omega
        have hsh1 : decide (N < 0) = false := decide_eq_false hsh0
        go_region_held3 (fun w' => w'.cell? ⟨bVC, 0, none⟩ = some (.int .i64 d) ∧ w'.cell? ⟨bVC, 1, none⟩ = some (.int .i64 f) ∧ w'.cell? ⟨bVC, 2, none⟩ = some (.slice (some ⟨g, 0, none⟩) l.length c) ∧ w'.cell? ⟨bVT, 0, none⟩ = some (.int .i64 f) ∧ w'.cell? ⟨bVT, 1, none⟩ = some (.int .i64 d) ∧ w'.cell? ⟨bVT, 2, none⟩ = some (.slice aT l.length cT) ∧ w'.cell? ⟨bVM, 0, none⟩ = some (.int .i64 d) ∧ w'.cell? ⟨bVM, 1, none⟩ = some (.int .i64 f) ∧ w'.cell? ⟨bVM, 2, none⟩ = some (.slice aM l.length cM) ∧ w'.cell? ⟨bVY, 0, none⟩ = some (.int .i64 d) ∧ w'.cell? ⟨bVY, 1, none⟩ = some (.int .i64 f) ∧ w'.cell? ⟨bVY, 2, none⟩ = some (.slice aY l.length cY) ∧ Below W.heap.size W w')
          (first | with_reducible exact S0 | with_reducible exact tw_drew S0 | with_reducible exact tw_next (by assumption) hb | with_reducible exact tw_drew (by assumption) | with_reducible assumption)
          ((first | (go_at_call_of 13 (Value.agg #[.int .i64 f, .int .i64 d, .slice aT l.length cT]); refine (HTT.out _ (tw_below (by assumption))).mono ?_; rintro e x1 ⟨a1, c1, rfl, hb, ho⟩; have O1 := Lib.hid ho; clear ho) | (go_at_call_of 14 (Value.agg #[.int .i64 d, .int .i64 f, .slice aM l.length cM]); refine (HMM.out _ (tw_below (by assumption))).mono ?_; rintro e x2 ⟨a2, c2, rfl, hb, ho⟩; have O2 := Lib.hid ho; clear ho) | (go_at_call_of 14 (Value.agg #[.int .i64 f, .int .i64 d, .slice aT l.length cT]); refine (HMT.out _ (tw_below (by assumption))).mono ?_; rintro e x3 ⟨a3, c3, rfl, hb, ho⟩; have O3 := Lib.hid ho; clear ho) | (go_at_call_of 13 (Value.agg #[.int .i64 d, .int .i64 f, .slice aM l.length cM]); refine (HTM.out _ (tw_below (by assumption))).mono ?_; rintro e x4 ⟨a4, c4, rfl, hb, ho⟩; have O4 := Lib.hid ho; have O3 := Lib.hid (O3.out.below hb); clear ho) | (go_at_call_of 21 (Value.agg #[.int .i64 d, .int .i64 f, .slice a1 l.length c1]); refine (HSC.out _ (tw_below (by assumption)) a1 c1 O1.out.row2.2).mono ?_; rintro e x5 ⟨rfl, hb⟩) | (go_at_call_of 21 (Value.agg #[.int .i64 d, .int .i64 f, .slice a2 l.length c2]); refine (HSC.out _ (tw_below (by assumption)) a2 c2 O2.out.row2.2).mono ?_; rintro e x6 ⟨rfl, hb⟩) | (go_at_call_of 21 (Value.agg #[.int .i64 f, .int .i64 d, .slice a3 l.length c3]); refine (HSX.out _ a3 a4 c3 c4 O3.out.row2.2 O4.out.row2.2).mono ?_; rintro e x7 ⟨rfl, hb⟩) | (go_at_call_of 22 (Value.agg #[.int .i64 d, .int .i64 f, .slice aY l.length cY]); refine (HSY.out _ (tw_below (by assumption))).mono ?_; rintro e x8 ⟨rfl, hb⟩) | (go_at_call_of 23 (Value.agg #[.int .i64 d, .int .i64 f, .slice aY l.length cY]); refine (HVY.out _ (tw_below (by assumption))).mono ?_; rintro e x9 ⟨rfl, hb⟩) | (go_at_call_of 23 (Value.agg #[.int .i64 d, .int .i64 f, .slice (some ⟨g, 0, none⟩) l.length c]); refine (HVC.out _ (tw_below (by assumption))).mono ?_; rintro e x10 ⟨rfl, hb⟩) | (go_at_call_of 22 (Value.agg #[.int .i64 d, .int .i64 f, .slice (some ⟨g, 0, none⟩) l.length c]); refine (HSL.out _ (tw_below (by assumption))).mono ?_; rintro e x11 ⟨rfl, hb⟩) | (go_at_call 24; refine (HSS.out _ (tw_below (by assumption))).mono ?_; rintro e x12 ⟨rfl, hb⟩) | (go_at_call 25; refine (HCB.out _).mono ?_; rintro e x13 ⟨rfl, rfl⟩) | (go_at_call_of 23 (Value.agg #[.int .i64 f, .int .i64 d, .slice aT l.length cT]); refine (HVT.out _ (tw_below (by assumption))).mono ?_; rintro e x14 ⟨rfl, hb⟩)))
        have hbz : Below W.heap.size W x10 := tw_below (w' := x10) (by assumption)
        have HBZ := Lib.hid (HB.out.trans (hbz.mono HB.out.size))
        clear S0 hb hbz
        go_wp2
        go_ret
        exact ⟨rfl, HBZ.out⟩
end Go.Proofs.Ytoampghmikamlaa.Turn
