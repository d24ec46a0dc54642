/- The property of chapter 15: the walk. -/
import Derived.Test.YtigakakgikcghaaCreasesProp
import Derived.Test.YtigakakgikcghaaReadImpl
import Derived.Test.YtigakakgikcghaaCrCount
import Derived.Test.YtigakakgikcghaaUncut
import Derived.Test.YtigakakgikcghaaCornerPeaks
import Derived.Test.YtigakakgikcghaaViewsA
import Derived.Lib.QuietBelow
namespace Go.Proofs.Ytigakakgikcghaa.Crease
open Go.ChangeShapes Go.WideShapes Go.ChangeAt Go.RowKit Go.Sort
open Go.Proofs.Ytigakakgikcghaa.Strip Go.Proofs.Ytigakakgikcghaa.Corner Go.Proofs.Ytigakakgikcghaa.Strs Go.Proofs.Ytigakakgikcghaa.Card Go.Proofs.Ytigakakgikcghaa.Draw
set_option linter.unusedVariables false

set_option maxRecDepth 100000 in
set_option maxHeartbeats 16000000 in
theorem creases (ca : Option Addr) (cl cc : Nat) (w : World) (hm : cl ≤ maxLen) (hr : RowIn w ca cl) :
    Calls Try.prog 3 #[.slice ca cl cc] w fun e w' => e = .returned (.bool true) ∧ Below w.heap.size w w' := by
  by_cases hbig : 1048576 < cl
  · have hd : decide (1048576 < (cl : Int)) = true := by simp; omega
    go_enter Try.func3, Try.ntmps3
    go_wp2_with fail
    refine (big_at ca cl cc w hm).mono ?_
    rintro e w' ⟨rfl, rfl⟩
    rw [hd]
    go_wp2
    go_ret
    exact ⟨rfl, Below.refl _ _⟩
  · have hd : decide (1048576 < (cl : Int)) = false := by simp; omega
    have HR := Lib.hid hr; clear hr
    go_enter Try.func3, Try.ntmps3
    go_wp2_with fail
    refine (big_at ca cl cc w hm).mono ?_
    rintro e w' ⟨rfl, rfl⟩
    rw [hd]
    go_wp2_with fail
    refine drawCard_get ca cl cc w hm HR.out ?_
    intro d f a c l w1 hd4 hf4 hl6 hcb hb1 ho1
    have HC := Lib.hid hcb
    have hl1 : 1 ≤ l.length := (cardB_iff.1 hcb).2.1
    obtain ⟨g, hg⟩ : ∃ g, a = some ⟨g, 0, none⟩ := by
      rcases ho1.shape with ⟨_, _, e⟩ | h
      · rw [e] at hl1; simp at hl1
      · exact h
    subst hg
    obtain ⟨m, hlm⟩ : ∃ m, l.length = m := ⟨_, rfl⟩
    rw [hlm] at ho1 hl6 hl1 ⊢
    have HL := Lib.hid hlm
    have HZ := Lib.hid (show ∀ s ∈ l, s.size ≤ 1048576 from fun s hs => by have := (strip_of hcb s hs).high; omega)
    have HB := Lib.hid hb1
    have OC := Lib.hid ho1
    have HTI := Lib.hid (fun x k (hk : k ≤ m) => tot_in hcb x k (by rw [hlm]; exact hk))
    have HTM := Lib.hid (fun k (hk : k ≤ m) => tot_more hcb k (by rw [hlm]; exact hk))
    have HCNT := Lib.hid (fun (w' : World) (h : Row w' (some ⟨g, 0, none⟩) l) => cnt_impl d f (some ⟨g, 0, none⟩) m c l w' hlm (by omega) HZ.out h)
    rw [totV_yes hcb, totV_yes hcb, hlm] at HCNT
    have HTXT := Lib.hid (fun (k : Int) (w' : World) (h : Row w' (some ⟨g, 0, none⟩) l) => text_impl d f (some ⟨g, 0, none⟩) m c l k w' hlm (by omega) HZ.out h)
    have HUNC := Lib.hid (fun (k : Int) (w' : World) (h : Row w' (some ⟨g, 0, none⟩) l) => unc_impl d f (some ⟨g, 0, none⟩) m c l k w' hlm (by omega) HZ.out h)
    have HCAT := Lib.hid (fun (k i : Int) (w' : World) (h : Row w' (some ⟨g, 0, none⟩) l) (h0 : -9223372036854775808 ≤ i) (h1 : i ≤ 9223372036854775807) => cAt_impl d f (some ⟨g, 0, none⟩) m c l k i w' hlm (by omega) HZ.out h h0 h1)
    clear hb1 ho1 hd hcb hlm
    go_wp2_with fail
    have hv0 := Var.new w1 d f (.slice (some ⟨g, 0, none⟩) m c)
    have hb := alloc_below w1 (.cells #[.int .i64 d, .int .i64 f, .slice (some ⟨g, 0, none⟩) m c] 26)
    have OC := Lib.hid (OC.out.below hb)
    have HB := Lib.hid (HB.out.trans (hb.mono HB.out.size))
    have VC := Lib.hid hv0
    clear hv0 hb
    generalize (w1.alloc (.cells #[.int .i64 d, .int .i64 f, .slice (some ⟨g, 0, none⟩) m c] 26)) = w2 at *
    generalize w1.heap.size = bVC at *
    refine (HCNT.out _ OC.out.row2.2).mono ?_
    rintro e w4 ⟨rfl, hb⟩
    have OC := Lib.hid (OC.out.below hb)
    have VC := Lib.hid (VC.out.below hb)
    have HB := Lib.hid (HB.out.trans (hb.mono HB.out.size))
    clear hb HCNT
    go_wp2_with fail
    go_loopw [6, 7, 8] (fun x y i wr => ∃ k : Nat, k ≤ m ∧ i = .int .i64 (k : Int) ∧ x = .int .i64 (tot 109 l k : Nat) ∧ y = .int .i64 ((tot 109 l k + tot 118 l k : Nat) : Int) ∧ Hid (Below w4.heap.size w4 wr)) (fun _ _ i _ => m - (intOf i).toNat)
    case atStart => exact ⟨0, Nat.zero_le _, rfl, rfl, rfl, Below.refl _ _⟩
    case round =>
      rename World => wq
      obtain ⟨k, hk, rfl, rfl, rfl, HBR⟩ := hrel
      have hk0 : (0 : Int) ≤ (k : Int) := Int.natCast_nonneg _
      have VQ := Lib.hid (VC.out.below HBR.out)
      obtain ⟨vc_0, vc_1, vc_2⟩ := VQ.out.cells
      have t0 := HTI.out 109 k hk
      have t1 := HTI.out 118 k hk
      by_cases hlt : k < m
      · have hk1 : (k : Int) < (m : Int) := by omega
        have hkl : k < l.length := by rw [HL.out]; exact hlt
        have hmem := List.getElem_mem hkl
        obtain ⟨g', e, _, hca⟩ := Row.at OC.out.row2.2 HBR.out k hkl
        cases e
        have HTD := Lib.hid (told_of HC.out l[k] hmem)
        have HST := Lib.hid (stripN_yes HC.out k hkl)
        have HT1 := Lib.hid (fun (w' : World) (h : Row w' (some ⟨g, 0, none⟩) l) => HTXT.out (k : Int) w' h)
        rw [HST.out, HTD.out.text] at HT1
        have HPK := Lib.hid (fun w' : World => peaks_spec l[k] w' (HZ.out _ hmem))
        have HFD := Lib.hid (fun w' : World => folds_spec l[k] w' (HZ.out _ hmem))
        rw [HTD.out.peaks] at HPK
        rw [HTD.out.folds] at HFD
        have HRD := Lib.hid (fun w' : World => read_impl ⟨(txt l[k].data.toList).toArray⟩ d f w' (by rw [HTD.out.long]; have := HTD.out.n1; omega))
        rw [HTD.out.back] at HRD
        have HCA := Lib.hid (fun (u : Nat) (hu : u ≤ 17) (w' : World) (h : Row w' (some ⟨g, 0, none⟩) l) => HCAT.out (k : Int) (u : Int) w' h (by omega) (by omega))
        rw [HST.out] at HCA
        have S1 := Lib.hid (tot_succ 109 l k hkl)
        have S2 := Lib.hid (tot_succ 118 l k hkl)
        have HSG := Lib.hid HTD.out.sign
        have tn0 := HTD.out.n0
        have tn1 := HTD.out.n1
        have tlong := HTD.out.long
        have tmore := HTD.out.more
        have tfew := HTD.out.few
        clear HTD HST
        generalize cnt 109 (txt l[k].data.toList) = A at *
        generalize cnt 118 (txt l[k].data.toList) = B at *
        generalize (⟨(txt l[k].data.toList).toArray⟩ : ByteArray) = T at *
        generalize hn : l[k].size = n at *
        have HNS := Lib.hid hn
        have HLONG := Lib.hid tlong
        have tb : B ≤ 18 := by omega
        have HMORE := Lib.hid tmore
        clear hn tlong tmore
        generalize tot 109 l k = M at *
        generalize tot 118 l k = V at *
        have HROW := Lib.hid (fun (w' : World) (hb : Below w4.heap.size w4 w') => (OC.out.below hb).row2.2)
        have HVC := Lib.hid (fun (w' : World) (hb : Below w4.heap.size w4 w') => (VC.out.below hb).cells)
        rcases Nat.eq_zero_or_pos k with hkz | hkp
        · have HKZ := Lib.hid hkz
          have hgt : decide ((0 : Int) < (k : Int)) = false := by rw [decide_eq_false_iff_not]; omega
          have hgl : ¬ (0 : Int) < (k : Int) := by omega
          have hgn : decide (0 < k) = false := by rw [decide_eq_false_iff_not]; omega
          clear hkz
          generalize l[k] = s at *
          go_wp2_with fail
          refine (HT1.out _ (HROW.out _ HBR.out)).mono ?_
          rintro e w5 ⟨rfl, hb⟩
          have HB5 := Lib.hid (HBR.out.trans (hb.mono HBR.out.size))
          clear hb vc_0 vc_1 vc_2
          go_wp2_with fail
          refine (HPK.out _).mono ?_
          rintro e w6 ⟨rfl, hb⟩
          have HB6 := Lib.hid (HB5.out.trans (hb.mono HB5.out.size))
          clear hb
          go_wp2_with fail
          refine (HFD.out _).mono ?_
          rintro e w7 ⟨rfl, hb⟩
          have HB7 := Lib.hid (HB6.out.trans (hb.mono HB6.out.size))
          clear hb
          go_wp2_with fail
          obtain ⟨vd_0, vd_1, vd_2⟩ := HVC.out _ HB7.out
          have k0 := cell_regrown vd_0
          have k1 := cell_regrown vd_1
          have k2 := cell_regrown vd_2
          have HR1 := Lib.hid (fun (dd : Nat) (os : Array Obj) => Calls.regrown_of (HRD.out (grow (redrawn w7 dd) os)))
          have hss : (s.toList == s.toList) = true := by simp
          have hsn : (s.toList != s.toList) = false := by simp
          obtain ⟨N, hN⟩ : ∃ N, (s.size : Int) + 1 = N := ⟨_, rfl⟩
          have hsz := HNS.out
          have hlg := HLONG.out
          have hwN : IntKind.i64.wrap ((s.size : Int) + 1) = N := by rw [IntKind.wrap_i64]; omega
          have hqN : ((T.size : Int) != N) = false := by rw [← hN, hlg, hsz]; simp
          clear vd_0 vd_1 vd_2 hsz hlg hN hca
          refine wp_region_quiet_below (by kernel_rfl) (by kernel_rfl) ?_
          repeat (go_big_quiet_step ((go_at_call 15; exact HR1.out _ _)))
          refine wpQuiet_nil ?_
          intro _ hw'
          obtain ⟨⟨dq, osq⟩, hw''⟩ := hw'
          subst hw''
          have hbr := below_regrown w7 dq osq
          have HB8 := Lib.hid (HB7.out.trans (hbr.mono HB7.out.size))
          clear hbr k0 k1 k2 HR1
          generalize (grow (redrawn w7 dq) osq) = w8 at *
          clear hss hsn hwN hqN hgt hgl hgn
          go_wp2_with fail
          go_loopw [11] (fun i wr => ∃ u : Nat, u ≤ n + 1 ∧ i = .int .i64 (u : Int) ∧ Hid (Below w4.heap.size w4 wr)) (fun i _ => n + 1 - (intOf i).toNat)
          case atStart => exact ⟨0, Nat.zero_le _, rfl, HB8⟩
          case round =>
            obtain ⟨u, hu, rfl, HBu⟩ := hrel
            have hu0 : (0 : Int) ≤ (u : Int) := Int.natCast_nonneg _
            obtain ⟨vd_0, vd_1, vd_2⟩ := HVC.out _ HBu.out
            by_cases hul : u ≤ n
            · have hu1 : (u : Int) < (T.size : Int) := by have := HLONG.out; omega
              have hu2 : (u : Int) + 1 ≤ (T.size : Int) := by omega
              have hu3 : (u : Int) ≤ (u : Int) + 1 := by omega
              have HX := Lib.hid (fun (w' : World) (h : Row w' (some ⟨g, 0, none⟩) l) => HCA.out u (by omega) w' h)
              have HSU := Lib.hid (HSG.out u hul)
              have h3 := crV_three s.data.toList (u : Int)
              generalize crV s.data.toList (u : Int) = x at *
              rcases h3 with rfl | rfl | rfl
              all_goals
                first
                  | have hcm : ((T.extract u (u + 1)).toList == ((⟨#[46, 109, 118]⟩ : ByteArray).extract 0 1).toList) = true := by rw [HSU.out, list_beq]; exact decide_eq_true rfl
                  | have hcm : ((T.extract u (u + 1)).toList == ((⟨#[46, 109, 118]⟩ : ByteArray).extract 1 2).toList) = true := by rw [HSU.out, list_beq]; exact decide_eq_true rfl
                  | have hcm : ((T.extract u (u + 1)).toList == ((⟨#[46, 109, 118]⟩ : ByteArray).extract 2 3).toList) = true := by rw [HSU.out, list_beq]; exact decide_eq_true rfl
                go_wp2_with fail
                refine (HX.out _ (HROW.out _ HBu.out)).mono ?_
                rintro e w9 ⟨rfl, hb⟩
                have HB9 := Lib.hid (HBu.out.trans (hb.mono HBu.out.size))
                clear hb
                go_wp2_with fail
                go_quiet (fail)
                go_wp2
                exact ⟨⟨u + 1, by omega, by go_num, HB9.out.trans ((drewN_below _ _).mono HB9.out.size)⟩, by simp [intOf]; omega⟩
            · have hu1 : ¬ (u : Int) < (T.size : Int) := by have := HLONG.out; omega
              go_wp2
              go_roundw
              case rel => exact ⟨k + 1, by omega, by go_num, by rw [S1.out]; go_num, by rw [S1.out, S2.out]; go_num, HBu⟩
              case measure => simp [intOf]; omega
        · obtain ⟨j, rfl⟩ : ∃ j, k = j + 1 := ⟨k - 1, by omega⟩
          have hjl : j < l.length := by omega
          have HUJ := Lib.hid (uncB_yes HC.out j hkl)
          obtain ⟨gp, e, _, hcp⟩ := Row.at OC.out.row2.2 (Below.refl _ _) j hjl
          cases e
          have HCP := Lib.hid hcp
          clear hcp hkp
          generalize l[j + 1] = s at *
          generalize l[j] = p at *
          go_wp2_with fail
          refine (HT1.out _ (HROW.out _ HBR.out)).mono ?_
          rintro e w5 ⟨rfl, hb⟩
          have HB5 := Lib.hid (HBR.out.trans (hb.mono HBR.out.size))
          clear hb vc_0 vc_1 vc_2
          go_wp2_with fail
          refine (HPK.out _).mono ?_
          rintro e w6 ⟨rfl, hb⟩
          have HB6 := Lib.hid (HB5.out.trans (hb.mono HB5.out.size))
          clear hb
          go_wp2_with fail
          refine (HFD.out _).mono ?_
          rintro e w7 ⟨rfl, hb⟩
          have HB7 := Lib.hid (HB6.out.trans (hb.mono HB6.out.size))
          clear hb
          go_wp2_with fail
          obtain ⟨vd_0, vd_1, vd_2⟩ := HVC.out _ HB7.out
          have k0 := cell_regrown vd_0
          have k1 := cell_regrown vd_1
          have k2 := cell_regrown vd_2
          have c1 := cell_regrown ((HB7.out.cell (p := ⟨g, j, none⟩) (World.block_lt_of_cell? _ _ HCP.out)).trans HCP.out)
          have HR1 := Lib.hid (fun (dd : Nat) (os : Array Obj) => Calls.regrown_of (HRD.out (grow (redrawn w7 dd) os)))
          have HU1 := Lib.hid (fun (dd : Nat) (os : Array Obj) => Calls.regrown_of (HUNC.out ((j : Nat) : Int) (grow (redrawn w7 dd) os) (HROW.out _ (HB7.out.trans ((below_regrown w7 dd os).mono HB7.out.size)))))
          rw [HUJ.out] at HU1
          obtain ⟨bq, hbq⟩ : ∃ bq, (p.toList == s.toList) = bq := ⟨_, rfl⟩
          rw [hbq] at HU1
          have hsp : (s.toList == p.toList) = bq := by rw [← hbq, list_beq, list_beq, Bool.eq_iff_iff, decide_eq_true_iff, decide_eq_true_iff]; exact eq_comm
          have hbb : (bq != bq) = false := by simp
          have hss : (s.toList == s.toList) = true := by simp
          have hsn : (s.toList != s.toList) = false := by simp
          obtain ⟨N, hN⟩ : ∃ N, (s.size : Int) + 1 = N := ⟨_, rfl⟩
          have hsz := HNS.out
          have hlg := HLONG.out
          have hwN : IntKind.i64.wrap ((s.size : Int) + 1) = N := by rw [IntKind.wrap_i64]; omega
          have hqN : ((T.size : Int) != N) = false := by rw [← hN, hlg, hsz]; simp
          have hgt : decide ((0 : Int) < (j : Int) + 1) = true := by rw [decide_eq_true_iff]; omega
          have hgl : (0 : Int) < (j : Int) + 1 := by omega
          have hwj : IntKind.i64.wrap ((j : Int) + 1 - 1) = (j : Int) := by rw [IntKind.wrap_i64]; omega
          have hwk : IntKind.i64.wrap (j : Int) = (j : Int) := by rw [IntKind.wrap_i64]; omega
          have hj0 : (0 : Int) ≤ (j : Int) := Int.natCast_nonneg _
          have hj1 : (j : Int) < (m : Int) := by omega
          clear vd_0 vd_1 vd_2 hbq hsz hlg hN hca
          refine wp_region_quiet_below (by kernel_rfl) (by kernel_rfl) ?_
          repeat (go_big_quiet_step ((first | (go_at_call 15; exact HR1.out _ _) | (go_at_call 16; exact HU1.out _ _))))
          refine wpQuiet_nil ?_
          intro _ hw'
          obtain ⟨⟨dq, osq⟩, hw''⟩ := hw'
          subst hw''
          have hbr := below_regrown w7 dq osq
          have HB8 := Lib.hid (HB7.out.trans (hbr.mono HB7.out.size))
          clear hbr k0 k1 k2 c1 HR1 HU1
          generalize (grow (redrawn w7 dq) osq) = w8 at *
          clear hbb hss hsn hwN hqN hgt hgl hwj hsp
          go_wp2_with fail
          go_loopw [11] (fun i wr => ∃ u : Nat, u ≤ n + 1 ∧ i = .int .i64 (u : Int) ∧ Hid (Below w4.heap.size w4 wr)) (fun i _ => n + 1 - (intOf i).toNat)
          case atStart => exact ⟨0, Nat.zero_le _, rfl, HB8⟩
          case round =>
            obtain ⟨u, hu, rfl, HBu⟩ := hrel
            have hu0 : (0 : Int) ≤ (u : Int) := Int.natCast_nonneg _
            obtain ⟨vd_0, vd_1, vd_2⟩ := HVC.out _ HBu.out
            by_cases hul : u ≤ n
            · have hu1 : (u : Int) < (T.size : Int) := by have := HLONG.out; omega
              have hu2 : (u : Int) + 1 ≤ (T.size : Int) := by omega
              have hu3 : (u : Int) ≤ (u : Int) + 1 := by omega
              have HX := Lib.hid (fun (w' : World) (h : Row w' (some ⟨g, 0, none⟩) l) => HCA.out u (by omega) w' h)
              have HSU := Lib.hid (HSG.out u hul)
              have h3 := crV_three s.data.toList (u : Int)
              generalize crV s.data.toList (u : Int) = x at *
              rcases h3 with rfl | rfl | rfl
              all_goals
                first
                  | have hcm : ((T.extract u (u + 1)).toList == ((⟨#[46, 109, 118]⟩ : ByteArray).extract 0 1).toList) = true := by rw [HSU.out, list_beq]; exact decide_eq_true rfl
                  | have hcm : ((T.extract u (u + 1)).toList == ((⟨#[46, 109, 118]⟩ : ByteArray).extract 1 2).toList) = true := by rw [HSU.out, list_beq]; exact decide_eq_true rfl
                  | have hcm : ((T.extract u (u + 1)).toList == ((⟨#[46, 109, 118]⟩ : ByteArray).extract 2 3).toList) = true := by rw [HSU.out, list_beq]; exact decide_eq_true rfl
                go_wp2_with fail
                refine (HX.out _ (HROW.out _ HBu.out)).mono ?_
                rintro e w9 ⟨rfl, hb⟩
                have HB9 := Lib.hid (HBu.out.trans (hb.mono HBu.out.size))
                clear hb
                go_wp2_with fail
                go_quiet (fail)
                go_wp2
                exact ⟨⟨u + 1, by omega, by go_num, HB9.out.trans ((drewN_below _ _).mono HB9.out.size)⟩, by simp [intOf]; omega⟩
            · have hu1 : ¬ (u : Int) < (T.size : Int) := by have := HLONG.out; omega
              go_wp2
              go_roundw
              case rel => exact ⟨j + 1 + 1, by omega, by go_num, by rw [S1.out]; go_num, by rw [S1.out, S2.out]; go_num, HBu⟩
              case measure => simp [intOf]; omega
      · obtain rfl : k = m := by omega
        have htm := HTM.out k (Nat.le_refl _)
        have HRD := Lib.hid (fun w' : World => read_impl ⟨#[46, 46]⟩ 1 1 w' (by decide))
        rw [dots] at HRD
        generalize tot 109 l k = M at *
        generalize tot 118 l k = V at *
        have h1 : ((M : Int) == (M : Int)) = true := by simp
        have h2 : ((M : Int) + (V : Int) == (M : Int) + (V : Int)) = true := by simp
        have h3 : ((V : Int) == (M : Int) + (k : Int)) = true := by rw [beq_iff_eq]; omega
        have hv : (V : Int) ≤ 200 := by omega
        have he : (⟨#[]⟩ : ByteArray).toList.isEmpty = true := by rw [empty_eq]; rfl
        clear htm
        go_wp2_with fail
        refine (HRD.out _).mono ?_
        rintro e w9 ⟨rfl, hb⟩
        have HB9 := Lib.hid (HBR.out.trans (hb.mono HBR.out.size))
        clear hb
        go_wp2
        go_ret
        exact ⟨rfl, HB.out.trans (HB9.out.mono HB.out.size)⟩
end Go.Proofs.Ytigakakgikcghaa.Crease
