/- The property of chapter 13: the walk. -/
import Derived.Test.YtbdeppbbgokfhaaViewsProp
import Derived.Test.YtbdeppbbgokfhaaStepImpl
import Derived.Test.YtbdeppbbgokfhaaViewFront
import Derived.Test.YtbdeppbbgokfhaaHighImpl
import Derived.Test.YtbdeppbbgokfhaaViewsA
namespace Go.Proofs.Ytbdeppbbgokfhaa.View
open Go.ChangeShapes Go.WideShapes Go.ChangeAt Go.RowKit
open Go.Proofs.Ytbdeppbbgokfhaa.Strip Go.Proofs.Ytbdeppbbgokfhaa.Strs Go.Proofs.Ytbdeppbbgokfhaa.Card Go.Proofs.Ytbdeppbbgokfhaa.Kerf Go.Proofs.Ytbdeppbbgokfhaa.Order Go.Proofs.Ytbdeppbbgokfhaa.Draw
set_option linter.unusedVariables false

set_option maxRecDepth 100000 in
set_option maxHeartbeats 16000000 in
theorem views (ca : Option Addr) (cl cc : Nat) (w : World) (hm : cl ≤ maxLen) (hr : RowIn w ca cl) :
    Calls Try.prog 3 #[.slice ca cl cc] w fun e w' => e = .returned (.bool true) ∧ Below w.heap.size w w' := by
  by_cases hbig : 1048576 < cl
  · have hd : decide (1048576 < (cl : Int)) = true := by simp; omega
    go_enter Try.func3, Try.ntmps3
    go_wp2_with fail
    refine (big_at ca cl cc w hm).mono ?_
    rintro e w' ⟨rfl, rfl⟩
    rw [hd]
    go_wp2
    go_ret
    exact ⟨rfl, Below.refl _ _⟩
  · have hd : decide (1048576 < (cl : Int)) = false := by simp; omega
    have HR := Lib.hid hr; clear hr
    go_enter Try.func3, Try.ntmps3
    go_wp2_with fail
    refine (big_at ca cl cc w hm).mono ?_
    rintro e w' ⟨rfl, rfl⟩
    rw [hd]
    go_wp2_with fail
    refine drawCard_get ca cl cc w hm HR.out ?_
    intro d f a c l w1 hd4 hf4 hl6 hcb hb1 ho1
    have HC := Lib.hid hcb
    have hl1 : 1 ≤ l.length := (cardB_iff.1 hcb).2.1
    obtain ⟨d1, d8, f1, f8⟩ := card_frame hcb
    obtain ⟨D, hD⟩ : ∃ D : Nat, d.toNat = D := ⟨_, rfl⟩
    obtain ⟨F, hF⟩ : ∃ F : Nat, f.toNat = F := ⟨_, rfl⟩
    have hqd : ((D : Int) != d) = false := by rw [show (D : Int) = d by omega]; simp
    have hqf : ((F : Int) != f) = false := by rw [show (F : Int) = f by omega]; simp
    have HD := Lib.hid hD
    have HF := Lib.hid hF
    have hD8 : D ≤ 8 := by omega
    have hF8 : F ≤ 8 := by omega
    obtain ⟨g, hg⟩ : ∃ g, a = some ⟨g, 0, none⟩ := by
      rcases ho1.shape with ⟨_, _, e⟩ | h
      · rw [e] at hl1; simp at hl1
      · exact h
    subst hg
    obtain ⟨m, hlm⟩ : ∃ m, l.length = m := ⟨_, rfl⟩
    rw [hlm] at ho1 hl6 hl1 ⊢
    have HL := Lib.hid hlm
    have HZ := Lib.hid (show ∀ s ∈ l, s.size ≤ 1048576 from fun s hs => Nat.le_trans (size_small (card_strip hcb s hs)) (by decide))
    have HB := Lib.hid hb1
    have OC := Lib.hid ho1
    clear hb1 ho1 hd hcb hD hF hlm
    have HTOP := Lib.hid (fun (w' : World) (h : Row w' (some ⟨g, 0, none⟩) l) => top_impl d f (some ⟨g, 0, none⟩) m c l w' HL.out (by omega) HZ.out h)
    have HFRO := Lib.hid (fun (w' : World) (h : Row w' (some ⟨g, 0, none⟩) l) => front_impl d f (some ⟨g, 0, none⟩) m c l w' HL.out (by omega) HZ.out h)
    rw [show topV d f l = rowsV htsL l by unfold topV; rw [HC.out]; rfl] at HTOP
    rw [show frontV d f l = rowsV dpsL l by unfold frontV; rw [HC.out]; rfl] at HFRO
    have HCS := Lib.hid (fun (w' : World) (h : Row w' (some ⟨g, 0, none⟩) l) => by
      have h2 := steps_impl d f (some ⟨g, 0, none⟩) m c l w' HL.out (by omega) HZ.out h
      rw [cntK_all HC.out, HL.out] at h2
      exact h2)
    go_wp2_with fail
    have hv0 := Var.new w1 d f (.slice (some ⟨g, 0, none⟩) m c)
    have hb := alloc_below w1 (.cells #[.int .i64 d, .int .i64 f, .slice (some ⟨g, 0, none⟩) m c] 26)
    have OC := Lib.hid (OC.out.below hb)
    have HB := Lib.hid (HB.out.trans (hb.mono HB.out.size))
    have VC := Lib.hid hv0
    clear hv0 hb
    generalize (w1.alloc (.cells #[.int .i64 d, .int .i64 f, .slice (some ⟨g, 0, none⟩) m c] 26)) = w2 at *
    generalize w1.heap.size = bVC at *
    refine (HTOP.out _ OC.out.row2.2).mono ?_
    rintro e w3 ⟨vA, ua, rfl, hb, hoA⟩
    have OC := Lib.hid (OC.out.below hb)
    have VC := Lib.hid (VC.out.below hb)
    have HB := Lib.hid (HB.out.trans (hb.mono HB.out.size))
    obtain ⟨aA, cA, rfl, hra, _⟩ := hoA.row
    rw [rowsV_length, HL.out]
    have RA := Lib.hid hra
    clear hb hoA hra
    obtain ⟨vc_0, vc_1, vc_2⟩ := VC.out.cells
    go_wp2_with fail
    clear vc_0 vc_1 vc_2
    refine (HFRO.out _ OC.out.row2.2).mono ?_
    rintro e w4 ⟨vB, ub, rfl, hb, hoB⟩
    have OC := Lib.hid (OC.out.below hb)
    have VC := Lib.hid (VC.out.below hb)
    have RA := Lib.hid (RA.out.below hb)
    have HB := Lib.hid (HB.out.trans (hb.mono HB.out.size))
    obtain ⟨aB, cB, rfl, hrb, _⟩ := hoB.row
    rw [rowsV_length, HL.out]
    have RB := Lib.hid hrb
    clear hb hoB hrb HTOP HFRO
    have hqm : ((m : Int) != (m : Int)) = false := by simp
    obtain ⟨vc_0, vc_1, vc_2⟩ := VC.out.cells
    go_wp2_with fail
    clear vc_0 vc_1 vc_2
    go_loopw [6, 7] (fun x i wr => ∃ k : Nat, k ≤ m ∧ i = .int .i64 (k : Int) ∧ x = .int .i64 (cntK f l k) ∧ Hid (Below w4.heap.size w4 wr)) (fun _ i _ => m - (intOf i).toNat)
    case atStart => exact ⟨0, Nat.zero_le _, rfl, rfl, Below.refl _ _⟩
    case round =>
      rename World => wq
      obtain ⟨k, hk, rfl, rfl, HBR⟩ := hrel
      have hk0 : (0 : Int) ≤ (k : Int) := Int.natCast_nonneg _
      have VQ := Lib.hid (VC.out.below HBR.out)
      obtain ⟨vc_0, vc_1, vc_2⟩ := VQ.out.cells
      have hcb := cntK_in f f8 l k (by omega)
      by_cases hlt : k < m
      · have hk1 : (k : Int) < (m : Int) := by omega
        have hkl : k < l.length := by rw [HL.out]; exact hlt
        have hmem := List.getElem_mem hkl
        obtain ⟨g', e, _, hca⟩ := Row.at OC.out.row2.2 HBR.out k hkl
        cases e
        have HSN := Lib.hid (seen_of HC.out l[k] hmem)
        rw [HD.out, HF.out] at HSN
        have HLOOK := Lib.hid (fun w' : World => look_impl l[k] w' (HZ.out _ hmem))
        have HDEEP := Lib.hid (fun w' : World => deep_impl l[k] w' (HZ.out _ hmem))
        have HRM := Lib.hid (fun w' : World => room_spec l[k] w' (HZ.out _ hmem))
        obtain ⟨gA, aAk, cAk, rfl, hcAk, hrAk, _⟩ := RA.out k _ (rowsV_at htsL l k hkl)
        obtain ⟨gB, aBk, cBk, rfl, hcBk, hrBk, _⟩ := RB.out k _ (rowsV_at dpsL l k hkl)
        have HIX := Lib.hid (show ∀ j u : Nat, k = j + 1 → u < F → ∃ (aj : Option Addr) (cj : Nat) (x : Int), (∃ gj, aj = some ⟨gj, 0, none⟩ ∧ ∀ w', Below w4.heap.size w4 w' → w'.cell? ⟨gj, u, none⟩ = some (.int .i64 x)) ∧ (∀ w', Below w4.heap.size w4 w' → w'.cell? ⟨gA, j, none⟩ = some (.slice aj F cj)) ∧ ∀ (h : u < (htsL l[k].data.toList).length), tK f l k (u + 1) = tK f l k u + (if x = (htsL l[k].data.toList)[u] then 0 else 1) from by
          intro j u hj hu
          subst hj
          have hjl : j < l.length := by omega
          obtain ⟨gA', aj, cj, e, hcj, hrj, _⟩ := RA.out j _ (rowsV_at htsL l j hjl)
          cases e
          have hlen := card_row HC.out _ (List.getElem_mem hjl)
          rw [HF.out] at hlen
          have hu2 : u < (htsL l[j].data.toList).length := by rw [hlen]; exact hu
          obtain ⟨gj, e, hgj, hcu⟩ := hrj u hu2
          rw [hlen] at hcj
          exact ⟨aj, cj, _, ⟨gj, e, fun w' hb => (hb.cell (p := ⟨gj, u, none⟩) hgj).trans hcu⟩, fun w' hb => (hb.cell (p := ⟨gA, j, none⟩) (World.block_lt_of_cell? _ _ hcj)).trans hcj, fun h => tK_next f l j u hkl hu2 h⟩)
        rw [HSN.out.hl] at hcAk
        rw [HSN.out.pl] at hcBk
        have HAK := Lib.hid (fun (w' : World) (hb : Below w4.heap.size w4 w') => (hb.cell (p := ⟨gA, k, none⟩) (World.block_lt_of_cell? _ _ hcAk)).trans hcAk)
        have HBK := Lib.hid (fun (w' : World) (hb : Below w4.heap.size w4 w') => (hb.cell (p := ⟨gB, k, none⟩) (World.block_lt_of_cell? _ _ hcBk)).trans hcBk)
        have HRAK := Lib.hid hrAk
        have HRBK := Lib.hid hrBk
        clear hcAk hcBk hrAk hrBk hmem
        generalize htsL l[k].data.toList = h at *
        generalize dpsL l[k].data.toList = p at *
        generalize roomI l[k].data.toList = S at *
        generalize l[k] = s at *
        obtain ⟨adn, ahl, apl, ahs, aps, arm, ahi, api, abk⟩ := HSN.out
        have HHL := Lib.hid ahl
        have HPL := Lib.hid apl
        have HHS := Lib.hid ahs
        have HPS := Lib.hid aps
        have HHI := Lib.hid ahi
        have HPI := Lib.hid api
        have HDN := Lib.hid adn
        have HBK2 := Lib.hid abk
        clear ahl apl ahs aps arm ahi api adn abk HSN
        go_wp2_with fail
        refine (HLOOK.out _).mono ?_
        rintro e w5 ⟨vh, rfl, hb5, hoh⟩
        have HB5 := Lib.hid (HBR.out.trans (hb5.mono HBR.out.size))
        have OH := Lib.hid hoh
        clear hb5 hoh vc_0 vc_1 vc_2 hca
        obtain ⟨ah, ch, rfl, _, _⟩ := OH.out.row
        rw [HHL.out] at OH ⊢
        go_wp2_with fail
        refine (HDEEP.out _).mono ?_
        rintro e w6 ⟨vp, rfl, hb6, hop⟩
        have HB6 := Lib.hid (HB5.out.trans (hb6.mono HB5.out.size))
        have OH6 := Lib.hid (OH.out.below hb6)
        have OP6 := Lib.hid hop
        clear hb6 hop OH HB5 HLOOK HDEEP
        obtain ⟨ap, cp, rfl, _, _⟩ := OP6.out.row
        rw [HPL.out] at OP6 ⊢
        obtain ⟨_, _, e1, r1, _⟩ := OH6.out.row
        rw [HHL.out] at e1
        cases e1
        obtain ⟨_, _, e2, r2, _⟩ := OP6.out.row
        rw [HPL.out] at e2
        cases e2
        have RH := Lib.hid r1
        have RP := Lib.hid r2
        clear r1 r2 OH6 OP6
        go_wp2_with fail
        go_loopw [6, 11, 12] (fun y x i wr => ∃ u q : Nat, u ≤ F ∧ i = .int .i64 (u : Int) ∧ x = .int .i64 (sumL (h.take u)) ∧ y = .int .i64 (tK f l k u) ∧ wr = w6.drewN q) (fun _ _ i _ => F - (intOf i).toNat)
        case atStart => exact ⟨0, 0, Nat.zero_le _, rfl, rfl, by rw [tK_zero], rfl⟩
        case round =>
          obtain ⟨u, q, hu, rfl, rfl, rfl, rfl⟩ := hrel
          have hp := sumL_in 16 (by omega) (l := h.take u) (fun x hx => HHI.out x (List.mem_of_mem_take hx))
          have hpl : (h.take u).length ≤ u := List.length_take_le _ _
          have hp0 : -256 ≤ sumL (h.take u) := by omega
          have hp1 : sumL (h.take u) ≤ 256 := by omega
          obtain ⟨ht0, ht1⟩ := tK_in f f8 l k u (by omega) (by omega)
          have hu0 : (0 : Int) ≤ (u : Int) := Int.natCast_nonneg _
          clear hp hpl
          by_cases hlu : u < F
          · have hu1 : (u : Int) < (F : Int) := by omega
            have hul : u < h.length := by rw [HHL.out]; exact hlu
            obtain ⟨gh, rfl, _, hcu⟩ := RH.out u hul
            have HST := Lib.hid (sumL_take h u hul)
            have hxin := HHI.out h[u] (List.getElem_mem hul)
            have HTN := Lib.hid (fun j (hj : k = j + 1) => by
              obtain ⟨aj, cj, x, h1, h2, h3⟩ := HIX.out j u hj hlu
              exact (⟨aj, cj, x, h1, h2, h3 hul⟩ : ∃ (aj : Option Addr) (cj : Nat) (x : Int), (∃ gj, aj = some ⟨gj, 0, none⟩ ∧ ∀ w', Below w4.heap.size w4 w' → w'.cell? ⟨gj, u, none⟩ = some (.int .i64 x)) ∧ (∀ w', Below w4.heap.size w4 w' → w'.cell? ⟨gA, j, none⟩ = some (.slice aj F cj)) ∧ tK f l k (u + 1) = tK f l k u + (if x = h[u] then 0 else 1)))
            have HVL := Lib.hid (show ∀ v, u = v + 1 → ∃ y, w6.cell? ⟨gh, v, none⟩ = some (.int .i64 y) ∧ h[u] ≤ y from fun v hv => by
              subst hv
              have hvl : v < h.length := by omega
              obtain ⟨gh', e, _, hcv⟩ := RH.out v hvl
              cases e
              exact ⟨h[v], hcv, HDN.out v hul⟩)
            --ROUND
            generalize hx9 : h[u] = x at *
            generalize sumL (h.take u) = M at *
            generalize hT9 : tK f l k u = T at *
            have HT := Lib.hid hT9
            obtain ⟨x0, x1⟩ := hxin
            clear hx9 hT9 hul
            rcases Nat.eq_zero_or_pos u with hu2 | hu2
            · have hgu : decide ((0 : Int) < (u : Int)) = false := by simp; omega
              have hgn : decide (0 < u) = false := by simp; omega
              clear hu2
              go_wp2_with fail
              go_quiet (fail)
              rcases Nat.eq_zero_or_pos k with hk2 | hk2
              · have hgk : decide ((0 : Int) < (k : Int)) = false := by simp; omega
                have hgm : decide (0 < k) = false := by simp; omega
                have HTK := Lib.hid (show tK f l k (u + 1) = T by rw [← HT.out, hk2, tK_first])
                clear hk2
                go_wp2
                go_roundw
                case rel => exact ⟨u + 1, _, by omega, by go_num, by rw [HST.out], by rw [HTK.out], rfl⟩
                case measure => simp [intOf]; omega
              · obtain ⟨j, hj⟩ : ∃ j, k = j + 1 := ⟨k - 1, by omega⟩
                obtain ⟨aj, cj, z, ⟨gj, rfl, hz9⟩, hj9, hstep⟩ := HTN.out j hj
                have hcz := hz9 _ HB6.out
                have hcj := hj9 _ HB6.out
                have hgk : decide ((0 : Int) < (k : Int)) = true := by simp; omega
                have hgm : decide (0 < k) = true := by simp; omega
                have hgk0 : (0 : Int) < (k : Int) := by omega
                have hkj : (k : Int) - 1 = (j : Int) := by omega
                have hwj : IntKind.i64.wrap (j : Int) = (j : Int) := by rw [IntKind.wrap_i64]; omega
                have hj0 : (0 : Int) ≤ (j : Int) := Int.natCast_nonneg _
                have hjm : (j : Int) < (m : Int) := by omega
                clear hk2 hj hz9 hj9
                by_cases hzx : z = x
                · have hq : (z != x) = false := by simpa using hzx
                  have HTK := Lib.hid (hstep.trans (by rw [if_pos hzx]))
                  clear hzx hstep
                  go_wp2_with fail
                  go_quiet ((go_at_call 18; exact one_noN _ _ _))
                  go_wp2
                  go_roundw
                  case rel => exact ⟨u + 1, _, by omega, by go_num, by rw [HST.out], by rw [HTK.out, Int.add_zero], rfl⟩
                  case measure => simp [intOf]; omega
                · have hq : (z != x) = true := by simpa using hzx
                  have HTK := Lib.hid (hstep.trans (by rw [if_neg hzx]))
                  clear hzx hstep
                  go_wp2_with fail
                  go_quiet ((go_at_call 18; exact one_yesN _ _ _))
                  go_wp2
                  go_roundw
                  case rel => exact ⟨u + 1, _, by omega, by go_num, by rw [HST.out], by rw [HTK.out], rfl⟩
                  case measure => simp [intOf]; omega
            · obtain ⟨v, hv⟩ : ∃ v, u = v + 1 := ⟨u - 1, by omega⟩
              obtain ⟨y, hcv, hle⟩ := HVL.out v hv
              have hgu : decide ((0 : Int) < (u : Int)) = true := by simp; omega
              have hgn : decide (0 < u) = true := by simp; omega
              have hgu0 : (0 : Int) < (u : Int) := by omega
              have huv : (u : Int) - 1 = (v : Int) := by omega
              have hwv : IntKind.i64.wrap (v : Int) = (v : Int) := by rw [IntKind.wrap_i64]; omega
              have hv0 : (0 : Int) ≤ (v : Int) := Int.natCast_nonneg _
              have hv1 : (v : Int) < (F : Int) := by omega
              have hcmp : decide (y < x) = false := by simp; omega
              have hcmp2 : ¬ y < x := by omega
              clear hu2 hv hle
              go_wp2_with fail
              go_quiet (fail)
              rcases Nat.eq_zero_or_pos k with hk2 | hk2
              · have hgk : decide ((0 : Int) < (k : Int)) = false := by simp; omega
                have hgm : decide (0 < k) = false := by simp; omega
                have HTK := Lib.hid (show tK f l k (u + 1) = T by rw [← HT.out, hk2, tK_first])
                clear hk2
                go_wp2
                go_roundw
                case rel => exact ⟨u + 1, _, by omega, by go_num, by rw [HST.out], by rw [HTK.out], rfl⟩
                case measure => simp [intOf]; omega
              · obtain ⟨j, hj⟩ : ∃ j, k = j + 1 := ⟨k - 1, by omega⟩
                obtain ⟨aj, cj, z, ⟨gj, rfl, hz9⟩, hj9, hstep⟩ := HTN.out j hj
                have hcz := hz9 _ HB6.out
                have hcj := hj9 _ HB6.out
                have hgk : decide ((0 : Int) < (k : Int)) = true := by simp; omega
                have hgm : decide (0 < k) = true := by simp; omega
                have hgk0 : (0 : Int) < (k : Int) := by omega
                have hkj : (k : Int) - 1 = (j : Int) := by omega
                have hwj : IntKind.i64.wrap (j : Int) = (j : Int) := by rw [IntKind.wrap_i64]; omega
                have hj0 : (0 : Int) ≤ (j : Int) := Int.natCast_nonneg _
                have hjm : (j : Int) < (m : Int) := by omega
                clear hk2 hj hz9 hj9
                by_cases hzx : z = x
                · have hq : (z != x) = false := by simpa using hzx
                  have HTK := Lib.hid (hstep.trans (by rw [if_pos hzx]))
                  clear hzx hstep
                  go_wp2_with fail
                  go_quiet ((go_at_call 18; exact one_noN _ _ _))
                  go_wp2
                  go_roundw
                  case rel => exact ⟨u + 1, _, by omega, by go_num, by rw [HST.out], by rw [HTK.out, Int.add_zero], rfl⟩
                  case measure => simp [intOf]; omega
                · have hq : (z != x) = true := by simpa using hzx
                  have HTK := Lib.hid (hstep.trans (by rw [if_neg hzx]))
                  clear hzx hstep
                  go_wp2_with fail
                  go_quiet ((go_at_call 18; exact one_yesN _ _ _))
                  go_wp2
                  go_roundw
                  case rel => exact ⟨u + 1, _, by omega, by go_num, by rw [HST.out], by rw [HTK.out], rfl⟩
                  case measure => simp [intOf]; omega
            --ROUNDEND
          · obtain rfl : u = F := by omega
            have hall : h.take u = h := List.take_of_length_le (by rw [HHL.out]; exact Nat.le_refl _)
            have hta : tK f l k u = cntK f l (k + 1) := by rw [← HF.out]; exact tK_all f l k
            rw [hall, HHS.out] at hp0 hp1 ⊢
            rw [hta]
            clear hall hta ht0 ht1 HIX HDN HHI HHS
            have hb := Ints.drewN_below w6 q
            have HB7 := Lib.hid (HB6.out.trans (hb.mono HB6.out.size))
            have RH7 := Lib.hid (RH.out.below hb)
            have RP7 := Lib.hid (RP.out.below hb)
            clear hb RH RP HB6
            generalize w6.drewN q = w7 at *
            obtain ⟨CN, hcn⟩ : ∃ CN, cntK f l (k + 1) = CN := ⟨_, rfl⟩
            rw [hcn]
            have HCN : Hid (Value.int .i64 CN = .int .i64 (cntK f l (k + 1))) := by rw [hcn]; rfl
            clear hcn
            go_wp2_with fail
            go_loop [13, 14] (fun x i => ∃ v : Nat, v ≤ D ∧ i = .int .i64 (v : Int) ∧ x = .int .i64 (sumL (p.take v))) (fun _ i => D - (intOf i).toNat)
            case atStart => exact ⟨0, Nat.zero_le _, rfl, rfl⟩
            case round =>
              obtain ⟨v, hv, rfl, rfl⟩ := hrel
              have hq := sumL_in 16 (by omega) (l := p.take v) (fun x hx => HPI.out x (List.mem_of_mem_take hx))
              have hql : (p.take v).length ≤ v := List.length_take_le _ _
              have hq0 : -256 ≤ sumL (p.take v) := by omega
              have hq1 : sumL (p.take v) ≤ 256 := by omega
              have hv0 : (0 : Int) ≤ (v : Int) := Int.natCast_nonneg _
              clear hq hql
              by_cases hlv : v < D
              · have hv1 : (v : Int) < (D : Int) := by omega
                have hvl : v < p.length := by rw [HPL.out]; exact hlv
                obtain ⟨gp, rfl, _, hcp⟩ := RP7.out v hvl
                have HST := Lib.hid (sumL_take p v hvl)
                obtain ⟨x0, x1⟩ := HPI.out p[v] (List.getElem_mem hvl)
                generalize p[v] = x at *
                generalize sumL (p.take v) = M at *
                clear hvl
                go_wp2
                refine ⟨⟨v + 1, by omega, by go_num, ?_⟩, by simp [intOf]; omega⟩
                rw [HST.out]
              · obtain rfl : v = D := by omega
                have hall : p.take v = p := List.take_of_length_le (by rw [HPL.out]; exact Nat.le_refl _)
                rw [hall, HPS.out]
                clear hall hq0 hq1
                have hSS : (S != S) = false := by simp
                have hss : (s.toList == s.toList) = true := by simp
                have HFH := Lib.hid (fun (w' : World) (r : Ints.IRow w' ah h) => by
                  have h2 := back_impl d ah ch h w' r
                  rw [HHL.out, HBK2.out] at h2
                  exact h2)
                have hm8 : u ≤ maxLen := by unfold maxLen; omega
                have hm9 : v ≤ maxLen := by unfold maxLen; omega
                have hcA := HAK.out _ HB7.out
                go_wp2_with fail
                refine (same_rows u ch cAk ah aAk h HHL.out hm8 _ RH7.out (HRAK.out.below HB7.out)).mono ?_
                rintro e w8 ⟨rfl, q8, rfl⟩
                have hb := Ints.drewN_below w7 q8
                have HB8 := Lib.hid (HB7.out.trans (hb.mono HB7.out.size))
                have RH8 := Lib.hid (RH7.out.below hb)
                have RP8 := Lib.hid (RP7.out.below hb)
                clear hb hcA RH7 RP7 HB7
                generalize w7.drewN q8 = w8 at *
                have hcB := HBK.out _ HB8.out
                go_wp2_with fail
                refine (same_rows v cp cBk ap aBk p HPL.out hm9 _ RP8.out (HRBK.out.below HB8.out)).mono ?_
                rintro e w9 ⟨rfl, q9, rfl⟩
                have hb := Ints.drewN_below w8 q9
                have HB9 := Lib.hid (HB8.out.trans (hb.mono HB8.out.size))
                have RH9 := Lib.hid (RH8.out.below hb)
                clear hb hcB RH8 RP8 HB8
                generalize w8.drewN q9 = w9 at *
                obtain ⟨vc_0, vc_1, vc_2⟩ := (VC.out.below HB9.out).cells
                go_wp2_with fail
                refine (HRM.out _).mono ?_
                rintro e wa ⟨rfl, hb⟩
                have HBa := Lib.hid (HB9.out.trans (hb.mono HB9.out.size))
                have RHa := Lib.hid (RH9.out.below hb)
                clear hb vc_0 vc_1 vc_2 RH9 HB9
                obtain ⟨vc_0, vc_1, vc_2⟩ := (VC.out.below HBa.out).cells
                go_wp2_with fail
                refine (HFH.out _ RHa.out).mono ?_
                rintro e wb ⟨rfl, hb⟩
                have HBb := Lib.hid (HBa.out.trans (hb.mono HBa.out.size))
                clear hb vc_0 vc_1 vc_2 RHa HBa
                go_wp2
                go_roundw
                case rel => exact ⟨k + 1, by omega, by go_num, HCN.out, HBb⟩
                case measure => simp [intOf]; omega
      · obtain rfl : k = m := by omega
        generalize cntK f l k = X at *
        have hXX : (X == X) = true := by simp
        go_wp2_with fail
        refine (HCS.out _ (OC.out.below HBR.out).row2.2).mono ?_
        rintro e wz ⟨rfl, hb⟩
        have HBz := Lib.hid (HBR.out.trans (hb.mono HBR.out.size))
        clear hb
        go_wp2
        go_ret
        exact ⟨rfl, HB.out.trans (HBz.out.mono HB.out.size)⟩
end Go.Proofs.Ytbdeppbbgokfhaa.View
