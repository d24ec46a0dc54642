/- The property of chapter 14: the walk. -/
import Derived.Test.YtbdeppbbgokfhaaTurnSpec
import Derived.Test.YtbdeppbbgokfhaaLayersA
import Derived.Test.YtbdeppbbgokfhaaLayersB
import Derived.Lib.QuietBelow
namespace Go.Proofs.Ytbdeppbbgokfhaa.Thick
open Go.ChangeShapes Go.WideShapes Go.ChangeAt Go.RowKit Go.Sort
open Go.Proofs.Ytbdeppbbgokfhaa.Strip Go.Proofs.Ytbdeppbbgokfhaa.Strs Go.Proofs.Ytbdeppbbgokfhaa.Card Go.Proofs.Ytbdeppbbgokfhaa.Kerf Go.Proofs.Ytbdeppbbgokfhaa.Order Go.Proofs.Ytbdeppbbgokfhaa.Turn Go.Proofs.Ytbdeppbbgokfhaa.Draw
open Go.Proofs.Ytbdeppbbgokfhaa.View (rowsV rowsV_length rowsV_at card_strip PostRows same_rows one_no one_yes)
open Go.Proofs.Ytbdeppbbgokfhaa.Ints (Own Row2 IRow drewN_below)
set_option linter.unusedVariables false

theorem frame_in {d f : Int} {l : List ByteArray} (h : cardB d f l = true) : 1 ≤ d ∧ 1 ≤ f := by
  have := (cardB_iff.1 h).1
  unfold frameB at this
  have := of_decide_eq_true this
  omega

theorem sumL_in16 {l : List Int} (h : ∀ x ∈ l, 0 ≤ x ∧ x ≤ 16) : 0 ≤ sumL l ∧ sumL l ≤ 16 * l.length := by
  induction l with
  | nil => exact ⟨Int.le_refl _, Int.le_refl _⟩
  | cons a l ih =>
    have h1 := h a (List.mem_cons_self ..)
    have h2 := ih fun x hx => h x (List.mem_cons_of_mem _ hx)
    rw [List.length_cons]
    show 0 ≤ a + sumL l ∧ a + sumL l ≤ _
    omega

set_option maxRecDepth 100000 in
set_option maxHeartbeats 16000000 in
theorem layers (ca : Option Addr) (cl cc : Nat) (w : World) (hm : cl ≤ maxLen) (hr : RowIn w ca cl) :
    Calls Try.prog 4 #[.slice ca cl cc] w fun e w' => e = .returned (.bool true) ∧ Below w.heap.size w w' := by
  by_cases hbig : 1048576 < cl
  · have hd : decide (1048576 < (cl : Int)) = true := by simp; omega
    go_enter Try.func4, Try.ntmps4
    go_wp2_with fail
    refine (big_at ca cl cc w hm).mono ?_
    rintro e w' ⟨rfl, rfl⟩
    rw [hd]
    go_wp2
    go_ret
    exact ⟨rfl, Below.refl _ _⟩
  · have hd : decide (1048576 < (cl : Int)) = false := by simp; omega
    have HR := Lib.hid hr; clear hr
    go_enter Try.func4, Try.ntmps4
    go_wp2_with fail
    refine (big_at ca cl cc w hm).mono ?_
    rintro e w' ⟨rfl, rfl⟩
    rw [hd]
    go_wp2_with fail
    refine drawCard_get ca cl cc w hm HR.out ?_
    intro d f a c l w1 hd4 hf4 hl6 hcb hb1 ho1
    have HC := Lib.hid hcb
    have hl1 : 1 ≤ l.length := (cardB_iff.1 hcb).2.1
    obtain ⟨d1, f1⟩ := frame_in hcb
    obtain ⟨g, hg⟩ : ∃ g, a = some ⟨g, 0, none⟩ := by
      rcases ho1.shape with ⟨_, _, e⟩ | h
      · rw [e] at hl1; simp at hl1
      · exact h
    subst hg
    obtain ⟨m, hlm⟩ : ∃ m, l.length = m := ⟨_, rfl⟩
    rw [hlm] at ho1 hl6 hl1 ⊢
    have HL := Lib.hid hlm
    have HZ := Lib.hid (show ∀ s ∈ l, s.size ≤ 1048576 from fun s hs => Nat.le_trans (size_small (card_strip hcb s hs)) (by decide))
    have HB := Lib.hid hb1
    have OC := Lib.hid ho1
    have HTI := Lib.hid (fun k (hk : k ≤ m) => thT_in hcb k (by rw [hlm]; exact hk))
    have HTAB := Lib.hid (fun (w' : World) (h : Row w' (some ⟨g, 0, none⟩) l) => tab_impl d f (some ⟨g, 0, none⟩) m c l w' hlm (by omega) HZ.out h)
    rw [show tabV d f l = rowsV layL l by unfold tabV; rw [hcb]; rfl] at HTAB
    have HTHK := Lib.hid (fun (p : Int) (p0 : 1 ≤ p) (p1 : p ≤ 1000) (w' : World) (h : Row w' (some ⟨g, 0, none⟩) l) => by
      have h2 := thk_impl d f (some ⟨g, 0, none⟩) m c l p w' hlm (by omega) HZ.out h
      rw [thkV_yes hcb p0 p1, hlm] at h2
      exact h2)
    have HFH := Lib.hid (free_high d1 hd4 f1 hf4)
    clear hb1 ho1 hd hcb hlm
    go_wp2_with fail
    have hv0 := Var.new w1 d f (.slice (some ⟨g, 0, none⟩) m c)
    have hb := alloc_below w1 (.cells #[.int .i64 d, .int .i64 f, .slice (some ⟨g, 0, none⟩) m c] 26)
    have OC := Lib.hid (OC.out.below hb)
    have HB := Lib.hid (HB.out.trans (hb.mono HB.out.size))
    have VC := Lib.hid hv0
    clear hv0 hb
    generalize (w1.alloc (.cells #[.int .i64 d, .int .i64 f, .slice (some ⟨g, 0, none⟩) m c] 26)) = w2 at *
    generalize w1.heap.size = bVC at *
    refine (HTAB.out _ OC.out.row2.2).mono ?_
    rintro e w4 ⟨vA, ua, rfl, hb, hoA⟩
    have OC := Lib.hid (OC.out.below hb)
    have VC := Lib.hid (VC.out.below hb)
    have HB := Lib.hid (HB.out.trans (hb.mono HB.out.size))
    obtain ⟨aA, cA, rfl, hra, _⟩ := hoA.row
    rw [rowsV_length, HL.out]
    have RA := Lib.hid hra
    clear hb hoA hra HTAB
    have hqm : ((m : Int) != (m : Int)) = false := by simp
    obtain ⟨vc_0, vc_1, vc_2⟩ := VC.out.cells
    go_wp2_with fail
    clear vc_0 vc_1 vc_2
    go_loopw [5, 6] (fun x i wr => ∃ k : Nat, k ≤ m ∧ i = .int .i64 (k : Int) ∧ x = .int .i64 (thT l k) ∧ Hid (Below w4.heap.size w4 wr)) (fun _ i _ => m - (intOf i).toNat)
    case atStart => exact ⟨0, Nat.zero_le _, rfl, rfl, Below.refl _ _⟩
    case round =>
      rename World => wq
      obtain ⟨k, hk, rfl, rfl, HBR⟩ := hrel
      have hk0 : (0 : Int) ≤ (k : Int) := Int.natCast_nonneg _
      have VQ := Lib.hid (VC.out.below HBR.out)
      obtain ⟨vc_0, vc_1, vc_2⟩ := VQ.out.cells
      obtain ⟨t0, t1⟩ := HTI.out k hk
      by_cases hlt : k < m
      · have hk1 : (k : Int) < (m : Int) := by omega
        have hkl : k < l.length := by rw [HL.out]; exact hlt
        have hmem := List.getElem_mem hkl
        obtain ⟨g', e, _, hca⟩ := Row.at OC.out.row2.2 HBR.out k hkl
        cases e
        have hst := card_strip HC.out l[k] hmem
        have HLA := Lib.hid (lay_of l[k] hst)
        have HLAY := Lib.hid (fun w' : World => lay_impl l[k] w' (HZ.out _ hmem))
        have HFREE := Lib.hid (fun w' : World => free_impl l[k] w' (HZ.out _ hmem))
        have HTHI := Lib.hid (fun w' : World => thick_impl l[k] w' (HZ.out _ hmem))
        have HTUR := Lib.hid (fun w' : World => turn_spec l[k] w' (HZ.out _ hmem))
        have HLT := Lib.hid (fun w' : World => lay_impl (turnS l[k]) w' (Nat.le_trans (turnS_size _) (HZ.out _ hmem)))
        rw [HLA.out.tr] at HLT
        rw [HLA.out.fz] at HFREE
        rw [HLA.out.tz] at HTHI
        have HTN := Lib.hid (thT_succ l k hkl)
        obtain ⟨gA, aAk, cAk, rfl, hcAk, hrAk, _⟩ := RA.out k _ (rowsV_at layL l k hkl)
        rw [HLA.out.len] at hcAk
        have HAK := Lib.hid (fun (w' : World) (hb : Below w4.heap.size w4 w') => (hb.cell (p := ⟨gA, k, none⟩) (World.block_lt_of_cell? _ _ hcAk)).trans hcAk)
        have HRAK := Lib.hid hrAk
        clear hcAk hrAk hmem hst
        generalize layL l[k].data.toList = r at *
        generalize freeV l[k].data.toList = Z at *
        generalize thickV l[k].data.toList = T at *
        generalize turnS l[k] = t at *
        obtain ⟨alen, asiz, an0, an1, asum, azer, atop, az0, az1, at0, at1, ael, _, _, _⟩ := HLA.out
        generalize hn : l[k].size = n at *
        generalize l[k] = s at *
        have HLEN := Lib.hid alen
        have HNS := Lib.hid hn
        have HSUM := Lib.hid asum
        have HZER := Lib.hid azer
        have HTOP := Lib.hid atop
        have HEL := Lib.hid ael
        clear alen asiz asum azer atop ael hn HLA
        go_wp2_with fail
        refine (HLAY.out _).mono ?_
        rintro e w5 ⟨vh, rfl, hb5, hoh⟩
        have HB5 := Lib.hid (HBR.out.trans (hb5.mono HBR.out.size))
        obtain ⟨ah, ch, rfl, hrh, _⟩ := hoh.row
        have RH := Lib.hid hrh
        rw [HLEN.out]
        clear hb5 hoh hrh vc_0 vc_1 vc_2 hca HLAY
        go_wp2_with fail
        go_loopw [9, 10, 11, 12] (fun x z y i wr => ∃ u : Nat, u ≤ n ∧ i = .int .i64 (u : Int) ∧ x = .int .i64 (sumL (r.take u)) ∧ z = .int .i64 (zerK r u) ∧ y = .int .i64 (topK r u) ∧ wr = w5) (fun _ _ _ i _ => n - (intOf i).toNat)
        case atStart => exact ⟨0, Nat.zero_le _, rfl, rfl, rfl, rfl, rfl⟩
        case round =>
          obtain ⟨u, hu, rfl, rfl, rfl, rfl, rfl⟩ := hrel
          have hp0 : 0 ≤ sumL (r.take u) ∧ sumL (r.take u) ≤ 256 := by
            have h := sumL_in16 (l := r.take u) (fun x hx => HEL.out x (List.mem_of_mem_take hx))
            have h2 : (r.take u).length ≤ u := List.length_take_le _ _
            omega
          obtain ⟨p0, p1⟩ := hp0
          obtain ⟨z0, z1⟩ := zerK_in r u
          have hto := topK_in HEL.out u (by rw [HLEN.out]; exact hu)
          obtain ⟨y0, y1⟩ := hto
          have hu0 : (0 : Int) ≤ (u : Int) := Int.natCast_nonneg _
          by_cases hlu : u < n
          · have hu1 : (u : Int) < (n : Int) := by omega
            have hul : u < r.length := by rw [HLEN.out]; exact hlu
            obtain ⟨gh, rfl, _, hcu⟩ := RH.out u hul
            have HST := Lib.hid (sumL_take r u hul)
            have HSZ := Lib.hid (zerK_succ r u hul)
            have HSY := Lib.hid (topK_succ r u hul)
            obtain ⟨x0, x1⟩ := HEL.out r[u] (List.getElem_mem hul)
            generalize r[u] = x at *
            generalize sumL (r.take u) = M at *
            generalize zerK r u = N at *
            generalize topK r u = Y at *
            clear hul
            by_cases hx : x = 0
            · have hq : (x == 0) = true := by simpa using hx
              rw [if_pos hx] at HSZ
              clear hx
              go_wp2_with fail
              refine (one_yes _).mono ?_
              rintro e w6 ⟨rfl, rfl⟩
              go_wp2
              go_roundw
              case rel => exact ⟨u + 1, by omega, by go_num, by rw [HST.out], by rw [HSZ.out], by rw [HSY.out]; try (congr 1; try (split <;> omega)), trivial⟩
              case measure => simp [intOf]; omega
            · have hq : (x == 0) = false := by simpa using hx
              rw [if_neg hx] at HSZ
              clear hx
              go_wp2_with fail
              refine (one_no _).mono ?_
              rintro e w6 ⟨rfl, rfl⟩
              go_wp2
              go_roundw
              case rel => exact ⟨u + 1, by omega, by go_num, by rw [HST.out], by rw [HSZ.out, Int.add_zero], by rw [HSY.out]; try (congr 1; try (split <;> omega)), trivial⟩
              case measure => simp [intOf]; omega
          · obtain rfl : u = n := by omega
            have hall : r.take u = r := List.take_of_length_le (by rw [HLEN.out]; exact Nat.le_refl _)
            rw [hall, HSUM.out, HZER.out, HTOP.out]
            clear hall p0 p1 z0 z1 y0 y1
            have hqz : ((u : Int) != (s.size : Int)) = false := by rw [HNS.out]; simp
            have hqZ : (Z != Z) = false := by simp
            have hqT : (T != T) = false := by simp
            have hT1 : ¬ T < 1 := by omega
            have hT2 : decide (T < 1) = false := decide_eq_false hT1
            have hu8 : u ≤ maxLen := by unfold maxLen; omega
            have hcA := HAK.out _ HB5.out
            go_wp2_with fail
            refine (same_rows u ch cAk ah aAk r HLEN.out hu8 _ RH.out (HRAK.out.below HB5.out)).mono ?_
            rintro e w8 ⟨rfl, q8, rfl⟩
            have hb := Ints.drewN_below wr q8
            have HB8 := Lib.hid (HB5.out.trans (hb.mono HB5.out.size))
            have RH8 := Lib.hid (RH.out.below hb)
            clear hb hcA RH HB5
            generalize wr.drewN q8 = w8 at *
            go_wp2_with fail
            refine (HFREE.out _).mono ?_
            rintro e w9 ⟨rfl, hb⟩
            have HB9 := Lib.hid (HB8.out.trans (hb.mono HB8.out.size))
            have RH9 := Lib.hid (RH8.out.below hb)
            clear hb RH8 HB8
            go_wp2_with fail
            refine (HTHI.out _).mono ?_
            rintro e wa ⟨rfl, hb⟩
            have HBa := Lib.hid (HB9.out.trans (hb.mono HB9.out.size))
            have RHa := Lib.hid (RH9.out.below hb)
            clear hb RH9 HB9
            go_wp2_with fail
            refine (HTUR.out _).mono ?_
            rintro e wb ⟨rfl, rfl⟩
            go_wp2_with fail
            refine (HLT.out _).mono ?_
            rintro e wc ⟨vt, rfl, hb, hot⟩
            have HBc := Lib.hid (HBa.out.trans (hb.mono HBa.out.size))
            have RHc := Lib.hid (RHa.out.below hb)
            obtain ⟨at9, ct, rfl, hrt, _⟩ := hot.row
            rw [HLEN.out]
            have RT := Lib.hid hrt
            clear hb hot hrt RHa HBa
            go_wp2_with fail
            refine (same_rows u ct ch at9 ah r HLEN.out hu8 _ RT.out RHc.out).mono ?_
            rintro e wd ⟨rfl, qd, rfl⟩
            have hb := Ints.drewN_below wc qd
            have HBd := Lib.hid (HBc.out.trans (hb.mono HBc.out.size))
            clear hb RHc RT HBc
            generalize wc.drewN qd = wd at *
            go_wp2
            go_roundw
            case rel => exact ⟨k + 1, by omega, by go_num, by rw [HTN.out]; try (congr 1; try (split <;> omega)), HBd⟩
            case measure => simp [intOf]; omega
      · obtain rfl : k = m := by omega
        go_wp2_with fail
        obtain ⟨n0, hn0, hat⟩ := at_fix ca cl cc 0 (by omega) wq hm (HR.out.below (HB.out.trans (HBR.out.mono HB.out.size)) (Nat.le_refl _))
        have HAT := Lib.hid (show Calls Try.prog 28 #[.slice ca cl cc, .int .i64 ((0 : Nat) : Int)] wq fun e w' => e = .returned (.int .i64 (n0 : Int)) ∧ wq = w' from hat 0)
        clear hat
        refine HAT.out.mono ?_
        rintro e w' ⟨rfl, rfl⟩
        clear HAT
        have hz8 : (highL d f).length ≤ 1048576 := by
          unfold highL
          split
          · simp; omega
          · decide
        have HROW := Lib.hid (OC.out.below HBR.out).row2.2
        obtain ⟨p, hp⟩ : ∃ p : Int, 1 + (n0 : Int) = p := ⟨_, rfl⟩
        have p0 : 1 ≤ p := by omega
        have p1 : p ≤ 256 := by omega
        have HP := Lib.hid hp
        have HC1 := Lib.hid (fun (dd : Nat) (os : Array Obj) => Calls.regrown_of (HTHK.out p p0 (by omega) (grow (redrawn wq dd) os) (HROW.out.since (Nat.le_refl _) (below_regrown wq dd os))))
        have HC2 := Lib.hid (fun (dd : Nat) (os : Array Obj) => Calls.regrown_of (high_spec d f (grow (redrawn wq dd) os)))
        have HC3 := Lib.hid (fun (dd : Nat) (os : Array Obj) => Calls.regrown_of (free_impl ⟨(highL d f).toArray⟩ (grow (redrawn wq dd) os) hz8))
        have e9 : (⟨(highL d f).toArray⟩ : ByteArray).data.toList = highL d f := rfl
        rw [e9, HFH.out] at HC3
        have k0 := cell_regrown vc_0
        have k1 := cell_regrown vc_1
        have k2 := cell_regrown vc_2
        obtain ⟨q0, q1, q2⟩ := mul_in t0 t1 (p := p) (by omega) (by omega)
        generalize thT l k = M at *
        obtain ⟨M2, hM2⟩ : ∃ M2, M + 2 = M2 := ⟨_, rfl⟩
        have hw1 : IntKind.i64.wrap (M + 2) = M2 := by rw [IntKind.wrap_i64]; omega
        rw [hM2] at q2 HC1
        obtain ⟨X, hX⟩ : ∃ X, M2 * p = X := ⟨_, rfl⟩
        rw [hX] at q2 HC1
        have hw2 : IntKind.i64.wrap (M2 * p) = X := by rw [hX, IntKind.wrap_i64]; omega
        obtain ⟨V, hV⟩ : ∃ V, (if f < d then f else d) = V := ⟨_, rfl⟩
        have hVm : (V == min d f) = true := by
          rw [← hV, beq_iff_eq]
          split <;> omega
        have hVn : (V == if f < d then f else d) = true := by rw [hV]; simp
        rw [hV] at HC3
        have hXX : (X == X) = true := by simp
        clear hlt e9 vc_0 vc_1 vc_2 q0 q1 q2 hp hM2 hX hV
        go_wp2_with fail
        rw [HP.out]
        refine wp_region_quiet_below (by kernel_rfl) (by kernel_rfl) ?_
        repeat (go_big_quiet_step ((first | (go_at_call 29; exact HC1.out _ _) | (go_at_call 30; exact HC2.out _ _) | (go_at_call 25; exact HC3.out _ _))))
        refine wpQuiet_nil ?_
        intro _ hw'
        obtain ⟨⟨dq, osq⟩, hw''⟩ := hw'
        subst hw''
        have hbr := below_regrown wq dq osq
        have HBz := Lib.hid (HBR.out.trans (hbr.mono HBR.out.size))
        clear hbr k0 k1 k2
        generalize (grow (redrawn wq dq) osq) = wz at *
        go_wp2
        go_ret
        exact ⟨rfl, HB.out.trans (HBz.out.mono HB.out.size)⟩
end Go.Proofs.Ytbdeppbbgokfhaa.Thick
