/- What the model of chapter 10 returns: CountWays. -/
import Derived.Test.YtbfbjolggilfoaaFlipWay
import Derived.Test.YtbfbjolggilfoaaFlipLev
import Derived.Test.YtbfbjolggilfoaaFlipRows
import Derived.Test.YtbfbjolggilfoaaKerfSpec2
namespace Go.Proofs.Ytbfbjolggilfoaa.Flip
open Go.ChangeShapes Go.WideShapes Go.ChangeAt Go.RowKit
open Go.Proofs.Ytbfbjolggilfoaa.Strip Go.Proofs.Ytbfbjolggilfoaa.Ints Go.Proofs.Ytbfbjolggilfoaa.Corner Go.Proofs.Ytbfbjolggilfoaa.Kerf Go.Proofs.Ytbfbjolggilfoaa.Order
set_option linter.unusedVariables false

theorem above_size {s t : ByteArray} (h : aboveB t.data.toList s.data.toList = true) : s.size = t.size ∧ 2 ≤ t.size ∧ t.size ≤ 16 := by
  have h1 := above_len h
  have h2 := strip_size (above_strip h).2
  have e1 : s.data.toList.length = s.size := by simp
  have e2 : t.data.toList.length = t.size := by simp
  omega

theorem alloc_below' (w : World) (o : Obj) : Below w.heap.size w (w.alloc o) := (Below.refl _ _).alloc (Nat.le_refl _) _

set_option maxRecDepth 100000 in
set_option maxHeartbeats 4000000 in
theorem ways_spec (s t : ByteArray) (w : World) (hm : s.size ≤ 1048576) (hm' : t.size ≤ 1048576) :
    Calls Try.prog 33 #[.string s, .string t] w fun e w' => e = .returned (.int .i64 (waysV s.data.toList t.data.toList)) ∧ Below w.heap.size w w' := by
  obtain ⟨i0, hi, hz0, hz1, hz2⟩ := info_parts info_int
  obtain ⟨j0, hj, hy0, hy1, hy2⟩ := info_parts Strs.info_str16
  cases hab : aboveB t.data.toList s.data.toList with
  | false =>
    have hv : waysV s.data.toList t.data.toList = 0 := by unfold waysV; rw [hab]; rfl
    rw [hv]
    go_enter Try.func33, Try.ntmps33
    go_wp2_with fail
    refine (above_spec t s _ hm' hm).mono ?_
    rintro e w' ⟨rfl, rfl⟩
    rw [hab]
    go_wp2
    go_ret
    exact ⟨rfl, Below.refl _ _⟩
  | true =>
  obtain ⟨n, hn⟩ := Int.eq_ofNat_of_zero_le (above_nonneg hab)
  have HAR := Lib.hid (fun w => by have h := area_spec s t w hm hm'; rw [hn] at h; exact h)
  by_cases h12 : 12 < n
  · have hv : waysV s.data.toList t.data.toList = 0 := by unfold waysV; rw [if_neg (by rw [hn]; omega)]
    rw [hv]
    have h12' : (12 : Int) < (n : Int) := by omega
    clear hn
    go_enter Try.func33, Try.ntmps33
    go_wp2_with fail
    refine (above_spec t s _ hm' hm).mono ?_
    rintro e w' ⟨rfl, rfl⟩
    rw [hab]
    go_wp2_with fail
    refine (HAR.out _).mono ?_
    rintro e w1 ⟨rfl, hb⟩
    have HB := Lib.hid hb; clear hb
    go_wp2
    go_ret
    exact ⟨rfl, HB.out⟩
  · obtain ⟨W, hW⟩ : ∃ W : Nat, wy n s.data.toList t.data.toList = W := ⟨_, rfl⟩
    have hv : waysV s.data.toList t.data.toList = (W : Int) := by unfold waysV; rw [if_pos ⟨hab, by rw [hn]; omega⟩, hn, Int.toNat_natCast, hW]
    rw [hv]
    have hW1 : 1 ≤ W := by rw [← hW]; exact wy_pos n hab hn
    have hW2 : W ≤ 68719476736 := by rw [← hW]; exact wy_tiny (by omega) _ _
    have HL0 := Lib.hid (lev_start hab hn)
    rw [hW] at HL0
    obtain ⟨hsz, hsz2, hsz3⟩ := above_size hab
    have HSZ := Lib.hid hsz
    clear hsz hW hv hn
    have h12' : (n : Int) ≤ 12 := by omega
    go_enter Try.func33, Try.ntmps33
    go_wp2_with fail
    refine (above_spec t s _ hm' hm).mono ?_
    rintro e w' ⟨rfl, rfl⟩
    rw [hab]
    go_wp2_with fail
    refine (HAR.out _).mono ?_
    rintro e w1 ⟨rfl, hb⟩
    have HB1 := Lib.hid hb; clear hb
    have hsn := strs_one w1 s
    have hb2 := HB1.out.alloc HB1.out.size (.cells #[.string s] 9)
    obtain ⟨w2, hw2⟩ : ∃ w2, w1.alloc (.cells #[.string s] 9) = w2 := ⟨_, rfl⟩
    have hin := ints_one w2 1
    have hs2 : Strs.Own (w2.alloc (.cells #[.int .i64 1] 3)) w.heap.size (.slice (some ⟨w1.heap.size, 0, none⟩) 1 1) [s] := Strs.Own.below (by rw [← hw2]; exact hsn.mono HB1.out.size) ((Below.refl _ w2).alloc (Nat.le_refl _) _)
    have hb3 := (hw2 ▸ hb2).alloc (hw2 ▸ hb2).size (.cells #[.int .i64 1] 3)
    have hi2 := hin.mono (hw2 ▸ hb2).size
    have HN2 := Lib.hid hs2
    have HW2 := Lib.hid hi2
    have HB2 := Lib.hid hb3
    have HS2 := Lib.hid HB2.out.size
    clear hsn hb2 hin hs2 hb3 hi2
    go_wp2_with fail
    refine (HAR.out _).mono ?_
    rintro e w4 ⟨rfl, hb⟩
    have HN := Lib.hid (HN2.out.below hb)
    have HW := Lib.hid (HW2.out.below hb)
    have HB := Lib.hid (HB2.out.trans (hb.mono HS2.out))
    clear hb HN2 HW2 HB2 HS2 hw2 HB1
    have h12n : n ≤ 12 := by omega
    have hdn : decide (12 < (n : Int)) = false := by simpa using h12'
    go_wp2_with fail
    go_loopw [5, 6, 7] (fun vn vw va wr => ∃ (m : Nat) (ns : List ByteArray) (ws : List Int), m ≤ 12 ∧ va = .int .i64 (m : Int) ∧ Hid (Lev m t.data.toList ns ws ∧ tot m t.data.toList ns ws = (W : Int)) ∧ Hid (Strs.Own wr w.heap.size vn ns) ∧ Hid (Ints.Own wr w.heap.size vw ws) ∧ Hid (Below w.heap.size w wr)) (fun _ _ va _ => (intOf va).toNat)
    case atStart => exact ⟨n, [s], [1], h12n, rfl, HL0, HN, HW, HB⟩
    case round =>
      rename World => wq
      clear HL0 HN HW HB h12' h12n hdn h12
      obtain ⟨m, ns, ws, hm12, rfl, HL, HN, HW, HB⟩ := hrel
      have hlen := HL.out.1.len
      have HTL := Lib.hid (tot_len _ _ _ _ HL.out.1)
      have hnl : (ns.length : Int) ≤ (W : Int) := by have h := HTL.out; rw [HL.out.2] at h; exact h
      obtain ⟨an, cn, rfl, _, _⟩ := HN.out.row
      obtain ⟨aw, cw, rfl, _, _⟩ := HW.out.row
      cases m with
      | zero =>
        have hend := lev_end HL.out.1 (by rw [HL.out.2]; omega)
        rw [HL.out.2] at hend
        obtain ⟨hw0, hwe⟩ := List.getElem?_eq_some_iff.1 hend
        obtain ⟨_, _, e1, r1, _⟩ := HW.out.row
        cases e1
        obtain ⟨g, rfl, hg, hcell⟩ := r1 0 hw0
        rw [hwe] at hcell
        have hq0 : (0 : Int) < (ws.length : Int) := by omega
        clear r1 hend hwe
        go_wp2
        go_ret
        exact ⟨rfl, HB.out⟩
      | succ m =>
        obtain ⟨p, hp⟩ : ∃ p, ns.length = p := ⟨_, rfl⟩
        have HP := Lib.hid hp
        have HPW := Lib.hid (hlen.symm.trans hp)
        rw [← hlen, hp]
        rw [hp] at hnl
        clear hlen hp HTL
        have hp0 : (p : Int) ≤ 68719476736 := by omega
        have hm0 : (0 : Int) ≤ (m : Int) := Int.natCast_nonneg _
        have hm13 : (m : Int) ≤ 12 := by omega
        rw [show ((m + 1 : Nat) : Int) = (m : Int) + 1 from by omega]
        have HS := Lib.hid HB.out.size
        obtain ⟨G, hG⟩ : ∃ G, wq.heap.size = G := ⟨_, rfl⟩
        have hn8 := strs_none wq wq.heap.size (Nat.le_refl _)
        have hb8 := (Below.refl wq.heap.size wq).alloc (Nat.le_refl _) (.cells #[] 9)
        obtain ⟨w8, hw8⟩ : ∃ w8, wq.alloc (.cells #[] 9) = w8 := ⟨_, rfl⟩
        rw [hw8] at hn8 hb8
        have hn9 := ints_none w8 wq.heap.size hb8.size
        have hn8b := hn8.below (alloc_below' w8 (.cells #[] 3))
        have hb9 := hb8.alloc hb8.size (.cells #[] 3)
        have HN8 := Lib.hid hn8b
        have HN9 := Lib.hid hn9
        have HB9 := Lib.hid hb9
        rw [hG] at HN8 HN9 HB9 HS
        have HGE := Lib.hid hG
        clear hn8 hb8 hn9 hn8b hb9
        go_wp2_with fail
        clear hG hw8
        generalize w8.alloc (.cells #[] 3) = w9 at *
        go_loopw [8, 9, 10] (fun v8 v9 vi wr => ∃ (i : Nat) (nx : List ByteArray) (cs : List Int), i ≤ p ∧ vi = .int .i64 (i : Int) ∧ Hid (Lev m t.data.toList nx cs ∧ tot m t.data.toList nx cs = tot (m + 1) t.data.toList (ns.take i) (ws.take i)) ∧ Hid (Strs.Own wr G v8 nx) ∧ Hid (Ints.Own wr G v9 cs) ∧ Hid (Below G wq wr)) (fun _ _ vi _ => p - (intOf vi).toNat)
        case atStart => exact ⟨0, [], [], Nat.zero_le _, rfl, ⟨lev_nil _ _, rfl⟩, HN8, HN9, HB9⟩
        case round =>
          rename World => wa
          clear HN8 HN9 HB9
          obtain ⟨i, nx, cs, hip, rfl, HLN, HN8, HN9, HB9⟩ := hrel
          obtain ⟨a8, c8, rfl, _, _⟩ := HN8.out.row
          obtain ⟨a9, c9, rfl, _, _⟩ := HN9.out.row
          have hi0 : (0 : Int) ≤ (i : Int) := Int.natCast_nonneg _
          by_cases hlt : i < p
          · have hil : i < ns.length := by rw [HP.out]; exact hlt
            have hiw : i < ws.length := by rw [HPW.out]; exact hlt
            have hi1 : (i : Int) < (p : Int) := by omega
            obtain ⟨e1, e2, e3, e4⟩ := tot_at (m + 1) t.data.toList ns ws i HL.out.1 hil
            obtain ⟨x1, x2⟩ := HL.out.1.lev ns[i] (List.getElem_mem hil)
            obtain ⟨_, _, en, rn, _⟩ := HN.out.row
            cases en
            obtain ⟨gn, rfl, hgn, hcn⟩ := rn i hil
            obtain ⟨_, _, ew, rw_, _⟩ := HW.out.row
            cases ew
            obtain ⟨gw, rfl, hgw, hcw⟩ := rw_ i hiw
            have hcx : ∀ w', Below G wq w' → w'.cell? ⟨gn, i, none⟩ = some (.string ns[i]) := fun w' hb => (hb.cell (p := ⟨gn, i, none⟩) (by rw [← HGE.out]; exact hgn)).trans hcn
            have hcc : ∀ w', Below G wq w' → w'.cell? ⟨gw, i, none⟩ = some (.int .i64 ws[i]) := fun w' hb => (hb.cell (p := ⟨gw, i, none⟩) (by rw [← HGE.out]; exact hgw)).trans hcw
            have hle : ws[i] ≤ (W : Int) := by have h := (lev_le HL.out.1 hiw).2; rw [HL.out.2] at h; exact h
            rw [HL.out.2] at e2
            have htl := HLN.out.2
            clear rn rw_ hcn hcw hgn hgw
            obtain ⟨x, hx⟩ : ∃ x, ns[i] = x := ⟨_, rfl⟩
            obtain ⟨c, hc⟩ : ∃ c, ws[i] = c := ⟨_, rfl⟩
            obtain ⟨b0, hb0⟩ : ∃ b0, tot (m + 1) t.data.toList (ns.take i) (ws.take i) = b0 := ⟨_, rfl⟩
            rw [hx] at e1 x1 x2 hcx
            rw [hc] at e1 e4 hcc hle
            rw [hb0] at e1 e3 htl
            rw [e1] at e2
            have HCX := Lib.hid hcx
            have HCC := Lib.hid hcc
            have HE := Lib.hid e1
            have HX1 := Lib.hid x1
            have HX2 := Lib.hid x2
            have HE2 := Lib.hid e2
            have HE3 := Lib.hid e3
            have hxs := (above_size x1).1
            have hxs : x.size = s.size := by rw [hxs]; exact HSZ.out.symm
            have HXS := Lib.hid hxs
            have hs2 : 2 ≤ s.size := by rw [HSZ.out]; exact hsz2
            have hs16 : s.size ≤ 16 := by rw [HSZ.out]; exact hsz3
            have HLI := Lib.hid (show Lev m t.data.toList nx cs ∧ tot m t.data.toList nx cs = b0 + c * (part m x.data.toList t.data.toList 1 : Int) from ⟨HLN.out.1, by rw [part_one, htl]; simp⟩)
            have HTB := Lib.hid (fun (k : Nat) (h : k ≤ s.size) => show b0 + c * (part m x.data.toList t.data.toList k : Int) ≤ (W : Int) from by
              have h1 := part_le (m := m) (x := x.data.toList) (t := t.data.toList) (k := k) (by simp; omega)
              have h2 : c * (part m x.data.toList t.data.toList k : Int) ≤ c * (wy (m + 1) x.data.toList t.data.toList : Int) := Int.mul_le_mul_of_nonneg_left (by omega) (by omega)
              have := HE2.out
              omega)
            clear hcx hcc e1 x1 x2 hxs e2 e3 htl hx hc hb0
            go_wp2_with fail
            go_loopw [8, 9, 11] (fun v8 v9 vk wr => ∃ (k : Nat) (nx : List ByteArray) (cs : List Int), 1 ≤ k ∧ k ≤ s.size ∧ vk = .int .i64 (k : Int) ∧ Hid (Lev m t.data.toList nx cs ∧ tot m t.data.toList nx cs = b0 + c * (part m x.data.toList t.data.toList k : Int)) ∧ Hid (Strs.Own wr G v8 nx) ∧ Hid (Ints.Own wr G v9 cs) ∧ Hid (Below G wq wr)) (fun _ _ vk _ => s.size - (intOf vk).toNat)
            case atStart => exact ⟨1, nx, cs, Nat.le_refl _, by omega, rfl, HLI, HN8, HN9, HB9⟩
            case round =>
              rename World => wb
              clear HLI HN8 HN9 HB9 HLN
              obtain ⟨k, nx, cs, hk1, hks, rfl, HLI, HN8, HN9, HB9⟩ := hrel
              obtain ⟨a8, c8, rfl, _, _⟩ := HN8.out.row
              obtain ⟨a9, c9, rfl, _, _⟩ := HN9.out.row
              have hk0 : (0 : Int) ≤ (k : Int) := Int.natCast_nonneg _
              by_cases hlk : k < s.size
              · have hk1' : (k : Int) < (s.size : Int) := by omega
                have hcell := HCX.out wb HB9.out
                have hxs := HXS.out
                have HS9 := Lib.hid (show G ≤ wb.heap.size from by rw [← HGE.out]; exact HB9.out.size)
                have HR := Lib.hid (fun w => raise_spec x (k : Int) w (by omega) (by omega) (by omega))
                cases hcb : cornerB 100 x.data.toList (k : Int) with
                | false =>
                  have hnx : nextB x.data.toList t.data.toList k = false := by unfold nextB; rw [hcb]; rfl
                  have HF := Lib.hid (show Lev m t.data.toList nx cs ∧ tot m t.data.toList nx cs = b0 + c * (part m x.data.toList t.data.toList (k + 1) : Int) from ⟨HLI.out.1, by rw [part_no hnx]; exact HLI.out.2⟩)
                  clear hxs hnx
                  go_wp2_with fail
                  refine (HR.out _).mono ?_
                  rintro e wc ⟨rfl, hb⟩
                  have HN8c := Lib.hid (HN8.out.below hb)
                  have HN9c := Lib.hid (HN9.out.below hb)
                  have HB9c := Lib.hid (HB9.out.trans (hb.mono HS9.out))
                  clear hb hcell
                  rw [hcb]
                  go_wp2
                  go_roundw
                  case rel => exact ⟨k + 1, nx, cs, by omega, by omega, by go_num, HF, HN8c, HN9c, HB9c⟩
                  case measure => first | (simp [intOf]; omega) | simp [intOf]
                | true =>
                  have hni := next_is (t := t) hcb
                  have hrl := raise_list hcb
                  have hys := raise_size x (k : Int)
                  rw [hcb] at HR
                  obtain ⟨y, hy⟩ : ∃ y, raiseS x (k : Int) = y := ⟨_, rfl⟩
                  rw [hy] at hni hrl hys HR
                  have HYS := Lib.hid (hys.trans hxs)
                  clear hy hys hxs
                  go_wp2_with fail
                  refine (HR.out _).mono ?_
                  rintro e wc ⟨rfl, hb⟩
                  have HN8c := Lib.hid (HN8.out.below hb)
                  have HN9c := Lib.hid (HN9.out.below hb)
                  have HB9c := Lib.hid (HB9.out.trans (hb.mono HS9.out))
                  clear hb hcell
                  cases hay : aboveB t.data.toList y.data.toList with
                  | false =>
                    have hnx : nextB x.data.toList t.data.toList k = false := by rw [hni]; exact hay
                    have HF := Lib.hid (show Lev m t.data.toList nx cs ∧ tot m t.data.toList nx cs = b0 + c * (part m x.data.toList t.data.toList (k + 1) : Int) from ⟨HLI.out.1, by rw [part_no hnx]; exact HLI.out.2⟩)
                    clear hnx hni hrl
                    go_wp2_with fail
                    refine (above_spec t y _ hm' (by have := HYS.out; omega)).mono ?_
                    rintro e w' ⟨rfl, rfl⟩
                    rw [hay]
                    go_wp2
                    go_roundw
                    case rel => exact ⟨k + 1, nx, cs, by omega, by omega, by go_num, HF, HN8c, HN9c, HB9c⟩
                    case measure => first | (simp [intOf]; omega) | simp [intOf]
                  | true =>
                    have hnx : nextB x.data.toList t.data.toList k = true := by rw [hni]; exact hay
                    have hya : areaI y.data.toList t.data.toList = (m : Int) := by
                      rw [hrl, (next_facts hnx).2.2.2.1, HX2.out]; omega
                    have hpk : (part m x.data.toList t.data.toList (k + 1) : Int) = (part m x.data.toList t.data.toList k : Int) + (wy m y.data.toList t.data.toList : Int) := by
                      rw [part_yes hnx, hrl]; omega
                    have HPK := Lib.hid (show b0 + c * (part m x.data.toList t.data.toList (k + 1) : Int) = b0 + c * (part m x.data.toList t.data.toList k : Int) + c * (wy m y.data.toList t.data.toList : Int) from by rw [hpk, Int.mul_add]; omega)
                    have HYA := Lib.hid hya
                    clear hnx hni hrl hya hpk
                    have hnl8 : (nx.length : Int) ≤ 68719476736 := by
                      have h1 := tot_len _ _ _ _ HLI.out.1
                      rw [HLI.out.2] at h1
                      have h2 := HTB.out k (by omega)
                      omega
                    have hcl := HLI.out.1.len
                    rw [← hcl]
                    obtain ⟨q, hq⟩ : ∃ q, nx.length = q := ⟨_, rfl⟩
                    have HQ := Lib.hid hq
                    have HQC := Lib.hid (hcl.symm.trans hq)
                    rw [hq] at hnl8 ⊢
                    clear hq hcl
                    go_wp2_with fail
                    refine (above_spec t y _ hm' (by have := HYS.out; omega)).mono ?_
                    rintro e w' ⟨rfl, rfl⟩
                    rw [hay]
                    go_wp2_with fail
                    go_loopw [14] (fun va wr => ∃ a : Nat, a ≤ q ∧ va = .int .i64 (a : Int) ∧ Hid (∀ j, j < a → nx[j]? ≠ some y) ∧ wr = wc) (fun va _ => q - (intOf va).toNat)
                    case atStart => exact ⟨0, Nat.zero_le _, rfl, (fun j h => absurd h (Nat.not_lt_zero _)), rfl⟩
                    case round =>
                      obtain ⟨a, haq, rfl, HNO, rfl⟩ := hrel
                      have ha0 : (0 : Int) ≤ (a : Int) := Int.natCast_nonneg _
                      have HSc := Lib.hid (show G ≤ wr.heap.size from by rw [← HGE.out]; exact HB9c.out.size)
                      by_cases haq1 : a < q
                      · have hal : a < nx.length := by rw [HQ.out]; exact haq1
                        have ha1 : (a : Int) < (q : Int) := by omega
                        obtain ⟨_, _, e8, r8, _⟩ := HN8c.out.row
                        cases e8
                        obtain ⟨g8, rfl, hg8, hc8⟩ := r8 a hal
                        clear r8
                        by_cases hz : nx[a] = y
                        · rw [hz] at hc8
                          have hb : (y.toList == y.toList) = true := by rw [list_beq]; simp
                          have hne : ((a : Int) == (q : Int)) = false := by simp; omega
                          have hac : a < cs.length := by rw [HQC.out]; exact haq1
                          obtain ⟨_, _, e9, r9, _⟩ := HN9c.out.row
                          cases e9
                          obtain ⟨g9, rfl, hg9, hc9⟩ := r9 a hac
                          clear r9
                          obtain ⟨l1, l2⟩ := lev_le HLI.out.1 hac
                          have l3 := HTB.out k (by omega)
                          rw [HLI.out.2] at l2
                          have hcw := HCC.out wr HB9c.out
                          have hfr := HN9c.out.free a
                          have hsw : IntKind.i64.wrap (cs[a] + c) = cs[a] + c := wrapi _ (by omega) (by omega)
                          have hst := HN9c.out.set (cs[a] + c) hac
                          have hfd := lev_found HLI.out.1 (j := a) hal (d := c) e4
                          have hts := tot_set m t.data.toList c nx cs a HLI.out.1.len hal
                          have hzy : c * (wy m (nx[a]).data.toList t.data.toList : Int) = c * (wy m y.data.toList t.data.toList : Int) := by rw [hz]
                          have hsum := HLI.out.2
                          have hpk := HPK.out
                          have hts2 : tot m t.data.toList nx (cs.set a (cs[a] + c)) = b0 + c * (part m x.data.toList t.data.toList (k + 1) : Int) := by rw [hpk, ← hsum, ← hzy]; exact hts
                          clear hsum hpk
                          have HF := Lib.hid (show Lev m t.data.toList nx (cs.set a (cs[a] + c)) ∧ tot m t.data.toList nx (cs.set a (cs[a] + c)) = b0 + c * (part m x.data.toList t.data.toList (k + 1) : Int) from ⟨hfd, hts2⟩)
                          have HST := Lib.hid hst
                          have HSK := Lib.hid (strs_kept HN8c.out HN9c.out (grown_set wr g9 a (.int .i64 (cs[a] + c))))
                          have HBK := Lib.hid (HB9c.out.setCell (p := ⟨g9, a, none⟩) (HN9c.out.lt g9 rfl).1 (.int .i64 (cs[a] + c)))
                          clear hst hfd hts hts2 l1 l2 l3 hg8 hg9 hzy hz
                          obtain ⟨d, hd⟩ : ∃ d, cs[a] + c = d := ⟨_, rfl⟩
                          rw [hd] at hsw HF HST HSK HBK
                          obtain ⟨ca, hca⟩ : ∃ ca, cs[a] = ca := ⟨_, rfl⟩
                          rw [hca] at hc9 hd
                          clear hca
                          go_wp2_with fail
                          go_region
                          have HZ9 : Hid (Ints.Own (wr.setCell ⟨g9, a, none⟩ (.int .i64 d)).drew G (.slice (some ⟨g9, 0, none⟩) q c9) (cs.set a d)) := by
                            have h : Ints.Own (wr.setCell ⟨g9, a, none⟩ (.int .i64 d)) G (.slice (some ⟨g9, 0, none⟩) cs.length c9) (cs.set a d) := HST.out
                            rw [HQC.out] at h; exact h
                          have HZ8 : Hid (Strs.Own (wr.setCell ⟨g9, a, none⟩ (.int .i64 d)).drew G (.slice (some ⟨g8, 0, none⟩) q c8) nx) := by
                            have h : Strs.Own (wr.setCell ⟨g9, a, none⟩ (.int .i64 d)) G (.slice (some ⟨g8, 0, none⟩) nx.length c8) nx := HSK.out
                            rw [HQ.out] at h; exact h
                          have HZB := Lib.hid HBK.out.drew
                          clear hsw hd hc9 hc8 hcw hfr HST HSK HBK
                          generalize (wr.setCell ⟨g9, a, none⟩ (.int .i64 d)).drew = wz at *
                          go_wp2
                          go_roundw
                          case rel => exact ⟨k + 1, nx, cs.set a d, by omega, by omega, by go_num, HF, HZ8, HZ9, HZB⟩
                          case measure => first | (simp [intOf]; omega) | simp [intOf]
                        · have hb : (nx[a].toList == y.toList) = false := by rw [list_beq]; simpa using hz
                          have HNO2 := Lib.hid (show ∀ j, j < a + 1 → nx[j]? ≠ some y from fun j hj => by
                            rcases Nat.lt_or_eq_of_le (Nat.le_of_lt_succ hj) with h | h
                            · exact HNO.out j h
                            · rw [h, List.getElem?_eq_getElem hal]; exact fun e => hz (Option.some.inj e))
                          generalize nx[a] = z at *
                          clear hz hg8
                          go_wp2
                          go_roundw
                          case rel => exact ⟨a + 1, by omega, by go_num, HNO2, by first | rfl | trivial⟩
                          case measure => first | (simp [intOf]; omega) | simp [intOf]
                      · have haqe : a = q := by omega
                        subst haqe
                        have hnot : y ∉ nx := fun hy => by
                          obtain ⟨j, hj, e⟩ := List.getElem_of_mem hy
                          exact HNO.out j (by rw [← HQ.out]; exact hj) (by rw [List.getElem?_eq_getElem hj, e])
                        obtain ⟨hfd, hts⟩ := lev_new HLI.out.1 hnot hay HYA.out (d := c) e4
                        rw [HLI.out.2, ← HPK.out] at hts
                        have HF := Lib.hid (show Lev m t.data.toList (nx ++ [y]) (cs ++ [c]) ∧ tot m t.data.toList (nx ++ [y]) (cs ++ [c]) = b0 + c * (part m x.data.toList t.data.toList (k + 1) : Int) from ⟨hfd, hts⟩)
                        have hsc := set_last cs c
                        rw [HQC.out] at hsc
                        have HSL := Lib.hid hsc
                        clear hfd hts hnot hsc
                        have heq : ((a : Int) == (a : Int)) = true := by simp
                        have hx8 : (wr.alloc (.cells #[.string y] 9)).ownsRow G 9 1 (.slice a8 a c8) a (Strs.scells nx) := by
                          have h : World.ownsRow (wr.alloc (.cells #[.string y] 9)) G 9 1 (.slice a8 nx.length c8) nx.length (Strs.scells nx) := HN8c.out.alloc _
                          rw [HQ.out] at h; exact h
                        have hx9 : (wr.alloc (.cells #[.string y] 9)).ownsRow G 3 1 (.slice a9 a c9) a (icells cs) := by
                          have h : World.ownsRow (wr.alloc (.cells #[.string y] 9)) G 3 1 (.slice a9 cs.length c9) cs.length (icells cs) := HN9c.out.alloc _
                          rw [HQC.out] at h; exact h
                        have HX8 := Lib.hid hx8
                        have HX9 := Lib.hid hx9
                        clear hx8 hx9
                        go_wp2_with (at_builtin; refine wpList_append_own _ rfl _ _ 44 rfl G 9 j0 _ 1 16 Try.underlying44 hj hy0 hy1 hy2 rfl (by decide) (.slice a8 a c8) a (Strs.scells nx) rfl HX8.out ⟨wr.heap.size, 0, none⟩ 1 1 [.string y] rfl rfl (World.news_of_block (cs := #[.string y]) (t := 9) (fr := (0, 0)) (heap_alloc_new _ _)) (by simp [Value.oneCell']) (by unfold maxLen; omega) (by omega) (by have := HSc.out; simp; omega) ?_)
                        intro v8 wd hown8 hgr8 _
                        have HO8 : Hid (Strs.Own wd G v8 (nx ++ [y])) := by
                          show World.ownsRow _ _ _ _ _ _ _
                          rw [Strs.scells_snoc, List.length_append, HQ.out]; exact hown8
                        have HO9 : Hid (wd.ownsRow G 3 1 (.slice a9 a c9) a (icells cs)) := by
                          have h8 : Strs.Own (wr.alloc (.cells #[.string y] 9)) G (.slice a8 a c8) nx := by
                            show World.ownsRow _ _ _ _ _ _ _
                            rw [HQ.out]; exact HX8.out
                          have h9 : Ints.Own (wr.alloc (.cells #[.string y] 9)) G (.slice a9 a c9) cs := by
                            show World.ownsRow _ _ _ _ _ _ _
                            rw [HQC.out]; exact HX9.out
                          have h : World.ownsRow _ _ _ _ _ cs.length _ := ints_kept h8 h9 hgr8
                          rw [HQC.out] at h; exact h
                        have HBd := Lib.hid ((HB9c.out.alloc HSc.out (.cells #[.string y] 9)).grown hgr8 (by have := HSc.out; simp; omega) (fun t e => (World.ownsRow.lt HX8.out t e).1))
                        have HSd := Lib.hid (show G ≤ wd.heap.size from by rw [← HGE.out]; exact HBd.out.size)
                        clear hown8 hgr8
                        go_wp2_with (at_builtin; refine wpList_append_lies _ rfl _ _ 26 rfl G 3 i0 _ 1 8 Try.underlying26 hi hz0 hz1 hz2 rfl (by decide) (.slice a9 a c9) a (icells cs) rfl (HO9.out.alloc _) ⟨wd.heap.size, 0, none⟩ 1 1 [.int .i64 0] rfl rfl (World.news_of_block (cs := #[.int .i64 0]) (t := 3) (fr := (0, 0)) (heap_alloc_new _ _)) (by simp [Value.oneCell']) (by decide) (by unfold maxLen; omega) (by omega) (by have := HSd.out; simp; omega) _ rfl ?_)
                        intro g9 c9' we hown9 hgr9 _ _
                        have HP9 : Hid (Ints.Own we G (.slice (some ⟨g9, 0, none⟩) (a + 1) c9') (cs ++ [0])) := by
                          show World.ownsRow _ _ _ _ _ _ _
                          rw [icells_snoc, List.length_append, HQC.out]; exact hown9
                        have HP8 : Hid (Strs.Own we G v8 (nx ++ [y])) := by
                          have h9 : Ints.Own (wd.alloc (.cells #[.int .i64 0] 3)) G (.slice a9 a c9) cs := by
                            show World.ownsRow _ _ _ _ _ _ _
                            rw [HQC.out]; exact HO9.out.alloc _
                          exact strs_kept (HO8.out.alloc _) h9 hgr9
                        have HBe := Lib.hid ((HBd.out.alloc HSd.out (.cells #[.int .i64 0] 3)).grown hgr9 (by have := HSd.out; simp; omega) (fun t e => (World.ownsRow.lt HO9.out t e).1))
                        clear hown9 hgr9
                        have hcw := HCC.out we HBe.out
                        have hfr := HP9.out.free a
                        have hac : a < (cs ++ [0]).length := by rw [List.length_append, HQC.out]; simp
                        have hc90 := HP9.out.cell hac
                        have hc9 : we.cell? ⟨g9, a, none⟩ = some (.int .i64 0) := by
                          rw [hc90]
                          have : (cs ++ [0])[a] = 0 := by rw [List.getElem_append_right (by rw [HQC.out]; exact Nat.le_refl _)]; simp
                          rw [this]
                        have hst := HP9.out.set c hac
                        have hsl : (cs ++ [0]).set a c = cs ++ [c] := HSL.out
                        rw [hsl] at hst
                        have HST := Lib.hid hst
                        have HSK := Lib.hid (strs_kept HP8.out HP9.out (grown_set we g9 a (.int .i64 c)))
                        have HBK := Lib.hid (HBe.out.setCell (p := ⟨g9, a, none⟩) (HP9.out.lt g9 rfl).1 (.int .i64 c))
                        have hsw : IntKind.i64.wrap c = c := wrapi _ (by omega) (by omega)
                        have hsw0 : IntKind.i64.wrap (0 + c) = c := by rw [Int.zero_add]; exact hsw
                        have ha2 : (a : Int) < ((a + 1 : Nat) : Int) := by omega
                        obtain ⟨a1, ha1⟩ : ∃ a1, a + 1 = a1 := ⟨_, rfl⟩
                        rw [ha1] at ha2 ⊢
                        have ha3 : a < a1 := by omega
                        have HA1 := Lib.hid ha1
                        clear hst hsl hc90 hac ha1
                        go_wp2_with fail
                        go_region
                        have HZ9 : Hid (Ints.Own (we.setCell ⟨g9, a, none⟩ (.int .i64 c)).drew G (.slice (some ⟨g9, 0, none⟩) a1 c9') (cs ++ [c])) := by
                          have h : Ints.Own (we.setCell ⟨g9, a, none⟩ (.int .i64 c)) G (.slice (some ⟨g9, 0, none⟩) (a + 1) c9') (cs ++ [c]) := HST.out
                          rw [HA1.out] at h; exact h
                        have HZ8 : Hid (Strs.Own (we.setCell ⟨g9, a, none⟩ (.int .i64 c)).drew G v8 (nx ++ [y])) := HSK
                        have HZB := Lib.hid HBK.out.drew
                        clear hsw hsw0 hc9 hcw hfr HST HSK HBK
                        generalize (we.setCell ⟨g9, a, none⟩ (.int .i64 c)).drew = wz at *
                        go_wp2
                        go_roundw
                        case rel => exact ⟨k + 1, nx ++ [y], cs ++ [c], by omega, by omega, by go_num, HF, HZ8, HZ9, HZB⟩
                        case measure => first | (simp [intOf]; omega) | simp [intOf]
              · obtain rfl : k = s.size := by omega
                have HF := Lib.hid (show Lev m t.data.toList nx cs ∧ tot m t.data.toList nx cs = tot (m + 1) t.data.toList (ns.take (i + 1)) (ws.take (i + 1)) from ⟨HLI.out.1, by
                  rw [HLI.out.2, HE.out, ← part_all, show x.data.toList.length = s.size by rw [← HXS.out]; simp]⟩)
                go_wp2
                go_roundw
                case rel => exact ⟨i + 1, nx, cs, by omega, by go_num, HF, HN8, HN9, HB9⟩
                case measure => first | (simp [intOf]; omega) | simp [intOf]
          · obtain rfl : i = p := by omega
            have htk1 : ns.take i = ns := by rw [← HP.out]; exact List.take_length
            have htk2 : ws.take i = ws := by rw [← HPW.out]; exact List.take_length
            have hfin := HLN.out
            rw [htk1, htk2, HL.out.2] at hfin
            have HF := Lib.hid hfin
            have HNF := Lib.hid (HN8.out.mono HS.out)
            have HWF := Lib.hid (HN9.out.mono HS.out)
            have HBF := Lib.hid (HB.out.trans (HB9.out.mono HS.out))
            clear hfin htk1 htk2
            go_wp2
            go_roundw
            case rel => exact ⟨m, nx, cs, by omega, by go_num, HF, HNF, HWF, HBF⟩
            case measure => first | (simp [intOf]; omega) | simp [intOf]
end Go.Proofs.Ytbfbjolggilfoaa.Flip
