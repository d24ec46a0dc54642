/- What the program of chapter 10 returns: CountWays. -/
import Derived.Test.YtbfbjolggilfoaaFlipWayImpl
import Derived.Test.YtbfbjolggilfoaaFlipMap
import Derived.Test.YtbfbjolggilfoaaKerfImpl
namespace Go.Proofs.Ytbfbjolggilfoaa.Flip
open Go.ChangeShapes Go.WideShapes Go.ChangeAt Go.RowKit
open Go.Proofs.Ytbfbjolggilfoaa.Strip Go.Proofs.Ytbfbjolggilfoaa.Ints Go.Proofs.Ytbfbjolggilfoaa.Corner Go.Proofs.Ytbfbjolggilfoaa.Kerf Go.Proofs.Ytbfbjolggilfoaa.Order
set_option linter.unusedVariables false

theorem above_size2 {s t : ByteArray} (h : aboveB t.data.toList s.data.toList = true) : s.size = t.size ∧ 2 ≤ t.size ∧ t.size ≤ 16 := by
  have h1 := above_len h
  have h2 := strip_size (above_strip h).2
  have e1 : s.data.toList.length = s.size := by simp
  have e2 : t.data.toList.length = t.size := by simp
  omega

theorem nextsI_get (l t : List UInt8) (q : Nat) (h : q < (nextsI l t).length) (h2 : q < (nexts l t).length) : (nextsI l t)[q] = (((nexts l t)[q] : Nat) : Int) := by
  simp [nextsI]
theorem ints_irow {w : World} {B n c : Nat} {a : Option Addr} {l : List Int} (h : Ints.Own w B (.slice a n c) l) : IRow w a l := by
  obtain ⟨a', c', e, hr, _⟩ := h.row
  cases e; exact hr

set_option maxRecDepth 100000 in
set_option maxHeartbeats 4000000 in
theorem ways_impl (s t : ByteArray) (w : World) (hm : s.size ≤ 1048576) (hm' : t.size ≤ 1048576) :
    Calls Try.prog 14 #[.string s, .string t] w fun e w' => e = .returned (.int .i64 (waysV s.data.toList t.data.toList)) ∧ Below w.heap.size w w' := by
  have HAR := Lib.hid (fun w => area_impl s t w hm hm')
  cases hab : aboveB t.data.toList s.data.toList with
  | false =>
    have hv : waysV s.data.toList t.data.toList = 0 := by unfold waysV; rw [hab]; rfl
    rw [hv]
    generalize areaI s.data.toList t.data.toList = ar at *
    go_enter Try.func14, Try.ntmps14
    go_wp2_with fail
    refine (HAR.out _).mono ?_
    rintro e w1 ⟨rfl, hb⟩
    have HB1 := Lib.hid hb; clear hb
    go_wp2_with fail
    refine (above_impl t s _ hm' hm).mono ?_
    rintro e w2 ⟨rfl, hb⟩
    have HB2 := Lib.hid (HB1.out.trans (hb.mono HB1.out.size)); clear hb
    rw [hab]
    go_wp2
    go_ret
    exact ⟨rfl, HB2.out⟩
  | true =>
  obtain ⟨n, hn⟩ := Int.eq_ofNat_of_zero_le (above_nonneg hab)
  rw [hn] at HAR
  by_cases h12 : 12 < n
  · have hv : waysV s.data.toList t.data.toList = 0 := by unfold waysV; rw [if_neg (by rw [hn]; omega)]
    rw [hv]
    have h12' : (12 : Int) < (n : Int) := by omega
    clear hn
    go_enter Try.func14, Try.ntmps14
    go_wp2_with fail
    refine (HAR.out _).mono ?_
    rintro e w1 ⟨rfl, hb⟩
    have HB1 := Lib.hid hb; clear hb
    go_wp2_with fail
    refine (above_impl t s _ hm' hm).mono ?_
    rintro e w2 ⟨rfl, hb⟩
    have HB2 := Lib.hid (HB1.out.trans (hb.mono HB1.out.size)); clear hb
    rw [hab]
    go_wp2
    go_ret
    exact ⟨rfl, HB2.out⟩
  · obtain ⟨W, hW⟩ : ∃ W : Nat, wy n s.data.toList t.data.toList = W := ⟨_, rfl⟩
    have hv : waysV s.data.toList t.data.toList = (W : Int) := by unfold waysV; rw [if_pos ⟨hab, by rw [hn]; omega⟩, hn, Int.toNat_natCast, hW]
    rw [hv]
    have hW1 : 1 ≤ W := by rw [← hW]; exact wy_pos n hab hn
    have hW2 : W ≤ 68719476736 := by rw [← hW]; exact wy_tiny (by omega) _ _
    have hb0 := bag_start hab
    rw [wA_at hn, hW] at hb0
    have HBG0 := Lib.hid (show Bag t [s] (upd (fun _ => 0) s 1) (W : Int) ∧ ∀ x ∈ [s], areaI x.data.toList t.data.toList = ((n - 0 : Nat) : Int) from ⟨hb0, fun x hx => by rw [List.mem_singleton.1 hx]; exact hn⟩)
    obtain ⟨hsz, hsz2, hsz3⟩ := above_size2 hab
    have HSZ := Lib.hid hsz
    have h12' : (n : Int) ≤ 12 := by omega
    clear hsz hW hv hn hb0
    go_enter Try.func14, Try.ntmps14
    go_wp2_with fail
    refine (HAR.out _).mono ?_
    rintro e w1 ⟨rfl, hb⟩
    have HB1 := Lib.hid hb; clear hb
    go_wp2_with fail
    refine (above_impl t s _ hm' hm).mono ?_
    rintro e w2 ⟨rfl, hb⟩
    have HB2 := Lib.hid (HB1.out.trans (hb.mono HB1.out.size)); clear hb
    rw [hab]
    have hmm := @run_makeMap Try.prog
    obtain ⟨w3, hr3, hm3, hg3⟩ := (MapW.made w2).put (s := s) (by decide) (by unfold maxLen; omega) (c := 1) (by omega) (by omega)
    rw [ins_no (by simp), List.nil_append] at hm3
    have HB3 := Lib.hid ((HB2.out.alloc HB2.out.size (.map #[] 0)).grown hg3 (by have := HB2.out.size; simp; omega) (fun k e => by cases e; exact HB2.out.size))
    obtain ⟨b, hb⟩ : ∃ b, w2.heap.size = b := ⟨_, rfl⟩
    have hbb : w.heap.size ≤ b := by rw [← hb]; exact HB2.out.size
    have HBB := Lib.hid hbb
    rw [hb] at hr3 hm3
    have HM3 := Lib.hid hm3
    have hdn : decide (12 < (n : Int)) = false := by simpa using h12'
    clear hm3 hg3 hbb
    have hn0 : (0 : Int) ≤ (n : Int) := Int.natCast_nonneg _
    go_wp2_with fail
    clear hr3 hb
    go_loopw [28] (fun vi wr => ∃ (r : Nat) (ns : List ByteArray) (val : ByteArray → Int), r ≤ n ∧ vi = .int .i64 (r : Int) ∧ Hid (Bag t ns val (W : Int) ∧ ∀ x ∈ ns, areaI x.data.toList t.data.toList = ((n - r : Nat) : Int)) ∧ Hid (MapW wr b ns val) ∧ Hid (Below w.heap.size w wr)) (fun vi _ => n - (intOf vi).toNat)
    case atStart => exact ⟨0, [s], _, Nat.zero_le _, rfl, HBG0, HM3, HB3⟩
    case round =>
      rename World => wq
      clear HBG0 HM3 HB3
      obtain ⟨r, ns, val, hrn, rfl, HBG, HM, HB⟩ := hrel
      have hr0 : (0 : Int) ≤ (r : Int) := Int.natCast_nonneg _
      by_cases hlt : r < n
      · have hr1 : (r : Int) < (n : Int) := by omega
        obtain ⟨m, hmr⟩ : ∃ m, n - r = m + 1 := ⟨n - r - 1, by omega⟩
        have HMR := Lib.hid hmr
        have hlen := HBG.out.1.len
        have HS := Lib.hid HB.out.size
        go_wp2_with fail
        refine (keys_at _ _).mono ?_
        rintro e w' ⟨rfl, rfl⟩
        have hmk := HM.out.below (Strs.alloc_below wq (.cells #[.map (some b)] 43))
        have hbk := HB.out.alloc HS.out (.cells #[.map (some b)] 43)
        have hck : (wq.alloc (.cells #[.map (some b)] 43)).cell? ⟨wq.heap.size, 0, none⟩ = some (.map (some b)) := by simp
        have hsk : wq.heap.size < (wq.alloc (.cells #[.map (some b)] 43)).heap.size := by simp
        have HCO := Lib.hid (hmk.collect (by omega) wq.heap.size hsk hck)
        have hbl := hmk.lt
        obtain ⟨wk, hwk⟩ : ∃ wk, wq.alloc (.cells #[.map (some b)] 43) = wk := ⟨_, rfl⟩
        rw [hwk] at hmk hbk HCO hbl ⊢
        have HMK := Lib.hid hmk
        have HBK := Lib.hid hbk
        have HBL := Lib.hid hbl
        clear hmk hbk hck hsk hwk hbl hlen hmr
        go_wp2_with fail
        refine HCO.out.mono ?_
        rintro e wc ⟨v, ss, rfl, hpm, hso, hbc⟩
        obtain ⟨a, cp, rfl, _, _⟩ := hso.row
        have HMC := Lib.hid (HMK.out.below hbc)
        have HBC := Lib.hid (HBK.out.trans (hbc.mono HBK.out.size))
        have HSC := Lib.hid hbc.size
        obtain ⟨G, hG⟩ : ∃ G, wk.heap.size = G := ⟨_, rfl⟩
        rw [hG] at hso HSC HBL
        have HSO := Lib.hid hso
        have HMI := Lib.hid (mid_start (m := m) hpm HBG.out.1.dup (fun x hx => by rw [HBG.out.2 x hx, HMR.out]; omega))
        have hpl : (ss.length : Int) ≤ (W : Int) := by
          have h1 := hpm.length_eq
          have h2 := HBG.out.1.len
          omega
        have HBG1 := Lib.hid HBG.out.1
        clear hso hbc hpm hG HMK HBK HCO
        obtain ⟨p, hp⟩ : ∃ p, ss.length = p := ⟨_, rfl⟩
        have HP := Lib.hid hp
        rw [hp] at hpl
        have HSO2 : Hid (Strs.Own wc G (.slice a p cp) ss) := by rw [hp] at HSO; exact HSO
        rw [hp]
        clear hp HSO
        have hp0 : (0 : Int) ≤ (p : Int) := Int.natCast_nonneg _
        go_wp2_with fail
        go_loopw [34] (fun vi wr => ∃ (j : Nat) (ns : List ByteArray) (val : ByteArray → Int), j ≤ p ∧ vi = .int .i64 (j : Int) ∧ Hid (Bag t ns val (W : Int)) ∧ Hid (Mid t ns m (ss.drop j)) ∧ Hid (MapW wr b ns val) ∧ Hid (Strs.Own wr G (.slice a p cp) ss) ∧ Hid (G ≤ wr.heap.size) ∧ Hid (Below w.heap.size w wr)) (fun vi _ => p - (intOf vi).toNat)
        case atStart => exact ⟨0, ns, val, Nat.zero_le _, rfl, HBG1, (by rw [List.drop_zero]; exact HMI), HMC, HSO2, HSC, HBC⟩
        case round =>
          rename World => wa
          clear HBG1 HMI HMC HSO2 HSC HBC
          obtain ⟨j, ns2, val2, hjp, rfl, HBG2, HMI, HM2, HSO, HSG, HB2⟩ := hrel
          have hj0 : (0 : Int) ≤ (j : Int) := Int.natCast_nonneg _
          by_cases hjl : j < p
          · have hj1 : (j : Int) < (p : Int) := by omega
            have hjs : j < ss.length := by rw [HP.out]; exact hjl
            have hdr := List.drop_eq_getElem_cons hjs
            have hmi := HMI.out
            rw [hdr] at hmi
            have hrow := HSO.out.row2.2
            obtain ⟨ga, rfl, hga, hcx⟩ := hrow j hjs
            obtain ⟨x, hx⟩ : ∃ x, ss[j] = x := ⟨_, rfl⟩
            rw [hx] at hmi hcx
            clear hrow hdr hx hga
            obtain ⟨x1, x2⟩ := hmi.here x (by simp)
            have xa := HBG2.out.above x x1
            have hc1 := HBG2.out.pos x x1
            have hcl := (HBG2.out.le x).2
            have hxs := (above_size2 xa).1
            have hxm : x.size ≤ 1048576 := by omega
            obtain ⟨c, hc⟩ : ∃ c, val2 x = c := ⟨_, rfl⟩
            rw [hc] at hc1 hcl
            have HC0 := Lib.hid hc
            have HX2 := Lib.hid x2
            have HMX := Lib.hid hmi
            have hbg0 : Bag t ns2 val2 ((W : Int) + c * (partT m x.data.toList t.data.toList 0 : Int)) := by rw [partT_zero]; simpa using HBG2.out
            have HBG3 := Lib.hid hbg0
            have HSB2 := Lib.hid HB2.out.size
            have HWY := Lib.hid (show wA t x = wy (m + 1) x.data.toList t.data.toList from wA_at (by rw [x2]; omega))
            have HWL := Lib.hid (show c * (wy (m + 1) x.data.toList t.data.toList : Int) ≤ (W : Int) from by
              have h1 := msum_out (wA t) val2 x ns2 HBG2.out.dup x1
              have h2 := (bag_bounds (t := t) (val := val2) (outB ns2 x) (fun z hz => HBG2.out.above z (out_mem.1 hz).1) (fun z hz => HBG2.out.pos z (out_mem.1 hz).1)).1
              rw [HBG2.out.sum, hc, HWY.out] at h1
              omega)
            clear hc x2 hmi hbg0 x1 HMI
            go_wp2_with fail
            refine (below_impl x t _ hxm hm').mono ?_
            rintro e wd ⟨vr, rfl, hbd, hor⟩
            have HMd := Lib.hid (HM2.out.below hbd)
            have HSd := Lib.hid (HSO.out.below hbd)
            have HGd := Lib.hid (Nat.le_trans HSG.out hbd.size)
            have HBd := Lib.hid (HB2.out.trans (hbd.mono HSB2.out))
            have HRd := Lib.hid (hor.mono HSG.out)
            clear hbd hor hcx
            obtain ⟨ar, cr, rfl, _, _⟩ := HRd.out.row
            have hql := nextsI_len x.data.toList t.data.toList
            obtain ⟨u, hu⟩ : ∃ u, (nextsI x.data.toList t.data.toList).length = u := ⟨_, rfl⟩
            have HU := Lib.hid hu
            have HRd2 : Hid (Ints.Own wd G (.slice ar u cr) (nextsI x.data.toList t.data.toList)) := by
              rw [← hu]; exact HRd
            rw [hu] at hql ⊢
            clear hu HRd
            have hu0 : (u : Int) ≤ 16 := by omega
            go_wp2_with fail
            go_loopw [42] (fun vi wr => ∃ (q : Nat) (ns : List ByteArray) (val : ByteArray → Int), q ≤ u ∧ vi = .int .i64 (q : Int) ∧ Hid (Bag t ns val ((W : Int) + c * (partT m x.data.toList t.data.toList q : Int))) ∧ Hid (Mid t ns m (x :: ss.drop (j + 1))) ∧ Hid (val x = c) ∧ Hid (MapW wr b ns val) ∧ Hid (Strs.Own wr G (.slice (some ⟨ga, 0, none⟩) p cp) ss) ∧ Hid (Ints.Own wr G (.slice ar u cr) (nextsI x.data.toList t.data.toList)) ∧ Hid (G ≤ wr.heap.size) ∧ Hid (Below w.heap.size w wr)) (fun vi _ => u - (intOf vi).toNat)
            case atStart => exact ⟨0, ns2, val2, Nat.zero_le _, rfl, HBG3, HMX, HC0, HMd, HSd, HRd2, HGd, HBd⟩
            case round =>
              rename World => wb
              clear HBG3 HMX HC0 HMd HSd HRd2 HGd HBd
              obtain ⟨q, ns3, val3, hqu, rfl, HBG3, HMX, HC3, HM3, HS3, HR3, HG3, HB3⟩ := hrel
              have hq0 : (0 : Int) ≤ (q : Int) := Int.natCast_nonneg _
              by_cases hq1 : q < u
              · have hq2 : (q : Int) < (u : Int) := by omega
                have hqn : q < (nexts x.data.toList t.data.toList).length := by
                  have h1 := HU.out
                  unfold nextsI at h1
                  rw [List.length_map] at h1; omega
                have hqi : q < (nextsI x.data.toList t.data.toList).length := by rw [HU.out]; exact hq1
                obtain ⟨gr, rfl, hgr, hcr⟩ := ints_irow HR3.out q hqi
                obtain ⟨k, hk⟩ : ∃ k, (nexts x.data.toList t.data.toList)[q] = k := ⟨_, rfl⟩
                have hki : (nextsI x.data.toList t.data.toList)[q] = (k : Int) := by
                  rw [nextsI_get _ _ q hqi hqn, hk]
                rw [hki] at hcr
                have hnk := nexts_mem.1 (show k ∈ nexts x.data.toList t.data.toList from by rw [← hk]; exact List.getElem_mem hqn)
                obtain ⟨f1, f2, f3, f4, f5, f6, f7⟩ := next_facts hnk
                have hk16 : k ≤ 16 := by have h1 : k < x.size := by simpa using f5
                                         omega
                have hk0 : (0 : Int) ≤ (k : Int) := Int.natCast_nonneg _
                have hrl := raise_list f1
                have hps := partT_succ (m := m) hqn
                rw [hk] at hps
                have HRI := Lib.hid (fun w => by have h := raise_impl x (k : Int) w hxm (by omega) (by omega); rw [f1] at h; exact h)
                have hys := raise_size x (k : Int)
                obtain ⟨y, hy⟩ : ∃ y, raiseS x (k : Int) = y := ⟨_, rfl⟩
                rw [hy] at hrl HRI hys
                have hya : areaI y.data.toList t.data.toList = (m : Int) := by rw [hrl, f4, HX2.out]; omega
                have hyb : aboveB t.data.toList y.data.toList = true := by rw [hrl]; exact f2
                have hyx : x ≠ y := by
                  intro e
                  have h1 := HX2.out
                  rw [e, hya] at h1; omega
                have hwy : wA t y = wy m (raiseL x.data.toList k) t.data.toList := by rw [wA_at hya, hrl]
                have hadd := HBG3.out.add hyb hc1
                rw [hwy] at hadd
                have hsum : (W : Int) + c * (partT m x.data.toList t.data.toList q : Int) + c * (wy m (raiseL x.data.toList k) t.data.toList : Int) = (W : Int) + c * (partT m x.data.toList t.data.toList (q + 1) : Int) := by
                  rw [hps, Int.natCast_add, Int.mul_add]; omega
                rw [hsum] at hadd
                have hple : c * (partT m x.data.toList t.data.toList q : Int) ≤ (W : Int) := by
                  have h1 := partT_le m x.data.toList t.data.toList _ q (show q + ((nexts x.data.toList t.data.toList).length - q) = _ by omega)
                  have h2 : c * (partT m x.data.toList t.data.toList q : Int) ≤ c * (wy (m + 1) x.data.toList t.data.toList : Int) := Int.mul_le_mul_of_nonneg_left (by omega) (by omega)
                  have := HWL.out
                  omega
                obtain ⟨v0, v1⟩ := HBG3.out.le y
                have hnl := HBG3.out.len
                have HADD := Lib.hid hadd
                have HMD := Lib.hid (HMX.out.add hya)
                have HVX := Lib.hid (show upd val3 y (val3 y + c) x = c from by rw [upd_other val3 hyx]; exact HC3.out)
                have HS3B := Lib.hid HB3.out.size
                have hv2 : val3 y ≤ 137438953472 := by omega
                have hn3 : ns3.length < maxLen := by unfold maxLen; omega
                clear hk hki hnk f1 f2 f3 f4 f5 f6 f7 hrl hps hy hya hyb hyx hwy hadd hsum hple v1 hnl hqn hqi hgr
                go_wp2_with fail
                refine (HRI.out _).mono ?_
                rintro e we ⟨rfl, hbe⟩
                have HMe := Lib.hid (HM3.out.below hbe)
                have HSe := Lib.hid (HS3.out.below hbe)
                have HRe := Lib.hid (HR3.out.below hbe)
                have HGe := Lib.hid (Nat.le_trans HG3.out hbe.size)
                have HBe := Lib.hid (HB3.out.trans (hbe.mono HS3B.out))
                clear hbe hcr
                have hl1 := HMe.out.look (s := y) (by unfold maxLen; omega)
                have hl2 := HMe.out.look (s := x) (by unfold maxLen; omega)
                rw [HC3.out] at hl2
                obtain ⟨wz, hrz, hmz, hgz⟩ := HMe.out.put hn3 (s := y) (by unfold maxLen; omega) (c := val3 y + c) (by omega) (by omega)
                have HMz := Lib.hid hmz
                have HSz : Hid (Strs.Own wz G (.slice (some ⟨ga, 0, none⟩) p cp) ss) := World.ownsRow.kept HSe.out hgz (.inr (fun e => by have h1 := (HSe.out.lt b e).1; have h2 := HBL.out; omega))
                have HRz : Hid (Ints.Own wz G (.slice (some ⟨gr, 0, none⟩) u cr) (nextsI x.data.toList t.data.toList)) := World.ownsRow.kept HRe.out hgz (.inr (fun e => by have h1 := (HRe.out.lt b e).1; have h2 := HBL.out; omega))
                have HGz := Lib.hid (Nat.le_trans HGe.out hgz.size)
                have HBz := Lib.hid (HBe.out.grown hgz HBe.out.size (fun k e => by cases e; exact HBB.out))
                have hsw : IntKind.i64.wrap (val3 y + c) = val3 y + c := wrapi _ (by omega) (by omega)
                clear hmz hgz
                generalize hd : val3 y + c = d at *
                generalize hdd : val3 y = d0 at *
                clear hdd
                go_wp2
                go_roundw
                case rel => exact ⟨q + 1, _, _, by omega, by go_num, HADD, HMD, HVX, HMz, HSz, HRz, HGz, HBz⟩
                case measure => first | (simp [intOf]; omega) | simp [intOf]
              · obtain rfl : q = u := by omega
                have hpa : partT m x.data.toList t.data.toList q = wy (m + 1) x.data.toList t.data.toList := by
                  rw [← HU.out]
                  unfold nextsI
                  rw [List.length_map]; exact partT_all _ _ _
                have hx3 := (HMX.out.here x (by simp)).1
                have hdel := HBG3.out.del hx3
                rw [hpa, HC3.out, HWY.out] at hdel
                rw [show (W : Int) + c * (wy (m + 1) x.data.toList t.data.toList : Int) - c * (wy (m + 1) x.data.toList t.data.toList : Int) = (W : Int) by omega] at hdel
                have HBF := Lib.hid hdel
                have HMF := Lib.hid HMX.out.del
                obtain ⟨we, hre, hme, hge⟩ := HM3.out.drop hx3 (by unfold maxLen; omega)
                have HME := Lib.hid hme
                have HSE : Hid (Strs.Own we G (.slice (some ⟨ga, 0, none⟩) p cp) ss) := World.ownsRow.kept HS3.out hge (.inr (fun e => by have h1 := (HS3.out.lt b e).1; have h2 := HBL.out; omega))
                have HGE := Lib.hid (Nat.le_trans HG3.out hge.size)
                have HBE := Lib.hid (HB3.out.grown hge HB3.out.size (fun k e => by cases e; exact HBB.out))
                clear hpa hx3 hdel hme hge
                go_wp2
                go_roundw
                case rel => exact ⟨j + 1, _, _, by omega, by go_num, HBF, HMF, HME, HSE, HGE, HBE⟩
                case measure => first | (simp [intOf]; omega) | simp [intOf]
          · obtain rfl : j = p := by omega
            have hend : ss.drop j = [] := List.drop_eq_nil_of_le (by rw [HP.out]; exact Nat.le_refl _)
            have hmi := HMI.out
            rw [hend] at hmi
            have HF := Lib.hid (show Bag t ns2 val2 (W : Int) ∧ ∀ x ∈ ns2, areaI x.data.toList t.data.toList = ((n - (r + 1) : Nat) : Int) from ⟨HBG2.out, fun x hx => by rw [mid_end hmi x hx]; have := HMR.out; omega⟩)
            clear hend hmi
            go_wp2
            go_roundw
            case rel => exact ⟨r + 1, ns2, val2, by omega, by go_num, HF, HM2, HB2⟩
            case measure => first | (simp [intOf]; omega) | simp [intOf]
      · obtain rfl : r = n := by omega
        have hval := bag_end HBG.out.1 (by omega) (fun x hx => by rw [HBG.out.2 x hx]; simp)
        have hlk := HM.out.look (s := t) (by unfold maxLen; omega)
        rw [hval] at hlk
        clear hval
        go_wp2
        go_ret
        exact ⟨rfl, HB.out⟩
end Go.Proofs.Ytbfbjolggilfoaa.Flip
