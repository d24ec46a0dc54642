/- What the model of chapter 8 returns: l08Card, of true (printed by wip/gen_ordercard.py). -/
import Derived.Test.YtoampghmikamlaaOrderCard
namespace Go.Proofs.Ytoampghmikamlaa.Order
open Go.ChangeShapes Go.WideShapes Go.ChangeAt Go.RowKit
open Go.Proofs.Ytoampghmikamlaa.Strip Go.Proofs.Ytoampghmikamlaa.Strs Go.Proofs.Ytoampghmikamlaa.Card
set_option linter.unusedVariables false

set_option maxRecDepth 100000 in
set_option maxHeartbeats 64000000 in
theorem card8_true (d f d2 f2 : Int) (base base2 n n2 ca cb : Nat) (a b : Option Addr) (l m : List ByteArray) (w : World) (hn : n ≤ 1048576) (hn2 : n2 ≤ 1048576) (hz : ∀ s ∈ l, s.size ≤ 1048576) (hz2 : ∀ s ∈ m, s.size ≤ 1048576) (ha : Own w base (.slice a n ca) l) (hb : Own w base2 (.slice b n2 cb) m) :
    Calls Try.prog 76 #[.agg #[.int .i64 d, .int .i64 f, .slice a n ca], .agg #[.int .i64 d2, .int .i64 f2, .slice b n2 cb], .bool true] w (BothPost true w d f l d2 f2 m) := by
  have hl : l.length = n := ha.row2.1.symm
  have hm : m.length = n2 := hb.row2.1.symm
  obtain ⟨W, hW, hv1, hv2, hv3, hbw, hs⟩ := beginThree w d f d2 f2 (.slice a n ca) (.slice b n2 cb)
  have HSM := Lib.hid (fun (w' : World) (h : Below w.heap.size w w') => same8_spec d f d2 f2 a b n n2 ca cb l m w' hl hm hn hn2 hz hz2 (ha.row2.2.since (Nat.le_refl _) h) (hb.row2.2.since (Nat.le_refl _) h))
  have HV1 := Lib.hid hv1
  have HV2 := Lib.hid hv2
  have HV3 := Lib.hid hv3
  have HB := Lib.hid hbw
  have HS := Lib.hid hs
  have HW := Lib.hid hW
  have HRA := Lib.hid ha.row2.2
  have HRB := Lib.hid hb.row2.2
  have HL := Lib.hid hl
  have HM := Lib.hid hm
  have HZ1 := Lib.hid hz
  have HZ2 := Lib.hid hz2
  clear hv1 hv2 hv3 hbw hs hW hl hm hz hz2 ha hb
  cases hbo : bothB d f l d2 f2 m with
  | false =>
    have HBO := Lib.hid hbo
    rw [hbo] at HSM
    clear hbo
    go_enter Try.func76, Try.ntmps76
    go_wp2_with fail
    rw [← HW.out]
    clear HW
    obtain ⟨k0, k1, k2⟩ := HV1.out.cells
    obtain ⟨m0, m1, m2⟩ := HV2.out.cells
    go_wp2_with fail
    clear k0 k1 k2 m0 m1 m2
    refine (HSM.out _ HB.out).mono ?_
    rintro e w1 ⟨rfl, hb1⟩
    have HV3 := Lib.hid (HV3.out.below hb1)
    have HB1 := Lib.hid (HB.out.trans (hb1.mono HB.out.size))
    clear hb1
    have hx : ∃ Z, Z = Card.set3 w1 (w.heap.size + 2) 0 0 (.slice none 0 0) ∧ Var Z (w.heap.size + 2) 0 0 (.slice none 0 0) ∧ Below w.heap.size w Z := ⟨_, rfl, HV3.out.set3 _ _ _, below_set3 HB1.out (by omega)⟩
    obtain ⟨Z, hZ, hz1, hz2⟩ := hx
    unfold set3 at hZ
    obtain ⟨p0, p1, p2⟩ := HV3.out.cells
    have f0 := HV3.out.free 0
    have f1 := HV3.out.free 1
    have f2 := HV3.out.free 2
    have HZZ := Lib.hid hZ
    have HZ1 := Lib.hid hz1
    have HZ2 := Lib.hid hz2
    clear hZ hz1 hz2
    go_wp2_with fail
    rw [← HZZ.out]
    clear HZZ p0 p1 p2 f0 f1 f2
    obtain ⟨z0, z1, z2⟩ := HZ1.out.cells
    refine bodyPost_ret (v := .tuple #[.agg #[.int .i64 0, .int .i64 0, .slice none 0 0], .bool false]) (by simp [results, Try.results76, go_sem, z0, z1, z2]) rfl ?_
    exact both_no HBO.out HZ2.out
  | true =>
    have HBO := Lib.hid hbo
    rw [hbo] at HSM
    have hnn : n = n2 := by have := (both_iff.1 hbo).2.2.2.2; rw [HL.out, HM.out] at this; exact this
    have h10 : n ≤ 10 := by have := (cardB_iff.1 (both_iff.1 hbo).1).2.2.1; rw [HL.out] at this; exact this
    have HNN := Lib.hid hnn
    clear hbo hnn
    go_enter Try.func76, Try.ntmps76
    go_wp2_with fail
    rw [← HW.out]
    clear HW
    obtain ⟨k0, k1, k2⟩ := HV1.out.cells
    obtain ⟨m0, m1, m2⟩ := HV2.out.cells
    go_wp2_with fail
    clear k0 k1 k2 m0 m1 m2
    refine (HSM.out _ HB.out).mono ?_
    rintro e w1 ⟨rfl, hb1⟩
    have HV1 := Lib.hid (HV1.out.below hb1)
    have HV2 := Lib.hid (HV2.out.below hb1)
    have HV3 := Lib.hid (HV3.out.below hb1)
    have HB1 := Lib.hid (HB.out.trans (hb1.mono HB.out.size))
    have HS1 := Lib.hid (show w.heap.size + 3 ≤ w1.heap.size by have := hb1.size; have := HS.out; omega)
    clear hb1 HSM HB HS
    obtain ⟨k0, k1, k2⟩ := HV1.out.cells
    go_wp2_with fail
    clear k0 k1 k2
    have hv0 := Var.new w1 d f (.slice none 0 0)
    have hb := alloc_below w1 (.cells #[.int .i64 d, .int .i64 f, .slice none 0 0] 26)
    have HV1 := Lib.hid (HV1.out.below hb)
    have HV2 := Lib.hid (HV2.out.below hb)
    have HV3 := Lib.hid (HV3.out.below hb)
    have HB1 := Lib.hid (HB1.out.trans (hb.mono HB1.out.size))
    have HV4 := Lib.hid hv0
    clear hv0 hb
    generalize (w1.alloc (.cells #[.int .i64 d, .int .i64 f, .slice none 0 0] 26)) = W2 at *
    generalize w1.heap.size = B4 at *
    go_loopw [9] (fun i wr => ∃ (k : Nat) (ao : Option Addr) (co : Nat), k ≤ n ∧ i = .int .i64 (k : Int) ∧ Hid (Var wr w.heap.size d f (.slice a n ca)) ∧ Hid (Var wr (w.heap.size + 1) d2 f2 (.slice b n2 cb)) ∧ Hid (Var wr (w.heap.size + 2) 0 0 (.slice none 0 0)) ∧ Hid (Var wr B4 d f (.slice ao k co)) ∧ Hid (Own wr w.heap.size (.slice ao k co) ((mixM true l m).take k)) ∧ Hid (Below w.heap.size w wr)) (fun i _ => n - (intOf i).toNat)
    case atStart => exact ⟨0, none, 0, Nat.zero_le _, rfl, HV1, HV2, HV3, HV4, Own.nil _ _, HB1⟩
    case round =>
      clear HV1 HV2 HV3 HV4 HB1
      obtain ⟨k, ao, co, hk, rfl, V1, V2, V3, V4, HO, HBR⟩ := hrel
      have hk0 : (0 : Int) ≤ (k : Int) := Int.natCast_nonneg _
      obtain ⟨k0, k1, k2⟩ := V1.out.cells
      by_cases hlt : k < n
      · have hk1 : (k : Int) < (n : Int) := by omega
        have hk2' : (k : Int) < (n2 : Int) := by have := HNN.out; omega
        have hkl : k < l.length := by rw [HL.out]; exact hlt
        have hkm : k < m.length := by rw [HM.out]; have := HNN.out; omega
        obtain ⟨ga, rfl, hga, hca⟩ := Row.at HRA.out HBR.out k hkl
        obtain ⟨gb, rfl, hgb, hcb⟩ := Row.at HRB.out HBR.out k hkm
        have HMIX := Lib.hid (show ∀ w' : World, Calls Try.prog 86 #[.string l[k], .string m[k], .bool true] w' fun e w'' => e = .returned (.string (mixS true l[k] m[k])) ∧ w' = w'' from fun w' => mix_spec_true l[k] m[k] w' (HZ1.out _ (List.getElem_mem hkl)) (HZ2.out _ (List.getElem_mem hkm)))
        have HSN := Lib.hid (mixM_succ true l m k hkl hkm)
        generalize mixS true l[k] m[k] = s at *
        generalize l[k] = x at *
        generalize m[k] = y at *
        obtain ⟨m0, m1, m2⟩ := V2.out.cells
        obtain ⟨o0, o1, o2⟩ := V4.out.cells
        have HPUSH := Lib.hid (show ∀ (w5 : World) (z : Nat), w5.heap.size = z → Var w5 w.heap.size d f (.slice (some ⟨ga, 0, none⟩) n ca) → Var w5 (w.heap.size + 1) d2 f2 (.slice (some ⟨gb, 0, none⟩) n2 cb) → Var w5 (w.heap.size + 2) 0 0 (.slice none 0 0) → Var w5 B4 d f (.slice ao k co) → Own w5 w.heap.size (.slice ao k co) ((mixM true l m).take k) → Below w.heap.size w w5 → ∃ gg cap w6, (∀ ty, (Builtin.append_ #[24, 24] ty #[.slice ao k co, .slice (some ⟨z, 0, none⟩) 1 1]).run Try.prog (w5.alloc (.cells #[.string s] 9)) = .ok (.slice (some ⟨gg, 0, none⟩) (k + 1) cap) w6) ∧ Var w6 w.heap.size d f (.slice (some ⟨ga, 0, none⟩) n ca) ∧ Var w6 (w.heap.size + 1) d2 f2 (.slice (some ⟨gb, 0, none⟩) n2 cb) ∧ Var w6 (w.heap.size + 2) 0 0 (.slice none 0 0) ∧ Var w6 B4 d f (.slice ao k co) ∧ Below w.heap.size w w6 ∧ Own w6 w.heap.size (.slice (some ⟨gg, 0, none⟩) (k + 1) cap) ((mixM true l m).take (k + 1)) from fun w5 z hz5 v1 v2 v3 v4 o5 b5 => by
          subst hz5
          have hx := alloc_below w5 (.cells #[.string s] 9)
          have hbx := b5.alloc b5.size (.cells #[.string s] 9)
          have ox := o5.below hx
          obtain ⟨gg, cap, w6, hr6, ho6, hg6⟩ := push_own (w := w5.alloc (.cells #[.string s] 9)) (b := w5.heap.size) (s := s) ox (heap_alloc_new w5 (.cells #[.string s] 9)) (by omega) hbx.size
          refine ⟨gg, cap, w6, hr6, (v1.below hx).written ox hg6, (v2.below hx).written ox hg6, (v3.below hx).written ox hg6, (v4.below hx).written ox hg6, ox.write_below hbx (Nat.le_refl _) hbx.size hg6, ?_⟩
          rw [HSN.out]
          exact ho6)
        have hdr : Below wr.heap.size wr wr.drew := (Below.refl _ _).drew
        obtain ⟨gg, cap, w6, hr6, v61, v62, v63, v64, b6, o6⟩ := HPUSH.out wr.drew wr.heap.size rfl (V1.out.below hdr) (V2.out.below hdr) (V3.out.below hdr) (V4.out.below hdr) (HO.out.below hdr) (HBR.out.trans (hdr.mono HBR.out.size))
        obtain ⟨qa0, qa1, qa2⟩ := (V4.out.below (alloc_below wr (.cells #[.string s] 9))).cells
        obtain ⟨r0, r1, r2⟩ := v64.cells
        have fr := v64.free 2
        have V61 := Lib.hid v61
        have V62 := Lib.hid v62
        have V63 := Lib.hid v63
        have V64 := Lib.hid v64
        have B6 := Lib.hid b6
        have O6 := Lib.hid o6
        have HR6 := Lib.hid (show ∀ ty, (Builtin.append_ #[24, 24] ty #[.slice ao k co, .slice (some ⟨wr.heap.size, 0, none⟩) 1 1]).run Try.prog (wr.alloc (.cells #[.string s] 9)).drew = .ok (.slice (some ⟨gg, 0, none⟩) (k + 1) cap) w6 from hr6)
        clear hr6 v61 v62 v63 v64 b6 o6 hdr
        go_wp2_with fail
        go_region_law ((first | (go_simp; go_at_call 86; refine (HMIX.out _).mono ?_; rintro e w5 ⟨rfl, rfl⟩) | (refine step_append_run rfl (.tmp 28) (.tmp 41) _ _ rfl _ _ (by rfl) (by rfl) HR6.out ?_)))
        all_goals
          go_wp2
          go_roundw
          case rel => exact ⟨k + 1, some ⟨gg, 0, none⟩, cap, by omega, by go_num, Lib.hid (V61.out.other (by have := HS1.out; omega)), Lib.hid (V62.out.other (by have := HS1.out; omega)), Lib.hid (V63.out.other (by have := HS1.out; omega)), Lib.hid (V64.out.set1 _), Lib.hid (Own.aside O6.out V64.out), Lib.hid (B6.out.setCell (by have := HS1.out; show w.heap.size ≤ B4; omega) _)⟩
          case measure => simp [intOf]; omega
      · obtain rfl : k = n := by omega
        have HLM := Lib.hid (show (mixM true l m).length = k from by rw [mixM_length true (by rw [HL.out, HM.out]; exact HNN.out)]; exact HL.out)
        have hall : (mixM true l m).take k = mixM true l m := List.take_of_length_le (by rw [HLM.out]; exact Nat.le_refl _)
        rw [hall] at HO
        clear hall k0 k1 k2
        have hx : ∃ Z, Z = Card.set3 wr (w.heap.size + 2) d f (.slice ao k co) ∧ Var Z (w.heap.size + 2) d f (.slice ao k co) ∧ Below w.heap.size w Z ∧ Own Z w.heap.size (.slice ao k co) (mixM true l m) := ⟨_, rfl, gave_last HBR.out V3.out (by omega) HO.out (Nat.le_refl _)⟩
        obtain ⟨Z, hZ, hz1, hz2, hz3⟩ := hx
        unfold set3 at hZ
        obtain ⟨k0, k1, k2⟩ := V1.out.cells
        obtain ⟨o0, o1, o2⟩ := V4.out.cells
        obtain ⟨p0, p1, p2⟩ := V3.out.cells
        have f0 := V3.out.free 0
        have f1 := V3.out.free 1
        have f2 := V3.out.free 2
        have HZZ := Lib.hid hZ
        have HZ1 := Lib.hid hz1
        have HZ2 := Lib.hid hz2
        have HZ3 := Lib.hid hz3
        clear hZ hz1 hz2 hz3
        go_wp2_with fail
        rw [← HZZ.out]
        clear HZZ k0 k1 k2 o0 o1 o2 p0 p1 p2 f0 f1 f2
        obtain ⟨z0, z1, z2⟩ := HZ1.out.cells
        refine bodyPost_ret (v := .tuple #[.agg #[.int .i64 d, .int .i64 f, .slice ao k co], .bool true]) (by simp [results, Try.results76, go_sem, z0, z1, z2]) rfl ?_
        exact both_yes HBO.out rfl HLM.out HZ2.out HZ3.out

end Go.Proofs.Ytoampghmikamlaa.Order
