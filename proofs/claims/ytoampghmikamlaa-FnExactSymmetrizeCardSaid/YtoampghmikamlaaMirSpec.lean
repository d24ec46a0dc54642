/- What spec.MirrorCard returns. -/
import Derived.Test.YtoampghmikamlaaTurnCard
namespace Go.Proofs.Ytoampghmikamlaa.Turn
open Go.ChangeShapes Go.WideShapes Go.ChangeAt Go.RowKit
open Go.Proofs.Ytoampghmikamlaa.Strip Go.Proofs.Ytoampghmikamlaa.Strs Go.Proofs.Ytoampghmikamlaa.Card Go.Proofs.Ytoampghmikamlaa.Order
set_option linter.unusedVariables false

theorem rev_step (l : List ByteArray) (j : Nat) (h : j < l.length) : (l.drop j).reverse = (l.drop (j + 1)).reverse ++ [l[j]] := by
  rw [List.drop_eq_getElem_cons h, List.reverse_cons]

set_option maxRecDepth 100000 in
set_option maxHeartbeats 64000000 in
theorem mirC_spec (d f : Int) (base n c : Nat) (a : Option Addr) (l : List ByteArray) (w : World) (hn : n ≤ 1048576) (hz : ∀ s ∈ l, s.size ≤ 1048576) (ha : Own w base (.slice a n c) l) :
    Calls Try.prog 33 #[.agg #[.int .i64 d, .int .i64 f, .slice a n c]] w (MirrorPost w d f l) := by
  have hl : l.length = n := ha.row2.1.symm
  obtain ⟨W, hW, hv1, hv2, hbw, hs⟩ := begin2 w d f (.slice a n c)
  have HOK := Lib.hid (fun (w' : World) (h : Below w.heap.size w w') => ok_spec d f a n c l w' hl hn hz (ha.row2.2.since (Nat.le_refl _) h))
  have HV1 := Lib.hid hv1
  have HV2 := Lib.hid hv2
  have HB := Lib.hid hbw
  have HS := Lib.hid hs
  have HW := Lib.hid hW
  have HR := Lib.hid ha.row2.2
  have HL := Lib.hid hl
  have HZ := Lib.hid hz
  clear hv1 hv2 hbw hs hW hl hz ha
  unfold MirrorPost
  cases hc : cardB d f l with
  | false =>
    rw [hc] at HOK
    clear hc
    go_enter Try.func33, Try.ntmps33
    go_wp2_with fail
    rw [← HW.out]
    clear HW
    obtain ⟨k0, k1, k2⟩ := HV1.out.cells
    go_wp2_with fail
    clear k0 k1 k2
    refine (HOK.out _ HB.out).mono ?_
    rintro e w1 ⟨rfl, hb1⟩
    have HV2 := Lib.hid (HV2.out.below hb1)
    have HB1 := Lib.hid (HB.out.trans (hb1.mono HB.out.size))
    clear hb1
    have hx : ∃ Z, Z = Card.set3 w1 (w.heap.size + 1) 0 0 (.slice none 0 0) ∧ Var Z (w.heap.size + 1) 0 0 (.slice none 0 0) ∧ Below w.heap.size w Z := ⟨_, rfl, HV2.out.set3 _ _ _, below_set3 HB1.out (by omega)⟩
    obtain ⟨Z, hZ, hz1, hz2⟩ := hx
    unfold set3 at hZ
    obtain ⟨p0, p1, p2⟩ := HV2.out.cells
    have f0 := HV2.out.free 0
    have f1 := HV2.out.free 1
    have f2 := HV2.out.free 2
    have HZZ := Lib.hid hZ
    have HZ1 := Lib.hid hz1
    have HZ2 := Lib.hid hz2
    clear hZ hz1 hz2
    go_wp2_with fail
    rw [← HZZ.out]
    clear HZZ p0 p1 p2 f0 f1 f2
    obtain ⟨z0, z1, z2⟩ := HZ1.out.cells
    refine bodyPost_ret (v := .agg #[.int .i64 0, .int .i64 0, .slice none 0 0]) (by simp [results, Try.results33, go_sem, z0, z1, z2]) rfl ?_
    exact gave_no HZ2.out
  | true =>
    have h10 : n ≤ 10 := by have := (cardB_iff.1 hc).2.2.1; rw [HL.out] at this; exact this
    rw [hc] at HOK
    clear hc
    go_enter Try.func33, Try.ntmps33
    go_wp2_with fail
    rw [← HW.out]
    clear HW
    obtain ⟨k0, k1, k2⟩ := HV1.out.cells
    go_wp2_with fail
    clear k0 k1 k2
    refine (HOK.out _ HB.out).mono ?_
    rintro e w1 ⟨rfl, hb1⟩
    have HV1 := Lib.hid (HV1.out.below hb1)
    have HV2 := Lib.hid (HV2.out.below hb1)
    have HB1 := Lib.hid (HB.out.trans (hb1.mono HB.out.size))
    have HS1 := Lib.hid (show w.heap.size + 2 ≤ w1.heap.size by have := hb1.size; have := HS.out; omega)
    clear hb1 HOK HB HS
    obtain ⟨k0, k1, k2⟩ := HV1.out.cells
    obtain ⟨m0, m1, m2⟩ := (HV1.out.below (alloc_below w1 (.cells #[.int .i64 d, .int .i64 f, .slice none 0 0] 26))).cells
    go_wp2_with fail
    clear k0 k1 k2 m0 m1 m2
    have hv0 := Var.new w1 d f (.slice none 0 0)
    have hb := alloc_below w1 (.cells #[.int .i64 d, .int .i64 f, .slice none 0 0] 26)
    have HV1 := Lib.hid (HV1.out.below hb)
    have HV2 := Lib.hid (HV2.out.below hb)
    have HB1 := Lib.hid (HB1.out.trans (hb.mono HB1.out.size))
    have HV4 := Lib.hid hv0
    clear hv0 hb
    have hn01 : -9223372036854775808 ≤ (n : Int) - 1 ∧ (n : Int) - 1 ≤ 9223372036854775807 := by omega
    generalize (w1.alloc (.cells #[.int .i64 d, .int .i64 f, .slice none 0 0] 26)) = W2 at *
    generalize w1.heap.size = B4 at *
    go_loopw [4] (fun i wr => ∃ (m q : Nat) (z : Int) (ao : Option Addr) (co : Nat), q + m = n ∧ i = .int .i64 z ∧ z = (m : Int) - 1 ∧ Hid (Var wr w.heap.size d f (.slice a n c)) ∧ Hid (Var wr (w.heap.size + 1) 0 0 (.slice none 0 0)) ∧ Hid (Var wr B4 d f (.slice ao q co)) ∧ Hid (Own wr w.heap.size (.slice ao q co) (l.drop m).reverse) ∧ Hid (Below w.heap.size w wr)) (fun i _ => (intOf i + 1).toNat)
    case atStart => exact ⟨n, 0, _, none, 0, by omega, rfl, rfl, HV1, HV2, HV4, by rw [List.drop_eq_nil_of_le (by rw [HL.out]; exact Nat.le_refl _)]; exact Own.nil _ _, HB1⟩
    case round =>
      clear HV1 HV2 HV4 HB1
      obtain ⟨m, q, z, ao, co, hqm, rfl, hzm, V1, V2, V4, HO, HBR⟩ := hrel
      cases m with
      | zero =>
        obtain rfl : z = -1 := by omega
        obtain rfl : q = n := by omega
        rw [List.drop_zero] at HO
        have HLM := Lib.hid (show l.reverse.length = q from by rw [List.length_reverse]; exact HL.out)
        have hx : ∃ Z, Z = Card.set3 wr (w.heap.size + 1) d f (.slice ao q co) ∧ Var Z (w.heap.size + 1) d f (.slice ao q co) ∧ Below w.heap.size w Z ∧ Own Z w.heap.size (.slice ao q co) l.reverse := ⟨_, rfl, gave_last HBR.out V2.out (by omega) HO.out (Nat.le_refl _)⟩
        obtain ⟨Z, hZ, hz1, hz2, hz3⟩ := hx
        unfold set3 at hZ
        obtain ⟨o0, o1, o2⟩ := V4.out.cells
        obtain ⟨p0, p1, p2⟩ := V2.out.cells
        have f0 := V2.out.free 0
        have f1 := V2.out.free 1
        have f2 := V2.out.free 2
        have HZZ := Lib.hid hZ
        have HZ1 := Lib.hid hz1
        have HZ2 := Lib.hid hz2
        have HZ3 := Lib.hid hz3
        clear hZ hz1 hz2 hz3 hzm hqm
        go_wp2_with fail
        rw [← HZZ.out]
        clear HZZ o0 o1 o2 p0 p1 p2 f0 f1 f2
        obtain ⟨z0, z1, z2⟩ := HZ1.out.cells
        refine bodyPost_ret (v := .agg #[.int .i64 d, .int .i64 f, .slice ao q co]) (by simp [results, Try.results33, go_sem, z0, z1, z2]) rfl ?_
        exact gave_yes HLM.out HZ2.out HZ3.out
      | succ j =>
        obtain rfl : z = (j : Int) := by omega
        have hk0 : (0 : Int) ≤ (j : Int) := Int.natCast_nonneg _
        have hk1 : (j : Int) < (n : Int) := by omega
        have hkl : j < l.length := by rw [HL.out]; omega
        obtain ⟨ga, rfl, hga, hca⟩ := Row.at HR.out HBR.out j hkl
        have HSN := Lib.hid (rev_step l j hkl)
        have HQ := Lib.hid hqm
        have hq10 : q ≤ 10 := by omega
        generalize l[j] = x at *
        obtain ⟨k0, k1, k2⟩ := V1.out.cells
        obtain ⟨o0, o1, o2⟩ := V4.out.cells
        clear hzm hqm
        have HPUSH := Lib.hid (show ∀ (w5 : World) (z : Nat), w5.heap.size = z → Var w5 w.heap.size d f (.slice (some ⟨ga, 0, none⟩) n c) → Var w5 (w.heap.size + 1) 0 0 (.slice none 0 0) → Var w5 B4 d f (.slice ao q co) → Own w5 w.heap.size (.slice ao q co) (l.drop (j + 1)).reverse → Below w.heap.size w w5 → ∃ gg cap w6, (∀ ty, (Builtin.append_ #[24, 24] ty #[.slice ao q co, .slice (some ⟨z, 0, none⟩) 1 1]).run Try.prog (w5.alloc (.cells #[.string x] 9)) = .ok (.slice (some ⟨gg, 0, none⟩) (q + 1) cap) w6) ∧ Var w6 w.heap.size d f (.slice (some ⟨ga, 0, none⟩) n c) ∧ Var w6 (w.heap.size + 1) 0 0 (.slice none 0 0) ∧ Var w6 B4 d f (.slice ao q co) ∧ Below w.heap.size w w6 ∧ Own w6 w.heap.size (.slice (some ⟨gg, 0, none⟩) (q + 1) cap) (l.drop j).reverse from fun w5 z hz5 v1 v2 v4 o5 b5 => by
          subst hz5
          have hx := alloc_below w5 (.cells #[.string x] 9)
          have hbx := b5.alloc b5.size (.cells #[.string x] 9)
          have ox := o5.below hx
          obtain ⟨gg, cap, w6, hr6, ho6, hg6⟩ := push_own (w := w5.alloc (.cells #[.string x] 9)) (b := w5.heap.size) (s := x) ox (heap_alloc_new w5 (.cells #[.string x] 9)) (by omega) hbx.size
          refine ⟨gg, cap, w6, hr6, (v1.below hx).written ox hg6, (v2.below hx).written ox hg6, (v4.below hx).written ox hg6, ox.write_below hbx (Nat.le_refl _) hbx.size hg6, ?_⟩
          rw [HSN.out]
          exact ho6)
        have hdr : Below wr.heap.size wr wr.drew := (Below.refl _ _).drew
        obtain ⟨gg, cap, w6, hr6, v61, v62, v64, b6, o6⟩ := HPUSH.out wr.drew wr.heap.size rfl (V1.out.below hdr) (V2.out.below hdr) (V4.out.below hdr) (HO.out.below hdr) (HBR.out.trans (hdr.mono HBR.out.size))
        obtain ⟨qa0, qa1, qa2⟩ := (V4.out.below (alloc_below wr (.cells #[.string x] 9))).cells
        obtain ⟨r0, r1, r2⟩ := v64.cells
        have fr := v64.free 2
        have V61 := Lib.hid v61
        have V62 := Lib.hid v62
        have V64 := Lib.hid v64
        have B6 := Lib.hid b6
        have O6 := Lib.hid o6
        have HR6 := Lib.hid (show ∀ ty, (Builtin.append_ #[24, 24] ty #[.slice ao q co, .slice (some ⟨wr.heap.size, 0, none⟩) 1 1]).run Try.prog (wr.alloc (.cells #[.string x] 9)).drew = .ok (.slice (some ⟨gg, 0, none⟩) (q + 1) cap) w6 from hr6)
        clear hr6 v61 v62 v64 b6 o6 hdr
        go_wp2_with fail
        go_region_law (refine step_append_run rfl (.tmp 23) (.tmp 29) _ _ rfl _ _ (by rfl) (by rfl) HR6.out ?_)
        all_goals
          go_wp2
          go_roundw
          case rel => exact ⟨j, q + 1, (j : Int) - 1, some ⟨gg, 0, none⟩, cap, by have := HQ.out; omega, by go_num, rfl, Lib.hid (V61.out.other (by have := HS1.out; omega)), Lib.hid (V62.out.other (by have := HS1.out; omega)), Lib.hid (V64.out.set1 _), Lib.hid (Own.aside O6.out V64.out), Lib.hid (B6.out.setCell (by have := HS1.out; show w.heap.size ≤ B4; omega) _)⟩
          case measure => simp [intOf]
end Go.Proofs.Ytoampghmikamlaa.Turn
