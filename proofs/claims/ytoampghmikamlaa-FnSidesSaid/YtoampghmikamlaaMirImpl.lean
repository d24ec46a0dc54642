/- What impl.MirrorCard returns. -/
import Derived.Test.YtoampghmikamlaaTurnCard
namespace Go.Proofs.Ytoampghmikamlaa.Turn
open Go.ChangeShapes Go.WideShapes Go.ChangeAt Go.RowKit
open Go.Proofs.Ytoampghmikamlaa.Strip Go.Proofs.Ytoampghmikamlaa.Strs Go.Proofs.Ytoampghmikamlaa.Card Go.Proofs.Ytoampghmikamlaa.Order
set_option linter.unusedVariables false

set_option maxRecDepth 100000 in
set_option maxHeartbeats 8000000 in
theorem mirC_impl (d f : Int) (base n c : Nat) (a : Option Addr) (l : List ByteArray) (w : World) (hn : n ≤ 1048576) (hz : ∀ s ∈ l, s.size ≤ 1048576) (ha : Own w base (.slice a n c) l) :
    Calls Try.prog 14 #[.agg #[.int .i64 d, .int .i64 f, .slice a n c]] w (MirrorPost w d f l) := by
  have hl : l.length = n := ha.row2.1.symm
  obtain ⟨W, hW, hv1, hv2, hbw, hs⟩ := begin2 w d f (.slice a n c)
  have HOK := Lib.hid (fun (w' : World) (h : Below w.heap.size w w') => ok_impl d f a n c l w' hl hn hz (ha.row2.2.since (Nat.le_refl _) h))
  have HRV := Lib.hid (fun (w' : World) (h : Below w.heap.size w w') => revs_impl base n c a l w' hn (ha.below h))
  have HV1 := Lib.hid hv1
  have HV2 := Lib.hid hv2
  have HB := Lib.hid hbw
  have HS := Lib.hid hs
  have HW := Lib.hid hW
  have HL := Lib.hid hl
  clear hv1 hv2 hbw hs hW hl hz ha
  unfold MirrorPost
  generalize l.reverse = r at *
  cases hc : cardB d f l with
  | false =>
    rw [hc] at HOK
    clear hc
    go_enter Try.func14, Try.ntmps14
    go_wp2_with fail
    rw [← HW.out]
    clear HW
    obtain ⟨k0, k1, k2⟩ := HV1.out.cells
    go_wp2_with fail
    clear k0 k1 k2
    refine (HOK.out _ HB.out).mono ?_
    rintro e w1 ⟨rfl, hb1⟩
    have HV2 := Lib.hid (HV2.out.below hb1)
    have HB1 := Lib.hid (HB.out.trans (hb1.mono HB.out.size))
    clear hb1
    have hx : ∃ Z, Z = Card.set3 w1 (w.heap.size + 1) 0 0 (.slice none 0 0) ∧ Var Z (w.heap.size + 1) 0 0 (.slice none 0 0) ∧ Below w.heap.size w Z := ⟨_, rfl, HV2.out.set3 _ _ _, below_set3 HB1.out (by omega)⟩
    obtain ⟨Z, hZ, hz1, hz2⟩ := hx
    unfold set3 at hZ
    obtain ⟨p0, p1, p2⟩ := HV2.out.cells
    have f0 := HV2.out.free 0
    have f1 := HV2.out.free 1
    have f2 := HV2.out.free 2
    have HZZ := Lib.hid hZ
    have HZ1 := Lib.hid hz1
    have HZ2 := Lib.hid hz2
    clear hZ hz1 hz2
    go_wp2_with fail
    rw [← HZZ.out]
    clear HZZ p0 p1 p2 f0 f1 f2
    obtain ⟨z0, z1, z2⟩ := HZ1.out.cells
    refine bodyPost_ret (v := .agg #[.int .i64 0, .int .i64 0, .slice none 0 0]) (by simp [results, Try.results14, go_sem, z0, z1, z2]) rfl ?_
    exact gave_no HZ2.out
  | true =>
    rw [hc] at HOK
    clear hc
    go_enter Try.func14, Try.ntmps14
    go_wp2_with fail
    rw [← HW.out]
    clear HW
    obtain ⟨k0, k1, k2⟩ := HV1.out.cells
    go_wp2_with fail
    clear k0 k1 k2
    refine (HOK.out _ HB.out).mono ?_
    rintro e w1 ⟨rfl, hb1⟩
    have HV1 := Lib.hid (HV1.out.below hb1)
    have HV2 := Lib.hid (HV2.out.below hb1)
    have HB1 := Lib.hid (HB.out.trans (hb1.mono HB.out.size))
    have HNE := Lib.hid (show w.heap.size ≠ w.heap.size + 1 ∧ w.heap.size + 1 < w1.heap.size ∧ w.heap.size < w1.heap.size by have := hb1.size; have := HS.out; omega)
    clear hb1 HOK HB HS
    go_wp2_with fail
    have HRW := Lib.hid (fun (w' : World) (h : Below w1.heap.size w1 w') => HRV.out w' (HB1.out.trans (h.mono HB1.out.size)))
    generalize hG1 : w.heap.size + 1 = B1 at *
    generalize hG0 : w.heap.size = B0 at *
    obtain ⟨k0, k1, k2⟩ := HV1.out.cells
    go_region_held3 (fun w' => w'.cell? ⟨B0, 0, none⟩ = some (.int .i64 d) ∧ w'.cell? ⟨B0, 1, none⟩ = some (.int .i64 f) ∧ w'.cell? ⟨B0, 2, none⟩ = some (.slice a n c))
      (first | exact ⟨k0, k1, k2⟩ | exact ⟨q0, q1, q2⟩ | exact drew3 ⟨q0, q1, q2⟩ | exact (Var.other3 HQ.out HNE.out.1).cells | go_keep)
      ((go_at_call 41; refine (HRW.out _ (Below.refl _ _).drew).mono ?_; rintro e w2 ⟨a1, c1, rfl, hbd, hoc⟩; have hbc := undrew hbd; have hq := HV1.out.below (w' := w2) hbc; have HQ := Lib.hid hq; obtain ⟨q0, q1, q2⟩ := hq.cells; have hv := HV2.out.below (w' := w2) hbc; have HX := Lib.hid hv; obtain ⟨p0, p1, p2⟩ := hv.cells; have z0 := hv.free 0; have z1 := hv.free 1; have z2 := hv.free 2; have HBC := Lib.hid hbc; have HOC := Lib.hid hoc; clear hv hq hbc hbd hoc))
    have hb1 : Below B0 w w2 := HB1.out.trans ((show Below w1.heap.size w1 w2 from HBC.out).mono (by have := HNE.out; omega))
    have ho1 : Own w2 w1.heap.size (.slice a1 r.length c1) r := HOC.out
    obtain ⟨hz, hbz, hoz⟩ := gave_end (d := d) (f := f) hb1 HX.out (by have := HNE.out; omega) ho1 HNE.out.2.1 (by have := HNE.out; omega)
    unfold set3 at hz hbz hoz
    go_wp2
    clear q0 q1 q2 p0 p1 p2 z0 z1 z2 k0 k1 k2
    generalize (((w2.setCell ⟨B1, 0, none⟩ (.int .i64 d)).setCell ⟨B1, 1, none⟩ (.int .i64 f)).setCell ⟨B1, 2, none⟩ (.slice a1 r.length c1)) = Z at *
    obtain ⟨z0, z1, z2⟩ := hz.cells
    refine bodyPost_ret (v := .agg #[.int .i64 d, .int .i64 f, .slice a1 r.length c1]) (by simp [results, Try.results14, go_sem, z0, z1, z2]) rfl ?_
    refine gave_yes rfl (by rw [hG0]; exact hbz) (by rw [hG0]; exact hoz)
end Go.Proofs.Ytoampghmikamlaa.Turn
