/- What PullSlider (of the program and of the model) and moveSlider return and leave alone. -/
import Derived.Test.YtmjknjgfcngacaaSlideOk
import Derived.Laws.ResultCell
namespace Go.Proofs.Ytmjknjgfcngacaa.Slide
open Go.ChangeShapes Go.WideShapes Go.ChangeAt Go.RowKit
open Go.Proofs.Ytmjknjgfcngacaa.Tri
open Go.Proofs.Ytmjknjgfcngacaa.Strip (in_at)
open Go.Proofs.Ytmjknjgfcngacaa.Ints (grown_below grown_set grown_trans heap_set_at drewN_below)
set_option linter.unusedVariables false

section
variable {T : TypeId} {w : World} {b c j : Nat} {x y z : Int}
theorem below_set {B : Nat} {w0 : World} {u : Value} (h : Below B w0 w) (hc : B ≤ c) (hB : B ≤ w.heap.size) : Below B w0 (w.setCell ⟨c, j, none⟩ u) :=
  h.grown (grown_set w c j u) hB (fun t e => by cases e; exact hc)
theorem size_set {u : Value} : (w.setCell ⟨c, j, none⟩ u).heap.size = w.heap.size := by simp [World.setCell]
end
/-- The blocks of a struct that is handed over and of one that is returned. -/
theorem begin2 (T : TypeId) (w : World) (x y z : Int) : ∃ W, W = (w.alloc (.cells #[.int .i64 x, .int .i64 y, .int .i64 z] T)).alloc (.cells #[.int .i64 0, .int .i64 0, .int .i64 0] T) ∧ VarT T W w.heap.size (x, y, z) ∧ VarT T W (w.heap.size + 1) (0, 0, 0) ∧ Below w.heap.size w W ∧ W.heap.size = w.heap.size + 2 := by
  have h1 := VarT.new (T := T) w (x, y, z)
  have hb := alloc_below (w.alloc (.cells #[.int .i64 x, .int .i64 y, .int .i64 z] T)) (.cells #[.int .i64 0, .int .i64 0, .int .i64 0] T)
  have h2 := VarT.new (T := T) (w.alloc (.cells #[.int .i64 x, .int .i64 y, .int .i64 z] T)) (0, 0, 0)
  rw [show (w.alloc (.cells #[.int .i64 x, .int .i64 y, .int .i64 z] T)).heap.size = w.heap.size + 1 by simp] at h2
  exact ⟨_, rfl, h1.below hb, h2, (alloc_below _ _).trans (hb.mono (by simp)), by simp⟩
theorem clamp_at (n a b v : Int) (h : (if (if b < n then b else n) < a then a else if b < n then b else n) = v) (w : World) :
    Calls Try.prog 46 #[.int .i64 n, .int .i64 a, .int .i64 b] w fun e w' => e = .returned (.int .i64 v) ∧ w = w' := by
  subst h; exact clamp_impl n a b w

set_option maxRecDepth 100000 in
set_option maxHeartbeats 2000000 in
theorem pull_impl (x y z q : Int) (w : World) :
    Calls Try.prog 16 #[.agg #[.int .i64 x, .int .i64 y, .int .i64 z], .int .i64 q] w fun e w' => e = .returned (.agg #[.int .i64 x, .int .i64 y, .int .i64 (nowV (x, y, z) q)]) ∧ Below w.heap.size w w' := by
  obtain ⟨W, hW, hv1, hv2, hb, hs⟩ := begin2 33 w x y z
  have HW := Lib.hid hW
  have HB := Lib.hid hb
  have HS := Lib.hid hs
  have HV1 := Lib.hid hv1
  have HV2 := Lib.hid hv2
  have k0 : W.cell? ⟨w.heap.size, 0, none⟩ = some (.int .i64 x) := hv1.cells.1
  have k1 : W.cell? ⟨w.heap.size, 1, none⟩ = some (.int .i64 y) := hv1.cells.2.1
  have k2 : W.cell? ⟨w.heap.size, 2, none⟩ = some (.int .i64 z) := hv1.cells.2.2
  clear hW hv1 hv2 hb hs
  by_cases hg : okS (x, y, z) = true ∧ -1000 ≤ q ∧ q ≤ 1000
  · obtain ⟨g1, g2, g3⟩ := hg
    have HN := Lib.hid (nowV_yes g1 g2 g3)
    have ho := okS_iff.1 g1
    simp only at ho HN
    obtain ⟨o1, o2, o3, o4⟩ := ho
    have HG := Lib.hid g1
    have e1 : decide (q < -1000) = false := decide_eq_false (by omega)
    have e2 : decide (1000 < q) = false := decide_eq_false (by omega)
    have ez : IntKind.i64.wrap (z + q) = z + q := by rw [IntKind.wrap_i64]; omega
    have hcl : (if (if y < z + q then y else z + q) < x then x else if y < z + q then y else z + q) = nowV (x, y, z) q := by rw [HN.out]; (repeat' split) <;> omega
    have HCL := Lib.hid hcl
    clear hcl
    generalize nowV (x, y, z) q = v at *
    go_enter Try.func16, Try.ntmps16
    go_wp2_with fail
    rw [← HW.out]
    clear HW
    go_wp2_with fail
    refine (ok_impl x y z _).mono ?_
    rintro e w3 ⟨rfl, hb⟩
    rw [HG.out]
    have HV1 := Lib.hid (HV1.out.below hb)
    have HV2 := Lib.hid (HV2.out.below hb)
    have HB := Lib.hid (HB.out.trans (hb.mono HB.out.size))
    have hs3 : w.heap.size + 2 ≤ w3.heap.size := by have := hb.size; have := HS.out; omega
    clear k0 k1 k2 hb
    have k0 : w3.cell? ⟨w.heap.size, 0, none⟩ = some (.int .i64 x) := HV1.out.cells.1
    have k1 : w3.cell? ⟨w.heap.size, 1, none⟩ = some (.int .i64 y) := HV1.out.cells.2.1
    have k2 : w3.cell? ⟨w.heap.size, 2, none⟩ = some (.int .i64 z) := HV1.out.cells.2.2
    have f2 := HV1.out.free 2
    have r0 := HV2.out.free 0
    have r1 := HV2.out.free 1
    have r2 := HV2.out.free 2
    obtain ⟨p0, p1, p2⟩ := HV2.out.cells
    go_wp2_with fail
    refine (clamp_at (z + q) x y v HCL.out _).mono ?_
    rintro e w4 ⟨rfl, rfl⟩
    clear p0 p1 p2
    have HV2 := Lib.hid (HV2.out.other (c := w.heap.size) (j := 2) (u := .int .i64 v) (by omega))
    have HB := Lib.hid (below_set (c := w.heap.size) (j := 2) (u := .int .i64 v) HB.out (Nat.le_refl _) (by omega))
    have hv1 := HV1.out.set2 v
    have q0 := hv1.cells.1
    have q1 := hv1.cells.2.1
    have q2 := hv1.cells.2.2
    simp only at q0 q1 q2
    have r0 := HV2.out.free 0
    have r1 := HV2.out.free 1
    have r2 := HV2.out.free 2
    obtain ⟨p0, p1, p2⟩ := HV2.out.cells
    clear hv1
    have hz := HV2.out.set3 x y v
    have c0 := hz.cells.1
    have c1 := hz.cells.2.1
    have c2 := hz.cells.2.2
    simp only at c0 c1 c2
    have HZ := Lib.hid (below_set (j := 2) (u := .int .i64 v) (below_set (j := 1) (u := .int .i64 y) (below_set (j := 0) (u := .int .i64 x) HB.out (show w.heap.size ≤ w.heap.size + 1 by omega) (by rw [size_set]; omega)) (show w.heap.size ≤ w.heap.size + 1 by omega) (by rw [size_set, size_set]; omega)) (show w.heap.size ≤ w.heap.size + 1 by omega) (by rw [size_set, size_set, size_set]; omega))
    clear hz
    go_wp2_with fail
    refine bodyPost_ret (v := .agg #[.int .i64 x, .int .i64 y, .int .i64 v]) (by simp [results, Try.results16, go_sem, c0, c1, c2]) rfl ⟨rfl, HZ.out⟩
  · have HN := Lib.hid (nowV_no hg)
    simp only at HN
    cases hok : okS (x, y, z) with
    | false =>
      have HG := Lib.hid hok
      clear hg hok
      go_enter Try.func16, Try.ntmps16
      go_wp2_with fail
      rw [← HW.out]
      clear HW
      go_wp2_with fail
      refine (ok_impl x y z _).mono ?_
      rintro e w3 ⟨rfl, hb⟩
      rw [HG.out]
      have HV1 := Lib.hid (HV1.out.below hb)
      have HV2 := Lib.hid (HV2.out.below hb)
      have HB := Lib.hid (HB.out.trans (hb.mono HB.out.size))
      have hs3 : w.heap.size + 2 ≤ w3.heap.size := by have := hb.size; have := HS.out; omega
      clear k0 k1 k2 hb
      have k0 : w3.cell? ⟨w.heap.size, 0, none⟩ = some (.int .i64 x) := HV1.out.cells.1
      have k1 : w3.cell? ⟨w.heap.size, 1, none⟩ = some (.int .i64 y) := HV1.out.cells.2.1
      have k2 : w3.cell? ⟨w.heap.size, 2, none⟩ = some (.int .i64 z) := HV1.out.cells.2.2
      have f2 := HV1.out.free 2
      have r0 := HV2.out.free 0
      have r1 := HV2.out.free 1
      have r2 := HV2.out.free 2
      obtain ⟨p0, p1, p2⟩ := HV2.out.cells
      have hz := HV2.out.set3 x y z
      have c0 := hz.cells.1
      have c1 := hz.cells.2.1
      have c2 := hz.cells.2.2
      simp only at c0 c1 c2
      have HZ := Lib.hid (below_set (j := 2) (u := .int .i64 z) (below_set (j := 1) (u := .int .i64 y) (below_set (j := 0) (u := .int .i64 x) HB.out (show w.heap.size ≤ w.heap.size + 1 by omega) (by omega)) (show w.heap.size ≤ w.heap.size + 1 by omega) (by rw [size_set]; omega)) (show w.heap.size ≤ w.heap.size + 1 by omega) (by rw [size_set, size_set]; omega))
      clear hz
      go_wp2_with fail
      refine bodyPost_ret (v := .agg #[.int .i64 x, .int .i64 y, .int .i64 z]) (by simp [results, Try.results16, go_sem, c0, c1, c2]) rfl ⟨by rw [HN.out], HZ.out⟩
    | true =>
      have HG := Lib.hid hok
      by_cases hq : -1000 ≤ q
      · have hq2 : 1000 < q := by
          rcases Int.lt_or_le 1000 q with h | h
          · exact h
          · exact absurd ⟨hok, hq, h⟩ hg
        have e1 : decide (q < -1000) = false := decide_eq_false (by omega)
        have e2 : decide (1000 < q) = true := decide_eq_true hq2
        clear hg hok
        go_enter Try.func16, Try.ntmps16
        go_wp2_with fail
        rw [← HW.out]
        clear HW
        go_wp2_with fail
        refine (ok_impl x y z _).mono ?_
        rintro e w3 ⟨rfl, hb⟩
        rw [HG.out]
        have HV1 := Lib.hid (HV1.out.below hb)
        have HV2 := Lib.hid (HV2.out.below hb)
        have HB := Lib.hid (HB.out.trans (hb.mono HB.out.size))
        have hs3 : w.heap.size + 2 ≤ w3.heap.size := by have := hb.size; have := HS.out; omega
        clear k0 k1 k2 hb
        have k0 : w3.cell? ⟨w.heap.size, 0, none⟩ = some (.int .i64 x) := HV1.out.cells.1
        have k1 : w3.cell? ⟨w.heap.size, 1, none⟩ = some (.int .i64 y) := HV1.out.cells.2.1
        have k2 : w3.cell? ⟨w.heap.size, 2, none⟩ = some (.int .i64 z) := HV1.out.cells.2.2
        have f2 := HV1.out.free 2
        have r0 := HV2.out.free 0
        have r1 := HV2.out.free 1
        have r2 := HV2.out.free 2
        obtain ⟨p0, p1, p2⟩ := HV2.out.cells
        have hz := HV2.out.set3 x y z
        have c0 := hz.cells.1
        have c1 := hz.cells.2.1
        have c2 := hz.cells.2.2
        simp only at c0 c1 c2
        have HZ := Lib.hid (below_set (j := 2) (u := .int .i64 z) (below_set (j := 1) (u := .int .i64 y) (below_set (j := 0) (u := .int .i64 x) HB.out (show w.heap.size ≤ w.heap.size + 1 by omega) (by omega)) (show w.heap.size ≤ w.heap.size + 1 by omega) (by rw [size_set]; omega)) (show w.heap.size ≤ w.heap.size + 1 by omega) (by rw [size_set, size_set]; omega))
        clear hz
        go_wp2_with fail
        refine bodyPost_ret (v := .agg #[.int .i64 x, .int .i64 y, .int .i64 z]) (by simp [results, Try.results16, go_sem, c0, c1, c2]) rfl ⟨by rw [HN.out], HZ.out⟩
      · have e1 : decide (q < -1000) = true := decide_eq_true (by omega)
        clear hg hok
        go_enter Try.func16, Try.ntmps16
        go_wp2_with fail
        rw [← HW.out]
        clear HW
        go_wp2_with fail
        refine (ok_impl x y z _).mono ?_
        rintro e w3 ⟨rfl, hb⟩
        rw [HG.out]
        have HV1 := Lib.hid (HV1.out.below hb)
        have HV2 := Lib.hid (HV2.out.below hb)
        have HB := Lib.hid (HB.out.trans (hb.mono HB.out.size))
        have hs3 : w.heap.size + 2 ≤ w3.heap.size := by have := hb.size; have := HS.out; omega
        clear k0 k1 k2 hb
        have k0 : w3.cell? ⟨w.heap.size, 0, none⟩ = some (.int .i64 x) := HV1.out.cells.1
        have k1 : w3.cell? ⟨w.heap.size, 1, none⟩ = some (.int .i64 y) := HV1.out.cells.2.1
        have k2 : w3.cell? ⟨w.heap.size, 2, none⟩ = some (.int .i64 z) := HV1.out.cells.2.2
        have f2 := HV1.out.free 2
        have r0 := HV2.out.free 0
        have r1 := HV2.out.free 1
        have r2 := HV2.out.free 2
        obtain ⟨p0, p1, p2⟩ := HV2.out.cells
        have hz := HV2.out.set3 x y z
        have c0 := hz.cells.1
        have c1 := hz.cells.2.1
        have c2 := hz.cells.2.2
        simp only at c0 c1 c2
        have HZ := Lib.hid (below_set (j := 2) (u := .int .i64 z) (below_set (j := 1) (u := .int .i64 y) (below_set (j := 0) (u := .int .i64 x) HB.out (show w.heap.size ≤ w.heap.size + 1 by omega) (by omega)) (show w.heap.size ≤ w.heap.size + 1 by omega) (by rw [size_set]; omega)) (show w.heap.size ≤ w.heap.size + 1 by omega) (by rw [size_set, size_set]; omega))
        clear hz
        go_wp2_with fail
        refine bodyPost_ret (v := .agg #[.int .i64 x, .int .i64 y, .int .i64 z]) (by simp [results, Try.results16, go_sem, c0, c1, c2]) rfl ⟨by rw [HN.out], HZ.out⟩

set_option maxRecDepth 100000 in
set_option maxHeartbeats 2000000 in
theorem pull_spec (x y z q : Int) (w : World) :
    Calls Try.prog 21 #[.agg #[.int .i64 x, .int .i64 y, .int .i64 z], .int .i64 q] w fun e w' => e = .returned (.agg #[.int .i64 x, .int .i64 y, .int .i64 (nowV (x, y, z) q)]) ∧ Below w.heap.size w w' := by
  obtain ⟨W, hW, hv1, hv2, hb, hs⟩ := begin2 33 w x y z
  have HW := Lib.hid hW
  have HB := Lib.hid hb
  have HS := Lib.hid hs
  have HV1 := Lib.hid hv1
  have HV2 := Lib.hid hv2
  have k0 : W.cell? ⟨w.heap.size, 0, none⟩ = some (.int .i64 x) := hv1.cells.1
  have k1 : W.cell? ⟨w.heap.size, 1, none⟩ = some (.int .i64 y) := hv1.cells.2.1
  have k2 : W.cell? ⟨w.heap.size, 2, none⟩ = some (.int .i64 z) := hv1.cells.2.2
  clear hW hv1 hv2 hb hs
  by_cases hg : okS (x, y, z) = true ∧ -1000 ≤ q ∧ q ≤ 1000
  · obtain ⟨g1, g2, g3⟩ := hg
    have HN := Lib.hid (nowV_yes g1 g2 g3)
    have ho := okS_iff.1 g1
    simp only at ho HN
    obtain ⟨o1, o2, o3, o4⟩ := ho
    have HG := Lib.hid g1
    have e1 : decide (q < -1000) = false := decide_eq_false (by omega)
    have e2 : decide (1000 < q) = false := decide_eq_false (by omega)
    have ez : IntKind.i64.wrap (z + q) = z + q := by rw [IntKind.wrap_i64]; omega
    have hcl : (if (if y < z + q then y else z + q) < x then x else if y < z + q then y else z + q) = nowV (x, y, z) q := by rw [HN.out]; (repeat' split) <;> omega
    have HCL := Lib.hid hcl
    clear hcl
    generalize nowV (x, y, z) q = v at *
    go_enter Try.func21, Try.ntmps21
    go_wp2_with fail
    rw [← HW.out]
    clear HW
    go_wp2_with fail
    refine (ok_spec x y z _).mono ?_
    rintro e w3 ⟨rfl, hb⟩
    rw [HG.out]
    have HV1 := Lib.hid (HV1.out.below hb)
    have HV2 := Lib.hid (HV2.out.below hb)
    have HB := Lib.hid (HB.out.trans (hb.mono HB.out.size))
    have hs3 : w.heap.size + 2 ≤ w3.heap.size := by have := hb.size; have := HS.out; omega
    clear k0 k1 k2 hb
    have k0 : w3.cell? ⟨w.heap.size, 0, none⟩ = some (.int .i64 x) := HV1.out.cells.1
    have k1 : w3.cell? ⟨w.heap.size, 1, none⟩ = some (.int .i64 y) := HV1.out.cells.2.1
    have k2 : w3.cell? ⟨w.heap.size, 2, none⟩ = some (.int .i64 z) := HV1.out.cells.2.2
    have f2 := HV1.out.free 2
    have r0 := HV2.out.free 0
    have r1 := HV2.out.free 1
    have r2 := HV2.out.free 2
    obtain ⟨p0, p1, p2⟩ := HV2.out.cells
    go_wp2_with fail
    refine (in_at q (-1000) 1000 _).mono ?_
    rintro e w4 ⟨rfl, rfl⟩
    rw [decide_eq_true (show -1000 ≤ q ∧ q ≤ 1000 from ⟨g2, g3⟩)]
    have hm : ∃ m, (if y < z + q then y else z + q) = m := ⟨_, rfl⟩
    obtain ⟨m, hm⟩ := hm
    have hcl := HCL.out
    rw [hm] at hcl
    have hm2 : (if z + q < y then z + q else y) = m := by rw [← hm]; (repeat' split) <;> omega
    have hcl2 : (if x < m then m else x) = v := by rw [← hcl]; (repeat' split) <;> omega
    clear HN
    clear p0 p1 p2
    have HV2 := Lib.hid (HV2.out.other (c := w.heap.size) (j := 2) (u := .int .i64 v) (by omega))
    have HB := Lib.hid (below_set (c := w.heap.size) (j := 2) (u := .int .i64 v) HB.out (Nat.le_refl _) (by omega))
    have hv1 := HV1.out.set2 v
    have q0 := hv1.cells.1
    have q1 := hv1.cells.2.1
    have q2 := hv1.cells.2.2
    simp only at q0 q1 q2
    have r0 := HV2.out.free 0
    have r1 := HV2.out.free 1
    have r2 := HV2.out.free 2
    obtain ⟨p0, p1, p2⟩ := HV2.out.cells
    clear hv1
    have hz := HV2.out.set3 x y v
    have c0 := hz.cells.1
    have c1 := hz.cells.2.1
    have c2 := hz.cells.2.2
    simp only at c0 c1 c2
    have HZ := Lib.hid (below_set (j := 2) (u := .int .i64 v) (below_set (j := 1) (u := .int .i64 y) (below_set (j := 0) (u := .int .i64 x) HB.out (show w.heap.size ≤ w.heap.size + 1 by omega) (by rw [size_set]; omega)) (show w.heap.size ≤ w.heap.size + 1 by omega) (by rw [size_set, size_set]; omega)) (show w.heap.size ≤ w.heap.size + 1 by omega) (by rw [size_set, size_set, size_set]; omega))
    clear hz
    go_wp2_with fail
    refine bodyPost_ret (v := .agg #[.int .i64 x, .int .i64 y, .int .i64 v]) (by simp [results, Try.results21, go_sem, c0, c1, c2]) rfl ⟨rfl, HZ.out⟩
  · have HN := Lib.hid (nowV_no hg)
    simp only at HN
    cases hok : okS (x, y, z) with
    | false =>
      have HG := Lib.hid hok
      clear hg hok
      go_enter Try.func21, Try.ntmps21
      go_wp2_with fail
      rw [← HW.out]
      clear HW
      go_wp2_with fail
      refine (ok_spec x y z _).mono ?_
      rintro e w3 ⟨rfl, hb⟩
      rw [HG.out]
      have HV1 := Lib.hid (HV1.out.below hb)
      have HV2 := Lib.hid (HV2.out.below hb)
      have HB := Lib.hid (HB.out.trans (hb.mono HB.out.size))
      have hs3 : w.heap.size + 2 ≤ w3.heap.size := by have := hb.size; have := HS.out; omega
      clear k0 k1 k2 hb
      have k0 : w3.cell? ⟨w.heap.size, 0, none⟩ = some (.int .i64 x) := HV1.out.cells.1
      have k1 : w3.cell? ⟨w.heap.size, 1, none⟩ = some (.int .i64 y) := HV1.out.cells.2.1
      have k2 : w3.cell? ⟨w.heap.size, 2, none⟩ = some (.int .i64 z) := HV1.out.cells.2.2
      have f2 := HV1.out.free 2
      have r0 := HV2.out.free 0
      have r1 := HV2.out.free 1
      have r2 := HV2.out.free 2
      obtain ⟨p0, p1, p2⟩ := HV2.out.cells
      have hz := HV2.out.set3 x y z
      have c0 := hz.cells.1
      have c1 := hz.cells.2.1
      have c2 := hz.cells.2.2
      simp only at c0 c1 c2
      have HZ := Lib.hid (below_set (j := 2) (u := .int .i64 z) (below_set (j := 1) (u := .int .i64 y) (below_set (j := 0) (u := .int .i64 x) HB.out (show w.heap.size ≤ w.heap.size + 1 by omega) (by omega)) (show w.heap.size ≤ w.heap.size + 1 by omega) (by rw [size_set]; omega)) (show w.heap.size ≤ w.heap.size + 1 by omega) (by rw [size_set, size_set]; omega))
      clear hz
      go_wp2_with fail
      refine bodyPost_ret (v := .agg #[.int .i64 x, .int .i64 y, .int .i64 z]) (by simp [results, Try.results21, go_sem, c0, c1, c2]) rfl ⟨by rw [HN.out], HZ.out⟩
    | true =>
      have HG := Lib.hid hok
      by_cases hq : -1000 ≤ q
      · have hq2 : 1000 < q := by
          rcases Int.lt_or_le 1000 q with h | h
          · exact h
          · exact absurd ⟨hok, hq, h⟩ hg
        have e1 : decide (q < -1000) = false := decide_eq_false (by omega)
        have e2 : decide (1000 < q) = true := decide_eq_true hq2
        clear hg hok
        go_enter Try.func21, Try.ntmps21
        go_wp2_with fail
        rw [← HW.out]
        clear HW
        go_wp2_with fail
        refine (ok_spec x y z _).mono ?_
        rintro e w3 ⟨rfl, hb⟩
        rw [HG.out]
        have HV1 := Lib.hid (HV1.out.below hb)
        have HV2 := Lib.hid (HV2.out.below hb)
        have HB := Lib.hid (HB.out.trans (hb.mono HB.out.size))
        have hs3 : w.heap.size + 2 ≤ w3.heap.size := by have := hb.size; have := HS.out; omega
        clear k0 k1 k2 hb
        have k0 : w3.cell? ⟨w.heap.size, 0, none⟩ = some (.int .i64 x) := HV1.out.cells.1
        have k1 : w3.cell? ⟨w.heap.size, 1, none⟩ = some (.int .i64 y) := HV1.out.cells.2.1
        have k2 : w3.cell? ⟨w.heap.size, 2, none⟩ = some (.int .i64 z) := HV1.out.cells.2.2
        have f2 := HV1.out.free 2
        have r0 := HV2.out.free 0
        have r1 := HV2.out.free 1
        have r2 := HV2.out.free 2
        obtain ⟨p0, p1, p2⟩ := HV2.out.cells
        go_wp2_with fail
        refine (in_at q (-1000) 1000 _).mono ?_
        rintro e w4 ⟨rfl, rfl⟩
        rw [decide_eq_false (show ¬ (-1000 ≤ q ∧ q ≤ 1000) from fun h => by omega)]
        have hz := HV2.out.set3 x y z
        have c0 := hz.cells.1
        have c1 := hz.cells.2.1
        have c2 := hz.cells.2.2
        simp only at c0 c1 c2
        have HZ := Lib.hid (below_set (j := 2) (u := .int .i64 z) (below_set (j := 1) (u := .int .i64 y) (below_set (j := 0) (u := .int .i64 x) HB.out (show w.heap.size ≤ w.heap.size + 1 by omega) (by omega)) (show w.heap.size ≤ w.heap.size + 1 by omega) (by rw [size_set]; omega)) (show w.heap.size ≤ w.heap.size + 1 by omega) (by rw [size_set, size_set]; omega))
        clear hz
        go_wp2_with fail
        refine bodyPost_ret (v := .agg #[.int .i64 x, .int .i64 y, .int .i64 z]) (by simp [results, Try.results21, go_sem, c0, c1, c2]) rfl ⟨by rw [HN.out], HZ.out⟩
      · have e1 : decide (q < -1000) = true := decide_eq_true (by omega)
        clear hg hok
        go_enter Try.func21, Try.ntmps21
        go_wp2_with fail
        rw [← HW.out]
        clear HW
        go_wp2_with fail
        refine (ok_spec x y z _).mono ?_
        rintro e w3 ⟨rfl, hb⟩
        rw [HG.out]
        have HV1 := Lib.hid (HV1.out.below hb)
        have HV2 := Lib.hid (HV2.out.below hb)
        have HB := Lib.hid (HB.out.trans (hb.mono HB.out.size))
        have hs3 : w.heap.size + 2 ≤ w3.heap.size := by have := hb.size; have := HS.out; omega
        clear k0 k1 k2 hb
        have k0 : w3.cell? ⟨w.heap.size, 0, none⟩ = some (.int .i64 x) := HV1.out.cells.1
        have k1 : w3.cell? ⟨w.heap.size, 1, none⟩ = some (.int .i64 y) := HV1.out.cells.2.1
        have k2 : w3.cell? ⟨w.heap.size, 2, none⟩ = some (.int .i64 z) := HV1.out.cells.2.2
        have f2 := HV1.out.free 2
        have r0 := HV2.out.free 0
        have r1 := HV2.out.free 1
        have r2 := HV2.out.free 2
        obtain ⟨p0, p1, p2⟩ := HV2.out.cells
        go_wp2_with fail
        refine (in_at q (-1000) 1000 _).mono ?_
        rintro e w4 ⟨rfl, rfl⟩
        rw [decide_eq_false (show ¬ (-1000 ≤ q ∧ q ≤ 1000) from fun h => by omega)]
        have hz := HV2.out.set3 x y z
        have c0 := hz.cells.1
        have c1 := hz.cells.2.1
        have c2 := hz.cells.2.2
        simp only at c0 c1 c2
        have HZ := Lib.hid (below_set (j := 2) (u := .int .i64 z) (below_set (j := 1) (u := .int .i64 y) (below_set (j := 0) (u := .int .i64 x) HB.out (show w.heap.size ≤ w.heap.size + 1 by omega) (by omega)) (show w.heap.size ≤ w.heap.size + 1 by omega) (by rw [size_set]; omega)) (show w.heap.size ≤ w.heap.size + 1 by omega) (by rw [size_set, size_set]; omega))
        clear hz
        go_wp2_with fail
        refine bodyPost_ret (v := .agg #[.int .i64 x, .int .i64 y, .int .i64 z]) (by simp [results, Try.results21, go_sem, c0, c1, c2]) rfl ⟨by rw [HN.out], HZ.out⟩
end Go.Proofs.Ytmjknjgfcngacaa.Slide
