/- What spec.l05Copy returns of a card without strips; what impl.copyCard returns. -/
import Derived.Test.YtekmladindlmoaaCardCopy
namespace Go.Proofs.Ytekmladindlmoaa.Card
open Go.ChangeShapes Go.WideShapes Go.ChangeAt Go.RowKit
open Go.Proofs.Ytekmladindlmoaa.Strip Go.Proofs.Ytekmladindlmoaa.Strs
set_option linter.unusedVariables false

theorem drew3 {w : World} {p q r : Addr} {u v x : Value} (h : w.cell? p = some u ∧ w.cell? q = some v ∧ w.cell? r = some x) : w.drew.cell? p = some u ∧ w.drew.cell? q = some v ∧ w.drew.cell? r = some x := h

set_option maxRecDepth 100000 in
set_option maxHeartbeats 1000000 in
theorem copy_spec_nil (d f : Int) (c : Nat) (w : World) :
    Calls Try.prog 60 #[.agg #[.int .i64 d, .int .i64 f, .slice none 0 c]] w (Gave w d f []) := by
  obtain ⟨W, hW, hv1, hv2, hb, hs⟩ := begin2 w d f (.slice none 0 c)
  have HV1 := Lib.hid hv1
  have HV2 := Lib.hid hv2
  have HB := Lib.hid hb
  have HS := Lib.hid hs
  clear hv1 hv2 hb hs
  have HW := Lib.hid hW; clear hW
  go_enter Try.func60, Try.ntmps60
  go_wp2_with fail
  rw [← HW.out]
  clear HW
  have HNE := Lib.hid (show w.heap.size ≠ w.heap.size + 1 ∧ w.heap.size + 1 < W.heap.size ∧ w.heap.size < W.heap.size by have := HS.out; omega)
  generalize hB1 : w.heap.size + 1 = B1 at *
  generalize hB0 : w.heap.size = B0 at *
  obtain ⟨k0, k1, k2⟩ := HV1.out.cells
  obtain ⟨m0, m1, m2⟩ := HV2.out.cells
  have f0 := HV2.out.free 0
  have f1 := HV2.out.free 1
  have f2 := HV2.out.free 2
  have ha := alloc_below W (.cells #[] 9)
  have hq := HV1.out.below ha
  have HQ := Lib.hid hq
  obtain ⟨q0, q1, q2⟩ := hq.cells
  have hv := HV2.out.below ha
  have HX := Lib.hid hv
  obtain ⟨p0, p1, p2⟩ := hv.cells
  have z0 := hv.free 0
  have z1 := hv.free 1
  have z2 := hv.free 2
  have hkk := (Var.other3 (d2 := d) (f2 := f) (u := .slice (some ⟨W.heap.size, 0, none⟩) 0 0) HQ.out HNE.out.1).cells
  unfold set3 at hkk
  have HK := Lib.hid hkk
  clear hv hkk
  have HA := Lib.hid (World.ownsRow_made (base := W.heap.size) (e := 9) (size := 1) W #[] 0 (Nat.le_refl _) (by unfold maxLen; omega) rfl)
  have hb1 : Below B0 w (W.alloc (.cells #[] 9)) := HB.out.alloc (by have := HNE.out; omega) _
  have ho1 : Own (W.alloc (.cells #[] 9)) W.heap.size (.slice (some ⟨W.heap.size, 0, none⟩) 0 0) [] := HA.out
  obtain ⟨hz, hbz, hoz⟩ := gave_end (d := d) (f := f) hb1 HX.out (by have := HNE.out; omega) ho1 HNE.out.2.1 (by have := HNE.out; omega)
  unfold set3 at hz hbz hoz
  have HZ := Lib.hid hz
  have HBZ := Lib.hid hbz
  have HOZ := Lib.hid hoz
  clear hz hbz hoz hb1 ho1 ha
  go_region_held3 (fun w' => w'.cell? ⟨B0, 0, none⟩ = some (.int .i64 d) ∧ w'.cell? ⟨B0, 1, none⟩ = some (.int .i64 f) ∧ w'.cell? ⟨B0, 2, none⟩ = some (.slice none 0 c))
    (first | exact ⟨k0, k1, k2⟩ | exact ⟨q0, q1, q2⟩ | exact drew3 ⟨q0, q1, q2⟩ | exact drew3 HK.out | exact HK.out | go_keep) (fail)
  go_wp2
  clear k0 k1 k2 m0 m1 m2 f0 f1 f2 q0 q1 q2 p0 p1 p2 z0 z1 z2 HK HX HQ HA
  generalize ((((W.alloc (.cells #[] 9)).setCell ⟨B1, 0, none⟩ (.int .i64 d)).setCell ⟨B1, 1, none⟩ (.int .i64 f)).setCell ⟨B1, 2, none⟩ (.slice (some ⟨W.heap.size, 0, none⟩) 0 0)) = Z at *
  obtain ⟨z0, z1, z2⟩ := HZ.out.cells
  refine bodyPost_ret (v := .agg #[.int .i64 d, .int .i64 f, .slice (some ⟨W.heap.size, 0, none⟩) 0 0]) (by simp [results, Try.results60, go_sem, z0, z1, z2]) rfl ?_
  unfold Gave
  rw [hB0]
  first | exact ⟨_, 0, rfl, HBZ.out, HOZ.out⟩ | exact ⟨_, 0, rfl, HBZ.out.drew, HOZ.out⟩

set_option maxRecDepth 100000 in
set_option maxHeartbeats 1000000 in
theorem copy_spec_zero (d f : Int) (g : Nat) (c : Nat) (w : World) :
    Calls Try.prog 60 #[.agg #[.int .i64 d, .int .i64 f, .slice (some ⟨g, 0, none⟩) 0 c]] w (Gave w d f []) := by
  obtain ⟨W, hW, hv1, hv2, hb, hs⟩ := begin2 w d f (.slice (some ⟨g, 0, none⟩) 0 c)
  have HV1 := Lib.hid hv1
  have HV2 := Lib.hid hv2
  have HB := Lib.hid hb
  have HS := Lib.hid hs
  clear hv1 hv2 hb hs
  have HW := Lib.hid hW; clear hW
  go_enter Try.func60, Try.ntmps60
  go_wp2_with fail
  rw [← HW.out]
  clear HW
  have HNE := Lib.hid (show w.heap.size ≠ w.heap.size + 1 ∧ w.heap.size + 1 < W.heap.size ∧ w.heap.size < W.heap.size by have := HS.out; omega)
  generalize hB1 : w.heap.size + 1 = B1 at *
  generalize hB0 : w.heap.size = B0 at *
  obtain ⟨k0, k1, k2⟩ := HV1.out.cells
  obtain ⟨m0, m1, m2⟩ := HV2.out.cells
  have f0 := HV2.out.free 0
  have f1 := HV2.out.free 1
  have f2 := HV2.out.free 2
  have ha := alloc_below W (.cells #[] 9)
  have hq := HV1.out.below ha
  have HQ := Lib.hid hq
  obtain ⟨q0, q1, q2⟩ := hq.cells
  have hv := HV2.out.below ha
  have HX := Lib.hid hv
  obtain ⟨p0, p1, p2⟩ := hv.cells
  have z0 := hv.free 0
  have z1 := hv.free 1
  have z2 := hv.free 2
  have hkk := (Var.other3 (d2 := d) (f2 := f) (u := .slice (some ⟨W.heap.size, 0, none⟩) 0 0) HQ.out HNE.out.1).cells
  unfold set3 at hkk
  have HK := Lib.hid hkk
  clear hv hkk
  have HA := Lib.hid (World.ownsRow_made (base := W.heap.size) (e := 9) (size := 1) W #[] 0 (Nat.le_refl _) (by unfold maxLen; omega) rfl)
  have hb1 : Below B0 w (W.alloc (.cells #[] 9)) := HB.out.alloc (by have := HNE.out; omega) _
  have ho1 : Own (W.alloc (.cells #[] 9)) W.heap.size (.slice (some ⟨W.heap.size, 0, none⟩) 0 0) [] := HA.out
  obtain ⟨hz, hbz, hoz⟩ := gave_end (d := d) (f := f) hb1 HX.out (by have := HNE.out; omega) ho1 HNE.out.2.1 (by have := HNE.out; omega)
  unfold set3 at hz hbz hoz
  have HZ := Lib.hid hz
  have HBZ := Lib.hid hbz
  have HOZ := Lib.hid hoz
  clear hz hbz hoz hb1 ho1 ha
  go_region_held3 (fun w' => w'.cell? ⟨B0, 0, none⟩ = some (.int .i64 d) ∧ w'.cell? ⟨B0, 1, none⟩ = some (.int .i64 f) ∧ w'.cell? ⟨B0, 2, none⟩ = some (.slice (some ⟨g, 0, none⟩) 0 c))
    (first | exact ⟨k0, k1, k2⟩ | exact ⟨q0, q1, q2⟩ | exact drew3 ⟨q0, q1, q2⟩ | exact drew3 HK.out | exact HK.out | go_keep) (fail)
  go_wp2
  clear k0 k1 k2 m0 m1 m2 f0 f1 f2 q0 q1 q2 p0 p1 p2 z0 z1 z2 HK HX HQ HA
  generalize ((((W.alloc (.cells #[] 9)).setCell ⟨B1, 0, none⟩ (.int .i64 d)).setCell ⟨B1, 1, none⟩ (.int .i64 f)).setCell ⟨B1, 2, none⟩ (.slice (some ⟨W.heap.size, 0, none⟩) 0 0)) = Z at *
  obtain ⟨z0, z1, z2⟩ := HZ.out.cells
  refine bodyPost_ret (v := .agg #[.int .i64 d, .int .i64 f, .slice (some ⟨W.heap.size, 0, none⟩) 0 0]) (by simp [results, Try.results60, go_sem, z0, z1, z2]) rfl ?_
  unfold Gave
  rw [hB0]
  first | exact ⟨_, 0, rfl, HBZ.out, HOZ.out⟩ | exact ⟨_, 0, rfl, HBZ.out.drew, HOZ.out⟩

theorem copy_spec (d f : Int) (base n c : Nat) (a : Option Addr) (l : List ByteArray) (w : World) (hn : n ≤ 1048576) (h : Own w base (.slice a n c) l) :
    Calls Try.prog 60 #[.agg #[.int .i64 d, .int .i64 f, .slice a n c]] w (Gave w d f l) := by
  have hl := h.row2.1
  by_cases h0 : n = 0
  · subst h0
    have hl0 := List.eq_nil_of_length_eq_zero hl.symm
    subst hl0
    rcases h.shape with ⟨rfl, _, _⟩ | ⟨g, rfl⟩
    · exact copy_spec_nil d f c w
    · exact copy_spec_zero d f g c w
  · rcases h.shape with ⟨rfl, _, rfl⟩ | ⟨g, rfl⟩
    · exact absurd (by simpa using hl) h0
    · exact copy_spec_some d f g n c l w hl.symm hn (by omega) h.row2.2
end Go.Proofs.Ytekmladindlmoaa.Card
