/- What spec.l05Copy and impl.copyCard return. -/
import Derived.Test.YtekmladindlmoaaCardImpl2
import Derived.Deep.RegionLaw
namespace Go.Proofs.Ytekmladindlmoaa.Card
open Go.ChangeShapes Go.WideShapes Go.ChangeAt Go.RowKit
open Go.Proofs.Ytekmladindlmoaa.Strip Go.Proofs.Ytekmladindlmoaa.Strs
set_option linter.unusedVariables false

/-- The two blocks with which a function of one card begins: its argument's and its result's. -/
theorem begin2 (w : World) (d f : Int) (v : Value) : ∃ W, W = (w.alloc (.cells #[.int .i64 d, .int .i64 f, v] 26)).alloc (.cells #[.int .i64 0, .int .i64 0, .slice none 0 0] 26) ∧ Var W w.heap.size d f v ∧ Var W (w.heap.size + 1) 0 0 (.slice none 0 0) ∧ Below w.heap.size w W ∧ W.heap.size = w.heap.size + 1 + 1 := by
  refine ⟨_, rfl, (Var.new w d f v).below (alloc_below _ _), ?_, ((Below.refl _ _).alloc (Nat.le_refl _) _).alloc (by simp) _, by simp⟩
  have h := Var.new (w.alloc (.cells #[.int .i64 d, .int .i64 f, v] 26)) 0 0 (.slice none 0 0)
  rwa [show (w.alloc (.cells #[.int .i64 d, .int .i64 f, v] 26)).heap.size = w.heap.size + 1 by simp] at h

theorem var_after {W w1 : World} {o : Obj} {row : Option Nat} {b : Nat} {d f : Int} {v : Value} (h : Var W b d f v) (hg : (W.alloc o).drew.grownBy w1 row) (hne : some b ≠ row) : Var w1 b d f v :=
  Var.grown (w := (W.alloc o).drew) (h.below (alloc_below _ _).drew) hg hne

set_option maxRecDepth 100000 in
set_option maxHeartbeats 1000000 in
theorem copy_spec_some (d f : Int) (g n : Nat) (c : Nat) (l : List ByteArray) (w : World) (hl : l.length = n) (hn : n ≤ 1048576) (h0 : 0 < n) (hr : Row w (some ⟨g, 0, none⟩) l) :
    Calls Try.prog 60 #[.agg #[.int .i64 d, .int .i64 f, .slice (some ⟨g, 0, none⟩) n c]] w (Gave w d f l) := by
  obtain ⟨i0, hi, hz0, hz1, hz2⟩ := info_parts info_str16
  obtain ⟨W, hW, hv1, hv2, hb, hs⟩ := begin2 w d f (.slice (some ⟨g, 0, none⟩) n c)
  have HR := Lib.hid (hr.since (Nat.le_refl _) hb)
  have HV1 := Lib.hid hv1
  have HV2 := Lib.hid hv2
  have HB := Lib.hid hb
  have HS := Lib.hid hs
  have HL := Lib.hid (show (scells l).length = n * 1 by rw [scells_length, hl, Nat.mul_one])
  have HO := Lib.hid (scells_one l)
  have HN := Lib.hid hl
  clear hr hv1 hv2 hb hs hl
  have HW := Lib.hid hW; clear hW
  go_enter Try.func60, Try.ntmps60
  go_wp2_with fail
  rw [← HW.out]
  clear HW
  have HNE := Lib.hid (show w.heap.size ≠ w.heap.size + 1 ∧ w.heap.size + 1 < W.heap.size ∧ w.heap.size < W.heap.size by have := HS.out; omega)
  generalize hB1 : w.heap.size + 1 = B1 at *
  generalize hB0 : w.heap.size = B0 at *
  obtain ⟨k0, k1, k2⟩ := HV1.out.cells
  obtain ⟨m0, m1, m2⟩ := HV2.out.cells
  have f0 := HV2.out.free 0
  have f1 := HV2.out.free 1
  have f2 := HV2.out.free 2
  have HMADE := Lib.hid (World.ownsRow_made (base := W.heap.size) (e := 9) (size := 1) W #[] 0 (Nat.le_refl _) (by unfold maxLen; omega) rfl)
  go_region_held3 (fun w' => w'.cell? ⟨B0, 0, none⟩ = some (.int .i64 d) ∧ w'.cell? ⟨B0, 1, none⟩ = some (.int .i64 f) ∧ w'.cell? ⟨B0, 2, none⟩ = some (.slice (some ⟨g, 0, none⟩) n c))
    (first | go_keep | exact ⟨q0, q1, q2⟩ | exact (Var.other3 HQ.out HNE.out.1).cells)
    ((refine step_append_lies _ (by rfl) _ _ _ (by rfl) W.heap.size 9 i0 _ 1 16 Try.underlying24 hi hz0 hz1 hz2 rfl (by omega) _ 0 [] (by rfl) HMADE.out.drew ⟨g, 0, none⟩ n c (scells l) (by rfl) HL.out (row_news (HR.out.below (alloc_below _ _).drew)) HO.out h0 (by unfold maxLen; omega) (by omega) (by simp) _ (by rfl) ?_; intro gg cap w1 hown1 hgrow hat hlt; have hq := var_after HV1.out hgrow (by have := HNE.out; simp [Value.ownBlock]; omega); obtain ⟨q0, q1, q2⟩ := hq.cells; have HQ := Lib.hid hq; clear hq; have hv1 := var_after HV2.out hgrow (by have := HNE.out; simp [Value.ownBlock]; omega); have HX := Lib.hid hv1; obtain ⟨p0, p1, p2⟩ := hv1.cells; have z0 := hv1.free 0; have z1 := hv1.free 1; have z2 := hv1.free 2; clear hv1))
  have hb1 : Below B0 w w1 := ((HB.out.alloc (by have := HNE.out; omega) _).drew).grown hgrow (by have := HNE.out; simp; omega) (fun j e => by have := HNE.out; simp [Value.ownBlock] at e; omega)
  have ho1 : Own w1 W.heap.size (.slice (some ⟨gg, 0, none⟩) n cap) l := by
    unfold Own
    rw [HN.out]
    simpa using hown1
  obtain ⟨hz, hbz, hoz⟩ := gave_end (d := d) (f := f) hb1 HX.out (by have := HNE.out; omega) ho1 HNE.out.2.1 (by have := HNE.out; omega)
  unfold set3 at hz hbz hoz
  go_wp2
  clear q0 q1 q2 p0 p1 p2 z0 z1 z2 f0 f1 f2 k0 k1 k2 m0 m1 m2
  generalize (((w1.setCell ⟨B1, 0, none⟩ (.int .i64 d)).setCell ⟨B1, 1, none⟩ (.int .i64 f)).setCell ⟨B1, 2, none⟩ (.slice (some ⟨gg, 0, none⟩) n cap)) = Z at *
  obtain ⟨z0, z1, z2⟩ := hz.cells
  refine bodyPost_ret (v := .agg #[.int .i64 d, .int .i64 f, .slice (some ⟨gg, 0, none⟩) n cap]) (by simp [results, Try.results60, go_sem, z0, z1, z2]) rfl ?_
  unfold Gave
  rw [HN.out, hB0]
  exact ⟨_, cap, rfl, hbz, hoz⟩
end Go.Proofs.Ytekmladindlmoaa.Card
