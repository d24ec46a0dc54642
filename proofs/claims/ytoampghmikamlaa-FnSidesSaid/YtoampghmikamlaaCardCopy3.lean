/- What slices.Clone and impl.copyCard return. -/
import Derived.Test.YtoampghmikamlaaCardCopy2
import Derived.Test.YtoampghmikamlaaKit
namespace Go.Proofs.Ytoampghmikamlaa.Card
open Go.ChangeShapes Go.WideShapes Go.ChangeAt Go.RowKit
open Go.Proofs.Ytoampghmikamlaa.Strip Go.Proofs.Ytoampghmikamlaa.Strs
set_option linter.unusedVariables false

/-- What a function of rows of strings returned: a row of memory of its own. -/
def GaveRow (w : World) (l : List ByteArray) (e : Ending) (w' : World) : Prop :=
  ∃ a c, e = .returned (.slice a l.length c) ∧ Below w.heap.size w w' ∧ Own w' w.heap.size (.slice a l.length c) l

theorem gaveRow_of {w w' : World} {l : List ByteArray} {v : Value} {e : Ending} (he : e = .returned v) (ho : Own w' w.heap.size v l) (hb : Below w.heap.size w w') : GaveRow w l e w' := by
  obtain ⟨a, c, rfl, _, _⟩ := ho.row
  exact ⟨a, c, he, hb, ho⟩

theorem undrew {W w1 : World} (h : Below W.drew.heap.size W.drew w1) : Below W.heap.size W w1 := ((Below.refl W.heap.size W).drew).trans h

theorem clone_any (base n c : Nat) (a : Option Addr) (l : List ByteArray) (w : World) (hn : n ≤ 1048576) (h : Own w base (.slice a n c) l) :
    Calls Try.prog 64 #[.slice a n c] w (GaveRow w l) := by
  have hl := h.row2.1
  rcases h.shape with ⟨rfl, _, rfl⟩ | ⟨g, rfl⟩
  · have h0 : n = 0 := by simpa using hl
    subst h0
    refine (Try.slices_Clone_string_nil 0 c w).mono ?_
    rintro e w' ⟨rfl, rfl⟩
    exact ⟨none, 0, rfl, Below.refl _ _, Own.nil _ _⟩
  · by_cases h0 : n = 0
    · subst h0
      have hl0 := List.eq_nil_of_length_eq_zero hl.symm
      subst hl0
      refine (Try.slices_Clone_string_zero ⟨g, 0, none⟩ c w).mono ?_
      rintro e w' ⟨v, rfl, ho, _, hb⟩
      exact gaveRow_of rfl ho hb
    · refine (Try.slices_Clone_string g 0 n c l w (by omega) (by omega) (fun j hj => ?_)).mono ?_
      · obtain ⟨g', e, _, hc⟩ := h.row2.2 j hj
        cases e
        rw [Nat.zero_add, hc]
        simp [List.getD, hj]
      · rintro e w' ⟨v, rfl, ho, _, hb⟩
        refine gaveRow_of rfl ?_ hb
        rw [List.take_of_length_le (by omega)] at ho
        unfold Own
        rw [← hl]
        exact ho

set_option maxRecDepth 100000 in
set_option maxHeartbeats 1000000 in
theorem copy_impl (d f : Int) (base n c : Nat) (a : Option Addr) (l : List ByteArray) (w : World) (hn : n ≤ 1048576) (h : Own w base (.slice a n c) l) :
    Calls Try.prog 81 #[.agg #[.int .i64 d, .int .i64 f, .slice a n c]] w (Gave w d f l) := by
  obtain ⟨W, hW, hv1, hv2, hb, hs⟩ := begin2 w d f (.slice a n c)
  have HV1 := Lib.hid hv1
  have HV2 := Lib.hid hv2
  have HB := Lib.hid hb
  have HS := Lib.hid hs
  have hoW : Own W base (.slice a n c) l := by rw [hW]; exact (h.below (alloc_below _ _)).below (alloc_below _ _)
  have HC := Lib.hid (fun (w' : World) (hb : Below W.heap.size W w') => clone_any base n c a l w' hn (hoW.below hb))
  clear hv1 hv2 hb hs h hoW
  have HW := Lib.hid hW; clear hW
  go_enter Try.func81, Try.ntmps81
  go_wp2_with fail
  rw [← HW.out]
  clear HW
  have HNE := Lib.hid (show w.heap.size ≠ w.heap.size + 1 ∧ w.heap.size + 1 < W.heap.size ∧ w.heap.size < W.heap.size by have := HS.out; omega)
  generalize hB1 : w.heap.size + 1 = B1 at *
  generalize hB0 : w.heap.size = B0 at *
  obtain ⟨k0, k1, k2⟩ := HV1.out.cells
  go_region_held3 (fun w' => w'.cell? ⟨B0, 0, none⟩ = some (.int .i64 d) ∧ w'.cell? ⟨B0, 1, none⟩ = some (.int .i64 f) ∧ w'.cell? ⟨B0, 2, none⟩ = some (.slice a n c))
    (first | exact ⟨k0, k1, k2⟩ | exact ⟨q0, q1, q2⟩ | exact drew3 ⟨q0, q1, q2⟩ | exact (Var.other3 HQ.out HNE.out.1).cells | go_keep)
    ((go_at_call 64; refine (HC.out _ (Below.refl _ _).drew).mono ?_; rintro e w1 ⟨a1, c1, rfl, hbd, hoc⟩; have hbc := undrew hbd; have hq := HV1.out.below (w' := w1) hbc; have HQ := Lib.hid hq; obtain ⟨q0, q1, q2⟩ := hq.cells; have hv := HV2.out.below (w' := w1) hbc; have HX := Lib.hid hv; obtain ⟨p0, p1, p2⟩ := hv.cells; have z0 := hv.free 0; have z1 := hv.free 1; have z2 := hv.free 2; have HBC := Lib.hid hbc; have HOC := Lib.hid hoc; clear hv hq hbc hbd hoc))
  have hb1 : Below B0 w w1 := HB.out.trans ((show Below W.heap.size W w1 from HBC.out).mono (by have := HNE.out; omega))
  have ho1 : Own w1 W.heap.size (.slice a1 l.length c1) l := HOC.out
  obtain ⟨hz, hbz, hoz⟩ := gave_end (d := d) (f := f) hb1 HX.out (by have := HNE.out; omega) ho1 HNE.out.2.1 (by have := HNE.out; omega)
  unfold set3 at hz hbz hoz
  go_wp2
  clear q0 q1 q2 p0 p1 p2 z0 z1 z2 k0 k1 k2
  generalize (((w1.setCell ⟨B1, 0, none⟩ (.int .i64 d)).setCell ⟨B1, 1, none⟩ (.int .i64 f)).setCell ⟨B1, 2, none⟩ (.slice a1 l.length c1)) = Z at *
  obtain ⟨z0, z1, z2⟩ := hz.cells
  refine bodyPost_ret (v := .agg #[.int .i64 d, .int .i64 f, .slice a1 l.length c1]) (by simp [results, Try.results81, go_sem, z0, z1, z2]) rfl ?_
  unfold Gave
  rw [hB0]
  exact ⟨_, c1, rfl, hbz, hoz⟩
end Go.Proofs.Ytoampghmikamlaa.Card
