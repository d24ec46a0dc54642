/- What impl.SymmetrizeCard returns (printed by wip/gen_symm.py). -/
import Derived.Test.YtoampghmikamlaaSymmDef
import Derived.Test.YtoampghmikamlaaMirImpl
import Derived.Test.YtoampghmikamlaaOrderUcImpl
import Derived.Deep.DeepCutAuto
namespace Go.Proofs.Ytoampghmikamlaa.Turn
open Go.ChangeShapes Go.WideShapes Go.ChangeAt Go.RowKit Go.Sort
open Go.Proofs.Ytoampghmikamlaa.Strip Go.Proofs.Ytoampghmikamlaa.Strs Go.Proofs.Ytoampghmikamlaa.Card Go.Proofs.Ytoampghmikamlaa.Order
set_option linter.unusedVariables false

set_option maxRecDepth 100000 in
set_option maxHeartbeats 16000000 in
theorem symm_impl (d f : Int) (base n c : Nat) (a : Option Addr) (l : List ByteArray) (w : World) (hn : n ≤ 1048576) (hz : ∀ s ∈ l, s.size ≤ 1048576) (ha : Own w base (.slice a n c) l) :
    Calls Try.prog 15 #[.agg #[.int .i64 d, .int .i64 f, .slice a n c]] w (SymmPost w d f l) := by
  have hl : l.length = n := ha.row2.1.symm
  obtain ⟨W, hW, hv1, hv2, hbw, hs⟩ := begin2 w d f (.slice a n c)
  have hoW : Own W base (.slice a n c) l := by rw [hW]; exact (ha.below (alloc_below _ _)).below (alloc_below _ _)
  have hml : (whenL (cardB d f l) l.reverse).length ≤ 1048576 := by have h := whenL_size (cardB d f l) l.reverse; rw [List.length_reverse] at h; omega
  have hsp := fun (w' : World) (h : Below W.heap.size W w') (base2 : Nat) (a2 : Option Addr) (c2 : Nat) (ho : Own w' base2 (.slice a2 (whenL (cardB d f l) l.reverse).length c2) (whenL (cardB d f l) l.reverse)) =>
    (upperC_impl d f (whenI (cardB d f l) d) (whenI (cardB d f l) f) base base2 n (whenL (cardB d f l) l.reverse).length c c2 a a2 l (whenL (cardB d f l) l.reverse) w' hn hml hz (fun s hs => hz s (whenL_mem hs)) (hoW.below h) ho).mono fun _ _ hh => both_gave hh
  have hmi := fun (w' : World) (h : Below W.heap.size W w') => mirC_impl d f base n c a l w' hn hz (hoW.below h)
  unfold MirrorPost GaveIf at hmi
  unfold SymmPost GaveIf
  generalize whenI (cardB d f l) d = D at *
  generalize whenI (cardB d f l) f = E at *
  generalize whenL (cardB d f l) l.reverse = M at *
  generalize whenL (cardB d f l) (symL l) = L at *
  generalize cardB d f l = ok at *
  have HSP := Lib.hid hsp
  have HMI := Lib.hid hmi
  have HV2 := Lib.hid hv2
  have HB := Lib.hid hbw
  have HS := Lib.hid hs
  have HW := Lib.hid hW
  have S0 : W.cell? ⟨w.heap.size, 0, none⟩ = some (.int .i64 d) ∧ W.cell? ⟨w.heap.size, 1, none⟩ = some (.int .i64 f) ∧ W.cell? ⟨w.heap.size, 2, none⟩ = some (.slice a n c) ∧ Below W.heap.size W W := ⟨hv1.cells.1, hv1.cells.2.1, hv1.cells.2.2, Below.refl _ _⟩
  clear hsp hmi hv1 hv2 hbw hs hW hoW ha hz hml hl
  go_enter Try.func15, Try.ntmps15
  go_upto_region 1 with (fail)
  rw [← HW.out]
  clear HW
  go_cut [3, 4] (fun s3 s4 wx => ∃ (b3 : Nat) (aw : Option Addr) (cw : Nat), s3 = .pointer (some ⟨b3, 0, none⟩) ∧ s4 = .bool ok ∧ Hid (Var wx b3 D E (.slice aw L.length cw)) ∧ Hid (Own wx W.heap.size (.slice aw L.length cw) L) ∧ Hid (Below W.heap.size W wx) ∧ W.heap.size ≤ b3)
  case first =>
    go_region_held3 (fun w' => w'.cell? ⟨w.heap.size, 0, none⟩ = some (.int .i64 d) ∧ w'.cell? ⟨w.heap.size, 1, none⟩ = some (.int .i64 f) ∧ w'.cell? ⟨w.heap.size, 2, none⟩ = some (.slice a n c) ∧ Below W.heap.size W w')
      (first | with_reducible exact S0 | with_reducible exact th_drew S0 | with_reducible exact th_next (by assumption) hb | with_reducible exact th_drew (by assumption) | with_reducible assumption | with_reducible exact th_next (by assumption) (alloc_below _ _) | with_reducible exact th_of S0 (HWZ.out.alloc HWZ.out.size _) | with_reducible exact th_of S0 (((HWZ.out.setCell (by first | exact HWZ.out.size | exact hby.size | exact Nat.le_refl _ | (simp; done) | omega) _).setCell (by first | exact HWZ.out.size | exact hby.size | exact Nat.le_refl _ | (simp; done) | omega) _).setCell (by first | exact HWZ.out.size | exact hby.size | exact Nat.le_refl _ | (simp; done) | omega) _))
      ((first | (go_at_call 14; refine (HMI.out _ (th_below (by assumption))).mono ?_; rintro e wy ⟨at_, ct_, rfl, hb, hoy⟩; have hby : Below W.heap.size W wy := Below.trans (th_below (by assumption)) (hb.mono (Below.size (th_below (by assumption)))); have OY := Lib.hid hoy; clear hoy; (first | (have HV := Lib.hid (HV.out.below hb)) | (have hv0 := Var.below (Var.new _ 0 0 (.slice none 0 0)) hb; have HV := Lib.hid hv0; clear hv0) | (have hv0 := Var.below (w := (W.alloc (.cells #[.int .i64 0, .int .i64 0, .slice none 0 0] 26)).drew) (b := W.heap.size) (Var.new W 0 0 (.slice none 0 0)) hb; have HV := Lib.hid hv0; clear hv0) | skip)) | (go_at_call 42; refine (HSP.out _ (th_below (by assumption)) _ _ _ (by first | exact OY.out | exact OY.out.below (alloc_below _ _))).mono ?_; rintro e wz ⟨aw, cw, rfl, hb, how⟩; have hbz : Below W.heap.size W wz := Below.trans (th_below (by assumption)) (hb.mono (Below.size (th_below (by assumption)))); have HWZ := Lib.hid hbz; have OW := Lib.hid (how.mono (base2 := W.heap.size) (Below.size (th_below (by assumption)))); clear how; (first | (have HV := Lib.hid (HV.out.below hb)) | (have hv0 := Var.below (Var.new _ 0 0 (.slice none 0 0)) hb; have HV := Lib.hid hv0; clear hv0) | (have hv0 := Var.below (w := (W.alloc (.cells #[.int .i64 0, .int .i64 0, .slice none 0 0] 26)).drew) (b := W.heap.size) (Var.new W 0 0 (.slice none 0 0)) hb; have HV := Lib.hid hv0; clear hv0) | skip); (first | (have hv_0 := HV.out.cells.1; have hv_1 := HV.out.cells.2.1; have hv_2 := HV.out.cells.2.2; have fv_0 := HV.out.free 0; have fv_1 := HV.out.free 1; have fv_2 := HV.out.free 2) | skip))))
    all_goals
      go_wp2_with fail
      go_meet
      refine ⟨_, aw, cw, rfl, rfl, ?_, ?_, ?_, ?_⟩
      · first | exact Lib.hid (Var.new wz D E (.slice aw L.length cw)) | exact Lib.hid (HV.out.set3 D E (.slice aw L.length cw))
      · first | exact Lib.hid (OW.out.below (alloc_below _ _)) | exact Lib.hid (Own.aside3 OW.out HV.out)
      · first | exact Lib.hid (HWZ.out.alloc HWZ.out.size _) | exact Lib.hid (below_set3 HWZ.out (by first | exact HWZ.out.size | exact hby.size | exact Nat.le_refl _ | (simp; done) | omega))
      · first | exact HWZ.out.size | exact hby.size | exact Nat.le_refl _ | (simp; done) | omega
  case rest =>
    obtain ⟨bw, aw, cw, rfl, rfl, VW, OW, HBW, hnw⟩ := hcut
    clear S0 HSP HMI
    generalize wc = w4 at *
    have V2 := Lib.hid (HV2.out.below HBW.out)
    have HB4 := Lib.hid (HB.out.trans (HBW.out.mono HB.out.size))
    have O4 := Lib.hid (OW.out.mono (base2 := w.heap.size) HB.out.size)
    clear HV2 HBW OW
    have hx : ∃ Z, Z = Card.set3 w4 (w.heap.size + 1) D E (.slice aw L.length cw) ∧ Var Z (w.heap.size + 1) D E (.slice aw L.length cw) ∧ Below w.heap.size w Z ∧ Own Z w.heap.size (.slice aw L.length cw) L := ⟨_, rfl, gave_last HB4.out V2.out (by omega) O4.out (Nat.le_refl _)⟩
    obtain ⟨Z, hZ, hz1, hz2, hz3⟩ := hx
    unfold set3 at hZ
    obtain ⟨o0, o1, o2⟩ := VW.out.cells
    obtain ⟨p0, p1, p2⟩ := V2.out.cells
    have f0 := V2.out.free 0
    have f1 := V2.out.free 1
    have f2 := V2.out.free 2
    have HZZ := Lib.hid hZ
    have HZ1 := Lib.hid hz1
    have HZ2 := Lib.hid hz2
    have HZ3 := Lib.hid hz3
    clear hZ hz1 hz2 hz3
    go_wp2_with fail
    rw [← HZZ.out]
    clear HZZ o0 o1 o2 p0 p1 p2 f0 f1 f2
    obtain ⟨z0, z1, z2⟩ := HZ1.out.cells
    refine bodyPost_ret (v := .agg #[.int .i64 D, .int .i64 E, .slice aw L.length cw]) (by simp [results, Try.results15, go_sem, z0, z1, z2]) rfl ?_
    exact ⟨_, cw, rfl, HZ2.out, HZ3.out⟩
end Go.Proofs.Ytoampghmikamlaa.Turn
