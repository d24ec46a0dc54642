/- What the program of chapter 8 returns: combineCards of two cards, with UpperOf (printed by wip/gen_orderci.py). -/
import Derived.Test.YtoampghmikamlaaCardEnd
import Derived.Deep.RegionHeld3
import Derived.Test.YtoampghmikamlaaOrderCi
namespace Go.Proofs.Ytoampghmikamlaa.Order
open Go.ChangeShapes Go.WideShapes Go.ChangeAt Go.RowKit Go.Sort
open Go.Proofs.Ytoampghmikamlaa.Strip Go.Proofs.Ytoampghmikamlaa.Strs Go.Proofs.Ytoampghmikamlaa.Card
set_option linter.unusedVariables false

set_option maxRecDepth 100000 in
set_option maxHeartbeats 8000000 in
theorem combineC_true (d f d2 f2 : Int) (base base2 n n2 ca cb : Nat) (a b : Option Addr) (l m : List ByteArray) (w : World) (hn : n ≤ 1048576) (hn2 : n2 ≤ 1048576) (hz : ∀ s ∈ l, s.size ≤ 1048576) (hz2 : ∀ s ∈ m, s.size ≤ 1048576) (ha : Own w base (.slice a n ca) l) (hb : Own w base2 (.slice b n2 cb) m) (hbo : bothB d f l d2 f2 m = true) :
    Calls Try.prog 66 #[.agg #[.int .i64 d, .int .i64 f, .slice a n ca], .agg #[.int .i64 d2, .int .i64 f2, .slice b n2 cb], .func (.func 67) #[] #[]] w (BothPost true w d f l d2 f2 m) := by
  obtain ⟨hc1, hc2, hdd, hff, hnm⟩ := both_iff.1 hbo
  subst hdd hff
  have hl : l.length = n := ha.row2.1.symm
  have hm : m.length = n2 := hb.row2.1.symm
  obtain ⟨W, hW, hv1, hv2, hv3, hbw, hs⟩ := beginThree w d f d f (.slice a n ca) (.slice b n2 cb)
  have HC1 := Lib.hid (fun (dd : Nat) (os : Array Obj) => Calls.regrown_of (ok_impl d f a n ca l (grow (redrawn W dd) os) hl hn hz ((ha.row2.2.since (Nat.le_refl _) hbw).since (Nat.le_refl _) (below_regrown W dd os))))
  have HC2 := Lib.hid (fun (dd : Nat) (os : Array Obj) => Calls.regrown_of (ok_impl d f b n2 cb m (grow (redrawn W dd) os) hm hn2 hz2 ((hb.row2.2.since (Nat.le_refl _) hbw).since (Nat.le_refl _) (below_regrown W dd os))))
  have HE := Lib.hid (fun (x y : Int) (p : Option Addr) (q r : Nat) (dd : Nat) (os : Array Obj) => Calls.regrown_of (embed_impl x y p q r (grow (redrawn W dd) os)))
  have hfa := embed_field d f (.slice a n ca)
  have hfb := embed_field d f (.slice b n2 cb)
  have k0 := cell_regrown hv1.cells.1
  have k1 := cell_regrown hv1.cells.2.1
  have k2 := cell_regrown hv1.cells.2.2
  have m0 := cell_regrown hv2.cells.1
  have m1 := cell_regrown hv2.cells.2.1
  have m2 := cell_regrown hv2.cells.2.2
  rw [hc1] at HC1
  rw [hc2] at HC2
  obtain rfl : n = n2 := by omega
  have h10 : n ≤ 10 := by have := (cardB_iff.1 hc1).2.2.1; omega
  have h01 : 1 ≤ n := by have := (cardB_iff.1 hc1).2.1; omega
  have HBO := Lib.hid hbo
  have HLM := Lib.hid (show (mixM true l m).length = n from by rw [mixM_length true hnm]; exact hl)
  have HL := Lib.hid hl
  have HM := Lib.hid hm
  have HRA := Lib.hid ha.row2.2
  have HRB := Lib.hid hb.row2.2
  have HOA := Lib.hid ha
  have HZ1 := Lib.hid hz
  have HZ2 := Lib.hid hz2
  have HW := Lib.hid hW
  have HS := Lib.hid hs
  clear hW ha hb hz hz2 hl hm hbo hc1 hc2 hnm hs
  go_enter Try.func66, Try.ntmps66
  go_wp2_with fail
  rw [← HW.out]
  clear HW
  go_wp2_with fail
  refine wp_region_quiet_below (by kernel_rfl) (by kernel_rfl) ?_
  repeat (go_big_quiet_step ((first | (go_at_call_of 40 (Value.agg #[.int .i64 d, .int .i64 f, .slice a n ca]); exact HC1.out _ _) | (go_at_call_of 40 (Value.agg #[.int .i64 d, .int .i64 f, .slice b n cb]); exact HC2.out _ _) | (go_at_call 49; exact HE.out _ _ _ _ _ _ _))))
  refine wpQuiet_nil ?_
  intro _ hw'
  obtain ⟨⟨dq, osq⟩, hw''⟩ := hw'
  subst hw''
  have hbr := below_regrown W dq osq
  have HV1 := Lib.hid (hv1.below hbr)
  have HV2 := Lib.hid (hv2.below hbr)
  have HV3 := Lib.hid (hv3.below hbr)
  have HB1 := Lib.hid (hbw.trans (hbr.mono hbw.size))
  have HS1 := Lib.hid (show w.heap.size + 3 ≤ (grow (redrawn W dq) osq).heap.size by have := hbr.size; have := HS.out; omega)
  clear hbr k0 k1 k2 m0 m1 m2 hv1 hv2 hv3 hbw HC1 HC2 HE HS
  generalize (grow (redrawn W dq) osq) = w1 at *
  obtain ⟨k0, k1, k2⟩ := HV1.out.cells
  go_wp2_with fail
  clear k0 k1 k2
  refine (copy_impl d f base n ca a l _ hn (HOA.out.below HB1.out)).mono ?_
  rintro e w2 ⟨a8, c8, rfl, hb2, ho2⟩
  rw [HL.out] at ho2 ⊢
  obtain ⟨g8, rfl⟩ : ∃ g, a8 = some ⟨g, 0, none⟩ := by
    rcases ho2.shape with ⟨_, _, h0⟩ | h
    · have h1 := HL.out
      rw [h0] at h1
      simp at h1
      omega
    · exact h
  have HV1 := Lib.hid (HV1.out.below hb2)
  have HV2 := Lib.hid (HV2.out.below hb2)
  have HV3 := Lib.hid (HV3.out.below hb2)
  have HO2 := Lib.hid (ho2.mono (base2 := w.heap.size) HB1.out.size)
  have HB2 := Lib.hid (HB1.out.trans (hb2.mono HB1.out.size))
  have HS2 := Lib.hid (show w.heap.size + 3 ≤ w2.heap.size by have := hb2.size; have := HS1.out; omega)
  clear hb2 ho2 HB1 HS1
  have hv0 := Var.new w2 d f (.slice (some ⟨g8, 0, none⟩) n c8)
  have hb := alloc_below w2 (.cells #[.int .i64 d, .int .i64 f, .slice (some ⟨g8, 0, none⟩) n c8] 26)
  have HV1 := Lib.hid (HV1.out.below hb)
  have HV2 := Lib.hid (HV2.out.below hb)
  have HV3 := Lib.hid (HV3.out.below hb)
  have HO2 := Lib.hid (HO2.out.below hb)
  have HB2 := Lib.hid (HB2.out.trans (hb.mono HB2.out.size))
  have HV4 := Lib.hid hv0
  clear hv0 hb
  obtain ⟨m0, m1, m2⟩ := HV2.out.cells
  go_wp2_with fail
  clear m0 m1 m2
  generalize (w2.alloc (.cells #[.int .i64 d, .int .i64 f, .slice (some ⟨g8, 0, none⟩) n c8] 26)) = W2 at *
  generalize w2.heap.size = B4 at *
  go_loopw [43] (fun i wr => ∃ (k : Nat), k ≤ n ∧ i = .int .i64 (k : Int) ∧ Hid (Var wr w.heap.size d f (.slice a n ca)) ∧ Hid (Var wr (w.heap.size + 1) d f (.slice b n cb)) ∧ Hid (Var wr (w.heap.size + 2) 0 0 (.slice none 0 0)) ∧ Hid (Var wr B4 d f (.slice (some ⟨g8, 0, none⟩) n c8)) ∧ Hid (Own wr w.heap.size (.slice (some ⟨g8, 0, none⟩) n c8) (mixD true l m k)) ∧ Hid (Below w.heap.size w wr)) (fun i _ => n - (intOf i).toNat)
  case atStart => exact ⟨0, Nat.zero_le _, rfl, HV1, HV2, HV3, HV4, by rw [mixD_zero]; exact HO2, HB2⟩
  case round =>
    clear HV1 HV2 HV3 HV4 HO2 HB2
    obtain ⟨k, hk, rfl, V1, V2, V3, V4, HO, HBR⟩ := hrel
    have hk0 : (0 : Int) ≤ (k : Int) := Int.natCast_nonneg _
    by_cases hlt : k < n
    · have hk1 : (k : Int) < (n : Int) := by omega
      have hkl : k < l.length := by rw [HL.out]; exact hlt
      have hkm : k < m.length := by rw [HM.out]; exact hlt
      obtain ⟨ga, rfl, hga, hca⟩ := Row.at HRA.out HBR.out k hkl
      obtain ⟨gb, rfl, hgb, hcb⟩ := Row.at HRB.out HBR.out k hkm
      have HUP := Lib.hid (show ∀ w' : World, Calls Try.prog 67 #[.string l[k], .string m[k]] w' fun e w'' => e = .returned (.string (mixS true l[k] m[k])) ∧ Below w'.heap.size w' w'' from fun w' => upper_impl l[k] m[k] w' (HZ1.out _ (List.getElem_mem hkl)) (HZ2.out _ (List.getElem_mem hkm)))
      have HST := Lib.hid (mixD_set true l m k hkl hkm)
      have HDL := Lib.hid (show k < (mixD true l m k).length from by rw [mixD_length true l m k (by omega) (by rw [HL.out, HM.out])]; exact hkl)
      have n1 : g8 ≠ w.heap.size := by have h := ne_var HO.out V1.out; simpa [Value.ownBlock] using h
      have n2 : g8 ≠ w.heap.size + 1 := by have h := ne_var HO.out V2.out; simpa [Value.ownBlock] using h
      have n3 : g8 ≠ w.heap.size + 2 := by have h := ne_var HO.out V3.out; simpa [Value.ownBlock] using h
      have n4 : g8 ≠ B4 := by have h := ne_var HO.out V4.out; simpa [Value.ownBlock] using h
      have n5 : g8 ≠ ga := by have h := (HO.out.lt g8 rfl).1; omega
      generalize mixS true l[k] m[k] = s at *
      generalize l[k] = x at *
      generalize m[k] = y at *
      have HNE := Lib.hid (show g8 ≠ w.heap.size ∧ g8 ≠ w.heap.size + 1 ∧ g8 ≠ w.heap.size + 2 ∧ g8 ≠ B4 ∧ g8 ≠ ga from ⟨n1, n2, n3, n4, n5⟩)
      clear n1 n2 n3 n4 n5
      go_wp2_with fail
      obtain ⟨k0, k1, k2⟩ := V1.out.cells
      obtain ⟨o0, o1, o2⟩ := V4.out.cells
      have K0 := Lib.hid (show (wr.drew).cell? ⟨B4, 2, none⟩ = some (.slice (some ⟨g8, 0, none⟩) n c8) ∧ (wr.drew).cell? ⟨w.heap.size, 2, none⟩ = some (.slice (some ⟨ga, 0, none⟩) n ca) ∧ (wr.drew).cell? ⟨ga, k, none⟩ = some (.string x) from ⟨o2, k2, hca⟩)
      clear hcb
      go_region_held3 (fun w' => w'.cell? ⟨B4, 2, none⟩ = some (.slice (some ⟨g8, 0, none⟩) n c8) ∧ w'.cell? ⟨w.heap.size, 2, none⟩ = some (.slice (some ⟨ga, 0, none⟩) n ca) ∧ w'.cell? ⟨ga, k, none⟩ = some (.string x)) (first | with_reducible exact K0.out | with_reducible exact K1.out | with_reducible exact K2.out) ((go_at_call 67; refine (HUP.out _).mono ?_; rintro e w5 ⟨rfl, hb5'⟩; have hb5 := undrew hb5'; have V51 := Lib.hid (V1.out.below hb5); have V52 := Lib.hid (V2.out.below hb5); have V53 := Lib.hid (V3.out.below hb5); have V54 := Lib.hid (V4.out.below hb5); have O5 := Lib.hid (HO.out.below hb5); have B5 := Lib.hid (HBR.out.trans (hb5.mono HBR.out.size)); have q0 := V54.out.cells.2.2; have q1 := V51.out.cells.2.2; have q2 := (hb5.cell (p := ⟨ga, k, none⟩) (World.block_lt_of_cell? _ _ hca)).trans hca; have q3 := O5.out.cell HDL.out; have q4 := O5.out.free k; have K1 := Lib.hid (show (w5).cell? ⟨B4, 2, none⟩ = some (.slice (some ⟨g8, 0, none⟩) n c8) ∧ (w5).cell? ⟨w.heap.size, 2, none⟩ = some (.slice (some ⟨ga, 0, none⟩) n ca) ∧ (w5).cell? ⟨ga, k, none⟩ = some (.string x) from ⟨q0, q1, q2⟩); have K2 := Lib.hid (show (w5.setCell ⟨g8, k, none⟩ (.string s)).cell? ⟨B4, 2, none⟩ = some (.slice (some ⟨g8, 0, none⟩) n c8) ∧ (w5.setCell ⟨g8, k, none⟩ (.string s)).cell? ⟨w.heap.size, 2, none⟩ = some (.slice (some ⟨ga, 0, none⟩) n ca) ∧ (w5.setCell ⟨g8, k, none⟩ (.string s)).cell? ⟨ga, k, none⟩ = some (.string x) from ⟨(World.cell?_setCell_far _ _ _ _ HNE.out.2.2.2.1).trans q0, (World.cell?_setCell_far _ _ _ _ HNE.out.1).trans q1, (World.cell?_setCell_far _ _ _ _ HNE.out.2.2.2.2).trans q2⟩); clear hb5 hb5'))
      all_goals
        go_wp2
        go_roundw
        case rel => exact ⟨k + 1, by omega, by go_num, Lib.hid (V51.out.other (Ne.symm HNE.out.1)), Lib.hid (V52.out.other (Ne.symm HNE.out.2.1)), Lib.hid (V53.out.other (Ne.symm HNE.out.2.2.1)), Lib.hid (V54.out.other (Ne.symm HNE.out.2.2.2.1)), Lib.hid (by rw [← HST.out]; exact Own.set s O5.out HDL.out), Lib.hid (B5.out.setCell ((O5.out.lt g8 rfl).1) _)⟩
        case measure => simp [intOf]; omega
    · obtain rfl : k = n := by omega
      have hall : mixD true l m k = mixM true l m := mixD_all true l m k (by rw [HL.out]; exact Nat.le_refl _) (by rw [HLM.out]; exact Nat.le_refl _)
      rw [hall] at HO
      clear hall
      have hx : ∃ Z, Z = Card.set3 wr (w.heap.size + 2) d f (.slice (some ⟨g8, 0, none⟩) k c8) ∧ Var Z (w.heap.size + 2) d f (.slice (some ⟨g8, 0, none⟩) k c8) ∧ Below w.heap.size w Z ∧ Own Z w.heap.size (.slice (some ⟨g8, 0, none⟩) k c8) (mixM true l m) := ⟨_, rfl, gave_last HBR.out V3.out (by omega) HO.out (Nat.le_refl _)⟩
      obtain ⟨Z, hZ, hz1, hz2, hz3⟩ := hx
      unfold set3 at hZ
      obtain ⟨o0, o1, o2⟩ := V4.out.cells
      obtain ⟨p0, p1, p2⟩ := V3.out.cells
      have f0 := V3.out.free 0
      have f1 := V3.out.free 1
      have f2 := V3.out.free 2
      have HZZ := Lib.hid hZ
      have HZ1 := Lib.hid hz1
      have HZ2 := Lib.hid hz2
      have HZ3 := Lib.hid hz3
      clear hZ hz1 hz2 hz3
      go_wp2_with fail
      rw [← HZZ.out]
      clear HZZ o0 o1 o2 p0 p1 p2 f0 f1 f2
      obtain ⟨z0, z1, z2⟩ := HZ1.out.cells
      refine bodyPost_ret (v := .tuple #[.agg #[.int .i64 d, .int .i64 f, .slice (some ⟨g8, 0, none⟩) k c8], .bool true]) (by simp [results, Try.results66, go_sem, z0, z1, z2]) rfl ?_
      exact both_yes HBO.out rfl HLM.out HZ2.out HZ3.out
end Go.Proofs.Ytoampghmikamlaa.Order
