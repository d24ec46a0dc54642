/- What impl.exchangeStrips returns as CutStrip calls it (printed by wip/gen_exch.py). -/
import Derived.Test.YtpnmloemabligaaCardEnd
import Derived.Test.YtpnmloemabligaaReplPut
namespace Go.Proofs.Ytpnmloemabligaa.Card
open Go.ChangeShapes Go.WideShapes Go.ChangeAt Go.RowKit
open Go.Proofs.Ytpnmloemabligaa.Strip Go.Proofs.Ytpnmloemabligaa.Strs
set_option linter.unusedVariables false

set_option maxRecDepth 100000 in
set_option maxHeartbeats 4000000 in
theorem exchCut_bad (d f : Int) (base n c : Nat) (a : Option Addr) (l : List ByteArray) (w : World) (hn : n ≤ 1048576) (h : Own w base (.slice a n c) l) (hz : ∀ s ∈ l, s.size ≤ 1048576) (k : Int) (hbad : cardB d f l = false) :
    Calls Try.prog 41 #[.agg #[.int .i64 d, .int .i64 f, .slice a n c], .int .i64 k, .int .i64 1, .slice none 0 0] w (Gave2 w d f l false) := by
  obtain ⟨W, hW, hv1, hv2, hb, hs0⟩ := begin2 w d f (.slice a n c)
  have hoW : Own W base (.slice a n c) l := by rw [hW]; exact (h.below (alloc_below _ _)).below (alloc_below _ _)
  have HN := Lib.hid h.row2.1
  have HOW := Lib.hid hoW
  have HV1 := Lib.hid hv1
  have HV2 := Lib.hid hv2
  have HB := Lib.hid hb
  have HS := Lib.hid hs0
  have HZ := Lib.hid hz
  have HW := Lib.hid hW
  clear hv1 hv2 hb hs0 hz hW hoW h
  go_enter Try.func41, Try.ntmps41
  go_wp2_with fail
  rw [← HW.out]
  clear HW
  have HNE := Lib.hid (show w.heap.size + 1 < W.heap.size ∧ w.heap.size < W.heap.size by have := HS.out; omega)
  obtain ⟨k0, k1, k2⟩ := HV1.out.cells
  go_wp2_with fail
  refine (ok_impl d f a n c l _ HN.out.symm hn HZ.out HOW.out.row2.2).mono ?_
  rintro e w1 ⟨rfl, hb1⟩
  have HV1 := Lib.hid (HV1.out.below hb1)
  have HV2 := Lib.hid (HV2.out.below hb1)
  have HO1 := Lib.hid (HOW.out.below hb1)
  have HB1 := Lib.hid (HB.out.trans (hb1.mono HB.out.size))
  clear hb1 k0 k1 k2 HB HOW
  obtain ⟨k0, k1, k2⟩ := HV1.out.cells
  rw [hbad]
  go_wp2_with fail
  refine (copy_impl d f base n c a l _ hn HO1.out).mono ?_
  rintro e w2 ⟨a2, c2, rfl, hb2, ho2⟩
  have HV2 := Lib.hid (HV2.out.below hb2)
  have HB2 := Lib.hid (HB1.out.trans (hb2.mono HB1.out.size))
  have HO2 := Lib.hid (ho2.mono (base2 := w.heap.size) HB1.out.size)
  have HNE2 := HNE.out
  clear hb2 ho2
  have hx : ∃ Z, Z = Card.set3 w2 (w.heap.size + 1) d f (.slice a2 l.length c2) ∧ Var Z (w.heap.size + 1) d f (.slice a2 l.length c2) ∧ Below w.heap.size w Z ∧ Own Z w.heap.size (.slice a2 l.length c2) l := ⟨_, rfl, gave_last HB2.out HV2.out (by omega) HO2.out (Nat.le_refl _)⟩
  obtain ⟨Z, hZ, hz1, hz2, hz3⟩ := hx
  unfold set3 at hZ
  have p := HV2.out.cells
  obtain ⟨p0, p1, p2⟩ := p
  have f0 := HV2.out.free 0
  have f1 := HV2.out.free 1
  have f2 := HV2.out.free 2
  have HZZ := Lib.hid hZ
  have HZ1 := Lib.hid hz1
  have HZ2 := Lib.hid hz2
  have HZ3 := Lib.hid hz3
  clear hZ hz1 hz2 hz3
  go_wp2_with fail
  rw [← HZZ.out]
  clear HZZ p0 p1 p2 f0 f1 f2
  obtain ⟨z0, z1, z2⟩ := HZ1.out.cells
  refine bodyPost_ret (v := .tuple #[.agg #[.int .i64 d, .int .i64 f, .slice a2 l.length c2], .bool false]) (by simp [results, Try.results41, go_sem, z0, z1, z2]) rfl ?_
  exact ⟨_, c2, rfl, HZ2.out, HZ3.out⟩

set_option maxRecDepth 100000 in
set_option maxHeartbeats 4000000 in
theorem exchCut_out (d f : Int) (base n c : Nat) (a : Option Addr) (l : List ByteArray) (w : World) (hn : n ≤ 1048576) (h : Own w base (.slice a n c) l) (hz : ∀ s ∈ l, s.size ≤ 1048576) (k : Int) (hcard : cardB d f l = true) (hout : ¬ (0 ≤ k ∧ k < (n : Int))) :
    Calls Try.prog 41 #[.agg #[.int .i64 d, .int .i64 f, .slice a n c], .int .i64 k, .int .i64 1, .slice none 0 0] w (Gave2 w d f l false) := by
  obtain ⟨W, hW, hv1, hv2, hb, hs0⟩ := begin2 w d f (.slice a n c)
  have hoW : Own W base (.slice a n c) l := by rw [hW]; exact (h.below (alloc_below _ _)).below (alloc_below _ _)
  have HN := Lib.hid h.row2.1
  have HOW := Lib.hid hoW
  have HV1 := Lib.hid hv1
  have HV2 := Lib.hid hv2
  have HB := Lib.hid hb
  have HS := Lib.hid hs0
  have HZ := Lib.hid hz
  have HW := Lib.hid hW
  clear hv1 hv2 hb hs0 hz hW hoW h

  by_cases hneg : k < 0
  all_goals
    first | (have hd1 : decide (k < 0) = true := by simpa using hneg) | (have hd1 : decide (k < 0) = false := by simpa using hneg)
    have hd2 : k < 0 ∨ (n : Int) - 1 < k := by omega
    have HD2 := Lib.hid hd2
    first | (have hd3 : k < 0 := hneg) | (have hd3 : (n : Int) - 1 < k := by omega)
    clear hout hd2 hneg
    go_enter Try.func41, Try.ntmps41
    go_wp2_with fail
    rw [← HW.out]
    clear HW
    have HNE := Lib.hid (show w.heap.size + 1 < W.heap.size ∧ w.heap.size < W.heap.size by have := HS.out; omega)
    obtain ⟨k0, k1, k2⟩ := HV1.out.cells
    go_wp2_with fail
    refine (ok_impl d f a n c l _ HN.out.symm hn HZ.out HOW.out.row2.2).mono ?_
    rintro e w1 ⟨rfl, hb1⟩
    have HV1 := Lib.hid (HV1.out.below hb1)
    have HV2 := Lib.hid (HV2.out.below hb1)
    have HO1 := Lib.hid (HOW.out.below hb1)
    have HB1 := Lib.hid (HB.out.trans (hb1.mono HB.out.size))
    clear hb1 k0 k1 k2 HB HOW
    obtain ⟨k0, k1, k2⟩ := HV1.out.cells
    rw [hcard]
    go_wp2_with fail
    refine (copy_impl d f base n c a l _ hn HO1.out).mono ?_
    rintro e w2 ⟨a2, c2, rfl, hb2, ho2⟩
    have HV2 := Lib.hid (HV2.out.below hb2)
    have HB2 := Lib.hid (HB1.out.trans (hb2.mono HB1.out.size))
    have HO2 := Lib.hid (ho2.mono (base2 := w.heap.size) HB1.out.size)
    have HNE2 := HNE.out
    clear hb2 ho2
    have hx : ∃ Z, Z = Card.set3 w2 (w.heap.size + 1) d f (.slice a2 l.length c2) ∧ Var Z (w.heap.size + 1) d f (.slice a2 l.length c2) ∧ Below w.heap.size w Z ∧ Own Z w.heap.size (.slice a2 l.length c2) l := ⟨_, rfl, gave_last HB2.out HV2.out (by omega) HO2.out (Nat.le_refl _)⟩
    obtain ⟨Z, hZ, hz1, hz2, hz3⟩ := hx
    unfold set3 at hZ
    have p := HV2.out.cells
    obtain ⟨p0, p1, p2⟩ := p
    have f0 := HV2.out.free 0
    have f1 := HV2.out.free 1
    have f2 := HV2.out.free 2
    have HZZ := Lib.hid hZ
    have HZ1 := Lib.hid hz1
    have HZ2 := Lib.hid hz2
    have HZ3 := Lib.hid hz3
    clear hZ hz1 hz2 hz3
    go_wp2_with fail
    rw [← HZZ.out]
    clear HZZ p0 p1 p2 f0 f1 f2
    obtain ⟨z0, z1, z2⟩ := HZ1.out.cells
    refine bodyPost_ret (v := .tuple #[.agg #[.int .i64 d, .int .i64 f, .slice a2 l.length c2], .bool false]) (by simp [results, Try.results41, go_sem, z0, z1, z2]) rfl ?_
    exact ⟨_, c2, rfl, HZ2.out, HZ3.out⟩

set_option maxRecDepth 100000 in
set_option maxHeartbeats 4000000 in
theorem exchCut_in (d f : Int) (base n c : Nat) (a : Option Addr) (l : List ByteArray) (w : World) (hn : n ≤ 1048576) (h : Own w base (.slice a n c) l) (hz : ∀ s ∈ l, s.size ≤ 1048576) (k : Nat) (hk : k < n) (hcard : cardB d f l = true) :
    Calls Try.prog 41 #[.agg #[.int .i64 d, .int .i64 f, .slice a n c], .int .i64 (k : Int), .int .i64 1, .slice none 0 0] w (Swapped w d f l (l.take k ++ l.drop (k + 1))) := by
  have hln : l.length = n := h.row2.1.symm
  have HREP := Lib.hid (show ∀ (w3 : World) (a2 : Option Addr) (c2 : Nat), Below w.heap.size w w3 → Own w3 w.heap.size (.slice a2 l.length c2) l → Calls Try.prog 62 #[.slice a2 l.length c2, .int .i64 (k : Int), .int .i64 ((k : Int) + 1), .slice none 0 0] w3 (Replaced w3 w.heap.size (.slice a2 l.length c2) (l.take k ++ l.drop (k + 1))) from fun w3 a2 c2 hb ho => by
    rcases ho.shape with ⟨_, _, rfl⟩ | ⟨g, rfl⟩
    · simp at hln; omega
    · by_cases he : k + 1 = l.length
      · exact replace_cut_last g l.length c2 w.heap.size k l w3 he ho
      · exact replace_cut_mid g l.length c2 w.heap.size k l w3 (by omega) ho)
  have HOA := Lib.hid h
  obtain ⟨W, hW, hv1, hv2, hb, hs0⟩ := begin2 w d f (.slice a n c)
  have hoW : Own W base (.slice a n c) l := by rw [hW]; exact (h.below (alloc_below _ _)).below (alloc_below _ _)
  have HN := Lib.hid h.row2.1
  have HOW := Lib.hid hoW
  have HV1 := Lib.hid hv1
  have HV2 := Lib.hid hv2
  have HB := Lib.hid hb
  have HS := Lib.hid hs0
  have HZ := Lib.hid hz
  have HW := Lib.hid hW
  clear hv1 hv2 hb hs0 hz hW hoW h
  have HSZ := Lib.hid (show ∀ t ∈ (l.take k ++ l.drop (k + 1)), t.size ≤ 1048576 from fun t ht => by
    rcases List.mem_append.1 ht with h1 | h1
    · exact HZ.out t (List.mem_of_mem_take h1)
    · exact HZ.out t (List.mem_of_mem_drop h1))
  have HLEN := Lib.hid (show (l.take k ++ l.drop (k + 1)).length ≤ 1048576 from by rw [List.length_append, List.length_take, List.length_drop]; omega)
  clear hln
  go_enter Try.func41, Try.ntmps41
  go_wp2_with fail
  rw [← HW.out]
  clear HW
  have HNE := Lib.hid (show w.heap.size + 1 < W.heap.size ∧ w.heap.size < W.heap.size by have := HS.out; omega)
  obtain ⟨k0, k1, k2⟩ := HV1.out.cells
  go_wp2_with fail
  refine (ok_impl d f a n c l _ HN.out.symm hn HZ.out HOW.out.row2.2).mono ?_
  rintro e w1 ⟨rfl, hb1⟩
  have HV1 := Lib.hid (HV1.out.below hb1)
  have HV2 := Lib.hid (HV2.out.below hb1)
  have HO1 := Lib.hid (HOW.out.below hb1)
  have HB1 := Lib.hid (HB.out.trans (hb1.mono HB.out.size))
  clear hb1 k0 k1 k2 HB HOW
  obtain ⟨k0, k1, k2⟩ := HV1.out.cells
  rw [hcard]
  go_wp2_with fail
  refine (copy_impl d f base n c a l _ hn HO1.out).mono ?_
  rintro e w2 ⟨a2, c2, rfl, hb2, ho2⟩
  have HV1 := Lib.hid (HV1.out.below hb2)
  have HV2 := Lib.hid (HV2.out.below hb2)
  have HB2 := Lib.hid (HB1.out.trans (hb2.mono HB1.out.size))
  have HO2 := Lib.hid (ho2.mono (base2 := w.heap.size) HB1.out.size)
  clear hb2 ho2 k0 k1 k2 HB1 HO1
  have HB2B := Lib.hid HV2.out.lt
  have hv0 := Var.new w2 d f (.slice a2 l.length c2)
  have hb := alloc_below w2 (.cells #[.int .i64 d, .int .i64 f, .slice a2 l.length c2] 26)
  have HV1 := Lib.hid (HV1.out.below hb)
  have HV2 := Lib.hid (HV2.out.below hb)
  have HO2 := Lib.hid (HO2.out.below hb)
  have HB2 := Lib.hid (HB2.out.trans (hb.mono HB2.out.size))
  have HV3 := Lib.hid hv0
  clear hv0 hb
  go_wp2_with fail
  generalize (w2.alloc (.cells #[.int .i64 d, .int .i64 f, .slice a2 l.length c2] 26)) = w3 at *
  generalize w2.heap.size = B2 at *
  refine (HREP.out w3 a2 c2 HB2.out HO2.out).mono ?_
  rintro e w4 ⟨a4, c4, rfl, ho4, hg4⟩
  have HV1 := Lib.hid (HV1.out.written HO2.out hg4)
  have HV2 := Lib.hid (HV2.out.written HO2.out hg4)
  have HV3 := Lib.hid (HV3.out.written HO2.out hg4)
  have HB4 := Lib.hid (HO2.out.write_below HB2.out (Nat.le_refl _) HB2.out.size hg4)
  have HO4 := Lib.hid ho4
  clear ho4 hg4 HB2 HO2
  generalize (l.take k ++ l.drop (k + 1)) = l4 at *
  -- the new row is stored into the copy
  have hne1 : w.heap.size ≠ B2 := by have := HB2B.out; omega
  have hne2 : w.heap.size + 1 ≠ B2 := by have := HB2B.out; omega
  have HV1 := Lib.hid (HV1.out.other (j := 2) (u := .slice a4 l4.length c4) hne1)
  have HV2 := Lib.hid (HV2.out.other (j := 2) (u := .slice a4 l4.length c4) hne2)
  have HO5 := Lib.hid (Own.aside (j := 2) (u := .slice a4 l4.length c4) HO4.out HV3.out)
  have HB5 := Lib.hid (HB4.out.setCell (p := ⟨B2, 2, none⟩) (by have := HB2B.out; show w.heap.size ≤ B2; omega) (.slice a4 l4.length c4))
  have HV5 := Lib.hid (HV3.out.set1 (.slice a4 l4.length c4))
  obtain ⟨g0, g1, g2⟩ := HV3.out.cells
  have g3 := HV3.out.free 2
  clear hne1 hne2 HV3 HO4 HB4
  go_wp2_with fail
  clear g0 g1 g2 g3
  generalize (w4.setCell ⟨B2, 2, none⟩ (.slice a4 l4.length c4)) = w5 at *
  refine (ok_impl d f a4 l4.length c4 l4 _ rfl HLEN.out HSZ.out HO5.out.row2.2).mono ?_
  rintro e w6 ⟨rfl, hb6⟩
  have HV1 := Lib.hid (HV1.out.below hb6)
  have HV2 := Lib.hid (HV2.out.below hb6)
  have HV5 := Lib.hid (HV5.out.below hb6)
  have HO5 := Lib.hid (HO5.out.below hb6)
  have HB6 := Lib.hid (HB5.out.trans (hb6.mono HB5.out.size))
  clear hb6 HB5
  cases hc : cardB d f l4 with
  | true =>
    have HC := Lib.hid hc
    clear hc
    obtain ⟨g0, g1, g2⟩ := HV5.out.cells
    have hx : ∃ Z, Z = Card.set3 w6 (w.heap.size + 1) d f (.slice a4 l4.length c4) ∧ Var Z (w.heap.size + 1) d f (.slice a4 l4.length c4) ∧ Below w.heap.size w Z ∧ Own Z w.heap.size (.slice a4 l4.length c4) l4 := ⟨_, rfl, gave_last HB6.out HV2.out (by omega) HO5.out (Nat.le_refl _)⟩
    obtain ⟨Z, hZ, hz1, hz2, hz3⟩ := hx
    unfold set3 at hZ
    have p := HV2.out.cells
    obtain ⟨p0, p1, p2⟩ := p
    have f0 := HV2.out.free 0
    have f1 := HV2.out.free 1
    have f2 := HV2.out.free 2
    have HZZ := Lib.hid hZ
    have HZ1 := Lib.hid hz1
    have HZ2 := Lib.hid hz2
    have HZ3 := Lib.hid hz3
    clear hZ hz1 hz2 hz3
    go_wp2_with fail
    clear g0 g1 g2
    rw [← HZZ.out]
    clear HZZ p0 p1 p2 f0 f1 f2
    obtain ⟨z0, z1, z2⟩ := HZ1.out.cells
    refine bodyPost_ret (v := .tuple #[.agg #[.int .i64 d, .int .i64 f, .slice a4 l4.length c4], .bool true]) (by simp [results, Try.results41, go_sem, z0, z1, z2]) rfl ?_
    exact swapped_yes HC.out ⟨_, c4, rfl, HZ2.out, HZ3.out⟩
  | false =>
    have HC := Lib.hid hc
    clear hc
    obtain ⟨g0, g1, g2⟩ := HV1.out.cells
    go_wp2_with fail
    clear g0 g1 g2
    refine (copy_impl d f base n c a l _ hn (HOA.out.below HB6.out)).mono ?_
    rintro e w7 ⟨a7, c7, rfl, hb7, ho7⟩
    have HV2 := Lib.hid (HV2.out.below hb7)
    have HB7 := Lib.hid (HB6.out.trans (hb7.mono HB6.out.size))
    have HO7 := Lib.hid (ho7.mono (base2 := w.heap.size) HB6.out.size)
    clear hb7 ho7
    have hx : ∃ Z, Z = Card.set3 w7 (w.heap.size + 1) d f (.slice a7 l.length c7) ∧ Var Z (w.heap.size + 1) d f (.slice a7 l.length c7) ∧ Below w.heap.size w Z ∧ Own Z w.heap.size (.slice a7 l.length c7) l := ⟨_, rfl, gave_last HB7.out HV2.out (by omega) HO7.out (Nat.le_refl _)⟩
    obtain ⟨Z, hZ, hz1, hz2, hz3⟩ := hx
    unfold set3 at hZ
    have p := HV2.out.cells
    obtain ⟨p0, p1, p2⟩ := p
    have f0 := HV2.out.free 0
    have f1 := HV2.out.free 1
    have f2 := HV2.out.free 2
    have HZZ := Lib.hid hZ
    have HZ1 := Lib.hid hz1
    have HZ2 := Lib.hid hz2
    have HZ3 := Lib.hid hz3
    clear hZ hz1 hz2 hz3
    go_wp2_with fail
    rw [← HZZ.out]
    clear HZZ p0 p1 p2 f0 f1 f2
    obtain ⟨z0, z1, z2⟩ := HZ1.out.cells
    refine bodyPost_ret (v := .tuple #[.agg #[.int .i64 d, .int .i64 f, .slice a7 l.length c7], .bool false]) (by simp [results, Try.results41, go_sem, z0, z1, z2]) rfl ?_
    exact swapped_no HC.out ⟨_, c7, rfl, HZ2.out, HZ3.out⟩

end Go.Proofs.Ytpnmloemabligaa.Card
