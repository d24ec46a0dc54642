/- What spec.WithStrip returns (printed by wip/gen_specwith.py). -/
import Derived.Test.YtofljefeimmabaaWithImpl
namespace Go.Proofs.Ytofljefeimmabaa.Card
open Go.ChangeShapes Go.WideShapes Go.ChangeAt Go.RowKit
open Go.Proofs.Ytofljefeimmabaa.Strip Go.Proofs.Ytofljefeimmabaa.Strs
set_option linter.unusedVariables false

set_option maxRecDepth 100000 in
set_option maxHeartbeats 1000000 in
theorem withSpec_bad (d f : Int) (base n c : Nat) (a : Option Addr) (l : List ByteArray) (s : ByteArray) (w : World) (hn : n ≤ 1048576) (h : Own w base (.slice a n c) l) (hz : ∀ s ∈ l, s.size ≤ 1048576) (hs : s.size ≤ 1048576) (k : Int) (hbad : cardB d f l = false) :
    Calls Try.prog 29 #[.agg #[.int .i64 d, .int .i64 f, .slice a n c], .int .i64 k, .string s] w (Gave2 w d f l false) := by
  obtain ⟨W, hW, hv1, hv2, hb, hs0⟩ := begin2 w d f (.slice a n c)
  have hoW : Own W base (.slice a n c) l := by rw [hW]; exact (h.below (alloc_below _ _)).below (alloc_below _ _)
  have HN := Lib.hid h.row2.1
  have HOA := Lib.hid h
  have HOW := Lib.hid hoW
  have HV1 := Lib.hid hv1
  have HV2 := Lib.hid hv2
  have HB := Lib.hid hb
  have HS := Lib.hid hs0
  have HZ := Lib.hid hz
  have HW := Lib.hid hW
  clear hv1 hv2 hb hs0 hz hW hoW h
  go_enter Try.func29, Try.ntmps29
  go_wp2_with fail
  rw [← HW.out]
  clear HW
  have HNE := Lib.hid (show w.heap.size + 1 < W.heap.size ∧ w.heap.size < W.heap.size by have := HS.out; omega)
  obtain ⟨k0, k1, k2⟩ := HV1.out.cells
  go_wp2_with fail
  refine (copy_spec d f base n c a l _ hn HOW.out).mono ?_
  rintro e w1 ⟨a2, c2, rfl, hb1, ho1⟩
  have HV1 := Lib.hid (HV1.out.below hb1)
  have HV2 := Lib.hid (HV2.out.below hb1)
  have HB1 := Lib.hid (HB.out.trans (hb1.mono HB.out.size))
  have HO1 := Lib.hid (ho1.mono (base2 := w.heap.size) HB.out.size)
  clear hb1 k0 k1 k2 HB HOW ho1
  have HB2B := Lib.hid HV2.out.lt
  have hv0 := Var.new w1 d f (.slice a2 l.length c2)
  have hb := alloc_below w1 (.cells #[.int .i64 d, .int .i64 f, .slice a2 l.length c2] 26)
  have HV1 := Lib.hid (HV1.out.below hb)
  have HV2 := Lib.hid (HV2.out.below hb)
  have HO1 := Lib.hid (HO1.out.below hb)
  have HB1 := Lib.hid (HB1.out.trans (hb.mono HB1.out.size))
  have HV3 := Lib.hid hv0
  clear hv0 hb
  obtain ⟨k0, k1, k2⟩ := HV1.out.cells
  go_wp2_with fail
  clear k0 k1 k2
  generalize (w1.alloc (.cells #[.int .i64 d, .int .i64 f, .slice a2 l.length c2] 26)) = w2 at *
  generalize w1.heap.size = B2 at *
  refine (ok_spec d f a n c l _ HN.out.symm hn HZ.out (HOA.out.below HB1.out).row2.2).mono ?_
  rintro e w3 ⟨rfl, hb3⟩
  have HV1 := Lib.hid (HV1.out.below hb3)
  have HV2 := Lib.hid (HV2.out.below hb3)
  have HV3 := Lib.hid (HV3.out.below hb3)
  have HO3 := Lib.hid (HO1.out.below hb3)
  have HB3 := Lib.hid (HB1.out.trans (hb3.mono HB1.out.size))
  clear hb3 HO1 HB1
  rw [hbad]
  obtain ⟨g0, g1, g2⟩ := HV3.out.cells
  have hx : ∃ Z, Z = Card.set3 w3 (w.heap.size + 1) d f (.slice a2 l.length c2) ∧ Var Z (w.heap.size + 1) d f (.slice a2 l.length c2) ∧ Below w.heap.size w Z ∧ Own Z w.heap.size (.slice a2 l.length c2) l := ⟨_, rfl, gave_last HB3.out HV2.out (by omega) HO3.out (Nat.le_refl _)⟩
  obtain ⟨Z, hZ, hz1, hz2, hz3⟩ := hx
  unfold set3 at hZ
  obtain ⟨p0, p1, p2⟩ := HV2.out.cells
  have f0 := HV2.out.free 0
  have f1 := HV2.out.free 1
  have f2 := HV2.out.free 2
  have HZZ := Lib.hid hZ
  have HZ1 := Lib.hid hz1
  have HZ2 := Lib.hid hz2
  have HZ3 := Lib.hid hz3
  clear hZ hz1 hz2 hz3
  go_wp2_with fail
  clear g0 g1 g2
  rw [← HZZ.out]
  clear HZZ p0 p1 p2 f0 f1 f2
  obtain ⟨z0, z1, z2⟩ := HZ1.out.cells
  refine bodyPost_ret (v := .tuple #[.agg #[.int .i64 d, .int .i64 f, .slice a2 l.length c2], .bool false]) (by simp [results, Try.results29, go_sem, z0, z1, z2]) rfl ?_
  exact ⟨_, c2, rfl, HZ2.out, HZ3.out⟩

set_option maxRecDepth 100000 in
set_option maxHeartbeats 1000000 in
theorem withSpec_out (d f : Int) (base n c : Nat) (a : Option Addr) (l : List ByteArray) (s : ByteArray) (w : World) (hn : n ≤ 1048576) (h : Own w base (.slice a n c) l) (hz : ∀ s ∈ l, s.size ≤ 1048576) (hs : s.size ≤ 1048576) (k : Int) (hcard : cardB d f l = true) (hout : ¬ (0 ≤ k ∧ k < (n : Int))) :
    Calls Try.prog 29 #[.agg #[.int .i64 d, .int .i64 f, .slice a n c], .int .i64 k, .string s] w (Gave2 w d f l false) := by
  obtain ⟨W, hW, hv1, hv2, hb, hs0⟩ := begin2 w d f (.slice a n c)
  have hoW : Own W base (.slice a n c) l := by rw [hW]; exact (h.below (alloc_below _ _)).below (alloc_below _ _)
  have HN := Lib.hid h.row2.1
  have HOA := Lib.hid h
  have HOW := Lib.hid hoW
  have HV1 := Lib.hid hv1
  have HV2 := Lib.hid hv2
  have HB := Lib.hid hb
  have HS := Lib.hid hs0
  have HZ := Lib.hid hz
  have HW := Lib.hid hW
  clear hv1 hv2 hb hs0 hz hW hoW h
  have hln := HN.out
  have hd : decide (0 ≤ k ∧ k ≤ (n : Int) - 1) = false := decide_eq_false (by omega)
  have hn1 : (1 : Int) ≤ (n : Int) := by have := (cardB_iff.1 hcard).2.1; omega
  clear hout hln
  go_enter Try.func29, Try.ntmps29
  go_wp2_with fail
  rw [← HW.out]
  clear HW
  have HNE := Lib.hid (show w.heap.size + 1 < W.heap.size ∧ w.heap.size < W.heap.size by have := HS.out; omega)
  obtain ⟨k0, k1, k2⟩ := HV1.out.cells
  go_wp2_with fail
  refine (copy_spec d f base n c a l _ hn HOW.out).mono ?_
  rintro e w1 ⟨a2, c2, rfl, hb1, ho1⟩
  have HV1 := Lib.hid (HV1.out.below hb1)
  have HV2 := Lib.hid (HV2.out.below hb1)
  have HB1 := Lib.hid (HB.out.trans (hb1.mono HB.out.size))
  have HO1 := Lib.hid (ho1.mono (base2 := w.heap.size) HB.out.size)
  clear hb1 k0 k1 k2 HB HOW ho1
  have HB2B := Lib.hid HV2.out.lt
  have hv0 := Var.new w1 d f (.slice a2 l.length c2)
  have hb := alloc_below w1 (.cells #[.int .i64 d, .int .i64 f, .slice a2 l.length c2] 26)
  have HV1 := Lib.hid (HV1.out.below hb)
  have HV2 := Lib.hid (HV2.out.below hb)
  have HO1 := Lib.hid (HO1.out.below hb)
  have HB1 := Lib.hid (HB1.out.trans (hb.mono HB1.out.size))
  have HV3 := Lib.hid hv0
  clear hv0 hb
  obtain ⟨k0, k1, k2⟩ := HV1.out.cells
  go_wp2_with fail
  clear k0 k1 k2
  generalize (w1.alloc (.cells #[.int .i64 d, .int .i64 f, .slice a2 l.length c2] 26)) = w2 at *
  generalize w1.heap.size = B2 at *
  refine (ok_spec d f a n c l _ HN.out.symm hn HZ.out (HOA.out.below HB1.out).row2.2).mono ?_
  rintro e w3 ⟨rfl, hb3⟩
  have HV1 := Lib.hid (HV1.out.below hb3)
  have HV2 := Lib.hid (HV2.out.below hb3)
  have HV3 := Lib.hid (HV3.out.below hb3)
  have HO3 := Lib.hid (HO1.out.below hb3)
  have HB3 := Lib.hid (HB1.out.trans (hb3.mono HB1.out.size))
  clear hb3 HO1 HB1
  rw [hcard]
  obtain ⟨k0, k1, k2⟩ := HV1.out.cells
  go_wp2_with fail
  clear k0 k1 k2
  refine (in_at k 0 ((n : Int) - 1) _).mono ?_
  rintro e w4 ⟨rfl, rfl⟩
  rw [hd]
  clear hd
  obtain ⟨g0, g1, g2⟩ := HV3.out.cells
  have hx : ∃ Z, Z = Card.set3 w3 (w.heap.size + 1) d f (.slice a2 l.length c2) ∧ Var Z (w.heap.size + 1) d f (.slice a2 l.length c2) ∧ Below w.heap.size w Z ∧ Own Z w.heap.size (.slice a2 l.length c2) l := ⟨_, rfl, gave_last HB3.out HV2.out (by omega) HO3.out (Nat.le_refl _)⟩
  obtain ⟨Z, hZ, hz1, hz2, hz3⟩ := hx
  unfold set3 at hZ
  obtain ⟨p0, p1, p2⟩ := HV2.out.cells
  have f0 := HV2.out.free 0
  have f1 := HV2.out.free 1
  have f2 := HV2.out.free 2
  have HZZ := Lib.hid hZ
  have HZ1 := Lib.hid hz1
  have HZ2 := Lib.hid hz2
  have HZ3 := Lib.hid hz3
  clear hZ hz1 hz2 hz3
  go_wp2_with fail
  clear g0 g1 g2
  rw [← HZZ.out]
  clear HZZ p0 p1 p2 f0 f1 f2
  obtain ⟨z0, z1, z2⟩ := HZ1.out.cells
  refine bodyPost_ret (v := .tuple #[.agg #[.int .i64 d, .int .i64 f, .slice a2 l.length c2], .bool false]) (by simp [results, Try.results29, go_sem, z0, z1, z2]) rfl ?_
  exact ⟨_, c2, rfl, HZ2.out, HZ3.out⟩

set_option maxRecDepth 100000 in
set_option maxHeartbeats 1000000 in
theorem withSpec_in (d f : Int) (base n c : Nat) (a : Option Addr) (l : List ByteArray) (s : ByteArray) (w : World) (hn : n ≤ 1048576) (h : Own w base (.slice a n c) l) (hz : ∀ s ∈ l, s.size ≤ 1048576) (hs : s.size ≤ 1048576) (k : Nat) (hk : k < n) (hcard : cardB d f l = true) :
    Calls Try.prog 29 #[.agg #[.int .i64 d, .int .i64 f, .slice a n c], .int .i64 (k : Int), .string s] w (Swapped w d f l (l.set k s)) := by
  obtain ⟨W, hW, hv1, hv2, hb, hs0⟩ := begin2 w d f (.slice a n c)
  have hoW : Own W base (.slice a n c) l := by rw [hW]; exact (h.below (alloc_below _ _)).below (alloc_below _ _)
  have HN := Lib.hid h.row2.1
  have HOA := Lib.hid h
  have HOW := Lib.hid hoW
  have HV1 := Lib.hid hv1
  have HV2 := Lib.hid hv2
  have HB := Lib.hid hb
  have HS := Lib.hid hs0
  have HZ := Lib.hid hz
  have HW := Lib.hid hW
  clear hv1 hv2 hb hs0 hz hW hoW h
  have hln := HN.out
  have hd : decide (0 ≤ (k : Int) ∧ (k : Int) ≤ (n : Int) - 1) = true := decide_eq_true (by omega)
  have hn1 : (1 : Int) ≤ (n : Int) := by omega
  have HSZ := Lib.hid (show ∀ t ∈ l.set k s, t.size ≤ 1048576 from fun t ht => by
    rcases List.mem_or_eq_of_mem_set ht with h1 | h1
    · exact HZ.out t h1
    · subst h1; exact hs)
  have HLEN := Lib.hid (show (l.set k s).length ≤ 1048576 by rw [List.length_set]; omega)
  have hk0 : (0 : Int) ≤ (k : Int) := Int.natCast_nonneg _
  have hk1 : (k : Int) < (l.length : Int) := by omega
  have HK := Lib.hid (show k < l.length by omega)
  clear hln
  go_enter Try.func29, Try.ntmps29
  go_wp2_with fail
  rw [← HW.out]
  clear HW
  have HNE := Lib.hid (show w.heap.size + 1 < W.heap.size ∧ w.heap.size < W.heap.size by have := HS.out; omega)
  obtain ⟨k0, k1, k2⟩ := HV1.out.cells
  go_wp2_with fail
  refine (copy_spec d f base n c a l _ hn HOW.out).mono ?_
  rintro e w1 ⟨a2, c2, rfl, hb1, ho1⟩
  have HV1 := Lib.hid (HV1.out.below hb1)
  have HV2 := Lib.hid (HV2.out.below hb1)
  have HB1 := Lib.hid (HB.out.trans (hb1.mono HB.out.size))
  have HO1 := Lib.hid (ho1.mono (base2 := w.heap.size) HB.out.size)
  clear hb1 k0 k1 k2 HB HOW ho1
  have HB2B := Lib.hid HV2.out.lt
  have hv0 := Var.new w1 d f (.slice a2 l.length c2)
  have hb := alloc_below w1 (.cells #[.int .i64 d, .int .i64 f, .slice a2 l.length c2] 26)
  have HV1 := Lib.hid (HV1.out.below hb)
  have HV2 := Lib.hid (HV2.out.below hb)
  have HO1 := Lib.hid (HO1.out.below hb)
  have HB1 := Lib.hid (HB1.out.trans (hb.mono HB1.out.size))
  have HV3 := Lib.hid hv0
  clear hv0 hb
  obtain ⟨k0, k1, k2⟩ := HV1.out.cells
  go_wp2_with fail
  clear k0 k1 k2
  generalize (w1.alloc (.cells #[.int .i64 d, .int .i64 f, .slice a2 l.length c2] 26)) = w2 at *
  generalize w1.heap.size = B2 at *
  refine (ok_spec d f a n c l _ HN.out.symm hn HZ.out (HOA.out.below HB1.out).row2.2).mono ?_
  rintro e w3 ⟨rfl, hb3⟩
  have HV1 := Lib.hid (HV1.out.below hb3)
  have HV2 := Lib.hid (HV2.out.below hb3)
  have HV3 := Lib.hid (HV3.out.below hb3)
  have HO3 := Lib.hid (HO1.out.below hb3)
  have HB3 := Lib.hid (HB1.out.trans (hb3.mono HB1.out.size))
  clear hb3 HO1 HB1
  rw [hcard]
  obtain ⟨k0, k1, k2⟩ := HV1.out.cells
  go_wp2_with fail
  clear k0 k1 k2
  refine (in_at (k : Int) 0 ((n : Int) - 1) _).mono ?_
  rintro e w4 ⟨rfl, rfl⟩
  rw [hd]
  clear hd
  have hsh : ∃ g, a2 = some ⟨g, 0, none⟩ := by
    rcases HO3.out.shape with ⟨_, _, e⟩ | h
    · have := HK.out; rw [e] at this; simp at this
    · exact h
  obtain ⟨g, rfl⟩ := hsh
  have hcell := HO3.out.cell HK.out
  have hfree := HO3.out.free k
  generalize l[k]'_ = old at hcell
  have HO4 := Lib.hid (HO3.out.set s HK.out)
  have hg := grown_set w3 g k (.string s)
  have HV1 := Lib.hid (HV1.out.written HO3.out hg)
  have HV2 := Lib.hid (HV2.out.written HO3.out hg)
  have HV4 := Lib.hid (HV3.out.written HO3.out hg)
  have HB4 := Lib.hid (HO3.out.write_below HB3.out (Nat.le_refl _) HB3.out.size hg)
  obtain ⟨g0, g1, g2⟩ := HV3.out.cells
  obtain ⟨q0, q1, q2⟩ := HV4.out.cells
  clear hg HB3 HO3 HV3
  go_wp2_with fail
  clear g0 g1 g2 q0 q1 q2 hcell hfree
  generalize (w3.setCell ⟨g, k, none⟩ (.string s)) = w4 at *
  have e4 : (l.set k s).length = l.length := List.length_set ..
  rw [← e4] at HO4 HV4 ⊢
  have HK2 := Lib.hid e4
  clear e4 hk1
  generalize l.set k s = l4 at *
  refine (ok_spec d f (some ⟨g, 0, none⟩) l4.length c2 l4 _ rfl HLEN.out HSZ.out HO4.out.row2.2).mono ?_
  rintro e w6 ⟨rfl, hb6⟩
  have HV1 := Lib.hid (HV1.out.below hb6)
  have HV2 := Lib.hid (HV2.out.below hb6)
  have HV4 := Lib.hid (HV4.out.below hb6)
  have HO4 := Lib.hid (HO4.out.below hb6)
  have HB6 := Lib.hid (HB4.out.trans (hb6.mono HB4.out.size))
  clear hb6 HB4
  cases hc : cardB d f l4 with
  | true =>
    have HC := Lib.hid hc
    clear hc
    obtain ⟨g0, g1, g2⟩ := HV4.out.cells
    have hx : ∃ Z, Z = Card.set3 w6 (w.heap.size + 1) d f (.slice (some ⟨g, 0, none⟩) l4.length c2) ∧ Var Z (w.heap.size + 1) d f (.slice (some ⟨g, 0, none⟩) l4.length c2) ∧ Below w.heap.size w Z ∧ Own Z w.heap.size (.slice (some ⟨g, 0, none⟩) l4.length c2) l4 := ⟨_, rfl, gave_last HB6.out HV2.out (by omega) HO4.out (Nat.le_refl _)⟩
    obtain ⟨Z, hZ, hz1, hz2, hz3⟩ := hx
    unfold set3 at hZ
    obtain ⟨p0, p1, p2⟩ := HV2.out.cells
    have f0 := HV2.out.free 0
    have f1 := HV2.out.free 1
    have f2 := HV2.out.free 2
    have HZZ := Lib.hid hZ
    have HZ1 := Lib.hid hz1
    have HZ2 := Lib.hid hz2
    have HZ3 := Lib.hid hz3
    clear hZ hz1 hz2 hz3
    go_wp2_with fail
    clear g0 g1 g2
    rw [← HZZ.out]
    clear HZZ p0 p1 p2 f0 f1 f2
    obtain ⟨z0, z1, z2⟩ := HZ1.out.cells
    refine bodyPost_ret (v := .tuple #[.agg #[.int .i64 d, .int .i64 f, .slice (some ⟨g, 0, none⟩) l4.length c2], .bool true]) (by simp [results, Try.results29, go_sem, z0, z1, z2]) rfl ?_
    exact swapped_yes HC.out ⟨_, c2, rfl, HZ2.out, HZ3.out⟩
  | false =>
    have HC := Lib.hid hc
    clear hc
    obtain ⟨g0, g1, g2⟩ := HV1.out.cells
    go_wp2_with fail
    clear g0 g1 g2
    refine (copy_spec d f base n c a l _ hn (HOA.out.below HB6.out)).mono ?_
    rintro e w7 ⟨a7, c7, rfl, hb7, ho7⟩
    have HV2 := Lib.hid (HV2.out.below hb7)
    have HB7 := Lib.hid (HB6.out.trans (hb7.mono HB6.out.size))
    have HO7 := Lib.hid (ho7.mono (base2 := w.heap.size) HB6.out.size)
    clear hb7 ho7
    have hx : ∃ Z, Z = Card.set3 w7 (w.heap.size + 1) d f (.slice a7 l.length c7) ∧ Var Z (w.heap.size + 1) d f (.slice a7 l.length c7) ∧ Below w.heap.size w Z ∧ Own Z w.heap.size (.slice a7 l.length c7) l := ⟨_, rfl, gave_last HB7.out HV2.out (by omega) HO7.out (Nat.le_refl _)⟩
    obtain ⟨Z, hZ, hz1, hz2, hz3⟩ := hx
    unfold set3 at hZ
    obtain ⟨p0, p1, p2⟩ := HV2.out.cells
    have f0 := HV2.out.free 0
    have f1 := HV2.out.free 1
    have f2 := HV2.out.free 2
    have HZZ := Lib.hid hZ
    have HZ1 := Lib.hid hz1
    have HZ2 := Lib.hid hz2
    have HZ3 := Lib.hid hz3
    clear hZ hz1 hz2 hz3
    go_wp2_with fail
    rw [← HZZ.out]
    clear HZZ p0 p1 p2 f0 f1 f2
    obtain ⟨z0, z1, z2⟩ := HZ1.out.cells
    refine bodyPost_ret (v := .tuple #[.agg #[.int .i64 d, .int .i64 f, .slice a7 l.length c7], .bool false]) (by simp [results, Try.results29, go_sem, z0, z1, z2]) rfl ?_
    exact swapped_no HC.out ⟨_, c7, rfl, HZ2.out, HZ3.out⟩

theorem with_spec (d f : Int) (base n c : Nat) (a : Option Addr) (l : List ByteArray) (k : Int) (s : ByteArray) (w : World) (hn : n ≤ 1048576) (h : Own w base (.slice a n c) l) (hz : ∀ s ∈ l, s.size ≤ 1048576) (hs : s.size ≤ 1048576) :
    Calls Try.prog 29 #[.agg #[.int .i64 d, .int .i64 f, .slice a n c], .int .i64 k, .string s] w (Gave2 w d f (withL d f l k s) (withB d f l k s)) := by
  have hn0 : n = l.length := h.row2.1
  cases hc : cardB d f l with
  | false =>
    have e : withB d f l k s = false := by unfold withB; rw [hc]; rfl
    have e2 : withL d f l k s = l := by unfold withL; rw [if_neg (by rw [e]; simp)]
    rw [e, e2]
    exact withSpec_bad d f base n c a l s w hn h hz hs k hc
  | true =>
    by_cases hk : 0 ≤ k ∧ k < (l.length : Int)
    · obtain ⟨j, rfl⟩ := Int.eq_ofNat_of_zero_le hk.1
      have h1 := withSpec_in d f base n c a l s w hn h hz hs j (by omega) hc
      refine h1.mono fun e w' he => ?_
      unfold Swapped at he
      have e1 : withB d f l (j : Int) s = cardB d f (l.set j s) := by unfold withB; rw [hc, decide_eq_true hk]; simp
      unfold withL
      rw [e1]
      simpa using he
    · have e : withB d f l k s = false := by unfold withB; rw [decide_eq_false hk]; simp
      have e2 : withL d f l k s = l := by unfold withL; rw [if_neg (by rw [e]; simp)]
      rw [e, e2]
      exact withSpec_out d f base n c a l s w hn h hz hs k hc (by rw [hn0]; exact hk)
end Go.Proofs.Ytofljefeimmabaa.Card
