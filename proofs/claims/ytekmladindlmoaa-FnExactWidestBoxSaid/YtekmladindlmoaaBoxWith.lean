/- What the program of chapter 11 returns: withBox, AddBox, TakeBox (printed by wip/gen_boxwith.py). -/
import Derived.Test.YtekmladindlmoaaBoxVar
import Derived.Test.YtekmladindlmoaaFlipImpl
namespace Go.Proofs.Ytekmladindlmoaa.Box
open Go.ChangeShapes Go.WideShapes Go.ChangeAt Go.RowKit Go.Sort
open Go.Proofs.Ytekmladindlmoaa.Strip Go.Proofs.Ytekmladindlmoaa.Strs Go.Proofs.Ytekmladindlmoaa.Card Go.Proofs.Ytekmladindlmoaa.Corner Go.Proofs.Ytekmladindlmoaa.Kerf Go.Proofs.Ytekmladindlmoaa.Order Go.Proofs.Ytekmladindlmoaa.Flip
set_option linter.unusedVariables false

set_option maxRecDepth 100000 in
set_option maxHeartbeats 2000000 in
theorem withRaise_bad (d f : Int) (F L A : Int) (base n c : Nat) (a : Option Addr) (l : List ByteArray) (w : World) (hn : n ≤ 1048576) (h : Own w base (.slice a n c) l) (hz : ∀ s ∈ l, s.size ≤ 1048576) (hA0 : -9223372036854775808 ≤ A) (hA1 : A ≤ 9223372036854775807) (hbad : cardB d f l = false) :
    Calls Try.prog 53 #[.agg #[.int .i64 d, .int .i64 f, .slice a n c], .agg #[.int .i64 F, .int .i64 L, .int .i64 A], .func (.func 54) #[] #[]] w (Gave2 w d f l false) := by
  obtain ⟨W, hW, hv1, hv2, hv3, hb, hs0⟩ := beginCBR w d f (.slice a n c) F L A
  have hoW : Own W base (.slice a n c) l := by rw [hW]; exact ((h.below (alloc_below _ _)).below (alloc_below _ _)).below (alloc_below _ _)
  have HN := Lib.hid h.row2.1
  have HOW := Lib.hid hoW
  have HV1 := Lib.hid hv1
  have HV2 := Lib.hid hv2
  have HV3 := Lib.hid hv3
  have HB := Lib.hid hb
  have HS := Lib.hid hs0
  have HZ := Lib.hid hz
  have HW := Lib.hid hW
  have HLT := Lib.hid (fun b e => (h.lt b e).2)
  clear hv1 hv2 hv3 hb hs0 hz hW hoW h
  go_enter Try.func53, Try.ntmps53
  go_wp2_with fail
  rw [← HW.out]
  clear HW
  obtain ⟨k0, k1, k2⟩ := HV1.out.cells
  go_wp2_with fail
  refine (copy_impl d f base n c a l _ hn HOW.out).mono ?_
  rintro e w1 ⟨a2, c2, rfl, hb1, ho1⟩
  have HV1 := Lib.hid (HV1.out.below hb1)
  have HV2 := Lib.hid (HV2.out.below hb1)
  have HV3 := Lib.hid (HV3.out.below hb1)
  have HOW := Lib.hid (HOW.out.below hb1)
  have HB1 := Lib.hid (HB.out.trans (hb1.mono HB.out.size))
  have HO1 := Lib.hid (ho1.mono (base2 := w.heap.size) HB.out.size)
  have hs1 : w.heap.size + 3 ≤ w1.heap.size := by have := hb1.size; have := HS.out; omega
  clear hb1 k0 k1 k2 HB ho1
  have hv0 := Var.new w1 d f (.slice a2 l.length c2)
  have hb := alloc_below w1 (.cells #[.int .i64 d, .int .i64 f, .slice a2 l.length c2] 26)
  have HV1 := Lib.hid (HV1.out.below hb)
  have HV2 := Lib.hid (HV2.out.below hb)
  have HV3 := Lib.hid (HV3.out.below hb)
  have HO1 := Lib.hid (HO1.out.below hb)
  have HOW := Lib.hid (HOW.out.below hb)
  have HB1 := Lib.hid (HB1.out.trans (hb.mono HB1.out.size))
  have HV4 := Lib.hid hv0
  clear hv0 hb
  obtain ⟨k0, k1, k2⟩ := HV1.out.cells
  go_wp2_with fail
  clear k0 k1 k2
  generalize (w1.alloc (.cells #[.int .i64 d, .int .i64 f, .slice a2 l.length c2] 26)) = w2 at *
  generalize w1.heap.size = B4 at *
  refine (ok_impl d f a n c l _ HN.out.symm hn HZ.out HOW.out.row2.2).mono ?_
  rintro e w3 ⟨rfl, hb3⟩
  have HV1 := Lib.hid (HV1.out.below hb3)
  have HV2 := Lib.hid (HV2.out.below hb3)
  have HV3 := Lib.hid (HV3.out.below hb3)
  have HV4 := Lib.hid (HV4.out.below hb3)
  have HO3 := Lib.hid (HO1.out.below hb3)
  have HOW := Lib.hid (HOW.out.below hb3)
  have HB3 := Lib.hid (HB1.out.trans (hb3.mono HB1.out.size))
  clear hb3 HO1 HB1
  rw [hbad]
  obtain ⟨g0, g1, g2⟩ := HV4.out.cells
  have hx : ∃ Z, Z = Card.set3 w3 (w.heap.size + 2) d f (.slice a2 l.length c2) ∧ Var Z (w.heap.size + 2) d f (.slice a2 l.length c2) ∧ Below w.heap.size w Z ∧ Own Z w.heap.size (.slice a2 l.length c2) l := ⟨_, rfl, gave_last HB3.out HV3.out (by omega) HO3.out (Nat.le_refl _)⟩
  obtain ⟨Z, hZ, hz1, hz2, hz3⟩ := hx
  unfold set3 at hZ
  obtain ⟨p0, p1, p2⟩ := HV3.out.cells
  have f0 := HV3.out.free 0
  have f1 := HV3.out.free 1
  have f2 := HV3.out.free 2
  have HZZ := Lib.hid hZ
  have HZ1 := Lib.hid hz1
  have HZ2 := Lib.hid hz2
  have HZ3 := Lib.hid hz3
  clear hZ hz1 hz2 hz3
  go_wp2_with fail
  clear g0 g1 g2
  rw [← HZZ.out]
  clear HZZ p0 p1 p2 f0 f1 f2
  obtain ⟨z0, z1, z2⟩ := HZ1.out.cells
  refine bodyPost_ret (v := .tuple #[.agg #[.int .i64 d, .int .i64 f, .slice a2 l.length c2], .bool false]) (by simp [results, Try.results53, go_sem, z0, z1, z2]) rfl ?_
  exact ⟨_, c2, rfl, HZ2.out, HZ3.out⟩

set_option maxRecDepth 100000 in
set_option maxHeartbeats 2000000 in
theorem withRaise_out (d f : Int) (F L A : Int) (base n c : Nat) (a : Option Addr) (l : List ByteArray) (w : World) (hn : n ≤ 1048576) (h : Own w base (.slice a n c) l) (hz : ∀ s ∈ l, s.size ≤ 1048576) (hA0 : -9223372036854775808 ≤ A) (hA1 : A ≤ 9223372036854775807) (hcard : cardB d f l = true) (hout : ¬ (0 ≤ F ∧ F ≤ L ∧ L < (n : Int))) :
    Calls Try.prog 53 #[.agg #[.int .i64 d, .int .i64 f, .slice a n c], .agg #[.int .i64 F, .int .i64 L, .int .i64 A], .func (.func 54) #[] #[]] w (Gave2 w d f l false) := by
  obtain ⟨W, hW, hv1, hv2, hv3, hb, hs0⟩ := beginCBR w d f (.slice a n c) F L A
  have hoW : Own W base (.slice a n c) l := by rw [hW]; exact ((h.below (alloc_below _ _)).below (alloc_below _ _)).below (alloc_below _ _)
  have HN := Lib.hid h.row2.1
  have HOW := Lib.hid hoW
  have HV1 := Lib.hid hv1
  have HV2 := Lib.hid hv2
  have HV3 := Lib.hid hv3
  have HB := Lib.hid hb
  have HS := Lib.hid hs0
  have HZ := Lib.hid hz
  have HW := Lib.hid hW
  have HLT := Lib.hid (fun b e => (h.lt b e).2)
  clear hv1 hv2 hv3 hb hs0 hz hW hoW h
  have hd := decide_eq_false hout
  clear hout
  go_enter Try.func53, Try.ntmps53
  go_wp2_with fail
  rw [← HW.out]
  clear HW
  obtain ⟨k0, k1, k2⟩ := HV1.out.cells
  go_wp2_with fail
  refine (copy_impl d f base n c a l _ hn HOW.out).mono ?_
  rintro e w1 ⟨a2, c2, rfl, hb1, ho1⟩
  have HV1 := Lib.hid (HV1.out.below hb1)
  have HV2 := Lib.hid (HV2.out.below hb1)
  have HV3 := Lib.hid (HV3.out.below hb1)
  have HOW := Lib.hid (HOW.out.below hb1)
  have HB1 := Lib.hid (HB.out.trans (hb1.mono HB.out.size))
  have HO1 := Lib.hid (ho1.mono (base2 := w.heap.size) HB.out.size)
  have hs1 : w.heap.size + 3 ≤ w1.heap.size := by have := hb1.size; have := HS.out; omega
  clear hb1 k0 k1 k2 HB ho1
  have hv0 := Var.new w1 d f (.slice a2 l.length c2)
  have hb := alloc_below w1 (.cells #[.int .i64 d, .int .i64 f, .slice a2 l.length c2] 26)
  have HV1 := Lib.hid (HV1.out.below hb)
  have HV2 := Lib.hid (HV2.out.below hb)
  have HV3 := Lib.hid (HV3.out.below hb)
  have HO1 := Lib.hid (HO1.out.below hb)
  have HOW := Lib.hid (HOW.out.below hb)
  have HB1 := Lib.hid (HB1.out.trans (hb.mono HB1.out.size))
  have HV4 := Lib.hid hv0
  clear hv0 hb
  obtain ⟨k0, k1, k2⟩ := HV1.out.cells
  go_wp2_with fail
  clear k0 k1 k2
  generalize (w1.alloc (.cells #[.int .i64 d, .int .i64 f, .slice a2 l.length c2] 26)) = w2 at *
  generalize w1.heap.size = B4 at *
  refine (ok_impl d f a n c l _ HN.out.symm hn HZ.out HOW.out.row2.2).mono ?_
  rintro e w3 ⟨rfl, hb3⟩
  have HV1 := Lib.hid (HV1.out.below hb3)
  have HV2 := Lib.hid (HV2.out.below hb3)
  have HV3 := Lib.hid (HV3.out.below hb3)
  have HV4 := Lib.hid (HV4.out.below hb3)
  have HO3 := Lib.hid (HO1.out.below hb3)
  have HOW := Lib.hid (HOW.out.below hb3)
  have HB3 := Lib.hid (HB1.out.trans (hb3.mono HB1.out.size))
  clear hb3 HO1 HB1
  rw [hcard]
  obtain ⟨k0, k1, k2⟩ := HV1.out.cells
  obtain ⟨m0, m1, m2⟩ := HV2.out.cells
  go_wp2_with fail
  clear k0 k1 k2 m0 m1 m2
  refine (has_impl d f a n c F L A _ hn).mono ?_
  rintro e w4 ⟨rfl, hb4⟩
  rw [hd]
  clear hd
  have HV3 := Lib.hid (HV3.out.below hb4)
  have HV4 := Lib.hid (HV4.out.below hb4)
  have HO4 := Lib.hid (HO3.out.below hb4)
  have HB4 := Lib.hid (HB3.out.trans (hb4.mono HB3.out.size))
  clear hb4
  obtain ⟨g0, g1, g2⟩ := HV4.out.cells
  have hx : ∃ Z, Z = Card.set3 w4 (w.heap.size + 2) d f (.slice a2 l.length c2) ∧ Var Z (w.heap.size + 2) d f (.slice a2 l.length c2) ∧ Below w.heap.size w Z ∧ Own Z w.heap.size (.slice a2 l.length c2) l := ⟨_, rfl, gave_last HB4.out HV3.out (by omega) HO4.out (Nat.le_refl _)⟩
  obtain ⟨Z, hZ, hz1, hz2, hz3⟩ := hx
  unfold set3 at hZ
  obtain ⟨p0, p1, p2⟩ := HV3.out.cells
  have f0 := HV3.out.free 0
  have f1 := HV3.out.free 1
  have f2 := HV3.out.free 2
  have HZZ := Lib.hid hZ
  have HZ1 := Lib.hid hz1
  have HZ2 := Lib.hid hz2
  have HZ3 := Lib.hid hz3
  clear hZ hz1 hz2 hz3
  go_wp2_with fail
  clear g0 g1 g2
  rw [← HZZ.out]
  clear HZZ p0 p1 p2 f0 f1 f2
  obtain ⟨z0, z1, z2⟩ := HZ1.out.cells
  refine bodyPost_ret (v := .tuple #[.agg #[.int .i64 d, .int .i64 f, .slice a2 l.length c2], .bool false]) (by simp [results, Try.results53, go_sem, z0, z1, z2]) rfl ?_
  exact ⟨_, c2, rfl, HZ2.out, HZ3.out⟩

set_option maxRecDepth 100000 in
set_option maxHeartbeats 2000000 in
theorem withRaise_in (d f : Int) (i0 j0 : Nat) (A : Int) (base n c : Nat) (a : Option Addr) (l : List ByteArray) (w : World) (hn : n ≤ 1048576) (h : Own w base (.slice a n c) l) (hz : ∀ s ∈ l, s.size ≤ 1048576) (hA0 : -9223372036854775808 ≤ A) (hA1 : A ≤ 9223372036854775807) (hcard : cardB d f l = true) (hij : i0 ≤ j0) (hj : j0 < n) :
    Calls Try.prog 53 #[.agg #[.int .i64 d, .int .i64 f, .slice a n c], .agg #[.int .i64 (i0 : Int), .int .i64 (j0 : Int), .int .i64 A], .func (.func 54) #[] #[]] w (Gave2 w d f (boxL 100 d f l (i0 : Int) (j0 : Int) A) (boxB 100 d f l (i0 : Int) (j0 : Int) A)) := by
  obtain ⟨W, hW, hv1, hv2, hv3, hb, hs0⟩ := beginCBR w d f (.slice a n c) i0 j0 A
  have hoW : Own W base (.slice a n c) l := by rw [hW]; exact ((h.below (alloc_below _ _)).below (alloc_below _ _)).below (alloc_below _ _)
  have HN := Lib.hid h.row2.1
  have HOW := Lib.hid hoW
  have HV1 := Lib.hid hv1
  have HV2 := Lib.hid hv2
  have HV3 := Lib.hid hv3
  have HB := Lib.hid hb
  have HS := Lib.hid hs0
  have HZ := Lib.hid hz
  have HW := Lib.hid hW
  have HLT := Lib.hid (fun b e => (h.lt b e).2)
  clear hv1 hv2 hv3 hb hs0 hz hW hoW h
  have hd : decide ((0 : Int) ≤ (i0 : Int) ∧ (i0 : Int) ≤ (j0 : Int) ∧ (j0 : Int) < (n : Int)) = true := decide_eq_true (by omega)
  have hjn : (j0 : Int) < (n : Int) := by omega
  have HR := Lib.hid (rangeB_iff.2 ⟨hcard, (show (0 : Int) ≤ (i0 : Int) by omega), (show (i0 : Int) ≤ (j0 : Int) by omega), (show (j0 : Int) < (l.length : Int) by have := HN.out; omega)⟩)
  go_enter Try.func53, Try.ntmps53
  go_wp2_with fail
  rw [← HW.out]
  clear HW
  obtain ⟨k0, k1, k2⟩ := HV1.out.cells
  go_wp2_with fail
  refine (copy_impl d f base n c a l _ hn HOW.out).mono ?_
  rintro e w1 ⟨a2, c2, rfl, hb1, ho1⟩
  have HV1 := Lib.hid (HV1.out.below hb1)
  have HV2 := Lib.hid (HV2.out.below hb1)
  have HV3 := Lib.hid (HV3.out.below hb1)
  have HOW := Lib.hid (HOW.out.below hb1)
  have HB1 := Lib.hid (HB.out.trans (hb1.mono HB.out.size))
  have HO1 := Lib.hid (ho1.mono (base2 := w.heap.size) HB.out.size)
  have hs1 : w.heap.size + 3 ≤ w1.heap.size := by have := hb1.size; have := HS.out; omega
  clear hb1 k0 k1 k2 HB ho1
  have hv0 := Var.new w1 d f (.slice a2 l.length c2)
  have hb := alloc_below w1 (.cells #[.int .i64 d, .int .i64 f, .slice a2 l.length c2] 26)
  have HV1 := Lib.hid (HV1.out.below hb)
  have HV2 := Lib.hid (HV2.out.below hb)
  have HV3 := Lib.hid (HV3.out.below hb)
  have HO1 := Lib.hid (HO1.out.below hb)
  have HOW := Lib.hid (HOW.out.below hb)
  have HB1 := Lib.hid (HB1.out.trans (hb.mono HB1.out.size))
  have HV4 := Lib.hid hv0
  clear hv0 hb
  obtain ⟨k0, k1, k2⟩ := HV1.out.cells
  go_wp2_with fail
  clear k0 k1 k2
  generalize (w1.alloc (.cells #[.int .i64 d, .int .i64 f, .slice a2 l.length c2] 26)) = w2 at *
  generalize w1.heap.size = B4 at *
  refine (ok_impl d f a n c l _ HN.out.symm hn HZ.out HOW.out.row2.2).mono ?_
  rintro e w3 ⟨rfl, hb3⟩
  have HV1 := Lib.hid (HV1.out.below hb3)
  have HV2 := Lib.hid (HV2.out.below hb3)
  have HV3 := Lib.hid (HV3.out.below hb3)
  have HV4 := Lib.hid (HV4.out.below hb3)
  have HO3 := Lib.hid (HO1.out.below hb3)
  have HOW := Lib.hid (HOW.out.below hb3)
  have HB3 := Lib.hid (HB1.out.trans (hb3.mono HB1.out.size))
  clear hb3 HO1 HB1
  rw [hcard]
  clear hcard
  obtain ⟨k0, k1, k2⟩ := HV1.out.cells
  obtain ⟨m0, m1, m2⟩ := HV2.out.cells
  go_wp2_with fail
  refine (has_impl d f a n c (i0 : Int) (j0 : Int) A _ hn).mono ?_
  rintro e w4 ⟨rfl, hb4⟩
  rw [hd]
  clear hd k0 k1 k2 m0 m1 m2
  have HV1 := Lib.hid (HV1.out.below hb4)
  have HV2 := Lib.hid (HV2.out.below hb4)
  have HV3 := Lib.hid (HV3.out.below hb4)
  have HV4 := Lib.hid (HV4.out.below hb4)
  have HO4 := Lib.hid (HO3.out.below hb4)
  have HOW := Lib.hid (HOW.out.below hb4)
  have HB4 := Lib.hid (HB3.out.trans (hb4.mono HB3.out.size))
  clear hb4 HO3 HB3
  obtain ⟨m0, m1, m2⟩ := HV2.out.cells
  go_wp2_with fail
  clear m0 m1 m2
  have HP0 := Lib.hid (show Own w4 w.heap.size (.slice a2 l.length c2) (partL 100 A l i0 i0) by rw [partL_none _ _ _ _ _ (Nat.le_refl _)]; exact HO4.out)
  have HB4B := Lib.hid (show w.heap.size + 3 ≤ B4 by omega)
  clear hs1
  go_loopw [9] (fun i wr => ∃ k : Nat, i0 ≤ k ∧ k ≤ j0 + 1 ∧ i = .int .i64 (k : Int) ∧ Hid (Var wr w.heap.size d f (.slice a n c)) ∧ Hid (BVar wr (w.heap.size + 1) i0 j0 A) ∧ Hid (Var wr (w.heap.size + 2) 0 0 (.slice none 0 0)) ∧ Hid (Var wr B4 d f (.slice a2 l.length c2)) ∧ Hid (Own wr base (.slice a n c) l) ∧ Hid (Own wr w.heap.size (.slice a2 l.length c2) (partL 100 A l i0 k)) ∧ Hid (Below w.heap.size w wr) ∧ Hid (∀ m (hm : m < l.length), i0 ≤ m → m < k → cornerB 100 l[m].data.toList A = true)) (fun i _ => j0 + 1 - (intOf i).toNat)
  case atStart => exact ⟨i0, Nat.le_refl _, by omega, rfl, HV1, HV2, HV3, HV4, HOW, HP0, HB4, fun m _ h1 h2 => by omega⟩
  case round =>
    obtain ⟨k, hk0, hk, rfl, HV1, HV2, HV3, HV4, HOW, HO, HB, HG⟩ := hrel
    obtain ⟨m0, m1, m2⟩ := HV2.out.cells
    by_cases hlt : k < j0 + 1
    · have hk1 : decide ((k : Int) ≤ (j0 : Int)) = true := decide_eq_true (by omega)
      have hk2 : (0 : Int) ≤ (k : Int) := Int.natCast_nonneg _
      have hk3 : (k : Int) < (n : Int) := by omega
      have hk4 : k < n := by omega
      have hkl : k < l.length := by have := HN.out; omega
      obtain ⟨g, hg⟩ : ∃ g, a = some ⟨g, 0, none⟩ := by
        rcases HOW.out.shape with ⟨_, _, e⟩ | h
        · rw [e] at hkl; simp at hkl
        · exact h
      subst hg
      have HX := Lib.hid (fun (dd : Nat) (os : Array Obj) => Calls.regrown_of (raise_impl l[k] A (grow (redrawn wr dd) os) (HZ.out _ (List.getElem_mem hkl)) hA0 hA1))
      have hcell := cell_regrown (HOW.out.cell hkl)
      obtain ⟨k0, k1, k2⟩ := HV1.out.cells
      have k0 := cell_regrown k0
      have k1 := cell_regrown k1
      have k2 := cell_regrown k2
      obtain ⟨q0, q1, q2⟩ := HV2.out.cells
      have q0 := cell_regrown q0
      have q1 := cell_regrown q1
      have q2 := cell_regrown q2
      have HSET := Lib.hid (partL_set 100 A l i0 k hkl hk0)
      have HBAD := Lib.hid (fun hc => box_bad (x := 100) (d := d) (f := f) (i := i0) (j := j0) (A := A) k hkl hk0 hlt hc)
      have HNEXT := Lib.hid (fun (hc : cornerB 100 l[k].data.toList A = true) => show ∀ m (hm : m < l.length), i0 ≤ m → m < k + 1 → cornerB 100 l[m].data.toList A = true from fun m hm h1 h2 => by
        by_cases e : m = k
        · subst e; exact hc
        · exact HG.out m hm h1 (by omega))
      rw [chS_up] at HSET
      generalize l[k] = s at *
      go_wp2_with fail
      refine wp_region_quiet_below (by kernel_rfl) (by kernel_rfl) ?_
      repeat (go_big_quiet_step ((go_at_call 54; exact HX.out _ _)))
      refine wpQuiet_nil ?_
      intro _ hw'
      obtain ⟨⟨dq, osq⟩, hw''⟩ := hw'
      subst hw''
      have hbr := below_regrown wr dq osq
      have HV1 := Lib.hid (HV1.out.below hbr)
      have HV2 := Lib.hid (HV2.out.below hbr)
      have HV3 := Lib.hid (HV3.out.below hbr)
      have HV4 := Lib.hid (HV4.out.below hbr)
      have HOW := Lib.hid (HOW.out.below hbr)
      have HO := Lib.hid (HO.out.below hbr)
      have HB := Lib.hid (HB.out.trans (hbr.mono HB.out.size))
      clear hbr k0 k1 k2 q0 q1 q2 m0 m1 m2 hcell HX
      generalize (grow (redrawn wr dq) osq) = w5 at *
      cases hc : cornerB 100 s.data.toList A with
      | true =>
        have HC := Lib.hid (HNEXT.out hc)
        clear hc HBAD HNEXT HG
        have hkp : k < (partL 100 A l i0 k).length := by rw [partL_length]; exact hkl
        have hsh : ∃ g2, a2 = some ⟨g2, 0, none⟩ := by
          rcases HO.out.shape with ⟨_, _, e⟩ | h
          · rw [e] at hkp; simp at hkp
          · exact h
        obtain ⟨g2, rfl⟩ := hsh
        have hcell := HO.out.cell hkp
        have hfree := HO.out.free k
        have hkl2 : (k : Int) < (l.length : Int) := by omega
        generalize (partL 100 A l i0 k)[k]'_ = old at hcell
        have ho2 := HO.out.set (raiseS s A) hkp
        rw [HSET.out] at ho2
        have HO2 := Lib.hid ho2
        have hg := grown_set w5 g2 k (.string (raiseS s A))
        have HV1 := Lib.hid (HV1.out.written HO.out hg)
        have HV2 := Lib.hid (HV2.out.written HO.out hg)
        have HV3 := Lib.hid (HV3.out.written HO.out hg)
        have HV6 := Lib.hid (HV4.out.written HO.out hg)
        have HOW := Lib.hid (HOW.out.apart HO.out HLT.out hg)
        have HB6 := Lib.hid (HO.out.write_below HB.out (Nat.le_refl _) HB.out.size hg)
        obtain ⟨r0, r1, r2⟩ := HV4.out.cells
        clear hg HB HO ho2 HV4 hkp HSET
        go_wp2_with fail
        clear r0 r1 r2 hcell hfree
        generalize (w5.setCell ⟨g2, k, none⟩ (.string (raiseS s A))) = w6 at *
        go_roundw
        case rel => exact ⟨k + 1, by omega, by omega, by go_num, HV1, HV2, HV3, HV6, HOW, HO2, HB6, HC⟩
        case measure => simp [intOf]; omega
      | false =>
        have HE := Lib.hid (HBAD.out hc)
        clear HBAD HNEXT HSET HO HV4 hc
        obtain ⟨k0, k1, k2⟩ := HV1.out.cells
        go_wp2_with fail
        clear k0 k1 k2
        refine (copy_impl d f base n c (some ⟨g, 0, none⟩) l _ hn HOW.out).mono ?_
        rintro e w7 ⟨a7, c7, rfl, hb7, ho7⟩
        have HV3 := Lib.hid (HV3.out.below hb7)
        have HB7 := Lib.hid (HB.out.trans (hb7.mono HB.out.size))
        have HO7 := Lib.hid (ho7.mono (base2 := w.heap.size) HB.out.size)
        clear hb7 ho7
        have hx : ∃ Z, Z = Card.set3 w7 (w.heap.size + 2) d f (.slice a7 l.length c7) ∧ Var Z (w.heap.size + 2) d f (.slice a7 l.length c7) ∧ Below w.heap.size w Z ∧ Own Z w.heap.size (.slice a7 l.length c7) l := ⟨_, rfl, gave_last HB7.out HV3.out (by omega) HO7.out (Nat.le_refl _)⟩
        obtain ⟨Z, hZ, hz1, hz2, hz3⟩ := hx
        unfold set3 at hZ
        obtain ⟨p0, p1, p2⟩ := HV3.out.cells
        have f0 := HV3.out.free 0
        have f1 := HV3.out.free 1
        have f2 := HV3.out.free 2
        have HZZ := Lib.hid hZ
        have HZ1 := Lib.hid hz1
        have HZ2 := Lib.hid hz2
        have HZ3 := Lib.hid hz3
        clear hZ hz1 hz2 hz3
        go_wp2_with fail
        skip
        rw [← HZZ.out]
        clear HZZ p0 p1 p2 f0 f1 f2
        obtain ⟨z0, z1, z2⟩ := HZ1.out.cells
        refine bodyPost_ret (v := .tuple #[.agg #[.int .i64 d, .int .i64 f, .slice a7 l.length c7], .bool false]) (by simp [results, Try.results53, go_sem, z0, z1, z2]) rfl ?_
        rw [HE.out.1, HE.out.2]; exact ⟨_, c7, rfl, HZ2.out, HZ3.out⟩
    · obtain rfl : k = j0 + 1 := by omega
      have HE := Lib.hid (box_good HR.out HG.out)
      have HLN := Lib.hid (partL_length 100 A l i0 (j0 + 1))
      have HOZ := Lib.hid (show Own wr w.heap.size (.slice a2 (partL 100 A l i0 (j0 + 1)).length c2) (partL 100 A l i0 (j0 + 1)) by rw [HLN.out]; exact HO.out)
      have hv4 := HV4.out
      rw [← HLN.out] at hv4
      have hk1 : ¬ (j0 + 1 ≤ j0) := by omega
      clear HO HG HV4
      generalize (partL 100 A l i0 (j0 + 1)) = l5 at *
      have HV4 := Lib.hid hv4
      clear hv4
      obtain ⟨g0, g1, g2⟩ := HV4.out.cells
      have hx : ∃ Z, Z = Card.set3 wr (w.heap.size + 2) d f (.slice a2 l5.length c2) ∧ Var Z (w.heap.size + 2) d f (.slice a2 l5.length c2) ∧ Below w.heap.size w Z ∧ Own Z w.heap.size (.slice a2 l5.length c2) l5 := ⟨_, rfl, gave_last HB.out HV3.out (by omega) HOZ.out (Nat.le_refl _)⟩
      obtain ⟨Z, hZ, hz1, hz2, hz3⟩ := hx
      unfold set3 at hZ
      obtain ⟨p0, p1, p2⟩ := HV3.out.cells
      have f0 := HV3.out.free 0
      have f1 := HV3.out.free 1
      have f2 := HV3.out.free 2
      have HZZ := Lib.hid hZ
      have HZ1 := Lib.hid hz1
      have HZ2 := Lib.hid hz2
      have HZ3 := Lib.hid hz3
      clear hZ hz1 hz2 hz3
      go_wp2_with fail
      clear g0 g1 g2
      rw [← HZZ.out]
      clear HZZ p0 p1 p2 f0 f1 f2
      obtain ⟨z0, z1, z2⟩ := HZ1.out.cells
      refine bodyPost_ret (v := .tuple #[.agg #[.int .i64 d, .int .i64 f, .slice a2 l5.length c2], .bool true]) (by simp [results, Try.results53, go_sem, z0, z1, z2]) rfl ?_
      rw [HE.out.1, HE.out.2]; exact ⟨_, c2, rfl, HZ2.out, HZ3.out⟩

set_option maxRecDepth 100000 in
set_option maxHeartbeats 2000000 in
theorem withLower_bad (d f : Int) (F L A : Int) (base n c : Nat) (a : Option Addr) (l : List ByteArray) (w : World) (hn : n ≤ 1048576) (h : Own w base (.slice a n c) l) (hz : ∀ s ∈ l, s.size ≤ 1048576) (hA0 : -9223372036854775808 ≤ A) (hA1 : A ≤ 9223372036854775807) (hbad : cardB d f l = false) :
    Calls Try.prog 53 #[.agg #[.int .i64 d, .int .i64 f, .slice a n c], .agg #[.int .i64 F, .int .i64 L, .int .i64 A], .func (.func 55) #[] #[]] w (Gave2 w d f l false) := by
  obtain ⟨W, hW, hv1, hv2, hv3, hb, hs0⟩ := beginCBR w d f (.slice a n c) F L A
  have hoW : Own W base (.slice a n c) l := by rw [hW]; exact ((h.below (alloc_below _ _)).below (alloc_below _ _)).below (alloc_below _ _)
  have HN := Lib.hid h.row2.1
  have HOW := Lib.hid hoW
  have HV1 := Lib.hid hv1
  have HV2 := Lib.hid hv2
  have HV3 := Lib.hid hv3
  have HB := Lib.hid hb
  have HS := Lib.hid hs0
  have HZ := Lib.hid hz
  have HW := Lib.hid hW
  have HLT := Lib.hid (fun b e => (h.lt b e).2)
  clear hv1 hv2 hv3 hb hs0 hz hW hoW h
  go_enter Try.func53, Try.ntmps53
  go_wp2_with fail
  rw [← HW.out]
  clear HW
  obtain ⟨k0, k1, k2⟩ := HV1.out.cells
  go_wp2_with fail
  refine (copy_impl d f base n c a l _ hn HOW.out).mono ?_
  rintro e w1 ⟨a2, c2, rfl, hb1, ho1⟩
  have HV1 := Lib.hid (HV1.out.below hb1)
  have HV2 := Lib.hid (HV2.out.below hb1)
  have HV3 := Lib.hid (HV3.out.below hb1)
  have HOW := Lib.hid (HOW.out.below hb1)
  have HB1 := Lib.hid (HB.out.trans (hb1.mono HB.out.size))
  have HO1 := Lib.hid (ho1.mono (base2 := w.heap.size) HB.out.size)
  have hs1 : w.heap.size + 3 ≤ w1.heap.size := by have := hb1.size; have := HS.out; omega
  clear hb1 k0 k1 k2 HB ho1
  have hv0 := Var.new w1 d f (.slice a2 l.length c2)
  have hb := alloc_below w1 (.cells #[.int .i64 d, .int .i64 f, .slice a2 l.length c2] 26)
  have HV1 := Lib.hid (HV1.out.below hb)
  have HV2 := Lib.hid (HV2.out.below hb)
  have HV3 := Lib.hid (HV3.out.below hb)
  have HO1 := Lib.hid (HO1.out.below hb)
  have HOW := Lib.hid (HOW.out.below hb)
  have HB1 := Lib.hid (HB1.out.trans (hb.mono HB1.out.size))
  have HV4 := Lib.hid hv0
  clear hv0 hb
  obtain ⟨k0, k1, k2⟩ := HV1.out.cells
  go_wp2_with fail
  clear k0 k1 k2
  generalize (w1.alloc (.cells #[.int .i64 d, .int .i64 f, .slice a2 l.length c2] 26)) = w2 at *
  generalize w1.heap.size = B4 at *
  refine (ok_impl d f a n c l _ HN.out.symm hn HZ.out HOW.out.row2.2).mono ?_
  rintro e w3 ⟨rfl, hb3⟩
  have HV1 := Lib.hid (HV1.out.below hb3)
  have HV2 := Lib.hid (HV2.out.below hb3)
  have HV3 := Lib.hid (HV3.out.below hb3)
  have HV4 := Lib.hid (HV4.out.below hb3)
  have HO3 := Lib.hid (HO1.out.below hb3)
  have HOW := Lib.hid (HOW.out.below hb3)
  have HB3 := Lib.hid (HB1.out.trans (hb3.mono HB1.out.size))
  clear hb3 HO1 HB1
  rw [hbad]
  obtain ⟨g0, g1, g2⟩ := HV4.out.cells
  have hx : ∃ Z, Z = Card.set3 w3 (w.heap.size + 2) d f (.slice a2 l.length c2) ∧ Var Z (w.heap.size + 2) d f (.slice a2 l.length c2) ∧ Below w.heap.size w Z ∧ Own Z w.heap.size (.slice a2 l.length c2) l := ⟨_, rfl, gave_last HB3.out HV3.out (by omega) HO3.out (Nat.le_refl _)⟩
  obtain ⟨Z, hZ, hz1, hz2, hz3⟩ := hx
  unfold set3 at hZ
  obtain ⟨p0, p1, p2⟩ := HV3.out.cells
  have f0 := HV3.out.free 0
  have f1 := HV3.out.free 1
  have f2 := HV3.out.free 2
  have HZZ := Lib.hid hZ
  have HZ1 := Lib.hid hz1
  have HZ2 := Lib.hid hz2
  have HZ3 := Lib.hid hz3
  clear hZ hz1 hz2 hz3
  go_wp2_with fail
  clear g0 g1 g2
  rw [← HZZ.out]
  clear HZZ p0 p1 p2 f0 f1 f2
  obtain ⟨z0, z1, z2⟩ := HZ1.out.cells
  refine bodyPost_ret (v := .tuple #[.agg #[.int .i64 d, .int .i64 f, .slice a2 l.length c2], .bool false]) (by simp [results, Try.results53, go_sem, z0, z1, z2]) rfl ?_
  exact ⟨_, c2, rfl, HZ2.out, HZ3.out⟩

set_option maxRecDepth 100000 in
set_option maxHeartbeats 2000000 in
theorem withLower_out (d f : Int) (F L A : Int) (base n c : Nat) (a : Option Addr) (l : List ByteArray) (w : World) (hn : n ≤ 1048576) (h : Own w base (.slice a n c) l) (hz : ∀ s ∈ l, s.size ≤ 1048576) (hA0 : -9223372036854775808 ≤ A) (hA1 : A ≤ 9223372036854775807) (hcard : cardB d f l = true) (hout : ¬ (0 ≤ F ∧ F ≤ L ∧ L < (n : Int))) :
    Calls Try.prog 53 #[.agg #[.int .i64 d, .int .i64 f, .slice a n c], .agg #[.int .i64 F, .int .i64 L, .int .i64 A], .func (.func 55) #[] #[]] w (Gave2 w d f l false) := by
  obtain ⟨W, hW, hv1, hv2, hv3, hb, hs0⟩ := beginCBR w d f (.slice a n c) F L A
  have hoW : Own W base (.slice a n c) l := by rw [hW]; exact ((h.below (alloc_below _ _)).below (alloc_below _ _)).below (alloc_below _ _)
  have HN := Lib.hid h.row2.1
  have HOW := Lib.hid hoW
  have HV1 := Lib.hid hv1
  have HV2 := Lib.hid hv2
  have HV3 := Lib.hid hv3
  have HB := Lib.hid hb
  have HS := Lib.hid hs0
  have HZ := Lib.hid hz
  have HW := Lib.hid hW
  have HLT := Lib.hid (fun b e => (h.lt b e).2)
  clear hv1 hv2 hv3 hb hs0 hz hW hoW h
  have hd := decide_eq_false hout
  clear hout
  go_enter Try.func53, Try.ntmps53
  go_wp2_with fail
  rw [← HW.out]
  clear HW
  obtain ⟨k0, k1, k2⟩ := HV1.out.cells
  go_wp2_with fail
  refine (copy_impl d f base n c a l _ hn HOW.out).mono ?_
  rintro e w1 ⟨a2, c2, rfl, hb1, ho1⟩
  have HV1 := Lib.hid (HV1.out.below hb1)
  have HV2 := Lib.hid (HV2.out.below hb1)
  have HV3 := Lib.hid (HV3.out.below hb1)
  have HOW := Lib.hid (HOW.out.below hb1)
  have HB1 := Lib.hid (HB.out.trans (hb1.mono HB.out.size))
  have HO1 := Lib.hid (ho1.mono (base2 := w.heap.size) HB.out.size)
  have hs1 : w.heap.size + 3 ≤ w1.heap.size := by have := hb1.size; have := HS.out; omega
  clear hb1 k0 k1 k2 HB ho1
  have hv0 := Var.new w1 d f (.slice a2 l.length c2)
  have hb := alloc_below w1 (.cells #[.int .i64 d, .int .i64 f, .slice a2 l.length c2] 26)
  have HV1 := Lib.hid (HV1.out.below hb)
  have HV2 := Lib.hid (HV2.out.below hb)
  have HV3 := Lib.hid (HV3.out.below hb)
  have HO1 := Lib.hid (HO1.out.below hb)
  have HOW := Lib.hid (HOW.out.below hb)
  have HB1 := Lib.hid (HB1.out.trans (hb.mono HB1.out.size))
  have HV4 := Lib.hid hv0
  clear hv0 hb
  obtain ⟨k0, k1, k2⟩ := HV1.out.cells
  go_wp2_with fail
  clear k0 k1 k2
  generalize (w1.alloc (.cells #[.int .i64 d, .int .i64 f, .slice a2 l.length c2] 26)) = w2 at *
  generalize w1.heap.size = B4 at *
  refine (ok_impl d f a n c l _ HN.out.symm hn HZ.out HOW.out.row2.2).mono ?_
  rintro e w3 ⟨rfl, hb3⟩
  have HV1 := Lib.hid (HV1.out.below hb3)
  have HV2 := Lib.hid (HV2.out.below hb3)
  have HV3 := Lib.hid (HV3.out.below hb3)
  have HV4 := Lib.hid (HV4.out.below hb3)
  have HO3 := Lib.hid (HO1.out.below hb3)
  have HOW := Lib.hid (HOW.out.below hb3)
  have HB3 := Lib.hid (HB1.out.trans (hb3.mono HB1.out.size))
  clear hb3 HO1 HB1
  rw [hcard]
  obtain ⟨k0, k1, k2⟩ := HV1.out.cells
  obtain ⟨m0, m1, m2⟩ := HV2.out.cells
  go_wp2_with fail
  clear k0 k1 k2 m0 m1 m2
  refine (has_impl d f a n c F L A _ hn).mono ?_
  rintro e w4 ⟨rfl, hb4⟩
  rw [hd]
  clear hd
  have HV3 := Lib.hid (HV3.out.below hb4)
  have HV4 := Lib.hid (HV4.out.below hb4)
  have HO4 := Lib.hid (HO3.out.below hb4)
  have HB4 := Lib.hid (HB3.out.trans (hb4.mono HB3.out.size))
  clear hb4
  obtain ⟨g0, g1, g2⟩ := HV4.out.cells
  have hx : ∃ Z, Z = Card.set3 w4 (w.heap.size + 2) d f (.slice a2 l.length c2) ∧ Var Z (w.heap.size + 2) d f (.slice a2 l.length c2) ∧ Below w.heap.size w Z ∧ Own Z w.heap.size (.slice a2 l.length c2) l := ⟨_, rfl, gave_last HB4.out HV3.out (by omega) HO4.out (Nat.le_refl _)⟩
  obtain ⟨Z, hZ, hz1, hz2, hz3⟩ := hx
  unfold set3 at hZ
  obtain ⟨p0, p1, p2⟩ := HV3.out.cells
  have f0 := HV3.out.free 0
  have f1 := HV3.out.free 1
  have f2 := HV3.out.free 2
  have HZZ := Lib.hid hZ
  have HZ1 := Lib.hid hz1
  have HZ2 := Lib.hid hz2
  have HZ3 := Lib.hid hz3
  clear hZ hz1 hz2 hz3
  go_wp2_with fail
  clear g0 g1 g2
  rw [← HZZ.out]
  clear HZZ p0 p1 p2 f0 f1 f2
  obtain ⟨z0, z1, z2⟩ := HZ1.out.cells
  refine bodyPost_ret (v := .tuple #[.agg #[.int .i64 d, .int .i64 f, .slice a2 l.length c2], .bool false]) (by simp [results, Try.results53, go_sem, z0, z1, z2]) rfl ?_
  exact ⟨_, c2, rfl, HZ2.out, HZ3.out⟩

set_option maxRecDepth 100000 in
set_option maxHeartbeats 2000000 in
theorem withLower_in (d f : Int) (i0 j0 : Nat) (A : Int) (base n c : Nat) (a : Option Addr) (l : List ByteArray) (w : World) (hn : n ≤ 1048576) (h : Own w base (.slice a n c) l) (hz : ∀ s ∈ l, s.size ≤ 1048576) (hA0 : -9223372036854775808 ≤ A) (hA1 : A ≤ 9223372036854775807) (hcard : cardB d f l = true) (hij : i0 ≤ j0) (hj : j0 < n) :
    Calls Try.prog 53 #[.agg #[.int .i64 d, .int .i64 f, .slice a n c], .agg #[.int .i64 (i0 : Int), .int .i64 (j0 : Int), .int .i64 A], .func (.func 55) #[] #[]] w (Gave2 w d f (boxL 102 d f l (i0 : Int) (j0 : Int) A) (boxB 102 d f l (i0 : Int) (j0 : Int) A)) := by
  obtain ⟨W, hW, hv1, hv2, hv3, hb, hs0⟩ := beginCBR w d f (.slice a n c) i0 j0 A
  have hoW : Own W base (.slice a n c) l := by rw [hW]; exact ((h.below (alloc_below _ _)).below (alloc_below _ _)).below (alloc_below _ _)
  have HN := Lib.hid h.row2.1
  have HOW := Lib.hid hoW
  have HV1 := Lib.hid hv1
  have HV2 := Lib.hid hv2
  have HV3 := Lib.hid hv3
  have HB := Lib.hid hb
  have HS := Lib.hid hs0
  have HZ := Lib.hid hz
  have HW := Lib.hid hW
  have HLT := Lib.hid (fun b e => (h.lt b e).2)
  clear hv1 hv2 hv3 hb hs0 hz hW hoW h
  have hd : decide ((0 : Int) ≤ (i0 : Int) ∧ (i0 : Int) ≤ (j0 : Int) ∧ (j0 : Int) < (n : Int)) = true := decide_eq_true (by omega)
  have hjn : (j0 : Int) < (n : Int) := by omega
  have HR := Lib.hid (rangeB_iff.2 ⟨hcard, (show (0 : Int) ≤ (i0 : Int) by omega), (show (i0 : Int) ≤ (j0 : Int) by omega), (show (j0 : Int) < (l.length : Int) by have := HN.out; omega)⟩)
  go_enter Try.func53, Try.ntmps53
  go_wp2_with fail
  rw [← HW.out]
  clear HW
  obtain ⟨k0, k1, k2⟩ := HV1.out.cells
  go_wp2_with fail
  refine (copy_impl d f base n c a l _ hn HOW.out).mono ?_
  rintro e w1 ⟨a2, c2, rfl, hb1, ho1⟩
  have HV1 := Lib.hid (HV1.out.below hb1)
  have HV2 := Lib.hid (HV2.out.below hb1)
  have HV3 := Lib.hid (HV3.out.below hb1)
  have HOW := Lib.hid (HOW.out.below hb1)
  have HB1 := Lib.hid (HB.out.trans (hb1.mono HB.out.size))
  have HO1 := Lib.hid (ho1.mono (base2 := w.heap.size) HB.out.size)
  have hs1 : w.heap.size + 3 ≤ w1.heap.size := by have := hb1.size; have := HS.out; omega
  clear hb1 k0 k1 k2 HB ho1
  have hv0 := Var.new w1 d f (.slice a2 l.length c2)
  have hb := alloc_below w1 (.cells #[.int .i64 d, .int .i64 f, .slice a2 l.length c2] 26)
  have HV1 := Lib.hid (HV1.out.below hb)
  have HV2 := Lib.hid (HV2.out.below hb)
  have HV3 := Lib.hid (HV3.out.below hb)
  have HO1 := Lib.hid (HO1.out.below hb)
  have HOW := Lib.hid (HOW.out.below hb)
  have HB1 := Lib.hid (HB1.out.trans (hb.mono HB1.out.size))
  have HV4 := Lib.hid hv0
  clear hv0 hb
  obtain ⟨k0, k1, k2⟩ := HV1.out.cells
  go_wp2_with fail
  clear k0 k1 k2
  generalize (w1.alloc (.cells #[.int .i64 d, .int .i64 f, .slice a2 l.length c2] 26)) = w2 at *
  generalize w1.heap.size = B4 at *
  refine (ok_impl d f a n c l _ HN.out.symm hn HZ.out HOW.out.row2.2).mono ?_
  rintro e w3 ⟨rfl, hb3⟩
  have HV1 := Lib.hid (HV1.out.below hb3)
  have HV2 := Lib.hid (HV2.out.below hb3)
  have HV3 := Lib.hid (HV3.out.below hb3)
  have HV4 := Lib.hid (HV4.out.below hb3)
  have HO3 := Lib.hid (HO1.out.below hb3)
  have HOW := Lib.hid (HOW.out.below hb3)
  have HB3 := Lib.hid (HB1.out.trans (hb3.mono HB1.out.size))
  clear hb3 HO1 HB1
  rw [hcard]
  clear hcard
  obtain ⟨k0, k1, k2⟩ := HV1.out.cells
  obtain ⟨m0, m1, m2⟩ := HV2.out.cells
  go_wp2_with fail
  refine (has_impl d f a n c (i0 : Int) (j0 : Int) A _ hn).mono ?_
  rintro e w4 ⟨rfl, hb4⟩
  rw [hd]
  clear hd k0 k1 k2 m0 m1 m2
  have HV1 := Lib.hid (HV1.out.below hb4)
  have HV2 := Lib.hid (HV2.out.below hb4)
  have HV3 := Lib.hid (HV3.out.below hb4)
  have HV4 := Lib.hid (HV4.out.below hb4)
  have HO4 := Lib.hid (HO3.out.below hb4)
  have HOW := Lib.hid (HOW.out.below hb4)
  have HB4 := Lib.hid (HB3.out.trans (hb4.mono HB3.out.size))
  clear hb4 HO3 HB3
  obtain ⟨m0, m1, m2⟩ := HV2.out.cells
  go_wp2_with fail
  clear m0 m1 m2
  have HP0 := Lib.hid (show Own w4 w.heap.size (.slice a2 l.length c2) (partL 102 A l i0 i0) by rw [partL_none _ _ _ _ _ (Nat.le_refl _)]; exact HO4.out)
  have HB4B := Lib.hid (show w.heap.size + 3 ≤ B4 by omega)
  clear hs1
  go_loopw [9] (fun i wr => ∃ k : Nat, i0 ≤ k ∧ k ≤ j0 + 1 ∧ i = .int .i64 (k : Int) ∧ Hid (Var wr w.heap.size d f (.slice a n c)) ∧ Hid (BVar wr (w.heap.size + 1) i0 j0 A) ∧ Hid (Var wr (w.heap.size + 2) 0 0 (.slice none 0 0)) ∧ Hid (Var wr B4 d f (.slice a2 l.length c2)) ∧ Hid (Own wr base (.slice a n c) l) ∧ Hid (Own wr w.heap.size (.slice a2 l.length c2) (partL 102 A l i0 k)) ∧ Hid (Below w.heap.size w wr) ∧ Hid (∀ m (hm : m < l.length), i0 ≤ m → m < k → cornerB 102 l[m].data.toList A = true)) (fun i _ => j0 + 1 - (intOf i).toNat)
  case atStart => exact ⟨i0, Nat.le_refl _, by omega, rfl, HV1, HV2, HV3, HV4, HOW, HP0, HB4, fun m _ h1 h2 => by omega⟩
  case round =>
    obtain ⟨k, hk0, hk, rfl, HV1, HV2, HV3, HV4, HOW, HO, HB, HG⟩ := hrel
    obtain ⟨m0, m1, m2⟩ := HV2.out.cells
    by_cases hlt : k < j0 + 1
    · have hk1 : decide ((k : Int) ≤ (j0 : Int)) = true := decide_eq_true (by omega)
      have hk2 : (0 : Int) ≤ (k : Int) := Int.natCast_nonneg _
      have hk3 : (k : Int) < (n : Int) := by omega
      have hk4 : k < n := by omega
      have hkl : k < l.length := by have := HN.out; omega
      obtain ⟨g, hg⟩ : ∃ g, a = some ⟨g, 0, none⟩ := by
        rcases HOW.out.shape with ⟨_, _, e⟩ | h
        · rw [e] at hkl; simp at hkl
        · exact h
      subst hg
      have HX := Lib.hid (fun (dd : Nat) (os : Array Obj) => Calls.regrown_of (lower_impl l[k] A (grow (redrawn wr dd) os) (HZ.out _ (List.getElem_mem hkl)) hA0 hA1))
      have hcell := cell_regrown (HOW.out.cell hkl)
      obtain ⟨k0, k1, k2⟩ := HV1.out.cells
      have k0 := cell_regrown k0
      have k1 := cell_regrown k1
      have k2 := cell_regrown k2
      obtain ⟨q0, q1, q2⟩ := HV2.out.cells
      have q0 := cell_regrown q0
      have q1 := cell_regrown q1
      have q2 := cell_regrown q2
      have HSET := Lib.hid (partL_set 102 A l i0 k hkl hk0)
      have HBAD := Lib.hid (fun hc => box_bad (x := 102) (d := d) (f := f) (i := i0) (j := j0) (A := A) k hkl hk0 hlt hc)
      have HNEXT := Lib.hid (fun (hc : cornerB 102 l[k].data.toList A = true) => show ∀ m (hm : m < l.length), i0 ≤ m → m < k + 1 → cornerB 102 l[m].data.toList A = true from fun m hm h1 h2 => by
        by_cases e : m = k
        · subst e; exact hc
        · exact HG.out m hm h1 (by omega))
      rw [chS_low] at HSET
      generalize l[k] = s at *
      go_wp2_with fail
      refine wp_region_quiet_below (by kernel_rfl) (by kernel_rfl) ?_
      repeat (go_big_quiet_step ((go_at_call 55; exact HX.out _ _)))
      refine wpQuiet_nil ?_
      intro _ hw'
      obtain ⟨⟨dq, osq⟩, hw''⟩ := hw'
      subst hw''
      have hbr := below_regrown wr dq osq
      have HV1 := Lib.hid (HV1.out.below hbr)
      have HV2 := Lib.hid (HV2.out.below hbr)
      have HV3 := Lib.hid (HV3.out.below hbr)
      have HV4 := Lib.hid (HV4.out.below hbr)
      have HOW := Lib.hid (HOW.out.below hbr)
      have HO := Lib.hid (HO.out.below hbr)
      have HB := Lib.hid (HB.out.trans (hbr.mono HB.out.size))
      clear hbr k0 k1 k2 q0 q1 q2 m0 m1 m2 hcell HX
      generalize (grow (redrawn wr dq) osq) = w5 at *
      cases hc : cornerB 102 s.data.toList A with
      | true =>
        have HC := Lib.hid (HNEXT.out hc)
        clear hc HBAD HNEXT HG
        have hkp : k < (partL 102 A l i0 k).length := by rw [partL_length]; exact hkl
        have hsh : ∃ g2, a2 = some ⟨g2, 0, none⟩ := by
          rcases HO.out.shape with ⟨_, _, e⟩ | h
          · rw [e] at hkp; simp at hkp
          · exact h
        obtain ⟨g2, rfl⟩ := hsh
        have hcell := HO.out.cell hkp
        have hfree := HO.out.free k
        have hkl2 : (k : Int) < (l.length : Int) := by omega
        generalize (partL 102 A l i0 k)[k]'_ = old at hcell
        have ho2 := HO.out.set (lowerS s A) hkp
        rw [HSET.out] at ho2
        have HO2 := Lib.hid ho2
        have hg := grown_set w5 g2 k (.string (lowerS s A))
        have HV1 := Lib.hid (HV1.out.written HO.out hg)
        have HV2 := Lib.hid (HV2.out.written HO.out hg)
        have HV3 := Lib.hid (HV3.out.written HO.out hg)
        have HV6 := Lib.hid (HV4.out.written HO.out hg)
        have HOW := Lib.hid (HOW.out.apart HO.out HLT.out hg)
        have HB6 := Lib.hid (HO.out.write_below HB.out (Nat.le_refl _) HB.out.size hg)
        obtain ⟨r0, r1, r2⟩ := HV4.out.cells
        clear hg HB HO ho2 HV4 hkp HSET
        go_wp2_with fail
        clear r0 r1 r2 hcell hfree
        generalize (w5.setCell ⟨g2, k, none⟩ (.string (lowerS s A))) = w6 at *
        go_roundw
        case rel => exact ⟨k + 1, by omega, by omega, by go_num, HV1, HV2, HV3, HV6, HOW, HO2, HB6, HC⟩
        case measure => simp [intOf]; omega
      | false =>
        have HE := Lib.hid (HBAD.out hc)
        clear HBAD HNEXT HSET HO HV4 hc
        obtain ⟨k0, k1, k2⟩ := HV1.out.cells
        go_wp2_with fail
        clear k0 k1 k2
        refine (copy_impl d f base n c (some ⟨g, 0, none⟩) l _ hn HOW.out).mono ?_
        rintro e w7 ⟨a7, c7, rfl, hb7, ho7⟩
        have HV3 := Lib.hid (HV3.out.below hb7)
        have HB7 := Lib.hid (HB.out.trans (hb7.mono HB.out.size))
        have HO7 := Lib.hid (ho7.mono (base2 := w.heap.size) HB.out.size)
        clear hb7 ho7
        have hx : ∃ Z, Z = Card.set3 w7 (w.heap.size + 2) d f (.slice a7 l.length c7) ∧ Var Z (w.heap.size + 2) d f (.slice a7 l.length c7) ∧ Below w.heap.size w Z ∧ Own Z w.heap.size (.slice a7 l.length c7) l := ⟨_, rfl, gave_last HB7.out HV3.out (by omega) HO7.out (Nat.le_refl _)⟩
        obtain ⟨Z, hZ, hz1, hz2, hz3⟩ := hx
        unfold set3 at hZ
        obtain ⟨p0, p1, p2⟩ := HV3.out.cells
        have f0 := HV3.out.free 0
        have f1 := HV3.out.free 1
        have f2 := HV3.out.free 2
        have HZZ := Lib.hid hZ
        have HZ1 := Lib.hid hz1
        have HZ2 := Lib.hid hz2
        have HZ3 := Lib.hid hz3
        clear hZ hz1 hz2 hz3
        go_wp2_with fail
        skip
        rw [← HZZ.out]
        clear HZZ p0 p1 p2 f0 f1 f2
        obtain ⟨z0, z1, z2⟩ := HZ1.out.cells
        refine bodyPost_ret (v := .tuple #[.agg #[.int .i64 d, .int .i64 f, .slice a7 l.length c7], .bool false]) (by simp [results, Try.results53, go_sem, z0, z1, z2]) rfl ?_
        rw [HE.out.1, HE.out.2]; exact ⟨_, c7, rfl, HZ2.out, HZ3.out⟩
    · obtain rfl : k = j0 + 1 := by omega
      have HE := Lib.hid (box_good HR.out HG.out)
      have HLN := Lib.hid (partL_length 102 A l i0 (j0 + 1))
      have HOZ := Lib.hid (show Own wr w.heap.size (.slice a2 (partL 102 A l i0 (j0 + 1)).length c2) (partL 102 A l i0 (j0 + 1)) by rw [HLN.out]; exact HO.out)
      have hv4 := HV4.out
      rw [← HLN.out] at hv4
      have hk1 : ¬ (j0 + 1 ≤ j0) := by omega
      clear HO HG HV4
      generalize (partL 102 A l i0 (j0 + 1)) = l5 at *
      have HV4 := Lib.hid hv4
      clear hv4
      obtain ⟨g0, g1, g2⟩ := HV4.out.cells
      have hx : ∃ Z, Z = Card.set3 wr (w.heap.size + 2) d f (.slice a2 l5.length c2) ∧ Var Z (w.heap.size + 2) d f (.slice a2 l5.length c2) ∧ Below w.heap.size w Z ∧ Own Z w.heap.size (.slice a2 l5.length c2) l5 := ⟨_, rfl, gave_last HB.out HV3.out (by omega) HOZ.out (Nat.le_refl _)⟩
      obtain ⟨Z, hZ, hz1, hz2, hz3⟩ := hx
      unfold set3 at hZ
      obtain ⟨p0, p1, p2⟩ := HV3.out.cells
      have f0 := HV3.out.free 0
      have f1 := HV3.out.free 1
      have f2 := HV3.out.free 2
      have HZZ := Lib.hid hZ
      have HZ1 := Lib.hid hz1
      have HZ2 := Lib.hid hz2
      have HZ3 := Lib.hid hz3
      clear hZ hz1 hz2 hz3
      go_wp2_with fail
      clear g0 g1 g2
      rw [← HZZ.out]
      clear HZZ p0 p1 p2 f0 f1 f2
      obtain ⟨z0, z1, z2⟩ := HZ1.out.cells
      refine bodyPost_ret (v := .tuple #[.agg #[.int .i64 d, .int .i64 f, .slice a2 l5.length c2], .bool true]) (by simp [results, Try.results53, go_sem, z0, z1, z2]) rfl ?_
      rw [HE.out.1, HE.out.2]; exact ⟨_, c2, rfl, HZ2.out, HZ3.out⟩

set_option maxRecDepth 100000 in
set_option maxHeartbeats 2000000 in
theorem withRaise_impl (d f : Int) (F L A : Int) (base n c : Nat) (a : Option Addr) (l : List ByteArray) (w : World) (hn : n ≤ 1048576) (h : Own w base (.slice a n c) l) (hz : ∀ s ∈ l, s.size ≤ 1048576) (hA0 : -9223372036854775808 ≤ A) (hA1 : A ≤ 9223372036854775807) :
    Calls Try.prog 53 #[.agg #[.int .i64 d, .int .i64 f, .slice a n c], .agg #[.int .i64 F, .int .i64 L, .int .i64 A], .func (.func 54) #[] #[]] w (Gave2 w d f (boxL 100 d f l F L A) (boxB 100 d f l F L A)) := by
  have hl := h.row2.1
  cases hr : rangeB d f l F L with
  | true =>
    obtain ⟨i, j, rfl, rfl, hij, hj, hc⟩ := range_nats hr
    exact withRaise_in d f i j A base n c a l w hn h hz hA0 hA1 hc hij (by omega)
  | false =>
    obtain ⟨e1, e2⟩ := box_out (x := 100) (A := A) hr
    rw [e1, e2]
    cases hc : cardB d f l with
    | false => exact withRaise_bad d f F L A base n c a l w hn h hz hA0 hA1 hc
    | true =>
      refine withRaise_out d f F L A base n c a l w hn h hz hA0 hA1 hc fun hq => ?_
      rw [hl] at hq
      have := rangeB_iff.2 ⟨hc, hq⟩
      rw [hr] at this
      cases this

set_option maxRecDepth 100000 in
set_option maxHeartbeats 2000000 in
theorem add_impl (d f : Int) (F L A : Int) (base n c : Nat) (a : Option Addr) (l : List ByteArray) (w : World) (hn : n ≤ 1048576) (h : Own w base (.slice a n c) l) (hz : ∀ s ∈ l, s.size ≤ 1048576) (hA0 : -9223372036854775808 ≤ A) (hA1 : A ≤ 9223372036854775807) :
    Calls Try.prog 20 #[.agg #[.int .i64 d, .int .i64 f, .slice a n c], .agg #[.int .i64 F, .int .i64 L, .int .i64 A]] w (Gave2 w d f (boxL 100 d f l F L A) (boxB 100 d f l F L A)) := by
  obtain ⟨W, hW, hv1, hv2, hv3, hb, hs0⟩ := beginCBR w d f (.slice a n c) F L A
  have hoW : Own W base (.slice a n c) l := by rw [hW]; exact ((h.below (alloc_below _ _)).below (alloc_below _ _)).below (alloc_below _ _)
  have HN := Lib.hid h.row2.1
  have HOW := Lib.hid hoW
  have HV1 := Lib.hid hv1
  have HV2 := Lib.hid hv2
  have HV3 := Lib.hid hv3
  have HB := Lib.hid hb
  have HS := Lib.hid hs0
  have HZ := Lib.hid hz
  have HW := Lib.hid hW
  have HLT := Lib.hid (fun b e => (h.lt b e).2)
  clear hv1 hv2 hv3 hb hs0 hz hW hoW h
  have HLN := Lib.hid (boxL_length 100 d f l F L A)
  have HCA := Lib.hid (fun W' (h : Own W' base (.slice a n c) l) => withRaise_impl d f F L A base n c a l W' hn h HZ.out hA0 hA1)
  generalize boxL 100 d f l F L A = l2 at *
  generalize boxB 100 d f l F L A = ok at *
  go_enter Try.func20, Try.ntmps20
  go_wp2_with fail
  rw [← HW.out]
  clear HW
  obtain ⟨k0, k1, k2⟩ := HV1.out.cells
  obtain ⟨m0, m1, m2⟩ := HV2.out.cells
  go_wp2_with fail
  clear k0 k1 k2 m0 m1 m2
  refine (HCA.out _ HOW.out).mono ?_
  rintro e w1 ⟨a2, c2, rfl, hb1, ho1⟩
  have HV3 := Lib.hid (HV3.out.below hb1)
  have HB1 := Lib.hid (HB.out.trans (hb1.mono HB.out.size))
  have HO1 := Lib.hid (ho1.mono (base2 := w.heap.size) HB.out.size)
  clear hb1 HB ho1
  have hx : ∃ Z, Z = Card.set3 w1 (w.heap.size + 2) d f (.slice a2 l2.length c2) ∧ Var Z (w.heap.size + 2) d f (.slice a2 l2.length c2) ∧ Below w.heap.size w Z ∧ Own Z w.heap.size (.slice a2 l2.length c2) l2 := ⟨_, rfl, gave_last HB1.out HV3.out (by omega) HO1.out (Nat.le_refl _)⟩
  obtain ⟨Z, hZ, hz1, hz2, hz3⟩ := hx
  unfold set3 at hZ
  obtain ⟨p0, p1, p2⟩ := HV3.out.cells
  have f0 := HV3.out.free 0
  have f1 := HV3.out.free 1
  have f2 := HV3.out.free 2
  have HZZ := Lib.hid hZ
  have HZ1 := Lib.hid hz1
  have HZ2 := Lib.hid hz2
  have HZ3 := Lib.hid hz3
  clear hZ hz1 hz2 hz3
  go_wp2_with fail
  skip
  rw [← HZZ.out]
  clear HZZ p0 p1 p2 f0 f1 f2
  obtain ⟨z0, z1, z2⟩ := HZ1.out.cells
  refine bodyPost_ret (v := .tuple #[.agg #[.int .i64 d, .int .i64 f, .slice a2 l2.length c2], .bool ok]) (by simp [results, Try.results20, go_sem, z0, z1, z2]) rfl ?_
  exact ⟨_, c2, rfl, HZ2.out, HZ3.out⟩

set_option maxRecDepth 100000 in
set_option maxHeartbeats 2000000 in
theorem withLower_impl (d f : Int) (F L A : Int) (base n c : Nat) (a : Option Addr) (l : List ByteArray) (w : World) (hn : n ≤ 1048576) (h : Own w base (.slice a n c) l) (hz : ∀ s ∈ l, s.size ≤ 1048576) (hA0 : -9223372036854775808 ≤ A) (hA1 : A ≤ 9223372036854775807) :
    Calls Try.prog 53 #[.agg #[.int .i64 d, .int .i64 f, .slice a n c], .agg #[.int .i64 F, .int .i64 L, .int .i64 A], .func (.func 55) #[] #[]] w (Gave2 w d f (boxL 102 d f l F L A) (boxB 102 d f l F L A)) := by
  have hl := h.row2.1
  cases hr : rangeB d f l F L with
  | true =>
    obtain ⟨i, j, rfl, rfl, hij, hj, hc⟩ := range_nats hr
    exact withLower_in d f i j A base n c a l w hn h hz hA0 hA1 hc hij (by omega)
  | false =>
    obtain ⟨e1, e2⟩ := box_out (x := 102) (A := A) hr
    rw [e1, e2]
    cases hc : cardB d f l with
    | false => exact withLower_bad d f F L A base n c a l w hn h hz hA0 hA1 hc
    | true =>
      refine withLower_out d f F L A base n c a l w hn h hz hA0 hA1 hc fun hq => ?_
      rw [hl] at hq
      have := rangeB_iff.2 ⟨hc, hq⟩
      rw [hr] at this
      cases this

set_option maxRecDepth 100000 in
set_option maxHeartbeats 2000000 in
theorem take_impl (d f : Int) (F L A : Int) (base n c : Nat) (a : Option Addr) (l : List ByteArray) (w : World) (hn : n ≤ 1048576) (h : Own w base (.slice a n c) l) (hz : ∀ s ∈ l, s.size ≤ 1048576) (hA0 : -9223372036854775808 ≤ A) (hA1 : A ≤ 9223372036854775807) :
    Calls Try.prog 21 #[.agg #[.int .i64 d, .int .i64 f, .slice a n c], .agg #[.int .i64 F, .int .i64 L, .int .i64 A]] w (Gave2 w d f (boxL 102 d f l F L A) (boxB 102 d f l F L A)) := by
  obtain ⟨W, hW, hv1, hv2, hv3, hb, hs0⟩ := beginCBR w d f (.slice a n c) F L A
  have hoW : Own W base (.slice a n c) l := by rw [hW]; exact ((h.below (alloc_below _ _)).below (alloc_below _ _)).below (alloc_below _ _)
  have HN := Lib.hid h.row2.1
  have HOW := Lib.hid hoW
  have HV1 := Lib.hid hv1
  have HV2 := Lib.hid hv2
  have HV3 := Lib.hid hv3
  have HB := Lib.hid hb
  have HS := Lib.hid hs0
  have HZ := Lib.hid hz
  have HW := Lib.hid hW
  have HLT := Lib.hid (fun b e => (h.lt b e).2)
  clear hv1 hv2 hv3 hb hs0 hz hW hoW h
  have HLN := Lib.hid (boxL_length 102 d f l F L A)
  have HCA := Lib.hid (fun W' (h : Own W' base (.slice a n c) l) => withLower_impl d f F L A base n c a l W' hn h HZ.out hA0 hA1)
  generalize boxL 102 d f l F L A = l2 at *
  generalize boxB 102 d f l F L A = ok at *
  go_enter Try.func21, Try.ntmps21
  go_wp2_with fail
  rw [← HW.out]
  clear HW
  obtain ⟨k0, k1, k2⟩ := HV1.out.cells
  obtain ⟨m0, m1, m2⟩ := HV2.out.cells
  go_wp2_with fail
  clear k0 k1 k2 m0 m1 m2
  refine (HCA.out _ HOW.out).mono ?_
  rintro e w1 ⟨a2, c2, rfl, hb1, ho1⟩
  have HV3 := Lib.hid (HV3.out.below hb1)
  have HB1 := Lib.hid (HB.out.trans (hb1.mono HB.out.size))
  have HO1 := Lib.hid (ho1.mono (base2 := w.heap.size) HB.out.size)
  clear hb1 HB ho1
  have hx : ∃ Z, Z = Card.set3 w1 (w.heap.size + 2) d f (.slice a2 l2.length c2) ∧ Var Z (w.heap.size + 2) d f (.slice a2 l2.length c2) ∧ Below w.heap.size w Z ∧ Own Z w.heap.size (.slice a2 l2.length c2) l2 := ⟨_, rfl, gave_last HB1.out HV3.out (by omega) HO1.out (Nat.le_refl _)⟩
  obtain ⟨Z, hZ, hz1, hz2, hz3⟩ := hx
  unfold set3 at hZ
  obtain ⟨p0, p1, p2⟩ := HV3.out.cells
  have f0 := HV3.out.free 0
  have f1 := HV3.out.free 1
  have f2 := HV3.out.free 2
  have HZZ := Lib.hid hZ
  have HZ1 := Lib.hid hz1
  have HZ2 := Lib.hid hz2
  have HZ3 := Lib.hid hz3
  clear hZ hz1 hz2 hz3
  go_wp2_with fail
  skip
  rw [← HZZ.out]
  clear HZZ p0 p1 p2 f0 f1 f2
  obtain ⟨z0, z1, z2⟩ := HZ1.out.cells
  refine bodyPost_ret (v := .tuple #[.agg #[.int .i64 d, .int .i64 f, .slice a2 l2.length c2], .bool ok]) (by simp [results, Try.results21, go_sem, z0, z1, z2]) rfl ?_
  exact ⟨_, c2, rfl, HZ2.out, HZ3.out⟩

set_option maxRecDepth 100000 in
set_option maxHeartbeats 2000000 in
theorem canAdd_impl (d f : Int) (F L A : Int) (base n c : Nat) (a : Option Addr) (l : List ByteArray) (w : World) (hn : n ≤ 1048576) (h : Own w base (.slice a n c) l) (hz : ∀ s ∈ l, s.size ≤ 1048576) (hA0 : -9223372036854775808 ≤ A) (hA1 : A ≤ 9223372036854775807) :
    Calls Try.prog 22 #[.agg #[.int .i64 d, .int .i64 f, .slice a n c], .agg #[.int .i64 F, .int .i64 L, .int .i64 A]] w (fun e w' => e = .returned (.bool (boxB 100 d f l F L A)) ∧ Below w.heap.size w w') := by
  obtain ⟨W, hW, hv1, hv2, hb, hs0⟩ := beginCB w d f (.slice a n c) F L A
  have hoW : Own W base (.slice a n c) l := by rw [hW]; exact (h.below (alloc_below _ _)).below (alloc_below _ _)
  have HCA := Lib.hid (add_impl d f F L A base n c a l W hn hoW hz hA0 hA1)
  have HB := Lib.hid hb
  have HW := Lib.hid hW
  obtain ⟨k0, k1, k2⟩ := hv1.cells
  obtain ⟨m0, m1, m2⟩ := hv2.cells
  clear hv1 hv2 hb hs0 hz hW hoW h
  generalize boxL 100 d f l F L A = l2 at *
  generalize boxB 100 d f l F L A = ok at *
  go_enter Try.func22, Try.ntmps22
  go_wp2_with fail
  rw [← HW.out]
  clear HW
  go_wp2_with fail
  clear k0 k1 k2 m0 m1 m2
  refine HCA.out.mono ?_
  rintro e w1 ⟨a2, c2, rfl, hb1, ho1⟩
  have HB1 := Lib.hid (HB.out.trans (hb1.mono HB.out.size))
  clear hb1 HB ho1
  go_wp2
  go_ret
  exact ⟨rfl, HB1.out.alloc HB1.out.size _⟩
end Go.Proofs.Ytekmladindlmoaa.Box
