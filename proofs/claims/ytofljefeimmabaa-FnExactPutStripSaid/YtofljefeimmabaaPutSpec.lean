/- What spec.PutStrip returns (printed by wip/gen_cutspec.py). -/
import Derived.Test.YtofljefeimmabaaPutSpec1
namespace Go.Proofs.Ytofljefeimmabaa.Card
open Go.ChangeShapes Go.WideShapes Go.ChangeAt Go.RowKit
open Go.Proofs.Ytofljefeimmabaa.Strip Go.Proofs.Ytofljefeimmabaa.Strs
set_option linter.unusedVariables false

set_option maxRecDepth 100000 in
set_option maxHeartbeats 1000000 in
theorem putSpec_bad (d f : Int) (base n c : Nat) (a : Option Addr) (l : List ByteArray) (s : ByteArray) (w : World) (hn : n ≤ 1048576) (h : Own w base (.slice a n c) l) (hz : ∀ s ∈ l, s.size ≤ 1048576) (hs : s.size ≤ 1048576) (k : Int) (hbad : cardB d f l = false) :
    Calls Try.prog 30 #[.agg #[.int .i64 d, .int .i64 f, .slice a n c], .int .i64 k, .string s] w (Gave2 w d f l false) := by
  obtain ⟨W, hW, hv1, hv2, hb, hs0⟩ := begin2 w d f (.slice a n c)
  have hoW : Own W base (.slice a n c) l := by rw [hW]; exact (h.below (alloc_below _ _)).below (alloc_below _ _)
  have HN := Lib.hid h.row2.1
  have HOA := Lib.hid h
  have HOW := Lib.hid hoW
  have HV1 := Lib.hid hv1
  have HV2 := Lib.hid hv2
  have HB := Lib.hid hb
  have HS := Lib.hid hs0
  have HZ := Lib.hid hz
  have HW := Lib.hid hW
  clear hv1 hv2 hb hs0 hz hW hoW h
  go_enter Try.func30, Try.ntmps30
  go_wp2_with fail
  rw [← HW.out]
  clear HW
  have HNE := Lib.hid (show w.heap.size + 1 < W.heap.size ∧ w.heap.size < W.heap.size by have := HS.out; omega)
  obtain ⟨k0, k1, k2⟩ := HV1.out.cells
  go_wp2_with fail
  clear k0 k1 k2
  refine (ok_spec d f a n c l _ HN.out.symm hn HZ.out HOW.out.row2.2).mono ?_
  rintro e w3 ⟨rfl, hb3⟩
  have HV1 := Lib.hid (HV1.out.below hb3)
  have HV2 := Lib.hid (HV2.out.below hb3)
  have HB3 := Lib.hid (HB.out.trans (hb3.mono HB.out.size))
  clear hb3 HB HOW
  obtain ⟨k0, k1, k2⟩ := HV1.out.cells
  rw [hbad]
  go_wp2_with fail
  clear k0 k1 k2
  refine (copy_spec d f base n c a l _ hn (HOA.out.below HB3.out)).mono ?_
  rintro e w7 ⟨a7, c7, rfl, hb7, ho7⟩
  have HV2 := Lib.hid (HV2.out.below hb7)
  have HB7 := Lib.hid (HB3.out.trans (hb7.mono HB3.out.size))
  have HO7 := Lib.hid (ho7.mono (base2 := w.heap.size) HB3.out.size)
  clear hb7 ho7
  have hx : ∃ Z, Z = Card.set3 w7 (w.heap.size + 1) d f (.slice a7 l.length c7) ∧ Var Z (w.heap.size + 1) d f (.slice a7 l.length c7) ∧ Below w.heap.size w Z ∧ Own Z w.heap.size (.slice a7 l.length c7) l := ⟨_, rfl, gave_last HB7.out HV2.out (by omega) HO7.out (Nat.le_refl _)⟩
  obtain ⟨Z, hZ, hz1, hz2, hz3⟩ := hx
  unfold set3 at hZ
  obtain ⟨p0, p1, p2⟩ := HV2.out.cells
  have f0 := HV2.out.free 0
  have f1 := HV2.out.free 1
  have f2 := HV2.out.free 2
  have HZZ := Lib.hid hZ
  have HZ1 := Lib.hid hz1
  have HZ2 := Lib.hid hz2
  have HZ3 := Lib.hid hz3
  clear hZ hz1 hz2 hz3
  go_wp2_with fail
  rw [← HZZ.out]
  clear HZZ p0 p1 p2 f0 f1 f2
  obtain ⟨z0, z1, z2⟩ := HZ1.out.cells
  refine bodyPost_ret (v := .tuple #[.agg #[.int .i64 d, .int .i64 f, .slice a7 l.length c7], .bool false]) (by simp [results, Try.results30, go_sem, z0, z1, z2]) rfl ?_
  exact ⟨_, c7, rfl, HZ2.out, HZ3.out⟩

set_option maxRecDepth 100000 in
set_option maxHeartbeats 1000000 in
theorem putSpec_out (d f : Int) (base n c : Nat) (a : Option Addr) (l : List ByteArray) (s : ByteArray) (w : World) (hn : n ≤ 1048576) (h : Own w base (.slice a n c) l) (hz : ∀ s ∈ l, s.size ≤ 1048576) (hs : s.size ≤ 1048576) (k : Int) (hcard : cardB d f l = true) (hout : ¬ (0 ≤ k ∧ k ≤ (n : Int))) :
    Calls Try.prog 30 #[.agg #[.int .i64 d, .int .i64 f, .slice a n c], .int .i64 k, .string s] w (Gave2 w d f l false) := by
  have hd : decide (0 ≤ k ∧ k ≤ (n : Int)) = false := decide_eq_false (by omega)
  have hn1 : (1 : Int) ≤ (n : Int) := by have := (cardB_iff.1 hcard).2.1; have := h.row2.1; omega
  clear hout
  obtain ⟨W, hW, hv1, hv2, hb, hs0⟩ := begin2 w d f (.slice a n c)
  have hoW : Own W base (.slice a n c) l := by rw [hW]; exact (h.below (alloc_below _ _)).below (alloc_below _ _)
  have HN := Lib.hid h.row2.1
  have HOA := Lib.hid h
  have HOW := Lib.hid hoW
  have HV1 := Lib.hid hv1
  have HV2 := Lib.hid hv2
  have HB := Lib.hid hb
  have HS := Lib.hid hs0
  have HZ := Lib.hid hz
  have HW := Lib.hid hW
  clear hv1 hv2 hb hs0 hz hW hoW h
  go_enter Try.func30, Try.ntmps30
  go_wp2_with fail
  rw [← HW.out]
  clear HW
  have HNE := Lib.hid (show w.heap.size + 1 < W.heap.size ∧ w.heap.size < W.heap.size by have := HS.out; omega)
  obtain ⟨k0, k1, k2⟩ := HV1.out.cells
  go_wp2_with fail
  clear k0 k1 k2
  refine (ok_spec d f a n c l _ HN.out.symm hn HZ.out HOW.out.row2.2).mono ?_
  rintro e w3 ⟨rfl, hb3⟩
  have HV1 := Lib.hid (HV1.out.below hb3)
  have HV2 := Lib.hid (HV2.out.below hb3)
  have HB3 := Lib.hid (HB.out.trans (hb3.mono HB.out.size))
  clear hb3 HB HOW
  obtain ⟨k0, k1, k2⟩ := HV1.out.cells
  rw [hcard]
  go_wp2_with fail
  refine (in_at k 0 ((n : Int)) _).mono ?_
  rintro e w4 ⟨rfl, rfl⟩
  rw [hd]
  clear hd
  go_wp2_with fail
  clear k0 k1 k2
  refine (copy_spec d f base n c a l _ hn (HOA.out.below HB3.out)).mono ?_
  rintro e w7 ⟨a7, c7, rfl, hb7, ho7⟩
  have HV2 := Lib.hid (HV2.out.below hb7)
  have HB7 := Lib.hid (HB3.out.trans (hb7.mono HB3.out.size))
  have HO7 := Lib.hid (ho7.mono (base2 := w.heap.size) HB3.out.size)
  clear hb7 ho7
  have hx : ∃ Z, Z = Card.set3 w7 (w.heap.size + 1) d f (.slice a7 l.length c7) ∧ Var Z (w.heap.size + 1) d f (.slice a7 l.length c7) ∧ Below w.heap.size w Z ∧ Own Z w.heap.size (.slice a7 l.length c7) l := ⟨_, rfl, gave_last HB7.out HV2.out (by omega) HO7.out (Nat.le_refl _)⟩
  obtain ⟨Z, hZ, hz1, hz2, hz3⟩ := hx
  unfold set3 at hZ
  obtain ⟨p0, p1, p2⟩ := HV2.out.cells
  have f0 := HV2.out.free 0
  have f1 := HV2.out.free 1
  have f2 := HV2.out.free 2
  have HZZ := Lib.hid hZ
  have HZ1 := Lib.hid hz1
  have HZ2 := Lib.hid hz2
  have HZ3 := Lib.hid hz3
  clear hZ hz1 hz2 hz3
  go_wp2_with fail
  rw [← HZZ.out]
  clear HZZ p0 p1 p2 f0 f1 f2
  obtain ⟨z0, z1, z2⟩ := HZ1.out.cells
  refine bodyPost_ret (v := .tuple #[.agg #[.int .i64 d, .int .i64 f, .slice a7 l.length c7], .bool false]) (by simp [results, Try.results30, go_sem, z0, z1, z2]) rfl ?_
  exact ⟨_, c7, rfl, HZ2.out, HZ3.out⟩

theorem put_spec (d f : Int) (base n c : Nat) (a : Option Addr) (l : List ByteArray) (k : Int) (s : ByteArray) (w : World) (hn : n ≤ 1048576) (h : Own w base (.slice a n c) l) (hz : ∀ s ∈ l, s.size ≤ 1048576) (hs : s.size ≤ 1048576) :
    Calls Try.prog 30 #[.agg #[.int .i64 d, .int .i64 f, .slice a n c], .int .i64 k, .string s] w (Gave2 w d f (putL d f l k s) (putB d f l k s)) := by
  have hn0 : n = l.length := h.row2.1
  have hno : ∀ (e : putB d f l k s = false), putL d f l k s = l := fun e => by unfold putL; rw [if_neg (by rw [e]; simp)]
  cases hc : cardB d f l with
  | false =>
    have e : putB d f l k s = false := by unfold putB; rw [hc]; rfl
    rw [hno e, e]
    exact putSpec_bad d f base n c a l s w hn h hz hs k hc
  | true =>
    by_cases hk : 0 ≤ k ∧ k ≤ (l.length : Int)
    · obtain ⟨j, rfl⟩ := Int.eq_ofNat_of_zero_le hk.1
      rcases h.shape with ⟨_, _, rfl⟩ | ⟨g, rfl⟩
      · have := (cardB_iff.1 hc).2.1
        simp at this
      · have h1 := putSpec_in d f base n c g j l s w hn h hz hs hc (by omega) _ rfl
        refine h1.mono fun e w' he => ?_
        unfold Swapped at he
        have e1 : putB d f l (j : Int) s = cardB d f (putIn l j s) := by unfold putB; rw [hc, decide_eq_true hk]; simp
        unfold putL
        rw [e1]
        simpa using he
    · have e : putB d f l k s = false := by unfold putB; rw [decide_eq_false hk]; simp
      rw [hno e, e]
      exact putSpec_out d f base n c a l s w hn h hz hs k hc (by rw [hn0]; exact hk)
end Go.Proofs.Ytofljefeimmabaa.Card
