/- What impl.CutStrip returns (printed by wip/gen_wrap.py). -/
import Derived.Test.YtpnmloemabligaaExchCut
namespace Go.Proofs.Ytpnmloemabligaa.Card
open Go.ChangeShapes Go.WideShapes Go.ChangeAt Go.RowKit
open Go.Proofs.Ytpnmloemabligaa.Strip Go.Proofs.Ytpnmloemabligaa.Strs
set_option linter.unusedVariables false

/-- Whether CutStrip changes the card, and the strips behind it. -/
def cutB (d f : Int) (l : List ByteArray) (k : Int) : Bool := cardB d f l && decide (0 ≤ k ∧ k < (l.length : Int)) && cardB d f (l.take k.toNat ++ l.drop (k.toNat + 1))
def cutL (d f : Int) (l : List ByteArray) (k : Int) : List ByteArray := if cutB d f l k = true then (l.take k.toNat ++ l.drop (k.toNat + 1)) else l

theorem exchCut_all (d f : Int) (base n c : Nat) (a : Option Addr) (l : List ByteArray) (w : World) (hn : n ≤ 1048576) (h : Own w base (.slice a n c) l) (hz : ∀ s ∈ l, s.size ≤ 1048576) (k : Int) :
    Calls Try.prog 41 #[.agg #[.int .i64 d, .int .i64 f, .slice a n c], .int .i64 k, .int .i64 1, .slice none 0 0] w (Gave2 w d f (cutL d f l k) (cutB d f l k)) := by
  have hn0 : n = l.length := h.row2.1
  cases hc : cardB d f l with
  | false =>
    have e : cutB d f l k = false := by unfold cutB; rw [hc]; rfl
    have e2 : cutL d f l k = l := by unfold cutL; rw [if_neg (by rw [e]; simp)]
    rw [e, e2]
    exact exchCut_bad d f base n c a l w hn h hz k hc
  | true =>
    by_cases hk : 0 ≤ k ∧ k < (l.length : Int)
    · obtain ⟨j, rfl⟩ := Int.eq_ofNat_of_zero_le hk.1
      have h1 := exchCut_in d f base n c a l w hn h hz j (by omega) hc
      refine h1.mono fun e w' he => ?_
      unfold Swapped at he
      have e1 : cutB d f l (j : Int) = cardB d f (l.take j ++ l.drop (j + 1)) := by unfold cutB; rw [hc, decide_eq_true hk]; simp
      unfold cutL
      rw [e1]
      simpa using he
    · have e : cutB d f l k = false := by unfold cutB; rw [decide_eq_false hk]; simp
      have e2 : cutL d f l k = l := by unfold cutL; rw [if_neg (by rw [e]; simp)]
      rw [e, e2]
      exact exchCut_out d f base n c a l w hn h hz k hc (by rw [hn0]; exact hk)

set_option maxRecDepth 100000 in
set_option maxHeartbeats 4000000 in
theorem cut_impl (d f : Int) (base n c : Nat) (a : Option Addr) (l : List ByteArray) (k : Int) (w : World) (hn : n ≤ 1048576) (h : Own w base (.slice a n c) l) (hz : ∀ s ∈ l, s.size ≤ 1048576) :
    Calls Try.prog 16 #[.agg #[.int .i64 d, .int .i64 f, .slice a n c], .int .i64 k] w (Gave2 w d f (cutL d f l k) (cutB d f l k)) := by
  obtain ⟨W, hW, hv1, hv2, hbw, hs0⟩ := begin2 w d f (.slice a n c)
  have hoW : Own W base (.slice a n c) l := by rw [hW]; exact (h.below (alloc_below _ _)).below (alloc_below _ _)
  have hEX := exchCut_all d f base n c a l W hn hoW hz k
  have HV1 := Lib.hid hv1
  have HV2 := Lib.hid hv2
  have HB := Lib.hid hbw
  have HS := Lib.hid hs0
  have HW := Lib.hid hW
  have HEX := Lib.hid hEX
  obtain ⟨k0, k1, k2⟩ := hv1.cells
  clear hv1 hbw hs0 hW hoW h hz hEX
  generalize cutL d f l k = l2 at *
  generalize cutB d f l k = ok at *
  go_enter Try.func16, Try.ntmps16
  go_wp2_with fail
  rw [← HW.out]
  clear HW
  go_wp2_with fail
  have HNE := Lib.hid (show w.heap.size + 1 < W.heap.size by have := HS.out; omega)

  refine HEX.out.mono ?_
  rintro e w1 ⟨a4, c4, rfl, hb1, ho1⟩
  have HV2 := Lib.hid (HV2.out.below hb1)
  have HB1 := Lib.hid (HB.out.trans (hb1.mono HB.out.size))
  have HO1 := Lib.hid (ho1.mono (base2 := w.heap.size) HB.out.size)
  clear hb1 ho1 k0 k1 k2 HV1
  have hx : ∃ Z, Z = Card.set3 w1 (w.heap.size + 1) d f (.slice a4 l2.length c4) ∧ Var Z (w.heap.size + 1) d f (.slice a4 l2.length c4) ∧ Below w.heap.size w Z ∧ Own Z w.heap.size (.slice a4 l2.length c4) l2 := ⟨_, rfl, gave_last HB1.out HV2.out (by omega) HO1.out (Nat.le_refl _)⟩
  obtain ⟨Z, hZ, hz1, hz2, hz3⟩ := hx
  unfold set3 at hZ
  obtain ⟨p0, p1, p2⟩ := HV2.out.cells
  have f0 := HV2.out.free 0
  have f1 := HV2.out.free 1
  have f2 := HV2.out.free 2
  have HZZ := Lib.hid hZ
  have HZ1 := Lib.hid hz1
  have HZ2 := Lib.hid hz2
  have HZ3 := Lib.hid hz3
  clear hZ hz1 hz2 hz3
  go_wp2_with fail
  rw [← HZZ.out]
  clear HZZ p0 p1 p2 f0 f1 f2
  obtain ⟨z0, z1, z2⟩ := HZ1.out.cells
  refine bodyPost_ret (v := .tuple #[.agg #[.int .i64 d, .int .i64 f, .slice a4 l2.length c4], .bool ok]) (by simp [results, Try.results16, go_sem, z0, z1, z2]) rfl ?_
  exact ⟨_, c4, rfl, HZ2.out, HZ3.out⟩
end Go.Proofs.Ytpnmloemabligaa.Card
