/- What impl.PutStrip returns (printed by wip/gen_wrap.py). -/
import Derived.Test.YtpnmloemabligaaExchPut
namespace Go.Proofs.Ytpnmloemabligaa.Card
open Go.ChangeShapes Go.WideShapes Go.ChangeAt Go.RowKit
open Go.Proofs.Ytpnmloemabligaa.Strip Go.Proofs.Ytpnmloemabligaa.Strs
set_option linter.unusedVariables false

/-- Whether PutStrip changes the card, and the strips behind it. -/
def putB (d f : Int) (l : List ByteArray) (k : Int) (s : ByteArray) : Bool := cardB d f l && decide (0 ≤ k ∧ k ≤ (l.length : Int)) && cardB d f (putIn l k.toNat s)
def putL (d f : Int) (l : List ByteArray) (k : Int) (s : ByteArray) : List ByteArray := if putB d f l k s = true then (putIn l k.toNat s) else l

theorem exchPut_all (d f : Int) (base n c : Nat) (a : Option Addr) (l : List ByteArray) (vb : Nat) (s : ByteArray) (w : World) (hn : n ≤ 1048576) (h : Own w base (.slice a n c) l) (hz : ∀ s ∈ l, s.size ≤ 1048576) (hs : s.size ≤ 1048576) (hv : w.heap[vb]? = some (.cells #[.string s] 9 (0, 0))) (k : Int) :
    Calls Try.prog 41 #[.agg #[.int .i64 d, .int .i64 f, .slice a n c], .int .i64 k, .int .i64 0, .slice (some ⟨vb, 0, none⟩) 1 1] w (Gave2 w d f (putL d f l k s) (putB d f l k s)) := by
  have hn0 : n = l.length := h.row2.1
  cases hc : cardB d f l with
  | false =>
    have e : putB d f l k s = false := by unfold putB; rw [hc]; rfl
    have e2 : putL d f l k s = l := by unfold putL; rw [if_neg (by rw [e]; simp)]
    rw [e, e2]
    exact exchPut_bad d f base n c a l vb s w hn h hz hs hv k hc
  | true =>
    by_cases hk : 0 ≤ k ∧ k ≤ (l.length : Int)
    · obtain ⟨j, rfl⟩ := Int.eq_ofNat_of_zero_le hk.1
      have h1 := exchPut_in d f base n c a l vb s w hn h hz hs hv j (by omega) hc
      refine h1.mono fun e w' he => ?_
      unfold Swapped at he
      have e1 : putB d f l (j : Int) s = cardB d f (putIn l j s) := by unfold putB; rw [hc, decide_eq_true hk]; simp
      unfold putL
      rw [e1]
      simpa using he
    · have e : putB d f l k s = false := by unfold putB; rw [decide_eq_false hk]; simp
      have e2 : putL d f l k s = l := by unfold putL; rw [if_neg (by rw [e]; simp)]
      rw [e, e2]
      exact exchPut_out d f base n c a l vb s w hn h hz hs hv k hc (by rw [hn0]; exact hk)

set_option maxRecDepth 100000 in
set_option maxHeartbeats 800000 in
theorem put_impl (d f : Int) (base n c : Nat) (a : Option Addr) (l : List ByteArray) (k : Int) (s : ByteArray) (w : World) (hn : n ≤ 1048576) (h : Own w base (.slice a n c) l) (hz : ∀ s ∈ l, s.size ≤ 1048576) (hs : s.size ≤ 1048576) :
    Calls Try.prog 15 #[.agg #[.int .i64 d, .int .i64 f, .slice a n c], .int .i64 k, .string s] w (Gave2 w d f (putL d f l k s) (putB d f l k s)) := by
  obtain ⟨W, hW, hv1, hv2, hbw, hs0⟩ := begin2 w d f (.slice a n c)
  have hoW : Own W base (.slice a n c) l := by rw [hW]; exact (h.below (alloc_below _ _)).below (alloc_below _ _)
  have hx0 := heap_alloc_new W (.cells #[.string s] 9)
  rw [hs0] at hx0
  have hb := alloc_below W (.cells #[.string s] 9)
  have hEX := exchPut_all d f base n c a l (w.heap.size + 1 + 1) s (W.alloc (.cells #[.string s] 9)) hn (hoW.below hb) hz hs hx0 k
  have HV1 := Lib.hid (hv1.below hb)
  have HV2 := Lib.hid (hv2.below hb)
  have HB := Lib.hid (hbw.trans (hb.mono hbw.size))
  have HS := Lib.hid hs0
  have HW := Lib.hid hW
  have HEX := Lib.hid hEX
  obtain ⟨k0, k1, k2⟩ := hv1.cells
  clear hv1 hbw hs0 hW hoW h hz hEX hb hx0 hs
  generalize putL d f l k s = l2 at *
  generalize putB d f l k s = ok at *
  go_enter Try.func15, Try.ntmps15
  go_wp2_with fail
  rw [← HW.out]
  clear HW
  go_wp2_with fail
  have HNE := Lib.hid (show w.heap.size + 1 < W.heap.size by have := HS.out; omega)

  generalize (W.alloc (.cells #[.string s] 9)) = W2 at *
  (with_reducible refine HEX.out.mono ?_)
  rintro e w1 ⟨a4, c4, rfl, hb1, ho1⟩
  have HV2 := Lib.hid (HV2.out.below hb1)
  have HB1 := Lib.hid (HB.out.trans (hb1.mono HB.out.size))
  have HO1 := Lib.hid (ho1.mono (base2 := w.heap.size) HB.out.size)
  clear hb1 ho1 k0 k1 k2 HV1
  have hx : ∃ Z, Z = Card.set3 w1 (w.heap.size + 1) d f (.slice a4 l2.length c4) ∧ Var Z (w.heap.size + 1) d f (.slice a4 l2.length c4) ∧ Below w.heap.size w Z ∧ Own Z w.heap.size (.slice a4 l2.length c4) l2 := ⟨_, rfl, gave_last HB1.out HV2.out (by omega) HO1.out (Nat.le_refl _)⟩
  obtain ⟨Z, hZ, hz1, hz2, hz3⟩ := hx
  unfold set3 at hZ
  obtain ⟨p0, p1, p2⟩ := HV2.out.cells
  have f0 := HV2.out.free 0
  have f1 := HV2.out.free 1
  have f2 := HV2.out.free 2
  have HZZ := Lib.hid hZ
  have HZ1 := Lib.hid hz1
  have HZ2 := Lib.hid hz2
  have HZ3 := Lib.hid hz3
  clear hZ hz1 hz2 hz3
  go_wp2_with fail
  rw [← HZZ.out]
  clear HZZ p0 p1 p2 f0 f1 f2
  obtain ⟨z0, z1, z2⟩ := HZ1.out.cells
  refine bodyPost_ret (v := .tuple #[.agg #[.int .i64 d, .int .i64 f, .slice a4 l2.length c4], .bool ok]) (by simp [results, Try.results15, go_sem, z0, z1, z2]) rfl ?_
  exact ⟨_, c4, rfl, HZ2.out, HZ3.out⟩
end Go.Proofs.Ytpnmloemabligaa.Card
