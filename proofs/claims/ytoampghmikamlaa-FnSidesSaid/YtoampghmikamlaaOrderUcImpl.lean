/- What impl.UpperCard returns (printed by wip/gen_orderwrap.py). -/
import Derived.Test.YtoampghmikamlaaOrderCiUp
namespace Go.Proofs.Ytoampghmikamlaa.Order
open Go.ChangeShapes Go.WideShapes Go.ChangeAt Go.RowKit
open Go.Proofs.Ytoampghmikamlaa.Strip Go.Proofs.Ytoampghmikamlaa.Strs Go.Proofs.Ytoampghmikamlaa.Card
set_option linter.unusedVariables false

theorem combineC_all_true (d f d2 f2 : Int) (base base2 n n2 ca cb : Nat) (a b : Option Addr) (l m : List ByteArray) (w : World) (hn : n ≤ 1048576) (hn2 : n2 ≤ 1048576) (hz : ∀ s ∈ l, s.size ≤ 1048576) (hz2 : ∀ s ∈ m, s.size ≤ 1048576) (ha : Own w base (.slice a n ca) l) (hb : Own w base2 (.slice b n2 cb) m) :
    Calls Try.prog 66 #[.agg #[.int .i64 d, .int .i64 f, .slice a n ca], .agg #[.int .i64 d2, .int .i64 f2, .slice b n2 cb], .func (.func 67) #[] #[]] w (BothPost true w d f l d2 f2 m) := by
  cases hbo : bothB d f l d2 f2 m with
  | false => exact combineC_no true _ d f d2 f2 base base2 n n2 ca cb a b l m w hn hn2 hz hz2 ha hb hbo
  | true => exact combineC_true d f d2 f2 base base2 n n2 ca cb a b l m w hn hn2 hz hz2 ha hb hbo

set_option maxRecDepth 100000 in
set_option maxHeartbeats 2000000 in
theorem upperC_impl (d f d2 f2 : Int) (base base2 n n2 ca cb : Nat) (a b : Option Addr) (l m : List ByteArray) (w : World) (hn : n ≤ 1048576) (hn2 : n2 ≤ 1048576) (hz : ∀ s ∈ l, s.size ≤ 1048576) (hz2 : ∀ s ∈ m, s.size ≤ 1048576) (ha : Own w base (.slice a n ca) l) (hb : Own w base2 (.slice b n2 cb) m) :
    Calls Try.prog 42 #[.agg #[.int .i64 d, .int .i64 f, .slice a n ca], .agg #[.int .i64 d2, .int .i64 f2, .slice b n2 cb]] w (BothPost true w d f l d2 f2 m) := by
  obtain ⟨W, hW, hv1, hv2, hv3, hbw, hs⟩ := beginThree w d f d2 f2 (.slice a n ca) (.slice b n2 cb)
  have hEX := combineC_all_true d f d2 f2 base base2 n n2 ca cb a b l m W hn hn2 hz hz2 (ha.below hbw) (hb.below hbw)
  unfold BothPost at hEX ⊢
  have HV3 := Lib.hid hv3
  have HB := Lib.hid hbw
  have HW := Lib.hid hW
  have HEX := Lib.hid hEX
  obtain ⟨k0, k1, k2⟩ := hv1.cells
  obtain ⟨m0, m1, m2⟩ := hv2.cells
  clear hv1 hv2 hv3 hbw hs hW ha hb hz hz2 hEX
  generalize bothD d f l d2 f2 m = D at *
  generalize bothF d f l d2 f2 m = E at *
  generalize bothL true d f l d2 f2 m = L at *
  generalize bothB d f l d2 f2 m = ok at *
  go_enter Try.func42, Try.ntmps42
  go_wp2_with fail
  rw [← HW.out]
  clear HW
  go_wp2_with fail
  (with_reducible refine HEX.out.mono ?_)
  rintro e w1 ⟨a4, c4, rfl, hb1, ho1⟩
  have HV3 := Lib.hid (HV3.out.below hb1)
  have HB1 := Lib.hid (HB.out.trans (hb1.mono HB.out.size))
  have HO1 := Lib.hid (ho1.mono (base2 := w.heap.size) HB.out.size)
  clear hb1 ho1 k0 k1 k2 m0 m1 m2 HB HEX
  have hx : ∃ Z, Z = Card.set3 w1 (w.heap.size + 2) D E (.slice a4 L.length c4) ∧ Var Z (w.heap.size + 2) D E (.slice a4 L.length c4) ∧ Below w.heap.size w Z ∧ Own Z w.heap.size (.slice a4 L.length c4) L := ⟨_, rfl, gave_last HB1.out HV3.out (by omega) HO1.out (Nat.le_refl _)⟩
  obtain ⟨Z, hZ, hz1, hz2, hz3⟩ := hx
  unfold set3 at hZ
  obtain ⟨p0, p1, p2⟩ := HV3.out.cells
  have f0 := HV3.out.free 0
  have f1 := HV3.out.free 1
  have f2 := HV3.out.free 2
  have HZZ := Lib.hid hZ
  have HZ1 := Lib.hid hz1
  have HZ2 := Lib.hid hz2
  have HZ3 := Lib.hid hz3
  clear hZ hz1 hz2 hz3
  go_wp2_with fail
  rw [← HZZ.out]
  clear HZZ p0 p1 p2 f0 f1 f2
  obtain ⟨z0, z1, z2⟩ := HZ1.out.cells
  refine bodyPost_ret (v := .tuple #[.agg #[.int .i64 D, .int .i64 E, .slice a4 L.length c4], .bool ok]) (by simp [results, Try.results42, go_sem, z0, z1, z2]) rfl ?_
  exact ⟨_, c4, rfl, HZ2.out, HZ3.out⟩
end Go.Proofs.Ytoampghmikamlaa.Order
