/- What spec.DrawFormatInt returns and leaves alone. -/
import Derived.Test.YtcagffcmnpakjaaDoorDrawInt
namespace Go.Proofs.YtcagffcmnpakjaaDoor.Draw
open Go.ChangeShapes Go.WideShapes Go.ChangeAt Go.RowKit
set_option linter.unusedVariables false

theorem prod_bd (x y : Int) (x0 : 0 ≤ x) (x1 : x < 1000000) (y0 : 0 ≤ y) (y1 : y < 2000000) : -1000000000000 ≤ x * (y - 1000000) ∧ x * (y - 1000000) ≤ 1000000000000 := by
  have h1 : x * (y - 1000000) ≤ x * 1000000 := Int.mul_le_mul_of_nonneg_left (by omega) x0
  have h2 : x * (-1000000) ≤ x * (y - 1000000) := Int.mul_le_mul_of_nonneg_left (by omega) x0
  omega

theorem drawFmt_get (ca : Option Addr) (cl cc : Nat) (w : World) (hm : cl ≤ maxLen) (hr : RowIn w ca cl) {Q : Ending → World → Prop}
    (h : ∀ (n : Int) (w' : World), I64 n → Below w.heap.size w w' → Q (.returned (.int .i64 n)) w') :
    Calls Tryd.prog 14 #[.slice ca cl cc] w Q := by
  have H := Lib.hid h; clear h
  have hm' := hm
  unfold maxLen at hm'
  go_enter Tryd.func14, Tryd.ntmps14
  go_wp2_with fail
  refine new_get ca cl cc w hm hr ?_
  intro k w1 hk hk1 hc1 hb1
  have HB1 := Lib.hid hb1; clear hb1
  go_wp2_with fail
  refine once_get k ca cl cc 3 (by omega) _ hc1 ?_
  intro x w2 hc2 g2
  have HB2 := Lib.hid (below_of_grown HB1.out g2 hk hc1.lt); clear g2
  cases x
  · go_wp2_with fail
    refine number_get k ca cl cc _ hc2 ?_
    intro x w3 x0 hc3 g3
    have HB3 := Lib.hid (below_of_grown HB2.out g3 hk hc2.lt); clear g3
    have HX := Lib.hid x0; clear x0
    go_wp2
    exact H.out _ _ HX.out HB3.out
  · go_wp2_with fail
    refine below_get k ca cl cc 1000000 (by omega) _ hc2 ?_
    intro x w3 x0 x1 hc3 g3
    have HB3 := Lib.hid (below_of_grown HB2.out g3 hk hc2.lt); clear g3
    go_wp2_with fail
    refine below_get k ca cl cc 2000000 (by omega) _ hc3 ?_
    intro y w4 y0 y1 hc4 g4
    have HB4 := Lib.hid (below_of_grown HB3.out g4 hk hc3.lt); clear g4
    have hp := prod_bd x y x0 x1 y0 y1
    obtain ⟨p0, p1⟩ := hp
    go_wp2
    exact H.out _ _ (I64.small p0 p1) HB4.out
end Go.Proofs.YtcagffcmnpakjaaDoor.Draw
