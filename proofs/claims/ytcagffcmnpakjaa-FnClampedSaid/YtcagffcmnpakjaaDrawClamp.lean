/- What spec.DrawClamp returns and leaves alone. -/
import Derived.Test.YtcagffcmnpakjaaDrawInt
namespace Go.Proofs.Ytcagffcmnpakjaa.Draw
open Go.ChangeShapes Go.WideShapes Go.ChangeAt Go.RowKit
set_option linter.unusedVariables false

theorem below_of_grown {B : Nat} {a w w' : World} {k : Nat} (h : Below B a w) (g : w.grownBy w' (some k)) (hB : B ≤ k) (hk : k < w.heap.size) : Below B a w' :=
  h.grown g (by omega) (fun j e => by cases e; exact hB)

theorem drawClamp_get (ca : Option Addr) (cl cc : Nat) (w : World) (hm : cl ≤ maxLen) (hr : RowIn w ca cl) {Q : Ending → World → Prop}
    (h : ∀ (n a b : Int) (w' : World), Below w.heap.size w w' → Q (.returned (.tuple #[.int .i64 n, .int .i64 a, .int .i64 b])) w') :
    Calls Try.prog 8 #[.slice ca cl cc] w Q := by
  have H := Lib.hid h; clear h
  have hm' := hm
  unfold maxLen at hm'
  go_enter Try.func8, Try.ntmps8
  go_wp2_with fail
  refine new_get ca cl cc w hm hr ?_
  intro k w1 hk hk1 hc1 hb1
  have HB1 := Lib.hid hb1; clear hb1
  go_wp2_with fail
  refine once_get k ca cl cc 4 (by omega) _ hc1 ?_
  intro x w2 hc2 g2
  have HB2 := Lib.hid (below_of_grown HB1.out g2 hk hc1.lt); clear g2
  cases x
  · go_wp2_with fail
    refine below_get k ca cl cc 40 (by omega) _ hc2 ?_
    intro x w3 x0 x1 hc3 g3
    have HB3 := Lib.hid (below_of_grown HB2.out g3 hk hc2.lt); clear g3
    go_wp2_with fail
    refine below_get k ca cl cc 80 (by omega) _ hc3 ?_
    intro y w4 y0 y1 hc4 g4
    have HB4 := Lib.hid (below_of_grown HB3.out g4 hk hc3.lt); clear g4
    go_wp2_with fail
    refine below_get k ca cl cc 30 (by omega) _ hc4 ?_
    intro z w5 z0 z1 hc5 g5
    have HB5 := Lib.hid (below_of_grown HB4.out g5 hk hc4.lt); clear g5
    go_wp2
    go_ret3
    exact H.out _ _ _ _ HB5.out
  · go_wp2_with fail
    refine number_get k ca cl cc _ hc2 ?_
    intro x w3 x0 hc3 g3
    have HB3 := Lib.hid (below_of_grown HB2.out g3 hk hc2.lt); clear g3
    go_wp2_with fail
    refine number_get k ca cl cc _ hc3 ?_
    intro y w4 y0 hc4 g4
    have HB4 := Lib.hid (below_of_grown HB3.out g4 hk hc3.lt); clear g4
    go_wp2_with fail
    refine number_get k ca cl cc _ hc4 ?_
    intro z w5 z0 hc5 g5
    have HB5 := Lib.hid (below_of_grown HB4.out g5 hk hc4.lt); clear g5
    go_wp2
    go_ret3
    exact H.out _ _ _ _ HB5.out
end Go.Proofs.Ytcagffcmnpakjaa.Draw
