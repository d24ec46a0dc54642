/- What spec.l01Once returns. -/
import Derived.Test.YtmjknjgfcngacaaDraw
namespace Go.Proofs.Ytmjknjgfcngacaa.Draw
open Go.ChangeShapes Go.WideShapes Go.ChangeAt Go.RowKit
set_option linter.unusedVariables false

theorem once_get (k : Nat) (ca : Option Addr) (cl cc : Nat) (n : Int) (hn : 0 < n) (w : World) (hc : Cur w k ca cl cc) {Q : Ending → World → Prop}
    (h : ∀ (x : Bool) (w' : World), Cur w' k ca cl cc → w.grownBy w' (some k) → Q (.returned (.bool x)) w') :
    Calls Try.prog 37 #[.pointer (some ⟨k, 0, none⟩), .int .i64 n] w Q := by
  have H := Lib.hid h; clear h
  go_enter Try.func37, Try.ntmps37
  go_wp2_with fail
  refine below_get k ca cl cc n hn _ hc ?_
  intro x w1 x0 x1 hc1 g1
  have HG := Lib.hid g1; clear g1
  have HC := Lib.hid hc1; clear hc1
  go_wp2
  exact H.out _ _ HC.out HG.out

end Go.Proofs.Ytmjknjgfcngacaa.Draw
