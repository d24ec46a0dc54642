/- A digit: what spec.l01Figure returns. -/
import Derived.Test.YtcagffcmnpakjaaDoorBytes
import Derived.Deep.RegionHeld3
import Derived.Deep.AppendLies
import Derived.Deep.DrawnRows
import Derived.OwnWalk
namespace Go.Proofs.YtcagffcmnpakjaaDoor.Bytes
open Go.ChangeShapes Go.WideShapes Go.ChangeAt Go.RowKit
set_option linter.unusedVariables false

theorem figure_at (x : Nat) (h : x < 16) (w : World) :
    Calls Tryd.prog 37 #[.int .i64 (x : Int)] w fun e w' => e = .returned (.int .u8 ((digU x).toNat : Int)) ∧ w = w' := by
  have hd := digU_int x h
  by_cases h10 : x < 10
  · have e1 : ((digU x).toNat : Int) = 48 + (x : Int) := by rw [hd, if_pos (by omega)]
    rw [e1]; clear e1 hd
    go_enter Tryd.func37, Tryd.ntmps37
    go_wp2
    go_ret
    exact ⟨rfl, rfl⟩
  · have e1 : ((digU x).toNat : Int) = 97 + (x : Int) - 10 := by rw [hd, if_neg (by omega)]
    rw [e1]; clear e1 hd
    go_enter Tryd.func37, Tryd.ntmps37
    go_wp2
    go_ret
    exact ⟨rfl, rfl⟩

/-- A digit as a number: behind a name. -/
def digI (n : Int) : Int := ((digU n.toNat).toNat : Int)

theorem figure_get (n : Int) (h0 : 0 ≤ n) (h1 : n < 16) (w : World) :
    Calls Tryd.prog 37 #[.int .i64 n] w fun e w' => e = .returned (.int .u8 (digI n)) ∧ w = w' := by
  obtain ⟨x, rfl⟩ := Int.eq_ofNat_of_zero_le h0
  exact figure_at x (by omega) w

end Go.Proofs.YtcagffcmnpakjaaDoor.Bytes
