/- laws.at gives one and the same byte of the draw, in every world that has grown out of this one, and leaves that world alone. -/
import Derived.Test.YtfhpbgmnekhfeaaAt
namespace Go.Proofs.Ytfhpbgmnekhfeaa.Draw
open Go.ChangeShapes Go.WideShapes Go.ChangeAt Go.RowKit
set_option linter.unusedVariables false

theorem at_below (ca : Option Addr) (cl cc : Nat) (i : Nat) (hi : i ≤ 1000000) (w : World) (hm : cl ≤ maxLen) (hr : RowIn w ca cl) :
    ∃ n : Nat, n ≤ 255 ∧ ∀ w', Below w.heap.size w w' → Calls Try.prog 12 #[.slice ca cl cc, .int .i64 (i : Int)] w' fun e w2 => e = .returned (.int .i64 (n : Int)) ∧ w' = w2 := by
  unfold maxLen at hm
  by_cases hz : cl = 0
  · subst hz
    refine ⟨0, by omega, fun w' _ => ?_⟩
    go_enter Try.func12, Try.ntmps12
    go_wp2
    go_ret
    exact ⟨rfl, rfl⟩
  · have hb : ((cl : Int) == 0) = false := by simp; omega
    have hpos : (0 : Int) < (cl : Int) := by omega
    obtain ⟨j, hj⟩ : ∃ j : Nat, (j : Int) = ((i : Int) * 5 + 1) % (cl : Int) := ⟨(((i : Int) * 5 + 1) % (cl : Int)).toNat, by
      have := Int.emod_nonneg ((i : Int) * 5 + 1) (show (cl : Int) ≠ 0 by omega)
      omega⟩
    have hjl : j < cl := by
      have := Int.emod_lt_of_pos ((i : Int) * 5 + 1) hpos
      omega
    obtain ⟨b, off, rfl, hbs, x, hx0, hx1, hcx⟩ := hr j hjl
    have hjl' : (j : Int) < (cl : Int) := by omega
    have hne : ((cl : Int) != 0) = true := by simp; omega
    have ht : Int.tmod ((i : Int) * 5 + 1) (cl : Int) = (j : Int) := by rw [hj]; exact Int.tmod_eq_emod_of_nonneg (by omega)
    obtain ⟨n, rfl⟩ := Int.eq_ofNat_of_zero_le hx0
    rw [← hj] at *
    refine ⟨n, by omega, fun w' hB => ?_⟩
    have hcx : w'.cell? ⟨b, off + j, none⟩ = some (.int .u8 (n : Int)) := by rw [hB.cell (p := ⟨b, off + j, none⟩) hbs]; exact hcx
    clear hB hr
    go_enter Try.func12, Try.ntmps12
    go_wp2
    go_ret
    exact ⟨rfl, rfl⟩
end Go.Proofs.Ytfhpbgmnekhfeaa.Draw
