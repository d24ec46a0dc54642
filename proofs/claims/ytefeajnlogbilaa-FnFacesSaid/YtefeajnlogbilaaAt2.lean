/- laws.at gives one and the same byte of the draw, whatever was drawn, and leaves the world alone. -/
import Derived.Test.YtefeajnlogbilaaAt
namespace Go.Proofs.Ytefeajnlogbilaa.Draw
open Go.ChangeShapes Go.WideShapes Go.ChangeAt Go.RowKit
set_option linter.unusedVariables false

theorem at_fix (ca : Option Addr) (cl cc : Nat) (i : Nat) (hi : i ≤ 1000000) (w : World) (hm : cl ≤ maxLen) (hr : RowIn w ca cl) :
    ∃ n : Nat, n ≤ 255 ∧ ∀ q, Calls Try.prog 19 #[.slice ca cl cc, .int .i64 (i : Int)] (w.drewN q) fun e w' => e = .returned (.int .i64 (n : Int)) ∧ w.drewN q = w' := by
  unfold maxLen at hm
  by_cases hz : cl = 0
  · subst hz
    refine ⟨0, by omega, fun q => ?_⟩
    go_enter Try.func19, Try.ntmps19
    go_wp2
    go_ret
    exact ⟨rfl, rfl⟩
  · have hb : ((cl : Int) == 0) = false := by simp; omega
    have hpos : (0 : Int) < (cl : Int) := by omega
    obtain ⟨j, hj⟩ : ∃ j : Nat, (j : Int) = ((i : Int) * 5 + 1) % (cl : Int) := ⟨(((i : Int) * 5 + 1) % (cl : Int)).toNat, by
      have := Int.emod_nonneg ((i : Int) * 5 + 1) (show (cl : Int) ≠ 0 by omega)
      omega⟩
    have hjl : j < cl := by
      have := Int.emod_lt_of_pos ((i : Int) * 5 + 1) hpos
      omega
    obtain ⟨b, off, rfl, hbs, x, hx0, hx1, hcx⟩ := hr j hjl
    have hjl' : (j : Int) < (cl : Int) := by omega
    have hne : ((cl : Int) != 0) = true := by simp; omega
    have ht : Int.tmod ((i : Int) * 5 + 1) (cl : Int) = (j : Int) := by rw [hj]; exact Int.tmod_eq_emod_of_nonneg (by omega)
    obtain ⟨n, rfl⟩ := Int.eq_ofNat_of_zero_le hx0
    rw [← hj] at *
    refine ⟨n, by omega, fun q => ?_⟩
    go_enter Try.func19, Try.ntmps19
    go_wp2
    go_ret
    exact ⟨rfl, rfl⟩
end Go.Proofs.Ytefeajnlogbilaa.Draw
