/- What laws.at returns: a byte of the draw. -/
import Derived.Test.YtfhpbgmnekhfeaaDraw
namespace Go.Proofs.Ytfhpbgmnekhfeaa.Draw
open Go.ChangeShapes Go.WideShapes Go.ChangeAt Go.RowKit
set_option linter.unusedVariables false

theorem RowIn.below {w w' : World} {ca : Option Addr} {cl B : Nat} (h : RowIn w ca cl) (hb : Below B w w') (hB : w.heap.size ≤ B) : RowIn w' ca cl := by
  intro j hj
  obtain ⟨b, off, e, hlt, x, h0, h1, hx⟩ := h j hj
  exact ⟨b, off, e, Nat.lt_of_lt_of_le hlt hb.size, x, h0, h1, by rw [hb.cell (by show b < _; omega)]; exact hx⟩

theorem at_any (ca : Option Addr) (cl cc : Nat) (i : Nat) (hi : i ≤ 1000000) (w : World) (hm : cl ≤ maxLen) (hr : RowIn w ca cl) :
    Calls Try.prog 12 #[.slice ca cl cc, .int .i64 (i : Int)] w fun e w' => (∃ n : Int, 0 ≤ n ∧ n ≤ 255 ∧ e = .returned (.int .i64 n)) ∧ Below w.heap.size w w' := by
  unfold maxLen at hm
  by_cases hz : cl = 0
  · subst hz
    go_enter Try.func12, Try.ntmps12
    go_wp2
    go_ret
    exact ⟨⟨0, by omega, by omega, rfl⟩, Below.refl _ _⟩
  · have hb : ((cl : Int) == 0) = false := by simp; omega
    have hpos : (0 : Int) < (cl : Int) := by omega
    obtain ⟨j, hj⟩ : ∃ j : Nat, (j : Int) = ((i : Int) * 5 + 1) % (cl : Int) := ⟨(((i : Int) * 5 + 1) % (cl : Int)).toNat, by
      have := Int.emod_nonneg ((i : Int) * 5 + 1) (show (cl : Int) ≠ 0 by omega)
      omega⟩
    have hjl : j < cl := by
      have := Int.emod_lt_of_pos ((i : Int) * 5 + 1) hpos
      omega
    obtain ⟨b, off, rfl, hbs, x, hx0, hx1, hcx⟩ := hr j hjl
    have hjl' : (j : Int) < (cl : Int) := by omega
    have hne : ((cl : Int) != 0) = true := by simp; omega
    have ht : Int.tmod ((i : Int) * 5 + 1) (cl : Int) = (j : Int) := by rw [hj]; exact Int.tmod_eq_emod_of_nonneg (by omega)
    rw [← hj] at *
    go_enter Try.func12, Try.ntmps12
    go_wp2
    go_ret
    exact ⟨⟨x, hx0, hx1, rfl⟩, Below.refl _ _⟩
end Go.Proofs.Ytfhpbgmnekhfeaa.Draw
