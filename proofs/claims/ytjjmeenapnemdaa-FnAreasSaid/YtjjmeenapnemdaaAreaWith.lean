/- What the model and the program of chapter 9 return: CountWithRoom. -/
import Derived.Test.YtjjmeenapnemdaaAreaTable
namespace Go.Proofs.Ytjjmeenapnemdaa.Area
open Go.ChangeShapes Go.WideShapes Go.ChangeAt Go.RowKit
open Go.Proofs.Ytjjmeenapnemdaa.Strip Go.Proofs.Ytjjmeenapnemdaa.Ints Go.Proofs.Ytjjmeenapnemdaa.Corner Go.Proofs.Ytjjmeenapnemdaa.Order
set_option linter.unusedVariables false

def withI (d f r : Int) : Int := if 0 ≤ r ∧ r < ((tabL d f).length : Int) then (tabL d f).getD r.toNat 0 else 0
theorem tabL_length (d f : Int) : (tabL d f).length ≤ 65 := by
  unfold tabL
  cases hf : frameB d f with
  | false => exact Nat.zero_le _
  | true =>
    obtain ⟨q1, q2, q3, q4⟩ := frameB_iff.mp hf
    show (tabN d.toNat f.toNat).length ≤ 65
    rw [tabN_length]
    have := Nat.mul_le_mul (show d.toNat ≤ 8 by omega) (show f.toNat ≤ 8 by omega)
    omega

set_option maxRecDepth 100000 in
set_option maxHeartbeats 4000000 in
theorem with_impl (d f r : Int) (w : World) :
    Calls Try.prog 16 #[.int .i64 d, .int .i64 f, .int .i64 r] w fun e w' => e = .returned (.int .i64 (withI d f r)) ∧ Below w.heap.size w w' := by
  have HT := Lib.hid (fun w => table_impl d f w)
  have hl := tabL_length d f
  unfold withI
  generalize tabL d f = l at *
  by_cases h0 : 0 ≤ r ∧ r < (l.length : Int)
  · obtain ⟨n, rfl⟩ := Int.eq_ofNat_of_zero_le h0.1
    have h1 : n < l.length := by omega
    have h2 : (n : Int) < (l.length : Int) := by omega
    have h3 : ¬ ((l.length : Int) ≤ (n : Int)) := by omega
    have h4 : ¬ ((n : Int) < 0) := by omega
    have h5 : (0 : Int) ≤ (n : Int) := Int.natCast_nonneg _
    rw [if_pos h0, show l.getD (n : Int).toNat 0 = l[n] by simp [List.getD, h1]]
    clear h0
    obtain ⟨x, hx⟩ : ∃ x, l[n] = x := ⟨_, rfl⟩
    rw [hx]
    have HX := Lib.hid hx
    clear hx
    go_enter Try.func16, Try.ntmps16
    go_wp2_with fail
    refine (HT.out _).mono ?_
    rintro e w1 ⟨v, rfl, hb, ho⟩
    have HB := Lib.hid hb
    clear hb HT
    obtain ⟨a, c, rfl, hr, _⟩ := ho.row
    have HR := Lib.hid hr
    clear hr ho
    obtain ⟨g, rfl, _, hc⟩ := HR.out n h1
    rw [HX.out] at hc
    go_wp2
    go_ret
    exact ⟨rfl, HB.out⟩
  · by_cases h1 : 0 ≤ r
    · obtain ⟨n, rfl⟩ := Int.eq_ofNat_of_zero_le h1
      have h2 : ¬ ((n : Int) < (l.length : Int)) := by omega
      have h3 : (l.length : Int) ≤ (n : Int) := by omega
      have h4 : ¬ ((n : Int) < 0) := by omega
      rw [if_neg h0]
      clear h0
      go_enter Try.func16, Try.ntmps16
      go_wp2_with fail
      refine (HT.out _).mono ?_
      rintro e w1 ⟨v, rfl, hb, ho⟩
      have HB := Lib.hid hb
      clear hb HT
      obtain ⟨a, c, rfl, hr, _⟩ := ho.row
      have HR := Lib.hid hr
      clear hr ho
      go_wp2
      go_ret
      exact ⟨rfl, HB.out⟩
    · have h2 : r < 0 := by omega
      rw [if_neg h0]
      clear h0 h1
      go_enter Try.func16, Try.ntmps16
      go_wp2_with fail
      refine (HT.out _).mono ?_
      rintro e w1 ⟨v, rfl, hb, ho⟩
      have HB := Lib.hid hb
      clear hb HT
      obtain ⟨a, c, rfl, hr, _⟩ := ho.row
      have HR := Lib.hid hr
      clear hr ho
      go_wp2
      go_ret
      exact ⟨rfl, HB.out⟩
end Go.Proofs.Ytjjmeenapnemdaa.Area
