/- What the model of chapter 8 returns: IsAbove, l08Mix, UpperOf, LowerOf, AreComparable (printed by wip/gen_orderspec.py). -/
import Derived.Test.YthigiemgdejdhaaOrderMath
import Derived.Test.YthigiemgdejdhaaKerfSpec2
import Derived.Lib.MinMax
namespace Go.Proofs.Ythigiemgdejdhaa.Order
open Go.ChangeShapes Go.WideShapes Go.ChangeAt Go.RowKit
open Go.Proofs.Ythigiemgdejdhaa.Strip Go.Proofs.Ythigiemgdejdhaa.Kerf
set_option linter.unusedVariables false

theorem cat_lists2 (a b : List UInt8) : (⟨a.toArray⟩ : ByteArray) ++ ⟨b.toArray⟩ = ⟨(a ++ b).toArray⟩ := by
  apply ByteArray.ext
  simp [ByteArray.data_append]
theorem above_no {a b : List UInt8} (k : Nat) (hk : k ≤ a.length) (h : ff a k < ff b k) : aboveB a b = false := by
  cases hc : aboveB a b with
  | false => rfl
  | true =>
    have := (above_iff.1 hc).2 k hk
    omega
theorem above_start (a b : List UInt8) : ∀ j, j ≤ 0 → ff b j ≤ ff a j := by
  intro j hj
  obtain rfl : j = 0 := by omega
  rw [ff_zero, ff_zero]
  exact Nat.le_refl _
theorem size_same {s t : ByteArray} (h : sameB s.data.toList t.data.toList = true) : t.size = s.size := by
  have h5 := (same_facts h).2.2.2.2
  simpa using h5.symm
theorem strip_len {l : List UInt8} (h : stripB l = true) : l.length ≤ 16 := by
  have h1 := cnt_sum l (stripB_ok h)
  have h2 := stripB_frame h
  unfold frameB at h2
  simp only [decide_eq_true_eq] at h2
  omega
theorem size_small {s : ByteArray} (h : stripB s.data.toList = true) : s.size ≤ 16 := by
  have := strip_len h
  simpa using this

/-- What AreComparable returns. -/
def compB (a b : List UInt8) : Bool := aboveB a b || aboveB b a
end Go.Proofs.Ythigiemgdejdhaa.Order
