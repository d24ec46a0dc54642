/- What spec.FormatInt returns: the decimal numeral. -/
import Derived.Test.YtfhpbgmnekhfeaaFigure
import Derived.Lib.ItoaNum
import Derived.Lib.ItoaMem
namespace Go.Proofs.Ytfhpbgmnekhfeaa.Bytes
open Go.ChangeShapes Go.WideShapes Go.ChangeAt Go.RowKit
set_option linter.unusedVariables false

/-- After some rounds: m is left of n, and l holds the digits that were taken. -/
def FmtRel (n m : Int) (l : List UInt8) : Prop :=
  ∃ u : Nat, m = (if n < 0 then -(u : Int) else (u : Int)) ∧ u ≤ n.natAbs ∧ (if u = 0 then [] else Lib.decDigits u) ++ l = Lib.decDigits n.natAbs

theorem FmtRel.start (n : Int) (h : n ≠ 0) : FmtRel n n [] := by
  refine ⟨n.natAbs, ?_, Nat.le_refl _, ?_⟩
  · split <;> omega
  · rw [if_neg (by omega)]; simp

theorem FmtRel.stop {n : Int} {l : List UInt8} (h : FmtRel n 0 l) : l = Lib.decDigits n.natAbs := by
  obtain ⟨u, e, _, h⟩ := h
  have : u = 0 := by revert e; split <;> omega
  subst this
  simpa using h

theorem FmtRel.round {n m : Int} {l : List UInt8} (h : FmtRel n m l) (u : Nat) (hm : m = (if n < 0 then -(u : Int) else (u : Int))) (h0 : u ≠ 0) : FmtRel n (if n < 0 then -((u / 10 : Nat) : Int) else ((u / 10 : Nat) : Int)) (digU (u % 10) :: l) := by
  obtain ⟨v, e, hle, h⟩ := h
  have : v = u := by rw [hm] at e; revert e; split <;> omega
  subst this
  rw [if_neg h0] at h
  have hd : digU (v % 10) = UInt8.ofNat (48 + v % 10) := by unfold digU; rw [if_pos (by omega)]
  refine ⟨v / 10, rfl, by omega, ?_⟩
  rw [← h, hd]
  by_cases h10 : v < 10
  · have e1 : v / 10 = 0 := by omega
    have e2 : v % 10 = v := by omega
    rw [e1, e2, if_pos rfl, Lib.decDigits, dif_pos h10]; rfl
  · rw [if_neg (by omega)]
    conv => rhs; rw [Lib.decDigits, dif_neg h10]
    simp

theorem nDigits_le : ∀ (k u : Nat), u < 10 ^ (k + 1) → Lib.nDigits u ≤ k + 1
  | 0, u, h => by rw [Lib.nDigits_small (by simpa using h)]; omega
  | k + 1, u, h => by
    by_cases h10 : u < 10
    · rw [Lib.nDigits_small h10]; omega
    · rw [Lib.nDigits_big h10]
      have := nDigits_le k (u / 10) (by rw [Nat.pow_succ] at h; omega)
      omega

theorem itoa_length (n : Int) (h0 : -9223372036854775808 ≤ n) (h1 : n ≤ 9223372036854775807) : (Lib.decDigits n.natAbs).length ≤ 20 := by
  rw [Lib.decDigits_length]
  exact nDigits_le 19 _ (by simp only [Nat.reduceAdd, Nat.reducePow]; omega)

theorem FmtRel.short {n m : Int} {l : List UInt8} (h : FmtRel n m l) (h0 : -9223372036854775808 ≤ n) (h1 : n ≤ 9223372036854775807) : l.length ≤ 20 := by
  obtain ⟨u, _, _, h⟩ := h
  have := itoa_length n h0 h1
  rw [← h] at this
  simp at this
  omega

theorem cat_one (x : UInt8) (l : List UInt8) : (⟨#[x]⟩ : ByteArray) ++ ⟨l.toArray⟩ = ⟨(x :: l).toArray⟩ := by
  apply ByteArray.ext
  simp [ByteArray.data_append]

theorem run_one (x : UInt8) (w : World) :
    (Go.convert 22 9 (.slice (some ⟨w.heap.size, 0, none⟩) 1 1)).run Try.prog (w.alloc (.cells #[.int .u8 (x.toNat : Int)] 5)) = .ok (.string ⟨#[x]⟩) (w.alloc (.cells #[.int .u8 (x.toNat : Int)] 5)) := by
  refine run_convert_bytes_back (P := Try.prog) _ 22 9 5 ⟨w.heap.size, 0, none⟩ 1 [x] Try.underlying22 Try.underlying5 Try.underlying9 ?_
  intro j hj
  have h0 : j = 0 := by simpa using hj
  subst h0
  simp [Addr.add]

end Go.Proofs.Ytfhpbgmnekhfeaa.Bytes
