/- Decimal numerals: plain, without the program. -/
import Derived.Lib.ItoaNum
import Derived.Lib.ItoaMem
import Derived.Lib.Atoi
import Derived.Lib.AtoiTie
namespace Go.Proofs.YtcagffcmnpakjaaDoor.Decimal
open Go Go.Lib

theorem decFrom_snoc (c : UInt8) (d : Nat) (hd : digitVal c = some d) : ∀ (l : List UInt8) (acc n : Nat), decFrom acc l = some n → decFrom acc (l ++ [c]) = some (n * 10 + d)
  | [], acc, n, h => by
    simp only [decFrom, Option.some.injEq] at h
    subst h
    simp [decFrom, hd]
  | a :: t, acc, n, h => by
    simp only [decFrom, List.cons_append] at h ⊢
    cases ha : digitVal a with
    | none => simp [ha] at h
    | some e =>
      simp only [ha] at h ⊢
      exact decFrom_snoc c d hd t _ n h

theorem digitVal_of (d : Nat) (h : d < 10) : digitVal (UInt8.ofNat (48 + d)) = some d := by
  unfold digitVal
  have e : (UInt8.ofNat (48 + d)).toNat = 48 + d := by simp; omega
  rw [e, if_pos (by omega)]
  congr 1; omega

theorem decFrom_digits (u : Nat) : decFrom 0 (decDigits u) = some u := by
  induction u using Nat.strongRecOn with
  | _ u ih =>
    by_cases h : u < 10
    · rw [decDigits, dif_pos h]
      have := decFrom_snoc (UInt8.ofNat (48 + u)) u (digitVal_of u h) [] 0 0 rfl
      simpa using this
    · rw [decDigits, dif_neg h, decFrom_snoc (UInt8.ofNat (48 + u % 10)) (u % 10) (digitVal_of _ (by omega)) _ 0 (u / 10) (ih (u / 10) (by omega))]
      congr 1; omega

theorem digits_len (u : Nat) (h : u ≤ 1000000000) : (decDigits u).length ≤ 10 := by
  have H : ∀ (k u : Nat), u < 10 ^ (k + 1) → nDigits u ≤ k + 1 := by
    intro k
    induction k with
    | zero => intro u h; rw [nDigits_small (by simpa using h)]; omega
    | succ k ih =>
      intro u h
      by_cases h10 : u < 10
      · rw [nDigits_small h10]; omega
      · rw [nDigits_big h10]
        have := ih (u / 10) (by rw [Nat.pow_succ] at h; omega)
        omega
  rw [decDigits_length]
  exact H 9 u (by simp only [Nat.reduceAdd, Nat.reducePow]; omega)

theorem digits_pos (u : Nat) : 0 < (decDigits u).length := by
  rw [decDigits_length]; exact nDigits_pos u

/-- The text l is the numeral of n, a number from 0 to the limit. -/
def PU (l : List UInt8) (n : Nat) : Prop := n ≤ 1000000000 ∧ l = decDigits n

theorem PU.len {l : List UInt8} {n : Nat} (h : PU l n) : l.length ≤ 10 := by rw [h.2]; exact digits_len n h.1
theorem PU.value {l : List UInt8} {n : Nat} (h : PU l n) : decFrom 0 l = some n := by rw [h.2]; exact decFrom_digits n
theorem PU.itoa {l : List UInt8} {n : Nat} (h : PU l n) : Lib.itoa (n : Int) = l := by rw [h.2, itoa_nonneg]

theorem PU.atoi {l : List UInt8} {n : Nat} (h : PU l n) : atoiAll l = .ok (n : Int) := by
  rw [atoiAll_short l (by have := h.len; omega)]
  have hv := h.value
  have hp : 0 < l.length := by rw [h.2]; exact digits_pos n
  cases l with
  | nil => simp at hp
  | cons c r =>
    obtain ⟨d, hd⟩ := digit_of_decFrom (c :: r) 0 n hv 0 c rfl
    have hc : 48 ≤ c.toNat ∧ c.toNat ≤ 57 := by
      unfold digitVal at hd
      split at hd
      · assumption
      · cases hd
    have h45 : (c == 45) = false := by
      rw [beq_eq_false_iff_ne]; intro e; rw [e] at hc; revert hc; decide
    have h43 : (c == 43) = false := by
      rw [beq_eq_false_iff_ne]; intro e; rw [e] at hc; revert hc; decide
    simp [Lib.atoi, h45, h43, decNat, hv, NumEnd.ofOption]

theorem PU.unique {l : List UInt8} {n m : Nat} (h : PU l n) (g : PU l m) : n = m := by
  have := h.value.symm.trans g.value
  simpa using this

theorem decFrom_bd {l : List UInt8} {u : Nat} (h : decFrom 0 l = some u) (hl : l.length ≤ 10) : u < 10000000000 := by
  have h1 := decFrom_lt l 0 u h
  have hp : 10 ^ l.length ≤ 10 ^ 10 := Nat.pow_le_pow_right (by decide) hl
  have e18 : (10 : Nat) ^ 10 = 10000000000 := by decide
  omega
end Go.Proofs.YtcagffcmnpakjaaDoor.Decimal
