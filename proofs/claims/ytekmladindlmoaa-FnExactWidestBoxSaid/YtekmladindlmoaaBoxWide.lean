/- THE WIDEST BOX: mathematics. From a strip on, as far as the strips can be raised at the same number. -/
import Derived.Test.YtekmladindlmoaaBoxMath
namespace Go.Proofs.Ytekmladindlmoaa.Box
open Go.ChangeShapes Go.WideShapes Go.ChangeAt Go.RowKit
open Go.Proofs.Ytekmladindlmoaa.Strip Go.Proofs.Ytekmladindlmoaa.Strs Go.Proofs.Ytekmladindlmoaa.Card Go.Proofs.Ytekmladindlmoaa.Corner Go.Proofs.Ytekmladindlmoaa.Kerf Go.Proofs.Ytekmladindlmoaa.Order Go.Proofs.Ytekmladindlmoaa.Flip
set_option linter.unusedVariables false

/-- Can strip k of the row be raised at A? -/
def upB (l : List ByteArray) (A : Int) (k : Nat) : Bool := match l[k]? with
  | some s => cornerB 100 s.data.toList A
  | none => false
theorem upB_get {l : List ByteArray} {A : Int} {k : Nat} (h : k < l.length) : upB l A k = cornerB 100 l[k].data.toList A := by
  unfold upB; rw [List.getElem?_eq_getElem h]
theorem upB_out {l : List ByteArray} {A : Int} {k : Nat} (h : l.length ≤ k) : upB l A k = false := by
  unfold upB; rw [List.getElem?_eq_none h]
/-- The least number from which on all strips up to k can be raised. -/
def downTo (p : Nat → Bool) : Nat → Nat
  | 0 => 0
  | i + 1 => if p i = true then downTo p i else i + 1
/-- The greatest number up to which all strips from k on can be raised; n: how many steps at most. -/
def upTo (p : Nat → Bool) : Nat → Nat → Nat
  | 0, j => j
  | n + 1, j => if p (j + 1) = true then upTo p n (j + 1) else j
theorem downTo_le (p : Nat → Bool) : ∀ i, downTo p i ≤ i
  | 0 => Nat.le_refl _
  | i + 1 => by
    have := downTo_le p i
    unfold downTo; split <;> omega
theorem upTo_ge (p : Nat → Bool) : ∀ n j, j ≤ upTo p n j
  | 0, j => Nat.le_refl _
  | n + 1, j => by
    have := upTo_ge p n (j + 1)
    unfold upTo; split <;> omega
theorem downTo_all (p : Nat → Bool) : ∀ i k, downTo p i ≤ k → k < i → p k = true
  | 0, k, _, h => by omega
  | i + 1, k, h1, h2 => by
    unfold downTo at h1
    split at h1
    · rename_i hp
      by_cases e : k = i
      · subst e; exact hp
      · exact downTo_all p i k h1 (by omega)
    · omega
theorem downTo_end (p : Nat → Bool) : ∀ i, downTo p i = 0 ∨ p (downTo p i - 1) = false
  | 0 => .inl rfl
  | i + 1 => by
    unfold downTo
    split
    · exact downTo_end p i
    · rename_i hp
      right
      simpa using hp
theorem upTo_all (p : Nat → Bool) : ∀ n j k, j < k → k ≤ upTo p n j → p k = true
  | 0, j, k, h1, h2 => by unfold upTo at h2; omega
  | n + 1, j, k, h1, h2 => by
    unfold upTo at h2
    split at h2
    · rename_i hp
      by_cases e : k = j + 1
      · subst e; exact hp
      · exact upTo_all p n (j + 1) k (by omega) h2
    · omega
theorem upTo_lt (l : List ByteArray) (A : Int) : ∀ n j, j < l.length → upTo (upB l A) n j < l.length
  | 0, j, h => h
  | n + 1, j, h => by
    unfold upTo
    split
    · rename_i hp
      refine upTo_lt l A n (j + 1) ?_
      refine Nat.lt_of_not_le fun hle => ?_
      rw [upB_out hle] at hp; cases hp
    · exact h
theorem upTo_end (l : List ByteArray) (A : Int) : ∀ n j, j < l.length → l.length ≤ j + n → upB l A (upTo (upB l A) n j + 1) = false
  | 0, j, h1, h2 => by omega
  | n + 1, j, h1, h2 => by
    unfold upTo
    split
    · rename_i hp
      have h3 : j + 1 < l.length := by
        refine Nat.lt_of_not_le fun hle => ?_
        rw [upB_out hle] at hp; cases hp
      exact upTo_end l A n (j + 1) h3 (by omega)
    · rename_i hp
      simpa using hp

/-- The least First, the greatest Last round strip k. -/
def wideF (l : List ByteArray) (A : Int) (k : Nat) : Nat := downTo (upB l A) k
def wideL (l : List ByteArray) (A : Int) (k : Nat) : Nat := upTo (upB l A) l.length k

/-- What WidestBox returns. -/
def wideB (d f : Int) (l : List ByteArray) (k A : Int) : Int × Int × Int := if boxB 100 d f l k k A = true then ((wideF l A k.toNat : Int), (wideL l A k.toNat : Int), A) else (0, 0, 0)
theorem box_up {d f : Int} {l : List ByteArray} {i j : Nat} {A : Int} (hc : cardB d f l = true) (hij : i ≤ j) : boxB 100 d f l (i : Int) (j : Int) A = true ↔ ∀ k, i ≤ k → k ≤ j → upB l A k = true := by
  rw [boxB_iff]
  simp only [Int.toNat_natCast]
  constructor
  · rintro ⟨hr, h⟩ k h1 h2
    have hj := (rangeB_iff.1 hr).2.2.2
    have hk : k < l.length := by omega
    rw [upB_get hk]
    exact h k hk h1 (by omega)
  · intro h
    have hj : j < l.length := by
      refine Nat.lt_of_not_le fun hle => ?_
      have := h j hij (Nat.le_refl _)
      rw [upB_out hle] at this; cases this
    refine ⟨rangeB_iff.2 ⟨hc, by omega, by omega, by omega⟩, fun k hk h1 h2 => ?_⟩
    rw [← upB_get hk]
    exact h k h1 (by omega)
theorem box_single {d f : Int} {l : List ByteArray} {k A : Int} : boxB 100 d f l k k A = true → ∃ j : Nat, k = (j : Int) ∧ j < l.length ∧ cardB d f l = true ∧ upB l A j = true := by
  intro h
  obtain ⟨i, j, e1, e2, hij, hj, hc⟩ := range_nats (boxB_iff.1 h).1
  have : i = j := by omega
  subst this
  subst e1
  exact ⟨i, rfl, hj, hc, (box_up hc (Nat.le_refl _)).1 h i (Nat.le_refl _) (Nat.le_refl _)⟩
/-- One strip more in front. -/
theorem box_front {d f : Int} {l : List ByteArray} {i j : Nat} {A : Int} (hc : cardB d f l = true) (hij : i ≤ j) (h : ∀ k, i ≤ k → k ≤ j → upB l A k = true) : boxB 100 d f l ((i : Int) - 1) (j : Int) A = (decide (0 < i) && upB l A (i - 1)) := by
  rcases Nat.eq_zero_or_pos i with e | e
  · subst e
    rw [decide_eq_false (by omega)]
    cases hb : boxB 100 d f l ((0 : Nat) - 1 : Int) (j : Int) A with
    | false => rfl
    | true => have := (rangeB_iff.1 (boxB_iff.1 hb).1).2.1; omega
  · rw [decide_eq_true e, show ((i : Int) - 1) = ((i - 1 : Nat) : Int) by omega, Bool.true_and]
    rw [Bool.eq_iff_iff, box_up hc (by omega)]
    constructor
    · intro h2; exact h2 _ (Nat.le_refl _) (by omega)
    · intro h2 k h3 h4
      by_cases e2 : k = i - 1
      · subst e2; exact h2
      · exact h k (by omega) h4
/-- One strip more behind. -/
theorem box_behind {d f : Int} {l : List ByteArray} {i j : Nat} {A : Int} (hc : cardB d f l = true) (hij : i ≤ j) (h : ∀ k, i ≤ k → k ≤ j → upB l A k = true) : boxB 100 d f l (i : Int) ((j : Int) + 1) A = upB l A (j + 1) := by
  rw [show ((j : Int) + 1) = ((j + 1 : Nat) : Int) by omega, Bool.eq_iff_iff, box_up hc (by omega)]
  constructor
  · intro h2; exact h2 _ (by omega) (Nat.le_refl _)
  · intro h2 k h3 h4
    by_cases e2 : k = j + 1
    · subst e2; exact h2
    · exact h k h3 (by omega)
theorem downTo_step {p : Nat → Bool} {i : Nat} (h : 0 < i) (hp : p (i - 1) = true) : downTo p i = downTo p (i - 1) := by
  obtain ⟨m, rfl⟩ : ∃ m, i = m + 1 := ⟨i - 1, by omega⟩
  show (if p m = true then downTo p m else m + 1) = _
  rw [if_pos (show p m = true from hp)]; rfl
theorem downTo_stop {p : Nat → Bool} {i : Nat} (hp : i = 0 ∨ p (i - 1) = false) : downTo p i = i := by
  cases i with
  | zero => rfl
  | succ m =>
    rcases hp with h | h
    · omega
    · show (if p m = true then downTo p m else m + 1) = _
      rw [if_neg (by rw [show m = m + 1 - 1 by omega, h]; simp)]
/-- The number of steps does not matter as long as there are enough. -/
theorem upTo_more (l : List ByteArray) (A : Int) : ∀ n m j, j < l.length → l.length ≤ j + n → l.length ≤ j + m → upTo (upB l A) n j = upTo (upB l A) m j
  | 0, m, j, h1, h2, h3 => by omega
  | n + 1, 0, j, h1, h2, h3 => by omega
  | n + 1, m + 1, j, h1, h2, h3 => by
    unfold upTo
    split
    · rename_i hp
      have h4 : j + 1 < l.length := by
        refine Nat.lt_of_not_le fun hle => ?_
        rw [upB_out hle] at hp; cases hp
      exact upTo_more l A n m (j + 1) h4 (by omega) (by omega)
    · rfl
theorem wideL_step {l : List ByteArray} {A : Int} {j : Nat} (h : j < l.length) (hp : upB l A (j + 1) = true) : wideL l A j = wideL l A (j + 1) ∧ j + 1 < l.length := by
  have h4 : j + 1 < l.length := by
    refine Nat.lt_of_not_le fun hle => ?_
    rw [upB_out hle] at hp; cases hp
  refine ⟨?_, h4⟩
  unfold wideL
  rw [upTo_more l A l.length (l.length + 1) j h (by omega) (by omega)]
  show (if upB l A (j + 1) = true then upTo (upB l A) l.length (j + 1) else j) = _
  rw [if_pos hp]
theorem wideL_stop {l : List ByteArray} {A : Int} {j : Nat} (hp : upB l A (j + 1) = false) : wideL l A j = j := by
  unfold wideL
  cases l.length with
  | zero => rfl
  | succ n =>
    show (if upB l A (j + 1) = true then upTo (upB l A) n (j + 1) else j) = _
    rw [if_neg (by rw [hp]; simp)]
end Go.Proofs.Ytekmladindlmoaa.Box
