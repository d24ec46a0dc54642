/- BOXES: strips of a card that are raised or lowered together, at one number. Pure mathematics. -/
import Derived.Test.YtekmladindlmoaaFlipSpec
import Derived.Test.YtekmladindlmoaaCardOk
namespace Go.Proofs.Ytekmladindlmoaa.Box
open Go.ChangeShapes Go.WideShapes Go.ChangeAt Go.RowKit
open Go.Proofs.Ytekmladindlmoaa.Strip Go.Proofs.Ytekmladindlmoaa.Strs Go.Proofs.Ytekmladindlmoaa.Card Go.Proofs.Ytekmladindlmoaa.Corner Go.Proofs.Ytekmladindlmoaa.Kerf Go.Proofs.Ytekmladindlmoaa.Order Go.Proofs.Ytekmladindlmoaa.Flip
set_option linter.unusedVariables false

/-- A strip with its corner k turned over: a valley (x = 100) raised, a mountain lowered. -/
def chS (x : UInt8) (s : ByteArray) (k : Int) : ByteArray := if x = 100 then raiseS s k else lowerS s k
theorem chS_up (s : ByteArray) (k : Int) : chS 100 s k = raiseS s k := rfl
theorem chS_low (s : ByteArray) (k : Int) : chS 102 s k = lowerS s k := rfl
theorem swapL_length (x y : UInt8) (l : List UInt8) (k : Nat) (h1 : 1 ≤ k) (h2 : k < l.length) : (swapL x y l k).length = l.length := by
  unfold swapL
  simp only [List.length_append, List.length_take, List.length_cons, List.length_drop]
  omega
theorem corner_in {x : UInt8} {l : List UInt8} {k : Int} (h : cornerB x l k = true) : 1 ≤ k ∧ k < (l.length : Int) := by
  unfold cornerB at h
  simp only [Bool.and_eq_true, decide_eq_true_eq] at h
  omega
theorem sized_of (l : List UInt8) : (⟨l.toArray⟩ : ByteArray).size = l.length := by simp [ByteArray.size]
theorem chS_size (x : UInt8) (s : ByteArray) (k : Int) : (chS x s k).size = s.size := by
  have hsl : s.data.toList.length = s.size := by simp
  unfold chS raiseS lowerS raiseL lowerL
  split
  · split
    · rename_i h
      have h2 := corner_in h
      rw [sized_of, swapL_length _ _ _ _ (by omega) (by omega), hsl]
    · rfl
  · split
    · rename_i h
      have h2 := corner_in h
      rw [sized_of, swapL_length _ _ _ _ (by omega) (by omega), hsl]
    · rfl

/-- The strips i to j - 1 turned over at A. -/
def partL (x : UInt8) (A : Int) (l : List ByteArray) (i j : Nat) : List ByteArray := l.mapIdx fun k s => if i ≤ k ∧ k < j then chS x s A else s
theorem partL_length (x : UInt8) (A : Int) (l : List ByteArray) (i j : Nat) : (partL x A l i j).length = l.length := by unfold partL; simp
theorem partL_get (x : UInt8) (A : Int) (l : List ByteArray) (i j k : Nat) (h : k < l.length) : (partL x A l i j)[k]'(by rw [partL_length]; exact h) = if i ≤ k ∧ k < j then chS x l[k] A else l[k] := by
  unfold partL; simp
theorem partL_none (x : UInt8) (A : Int) (l : List ByteArray) (i j : Nat) (h : j ≤ i) : partL x A l i j = l := by
  refine List.ext_getElem (partL_length _ _ _ _ _) fun k h1 h2 => ?_
  rw [partL_get _ _ _ _ _ _ h2, if_neg (by omega)]
theorem partL_set (x : UInt8) (A : Int) (l : List ByteArray) (i k : Nat) (h : k < l.length) (hi : i ≤ k) : (partL x A l i k).set k (chS x l[k] A) = partL x A l i (k + 1) := by
  refine List.ext_getElem (by rw [List.length_set, partL_length, partL_length]) fun m h1 h2 => ?_
  rw [List.length_set, partL_length] at h1
  rw [List.getElem_set, partL_get _ _ _ _ _ _ h1, partL_get _ _ _ _ _ _ h1]
  by_cases e : k = m
  · subst e; rw [if_pos rfl, if_pos (by omega)]
  · rw [if_neg e]
    by_cases e2 : i ≤ m ∧ m < k
    · rw [if_pos e2, if_pos (by omega)]
    · rw [if_neg e2, if_neg (by omega)]
theorem partL_sizes (x : UInt8) (A : Int) (l : List ByteArray) (i j : Nat) (M : Nat) (h : ∀ s ∈ l, s.size ≤ M) : ∀ s ∈ partL x A l i j, s.size ≤ M := by
  intro s hs
  obtain ⟨k, hk, rfl⟩ := List.mem_iff_getElem.1 hs
  rw [partL_length] at hk
  rw [partL_get _ _ _ _ _ _ hk]
  have := h l[k] (List.getElem_mem hk)
  split
  · rw [chS_size]; exact this
  · exact this

/-- Are First and Last strips of the card? -/
def rangeB (d f : Int) (l : List ByteArray) (F L : Int) : Bool := cardB d f l && decide (0 ≤ F ∧ F ≤ L ∧ L < (l.length : Int))
/-- Can all of them be turned over at A? -/
def boxB (x : UInt8) (d f : Int) (l : List ByteArray) (F L A : Int) : Bool := rangeB d f l F L && ((l.take (L.toNat + 1)).drop F.toNat).all fun s => cornerB x s.data.toList A
def boxL (x : UInt8) (d f : Int) (l : List ByteArray) (F L A : Int) : List ByteArray := if boxB x d f l F L A = true then partL x A l F.toNat (L.toNat + 1) else l
theorem boxL_length (x : UInt8) (d f : Int) (l : List ByteArray) (F L A : Int) : (boxL x d f l F L A).length = l.length := by
  unfold boxL; split
  · exact partL_length ..
  · rfl
theorem boxL_sizes (x : UInt8) (d f : Int) (l : List ByteArray) (F L A : Int) (M : Nat) (h : ∀ s ∈ l, s.size ≤ M) : ∀ s ∈ boxL x d f l F L A, s.size ≤ M := by
  unfold boxL; split
  · exact partL_sizes _ _ _ _ _ _ h
  · exact h
theorem rangeB_iff {d f : Int} {l : List ByteArray} {F L : Int} : rangeB d f l F L = true ↔ cardB d f l = true ∧ 0 ≤ F ∧ F ≤ L ∧ L < (l.length : Int) := by
  unfold rangeB; rw [Bool.and_eq_true, decide_eq_true_eq]
theorem all_in {p : ByteArray → Bool} {l : List ByteArray} {i j : Nat} : ((l.take j).drop i).all p = true ↔ ∀ k (h : k < l.length), i ≤ k → k < j → p l[k] = true := by
  rw [List.all_eq_true]
  constructor
  · intro h k hk h1 h2
    refine h _ (List.mem_iff_getElem.2 ⟨k - i, by rw [List.length_drop, List.length_take]; omega, ?_⟩)
    simp only [List.getElem_drop, List.getElem_take]
    congr 1; omega
  · intro h s hs
    obtain ⟨k, hk, rfl⟩ := List.mem_iff_getElem.1 hs
    rw [List.length_drop, List.length_take] at hk
    simp only [List.getElem_drop, List.getElem_take]
    exact h _ (by omega) (by omega) (by omega)
theorem boxB_iff {x : UInt8} {d f : Int} {l : List ByteArray} {F L A : Int} : boxB x d f l F L A = true ↔ rangeB d f l F L = true ∧ ∀ k (h : k < l.length), F.toNat ≤ k → k < L.toNat + 1 → cornerB x l[k].data.toList A = true := by
  unfold boxB
  rw [Bool.and_eq_true, all_in]
theorem box_out {x : UInt8} {d f : Int} {l : List ByteArray} {F L A : Int} (h : rangeB d f l F L = false) : boxB x d f l F L A = false ∧ boxL x d f l F L A = l := by
  have e : boxB x d f l F L A = false := by unfold boxB; rw [h]; rfl
  exact ⟨e, by unfold boxL; rw [if_neg (by rw [e]; simp)]⟩
theorem box_bad {x : UInt8} {d f : Int} {l : List ByteArray} {i j : Nat} {A : Int} (k : Nat) (hk : k < l.length) (h1 : i ≤ k) (h2 : k < j + 1) (h : cornerB x l[k].data.toList A = false) : boxB x d f l (i : Int) (j : Int) A = false ∧ boxL x d f l (i : Int) (j : Int) A = l := by
  have e : boxB x d f l (i : Int) (j : Int) A = false := by
    cases hb : boxB x d f l (i : Int) (j : Int) A with
    | false => rfl
    | true =>
      have := (boxB_iff.1 hb).2 k hk (by rw [Int.toNat_natCast]; exact h1) (by rw [Int.toNat_natCast]; exact h2)
      rw [h] at this; cases this
  exact ⟨e, by unfold boxL; rw [if_neg (by rw [e]; simp)]⟩
theorem box_good {x : UInt8} {d f : Int} {l : List ByteArray} {i j : Nat} {A : Int} (hr : rangeB d f l (i : Int) (j : Int) = true) (h : ∀ k (hk : k < l.length), i ≤ k → k < j + 1 → cornerB x l[k].data.toList A = true) : boxB x d f l (i : Int) (j : Int) A = true ∧ boxL x d f l (i : Int) (j : Int) A = partL x A l i (j + 1) := by
  have e : boxB x d f l (i : Int) (j : Int) A = true := boxB_iff.2 ⟨hr, fun k hk h1 h2 => h k hk (by rw [Int.toNat_natCast] at h1; exact h1) (by rw [Int.toNat_natCast] at h2; exact h2)⟩
  refine ⟨e, ?_⟩
  unfold boxL
  rw [if_pos e, Int.toNat_natCast, Int.toNat_natCast]
/-- In the range the two numbers are natural ones. -/
theorem range_nats {d f : Int} {l : List ByteArray} {F L : Int} (h : rangeB d f l F L = true) : ∃ i j : Nat, F = (i : Int) ∧ L = (j : Int) ∧ i ≤ j ∧ j < l.length ∧ cardB d f l = true := by
  obtain ⟨hc, h0, h1, h2⟩ := rangeB_iff.1 h
  exact ⟨F.toNat, L.toNat, by omega, by omega, by omega, by omega, hc⟩
end Go.Proofs.Ytekmladindlmoaa.Box
