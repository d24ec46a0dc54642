/- Arrays of ints in a block of their own; the rows of CountAbove. -/
import Derived.Test.YthigiemgdejdhaaAreaMath
import Derived.Test.YthigiemgdejdhaaKerfImpl
namespace Go.Proofs.Ythigiemgdejdhaa.Area
open Go.ChangeShapes Go.WideShapes Go.ChangeAt Go.RowKit
open Go.Proofs.Ythigiemgdejdhaa.Strip Go.Proofs.Ythigiemgdejdhaa.Ints Go.Proofs.Ythigiemgdejdhaa.Corner Go.Proofs.Ythigiemgdejdhaa.Kerf Go.Proofs.Ythigiemgdejdhaa.Order
set_option linter.unusedVariables false

/-- An array of ints in a block. -/
def ArrT (w : World) (b : Nat) (T : TypeId) (l : List Int) : Prop := w.heap[b]? = some (.cells (icells l).toArray T (0, 0))
section
variable {w w' : World} {b j : Nat} {T : TypeId} {l : List Int}
theorem ArrT.lt (h : ArrT w b T l) : b < w.heap.size := (Array.getElem?_eq_some_iff.1 h).1
theorem ArrT.below (h : ArrT w b T l) (hb : Below w.heap.size w w') : ArrT w' b T l := (hb.block b h.lt).trans h
theorem ArrT.cell (h : ArrT w b T l) {x : Int} (hj : l[j]? = some x) : w.cell? ⟨b, j, none⟩ = some (.int .i64 x) := by
  unfold ArrT at h
  simp [World.cell?, h, icells, hj]
theorem ArrT.free (h : ArrT w b T l) (j : Nat) : w.frozen? ⟨b, j, none⟩ = false := by
  unfold ArrT at h
  simp [World.frozen?, h]
theorem ArrT.set (h : ArrT w b T l) (j : Nat) (x : Int) : ArrT (w.setCell ⟨b, j, none⟩ (.int .i64 x)) b T (l.set j x) := by
  unfold ArrT at *
  rw [Ints.heap_set_at _ _ _ _ _ _ _ h]
  simp [icells, List.map_set]
theorem ArrT.drew (h : ArrT w b T l) : ArrT w.drew b T l := h
theorem ArrT.irow (h : ArrT w b T l) : IRow w (some ⟨b, 0, none⟩) l := by
  refine IRow.of_block h ?_
  rw [List.take_of_length_le (by simp [icells])]
end

theorem ArrT.other {w : World} {b c j : Nat} {T : TypeId} {l : List Int} {x : Value} (h : ArrT w b T l) (hne : b ≠ c) : ArrT (w.setCell ⟨c, j, none⟩ x) b T l := by
  unfold ArrT at *
  rw [Below.heap_setCell _ _ _ _ (fun e => hne (by first | exact e | exact e.symm))]
  exact h

/-! ### the rows of heights -/
def hrow (l : List UInt8) (k : Nat) : List Int := (List.range 9).map fun h => (wy l k h : Int)
def mixR (l : List UInt8) (k q : Nat) : List Int := (List.range 9).map fun h => if q ≤ h then (wy l (k + 1) h : Int) else (wy l k h : Int)
theorem hrow_length (l : List UInt8) (k : Nat) : (hrow l k).length = 9 := by unfold hrow; simp
theorem mixR_length (l : List UInt8) (k q : Nat) : (mixR l k q).length = 9 := by unfold mixR; simp
theorem hrow_at (l : List UInt8) (k h : Nat) (hh : h < 9) : (hrow l k)[h]? = some (wy l k h : Int) := by unfold hrow; simp [hh]
theorem mixR_at (l : List UInt8) (k q h : Nat) (hh : h < 9) : (mixR l k q)[h]? = some (if q ≤ h then (wy l (k + 1) h : Int) else (wy l k h : Int)) := by unfold mixR; simp [hh]
theorem hrow_zero (l : List UInt8) : (List.replicate 9 (0 : Int)).set (cnt 100 l) 1 = hrow l 0 := by
  refine List.ext_getElem? fun h => ?_
  by_cases hh : h < 9
  · rw [hrow_at l 0 h hh, List.getElem?_set]
    by_cases e : cnt 100 l = h
    · subst e
      rw [if_pos rfl, if_pos (by simpa using hh), wy_top]
      rfl
    · rw [if_neg e, List.getElem?_replicate, if_pos hh]
      by_cases e2 : h ≤ cnt 100 l
      · rw [wy_first e2, if_neg (fun x => e x.symm)]; rfl
      · rw [wy_far (by omega)]; rfl
  · rw [List.getElem?_eq_none (by simp; omega), List.getElem?_eq_none (by rw [hrow_length]; omega)]
theorem mix_top (l : List UInt8) (k : Nat) : mixR l k (cnt 100 l) = hrow l k := by
  refine List.ext_getElem? fun h => ?_
  by_cases hh : h < 9
  · rw [hrow_at l k h hh, mixR_at l k _ h hh]
    by_cases e : cnt 100 l = h
    · subst e
      rw [if_pos (Nat.le_refl _), wy_top, wy_top]
    · split
      · rw [wy_far (by omega), wy_far (by omega)]
      · rfl
  · rw [List.getElem?_eq_none (by rw [mixR_length]; omega), List.getElem?_eq_none (by rw [hrow_length]; omega)]
theorem mix_low {l : List UInt8} {k q : Nat} (hq : ∀ h, h < q → wy l (k + 1) h = wy l k h) : mixR l k q = hrow l (k + 1) := by
  refine List.ext_getElem? fun h => ?_
  by_cases hh : h < 9
  · rw [hrow_at l _ h hh, mixR_at l k _ h hh]
    split
    · rfl
    · rw [hq h (by omega)]
  · rw [List.getElem?_eq_none (by rw [mixR_length]; omega), List.getElem?_eq_none (by rw [hrow_length]; omega)]
theorem mix_next {l : List UInt8} {k q : Nat} (hs : wy l (k + 1) q = wy l k q + wy l (k + 1) (q + 1)) : (mixR l k (q + 1)).set q ((wy l k q : Int) + (wy l (k + 1) (q + 1) : Int)) = mixR l k q := by
  refine List.ext_getElem? fun h => ?_
  by_cases hh : h < 9
  · rw [mixR_at l k _ h hh, List.getElem?_set]
    by_cases e : q = h
    · subst e
      rw [if_pos rfl, if_pos (by rw [mixR_length]; exact hh), if_pos (Nat.le_refl _), hs]
      rfl
    · rw [if_neg e, mixR_at l k _ h hh]
      by_cases e2 : q ≤ h
      · rw [if_pos (by omega), if_pos e2]
      · rw [if_neg (by omega), if_neg e2]
  · rw [List.getElem?_eq_none (by simp [mixR_length]; omega), List.getElem?_eq_none (by rw [mixR_length]; omega)]
theorem sumL_map (f : Nat → Nat) : ∀ n, sumL ((List.range n).map fun h => (f h : Int)) = (((List.range n).map f).sum : Nat)
  | 0 => rfl
  | n + 1 => by
    rw [List.range_succ, List.map_append, List.map_append, sumL_append, sumL_map f n, List.sum_append]
    simp [sumL]
theorem sum_far (l : List UInt8) (k : Nat) : ∀ n, ((List.range (cnt 100 l + 1 + n)).map fun h => wy l k h).sum = ((List.range (cnt 100 l + 1)).map fun h => wy l k h).sum
  | 0 => rfl
  | n + 1 => by
    rw [← Nat.add_assoc, List.range_succ, List.map_append, List.sum_append, sum_far l k n]
    simp only [List.map_cons, List.map_nil, List.sum_cons, List.sum_nil]
    rw [wy_far (by omega)]
    rfl
theorem hrow_sum {l : List UInt8} (h : stripB l = true) : sumL (hrow l (cnt 102 l)) = (aboveN l : Int) := by
  have hf := stripB_frame h
  unfold frameB at hf
  simp only [decide_eq_true_eq] at hf
  unfold hrow
  rw [sumL_map (wy l (cnt 102 l)) 9, ← wy_sum (stripB_ok h) (by omega), ← sum_far l (cnt 102 l) (8 - cnt 100 l), show cnt 100 l + 1 + (8 - cnt 100 l) = 9 from by omega]
theorem hrow_in {l : List UInt8} (hd : cnt 100 l ≤ 8) {k : Nat} (hk : k ≤ 8) : ∀ x ∈ hrow l k, -65536 ≤ x ∧ x ≤ 65536 := by
  intro x hx
  unfold hrow at hx
  obtain ⟨h, _, rfl⟩ := List.mem_map.1 hx
  have := wy_bound l k h (by omega) hd
  omega
end Go.Proofs.Ythigiemgdejdhaa.Area
