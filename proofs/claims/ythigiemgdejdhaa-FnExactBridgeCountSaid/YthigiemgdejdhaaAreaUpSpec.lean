/- What the model of chapter 9 returns: CountAbove. -/
import Derived.Test.YthigiemgdejdhaaAreaArr
import Derived.Test.YthigiemgdejdhaaStripSpec2
import Derived.Laws.MakeOwn
import Derived.Laws.OwnMore
import Derived.Lib.AppendZeros
namespace Go.Proofs.Ythigiemgdejdhaa.Area
open Go.ChangeShapes Go.WideShapes Go.ChangeAt Go.RowKit
open Go.Proofs.Ythigiemgdejdhaa.Strip Go.Proofs.Ythigiemgdejdhaa.Ints Go.Proofs.Ythigiemgdejdhaa.Corner Go.Proofs.Ythigiemgdejdhaa.Kerf Go.Proofs.Ythigiemgdejdhaa.Order
set_option linter.unusedVariables false

/-! ### the rows of beginnings -/
def drow (l : List UInt8) (k F : Nat) : List Int := (List.range (F + 1)).map fun x => (dg (okA l) k x : Int)
def nrow (l : List UInt8) (k F q : Nat) : List Int := (List.range (F + 1)).map fun x => if x < q then (dg (okA l) (k + 1) x : Int) else 0
theorem drow_length (l : List UInt8) (k F : Nat) : (drow l k F).length = F + 1 := by unfold drow; simp
theorem nrow_length (l : List UInt8) (k F q : Nat) : (nrow l k F q).length = F + 1 := by unfold nrow; simp
theorem drow_at (l : List UInt8) (k F x : Nat) (hx : x ≤ F) : (drow l k F)[x]? = some (dg (okA l) k x : Int) := by unfold drow; simp [Nat.lt_succ_of_le hx]
theorem nrow_at (l : List UInt8) (k F q x : Nat) (hx : x ≤ F) : (nrow l k F q)[x]? = some (if x < q then (dg (okA l) (k + 1) x : Int) else 0) := by unfold nrow; simp [Nat.lt_succ_of_le hx]
theorem drow_zero (l : List UInt8) (F : Nat) : (List.replicate (F + 1) (0 : Int)).set 0 1 = drow l 0 F := by
  refine List.ext_getElem? fun x => ?_
  by_cases hx : x ≤ F
  · rw [drow_at l 0 F x hx, List.getElem?_set]
    cases x with
    | zero => rw [if_pos rfl, if_pos (by simp)]; rfl
    | succ x => rw [if_neg (by omega), List.getElem?_replicate, if_pos (by omega)]; rfl
  · rw [List.getElem?_eq_none (by simp; omega), List.getElem?_eq_none (by rw [drow_length]; omega)]
theorem nrow_zero (l : List UInt8) (k F : Nat) : nrow l k F 0 = List.replicate (F + 1) 0 := by
  refine List.ext_getElem? fun x => ?_
  by_cases hx : x ≤ F
  · rw [nrow_at l k F 0 x hx, if_neg (by omega), List.getElem?_replicate, if_pos (by omega)]
  · rw [List.getElem?_eq_none (by rw [nrow_length]; omega), List.getElem?_eq_none (by simp; omega)]
theorem nrow_all (l : List UInt8) (k F : Nat) : nrow l k F (F + 1) = drow l (k + 1) F := by
  refine List.ext_getElem? fun x => ?_
  by_cases hx : x ≤ F
  · rw [nrow_at l k F _ x hx, if_pos (by omega), drow_at l _ F x hx]
  · rw [List.getElem?_eq_none (by rw [nrow_length]; omega), List.getElem?_eq_none (by rw [drow_length]; omega)]
theorem nrow_skip {l : List UInt8} {k F q : Nat} (h : okA l (k + 1) q = false) : nrow l k F q = nrow l k F (q + 1) := by
  refine List.ext_getElem? fun x => ?_
  by_cases hx : x ≤ F
  · rw [nrow_at l k F _ x hx, nrow_at l k F _ x hx]
    by_cases e : x = q
    · subst e; rw [if_neg (by omega), if_pos (by omega), dg_not h]; rfl
    · by_cases e2 : x < q
      · rw [if_pos e2, if_pos (by omega)]
      · rw [if_neg e2, if_neg (by omega)]
  · rw [List.getElem?_eq_none (by rw [nrow_length]; omega), List.getElem?_eq_none (by rw [nrow_length]; omega)]
theorem nrow_put {l : List UInt8} {k F q n : Nat} (hq : q ≤ F) (h : dg (okA l) (k + 1) q = n) : (nrow l k F q).set q (n : Int) = nrow l k F (q + 1) := by
  refine List.ext_getElem? fun x => ?_
  by_cases hx : x ≤ F
  · rw [nrow_at l k F _ x hx, List.getElem?_set]
    by_cases e : q = x
    · subst e; rw [if_pos rfl, if_pos (by rw [nrow_length]; omega), if_pos (by omega), h]
    · rw [if_neg e, nrow_at l k F _ x hx]
      by_cases e2 : x < q
      · rw [if_pos e2, if_pos (by omega)]
      · rw [if_neg e2, if_neg (by omega)]
  · rw [List.getElem?_eq_none (by simp [nrow_length]; omega), List.getElem?_eq_none (by rw [nrow_length]; omega)]
theorem dg_small (l : List UInt8) (k x : Nat) (hk : k ≤ 16) : dg (okA l) k x ≤ 65536 :=
  Nat.le_trans (dg_bound _ _ _) (Nat.le_trans (Nat.pow_le_pow_right (by omega) hk) (by decide))

theorem made_ints (n : Nat) : (madeCells (Value.cells (.int .i64 0)) (n * 1)).toList = icells (List.replicate n 0) := by
  rw [Nat.mul_one]
  have h := toList_madeCells_one (.int .i64 0) n
  unfold icells
  rw [List.map_replicate]
  exact h
/-- A row whose room is used up is a block known whole. -/
theorem own_arr {w : World} {base g n : Nat} {l : List Int} (h : w.ownsRow base 3 1 (.slice (some ⟨g, 0, none⟩) n n) n (icells l)) : ArrT w g 3 l := by
  obtain ⟨hl, h1 | ⟨g', cap, cur, e, hg, hh, hnc, hcm, hcs, ht⟩⟩ := h
  · cases h1.1
  · cases e
    have : cur.toList = icells l := by
      rw [← ht, List.take_of_length_le]
      rw [Array.length_toList, hcs]; exact Nat.le_refl _
    unfold ArrT
    rw [hh, ← this]
/-- 'make([]int, n)': the new block. -/
theorem make_ints (w : World) (n : Nat) (hn : n ≤ 1000) :
    ∃ w' : World, (∀ k : Int, k = (n : Int) → (Instr.makeSlice 27 (.int .i64 k) (.int .i64 k)).run Try.prog w = .ok (.slice (some ⟨w.heap.size, 0, none⟩) n n) w') ∧ ArrT w' w.heap.size 3 (List.replicate n 0) ∧ Below w.heap.size w w' := by
  obtain ⟨i0, hi, hz0, hz1, hz2⟩ := info_parts info_int
  obtain ⟨w5, hmk, hown5, hg5⟩ := run_make_full (P := Try.prog) w w.heap.size 27 3 i0 _ 1 Try.underlying27 hi hz0 hz1 .i64 .i64 n (by rw [hz2]; omega) (by unfold maxLen; omega) (Nat.le_refl _)
  rw [made_ints] at hown5
  refine ⟨w5, ?_, own_arr hown5, (Below.refl w.heap.size w).grown hg5 (Nat.le_refl _) (fun t e => by cases e)⟩
  rintro k rfl
  exact hmk

end Go.Proofs.Ythigiemgdejdhaa.Area
