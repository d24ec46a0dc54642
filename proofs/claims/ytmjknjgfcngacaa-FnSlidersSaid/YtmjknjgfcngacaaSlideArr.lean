/- Arrays of ints in a block of their own, and 'make([]int, n)'. -/
import Derived.Test.YtmjknjgfcngacaaTri
namespace Go.Proofs.Ytmjknjgfcngacaa.Arr
open Go.ChangeShapes Go.WideShapes Go.ChangeAt Go.RowKit Go.Sort
open Go.Proofs.Ytmjknjgfcngacaa.Ints
set_option linter.unusedVariables false

theorem info_int : (Try.prog.info? 3).map (fun i => (i.zero, i.size, i.bytes)) = some (some (.int .i64 0), 1, 8) := by kernel_rfl
/-- An array of ints in a block. -/
def ArrT (w : World) (b : Nat) (T : TypeId) (l : List Int) : Prop := w.heap[b]? = some (.cells (icells l).toArray T (0, 0))
section
variable {w w' : World} {b j : Nat} {T : TypeId} {l : List Int}
theorem ArrT.lt (h : ArrT w b T l) : b < w.heap.size := (Array.getElem?_eq_some_iff.1 h).1
theorem ArrT.below (h : ArrT w b T l) (hb : Below w.heap.size w w') : ArrT w' b T l := (hb.block b h.lt).trans h
theorem ArrT.cell (h : ArrT w b T l) {x : Int} (hj : l[j]? = some x) : w.cell? ⟨b, j, none⟩ = some (.int .i64 x) := by
  unfold ArrT at h
  simp [World.cell?, h, icells, hj]
theorem ArrT.free (h : ArrT w b T l) (j : Nat) : w.frozen? ⟨b, j, none⟩ = false := by
  unfold ArrT at h
  simp [World.frozen?, h]
theorem ArrT.set (h : ArrT w b T l) (j : Nat) (x : Int) : ArrT (w.setCell ⟨b, j, none⟩ (.int .i64 x)) b T (l.set j x) := by
  unfold ArrT at *
  rw [Ints.heap_set_at _ _ _ _ _ _ _ h]
  simp [icells, List.map_set]
theorem ArrT.drew (h : ArrT w b T l) : ArrT w.drew b T l := h
theorem ArrT.irow (h : ArrT w b T l) : IRow w (some ⟨b, 0, none⟩) l := by
  refine IRow.of_block h ?_
  rw [List.take_of_length_le (by simp [icells])]
end

theorem ArrT.other {w : World} {b c j : Nat} {T : TypeId} {l : List Int} {x : Value} (h : ArrT w b T l) (hne : b ≠ c) : ArrT (w.setCell ⟨c, j, none⟩ x) b T l := by
  unfold ArrT at *
  rw [Below.heap_setCell _ _ _ _ (fun e => hne (by first | exact e | exact e.symm))]
  exact h

theorem made_ints (n : Nat) : (madeCells (Value.cells (.int .i64 0)) (n * 1)).toList = icells (List.replicate n 0) := by
  rw [Nat.mul_one]
  have h := toList_madeCells_one (.int .i64 0) n
  unfold icells
  rw [List.map_replicate]
  exact h
/-- A row whose room is used up is a block known whole. -/
theorem own_arr {w : World} {base g n : Nat} {l : List Int} (h : w.ownsRow base 3 1 (.slice (some ⟨g, 0, none⟩) n n) n (icells l)) : ArrT w g 3 l := by
  obtain ⟨hl, h1 | ⟨g', cap, cur, e, hg, hh, hnc, hcm, hcs, ht⟩⟩ := h
  · cases h1.1
  · cases e
    have : cur.toList = icells l := by
      rw [← ht, List.take_of_length_le]
      rw [Array.length_toList, hcs]; exact Nat.le_refl _
    unfold ArrT
    rw [hh, ← this]
/-- 'make([]int, n)': the new block. -/
theorem make_ints (w : World) (n : Nat) (hn : n ≤ 1000) :
    ∃ w' : World, (∀ k : Int, k = (n : Int) → (Instr.makeSlice 66 (.int .i64 k) (.int .i64 k)).run Try.prog w = .ok (.slice (some ⟨w.heap.size, 0, none⟩) n n) w') ∧ ArrT w' w.heap.size 3 (List.replicate n 0) ∧ Below w.heap.size w w' := by
  obtain ⟨i0, hi, hz0, hz1, hz2⟩ := info_parts info_int
  obtain ⟨w5, hmk, hown5, hg5⟩ := run_make_full (P := Try.prog) w w.heap.size 66 3 i0 _ 1 Try.underlying66 hi hz0 hz1 .i64 .i64 n (by rw [hz2]; omega) (by unfold maxLen; omega) (Nat.le_refl _)
  rw [made_ints] at hown5
  refine ⟨w5, ?_, own_arr hown5, (Below.refl w.heap.size w).grown hg5 (Nat.le_refl _) (fun t e => by cases e)⟩
  rintro k rfl
  exact hmk

end Go.Proofs.Ytmjknjgfcngacaa.Arr
