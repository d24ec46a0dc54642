/- Arrays of eight ints (how far each slider moved in a round) in memory. -/
import Derived.Test.YtmjknjgfcngacaaSlideMove
namespace Go.Proofs.Ytmjknjgfcngacaa.Slide
open Go.ChangeShapes Go.WideShapes Go.ChangeAt Go.RowKit Go.Sort
open Go.Proofs.Ytmjknjgfcngacaa.Tri
open Go.Proofs.Ytmjknjgfcngacaa.Ints (grown_below grown_set grown_trans heap_set_at drewN_below)
set_option linter.unusedVariables false

def a8 (mv : Moves) : Array Value := #[.int .i64 (mv 0), .int .i64 (mv 1), .int .i64 (mv 2), .int .i64 (mv 3), .int .i64 (mv 4), .int .i64 (mv 5), .int .i64 (mv 6), .int .i64 (mv 7)]
/-- Block b holds how far each slider moved. -/
def Arr8 (w : World) (b : Nat) (mv : Moves) : Prop := w.heap[b]? = some (.cells (a8 mv) 69 (0, 0))
theorem a8_at (mv : Moves) {j : Nat} (hj : j < 8) : (a8 mv)[j]? = some (.int .i64 (mv j)) := by
  have h : j = 0 ∨ j = 1 ∨ j = 2 ∨ j = 3 ∨ j = 4 ∨ j = 5 ∨ j = 6 ∨ j = 7 := by omega
  rcases h with rfl | rfl | rfl | rfl | rfl | rfl | rfl | rfl <;> rfl
theorem a8_set (mv : Moves) {j : Nat} (hj : j < 8) (x : Int) : (a8 mv).setIfInBounds j (.int .i64 x) = a8 (fun i => if i = j then x else mv i) := by
  have h : j = 0 ∨ j = 1 ∨ j = 2 ∨ j = 3 ∨ j = 4 ∨ j = 5 ∨ j = 6 ∨ j = 7 := by omega
  rcases h with rfl | rfl | rfl | rfl | rfl | rfl | rfl | rfl <;> rfl
theorem a8_congr {mv mv2 : Moves} (h : ∀ i, i < 8 → mv i = mv2 i) : a8 mv = a8 mv2 := by
  unfold a8
  rw [h 0 (by omega), h 1 (by omega), h 2 (by omega), h 3 (by omega), h 4 (by omega), h 5 (by omega), h 6 (by omega), h 7 (by omega)]
section
variable {w w' : World} {b c j : Nat} {mv : Moves}
theorem Arr8.lt (h : Arr8 w b mv) : b < w.heap.size := (Array.getElem?_eq_some_iff.1 h).1
theorem Arr8.below (h : Arr8 w b mv) (hb : Below w.heap.size w w') : Arr8 w' b mv := (hb.block b h.lt).trans h
theorem Arr8.grown {row : Option Nat} (h : Arr8 w b mv) (hg : w.grownBy w' row) (hne : some b ≠ row) : Arr8 w' b mv := (hg.block b h.lt hne).trans h
theorem Arr8.cell (h : Arr8 w b mv) (hj : j < 8) : w.cell? ⟨b, j, none⟩ = some (.int .i64 (mv j)) := by
  unfold Arr8 at h
  simp [World.cell?, h, a8_at mv hj]
theorem Arr8.cells (h : Arr8 w b mv) : w.cell? ⟨b, 0, none⟩ = some (.int .i64 (mv 0)) ∧ w.cell? ⟨b, 1, none⟩ = some (.int .i64 (mv 1)) ∧ w.cell? ⟨b, 2, none⟩ = some (.int .i64 (mv 2)) ∧ w.cell? ⟨b, 3, none⟩ = some (.int .i64 (mv 3)) ∧ w.cell? ⟨b, 4, none⟩ = some (.int .i64 (mv 4)) ∧ w.cell? ⟨b, 5, none⟩ = some (.int .i64 (mv 5)) ∧ w.cell? ⟨b, 6, none⟩ = some (.int .i64 (mv 6)) ∧ w.cell? ⟨b, 7, none⟩ = some (.int .i64 (mv 7)) :=
  ⟨h.cell (by omega), h.cell (by omega), h.cell (by omega), h.cell (by omega), h.cell (by omega), h.cell (by omega), h.cell (by omega), h.cell (by omega)⟩
theorem Arr8.free (h : Arr8 w b mv) (j : Nat) : w.frozen? ⟨b, j, none⟩ = false := by
  unfold Arr8 at h
  simp [World.frozen?, h]
theorem Arr8.set (h : Arr8 w b mv) (hj : j < 8) (x : Int) : Arr8 (w.setCell ⟨b, j, none⟩ (.int .i64 x)) b (fun i => if i = j then x else mv i) := by
  unfold Arr8 at *
  rw [heap_set_at _ _ _ _ _ _ _ h, a8_set mv hj x]
theorem Arr8.congr {mv2 : Moves} (h : Arr8 w b mv) (hm : ∀ i, i < 8 → mv i = mv2 i) : Arr8 w b mv2 := by
  unfold Arr8 at *
  rw [h, a8_congr hm]
theorem Arr8.drew (h : Arr8 w b mv) : Arr8 w.drew b mv := h
theorem Arr8.new (w : World) (mv : Moves) : Arr8 (w.alloc (.cells (a8 mv) 69)) w.heap.size mv := heap_alloc_new w _
/-- All eight cells are written, one behind the other. -/
def set8 (w : World) (b : Nat) (mv : Moves) : World := (((((((w.setCell ⟨b, 0, none⟩ (.int .i64 (mv 0))).setCell ⟨b, 1, none⟩ (.int .i64 (mv 1))).setCell ⟨b, 2, none⟩ (.int .i64 (mv 2))).setCell ⟨b, 3, none⟩ (.int .i64 (mv 3))).setCell ⟨b, 4, none⟩ (.int .i64 (mv 4))).setCell ⟨b, 5, none⟩ (.int .i64 (mv 5))).setCell ⟨b, 6, none⟩ (.int .i64 (mv 6))).setCell ⟨b, 7, none⟩ (.int .i64 (mv 7))
theorem grown_set8 (w : World) (b : Nat) (mv : Moves) : w.grownBy (set8 w b mv) (some b) := by
  unfold set8
  exact grown_trans (grown_trans (grown_trans (grown_trans (grown_trans (grown_trans (grown_trans (grown_set _ _ _ _) (grown_set _ _ _ _)) (grown_set _ _ _ _)) (grown_set _ _ _ _)) (grown_set _ _ _ _)) (grown_set _ _ _ _)) (grown_set _ _ _ _)) (grown_set _ _ _ _)
theorem Arr8.set8 {m0 : Moves} (h : Arr8 w b m0) (mv : Moves) : Arr8 (set8 w b mv) b mv := by
  have h1 := (((((((h.set (j := 0) (by omega) (mv 0)).set (j := 1) (by omega) (mv 1)).set (j := 2) (by omega) (mv 2)).set (j := 3) (by omega) (mv 3)).set (j := 4) (by omega) (mv 4)).set (j := 5) (by omega) (mv 5)).set (j := 6) (by omega) (mv 6)).set (j := 7) (by omega) (mv 7)
  refine h1.congr fun i hi => ?_
  have h : i = 0 ∨ i = 1 ∨ i = 2 ∨ i = 3 ∨ i = 4 ∨ i = 5 ∨ i = 6 ∨ i = 7 := by omega
  rcases h with rfl | rfl | rfl | rfl | rfl | rfl | rfl | rfl <;> rfl
end
/-- A row is kept by what writes into another block. -/
theorem row_mark {w w' : World} {a : Option Addr} {l : List T3} {g : Nat} (h : Row3 w a l) (hg : w.grownBy w' (some g)) (hne : ∀ x, a = some x → x.block ≠ g) : Row3 w' a l := by
  intro j hj
  obtain ⟨b, e, hb, c0, c1, c2⟩ := h j hj
  have hn := hne _ e
  simp only at hn
  have k : ∀ p : Addr, p.block = b → ∀ u, w.cell? p = some u → w'.cell? p = some u := fun p hp u hc => hg.cell hc (by simp only [hp, ne_eq, Option.some.injEq]; omega)
  exact ⟨b, e, Nat.lt_of_lt_of_le hb hg.size, k ⟨b, j * 3, none⟩ rfl _ c0, k ⟨b, j * 3 + 1, none⟩ rfl _ c1, k ⟨b, j * 3 + 2, none⟩ rfl _ c2⟩
end Go.Proofs.Ytmjknjgfcngacaa.Slide
