/- The rows of the model's RoomTable. -/
import Derived.Test.YtbdeppbbgokfhaaAreaUpSpec
import Derived.Test.YtbdeppbbgokfhaaIntRows
namespace Go.Proofs.Ytbdeppbbgokfhaa.Area
open Go.ChangeShapes Go.WideShapes Go.ChangeAt Go.RowKit
open Go.Proofs.Ytbdeppbbgokfhaa.Strip Go.Proofs.Ytbdeppbbgokfhaa.Ints Go.Proofs.Ytbdeppbbgokfhaa.Corner Go.Proofs.Ytbdeppbbgokfhaa.Order
set_option linter.unusedVariables false

theorem info_row : (Try.prog.info? 30).map (fun i => (i.zero, i.size, i.bytes)) = some (some (.slice none 0 0), 1, 24) := by kernel_rfl

/-- The table's row for height u behind f steps forward, M numbers long. -/
def rowS (M f u : Nat) : List Int := (List.range M).map fun r => (rt u f r : Int)
def rowsS (M f n : Nat) : List (List Int) := (List.range n).map fun u => rowS M f u
/-- A row that is being made: its first q numbers are done. -/
def rowQ (M f u q : Nat) : List Int := (List.range M).map fun r => if r < q then (rt u f r : Int) else 0
/-- .. and the number at q has its first part. -/
def rowH (M f u q : Nat) (x : Int) : List Int := (List.range M).map fun r => if r < q then (rt u f r : Int) else if r = q then x else 0
theorem rowS_length (M f u : Nat) : (rowS M f u).length = M := by unfold rowS; simp
theorem rowQ_length (M f u q : Nat) : (rowQ M f u q).length = M := by unfold rowQ; simp
theorem rowH_length (M f u q : Nat) (x : Int) : (rowH M f u q x).length = M := by unfold rowH; simp
theorem rowsS_length (M f n : Nat) : (rowsS M f n).length = n := by unfold rowsS; simp
theorem rowS_at {M r : Nat} (f u : Nat) (h : r < M) : (rowS M f u)[r]? = some (rt u f r : Int) := by unfold rowS; simp [h]
theorem rowQ_at {M r : Nat} (f u q : Nat) (h : r < M) : (rowQ M f u q)[r]? = some (if r < q then (rt u f r : Int) else 0) := by unfold rowQ; simp [h]
theorem rowH_at {M r : Nat} (f u q : Nat) (x : Int) (h : r < M) : (rowH M f u q x)[r]? = some (if r < q then (rt u f r : Int) else if r = q then x else 0) := by unfold rowH; simp [h]
theorem rowsS_at {n u : Nat} (M f : Nat) (h : u < n) : (rowsS M f n)[u]? = some (rowS M f u) := by unfold rowsS; simp [h]
theorem rowsS_next (M f n : Nat) : rowsS M f (n + 1) = rowsS M f n ++ [rowS M f n] := by unfold rowsS; rw [List.range_succ, List.map_append]; rfl
theorem out_of {l : List Int} {M r : Nat} (hl : l.length = M) (h : ¬ r < M) : l[r]? = none := List.getElem?_eq_none (by omega)
theorem rowS_zero {M : Nat} (u : Nat) (hM : 0 < M) : (List.replicate M (0 : Int)).set 0 1 = rowS M 0 u := by
  refine List.ext_getElem? fun r => ?_
  by_cases h : r < M
  · rw [rowS_at 0 u h, List.getElem?_set, rt_f0]
    cases r with
    | zero => rw [if_pos rfl, if_pos (by simpa using hM)]; rfl
    | succ r => rw [if_neg (by omega), List.getElem?_replicate, if_pos h, if_neg (by omega)]; rfl
  · rw [out_of (by simp) h, out_of (rowS_length _ _ _) h]
theorem rowQ_zero (M f u : Nat) : rowQ M f u 0 = List.replicate M 0 := by
  refine List.ext_getElem? fun r => ?_
  by_cases h : r < M
  · rw [rowQ_at f u 0 h, if_neg (by omega), List.getElem?_replicate, if_pos h]
  · rw [out_of (rowQ_length _ _ _ _) h, out_of (by simp) h]
theorem rowQ_all (M f u : Nat) : rowQ M f u M = rowS M f u := by
  refine List.ext_getElem? fun r => ?_
  by_cases h : r < M
  · rw [rowQ_at f u M h, if_pos h, rowS_at f u h]
  · rw [out_of (rowQ_length _ _ _ _) h, out_of (rowS_length _ _ _) h]
theorem rowH_none (M f u q : Nat) : rowQ M f u q = rowH M f u q 0 := by
  refine List.ext_getElem? fun r => ?_
  by_cases h : r < M
  · rw [rowQ_at f u q h, rowH_at f u q 0 h]
    split
    · rfl
    · split <;> rfl
  · rw [out_of (rowQ_length _ _ _ _) h, out_of (rowH_length _ _ _ _ _) h]
theorem rowH_put {M f u q : Nat} (x y : Int) (hq : q < M) : (rowH M f u q x).set q y = rowH M f u q y := by
  refine List.ext_getElem? fun r => ?_
  by_cases h : r < M
  · rw [rowH_at f u q y h, List.getElem?_set]
    by_cases e : q = r
    · subst e; rw [if_pos rfl, if_pos (by rw [rowH_length]; exact h), if_neg (by omega), if_pos rfl]
    · rw [if_neg e, rowH_at f u q x h, if_neg (c := r = q) (by omega), if_neg (c := r = q) (by omega)]
  · rw [out_of (by rw [List.length_set, rowH_length]) h, out_of (rowH_length _ _ _ _ _) h]
theorem rowH_done {M f u q : Nat} {x : Int} (e : (rt u f q : Int) = x) : rowH M f u q x = rowQ M f u (q + 1) := by
  refine List.ext_getElem? fun r => ?_
  by_cases h : r < M
  · rw [rowH_at f u q x h, rowQ_at f u _ h]
    by_cases e2 : r < q
    · rw [if_pos e2, if_pos (by omega)]
    · by_cases e3 : r = q
      · subst e3; rw [if_neg (by omega), if_pos rfl, if_pos (by omega), e]
      · rw [if_neg e2, if_neg e3, if_neg (by omega)]
  · rw [out_of (rowH_length _ _ _ _ _) h, out_of (rowQ_length _ _ _ _) h]
theorem rowH_here {M q : Nat} (f u : Nat) (x : Int) (hq : q < M) : (rowH M f u q x)[q]? = some x := by rw [rowH_at f u q x hq, if_neg (by omega), if_pos rfl]
theorem own_of_arr {w : World} {base g : Nat} {l : List Int} (hb : base ≤ g) (hm : l.length ≤ maxLen) (h : ArrT w g 3 l) : Own w base (.slice (some ⟨g, 0, none⟩) l.length l.length) l :=
  ⟨by simp [icells], .inr ⟨g, l.length, _, rfl, hb, h, Nat.le_refl _, hm, by simp [icells], by rw [List.take_of_length_le (by simp [icells])]⟩⟩
theorem row2_of {w : World} {base n c : Nat} {a : Option Addr} {vs : List Value} {ls : List (List Int)} (h : Own2 w base (.slice a n c) vs ls) : Row2 w a ls := by
  obtain ⟨a', c', e, hr, _⟩ := h.row
  cases e
  exact hr
theorem row2_len {w : World} {base n c : Nat} {a : Option Addr} {vs : List Value} {ls : List (List Int)} (h : Own2 w base (.slice a n c) vs ls) : ls.length = n := by
  obtain ⟨a', c', e, hr, _⟩ := h.row
  cases e
  rfl
/-- The cells that are read of a row of rows: the row's value, and one of its numbers. -/
theorem row2_cells {w : World} {a : Option Addr} {ls : List (List Int)} (h : Row2 w a ls) {j r : Nat} {l : List Int} {x : Int} (hj : ls[j]? = some l) (hr : l[r]? = some x) :
    ∃ g g' c, a = some ⟨g, 0, none⟩ ∧ w.cell? ⟨g, j, none⟩ = some (.slice (some ⟨g', 0, none⟩) l.length c) ∧ w.cell? ⟨g', r, none⟩ = some (.int .i64 x) := by
  obtain ⟨g, aj, cj, e, hc, hi, _⟩ := h j l hj
  have hrl := (List.getElem?_eq_some_iff.1 hr).1
  obtain ⟨g', rfl, _, hc'⟩ := hi r hrl
  rw [List.getElem?_eq_getElem hrl] at hr
  rw [Option.some.inj hr] at hc'
  exact ⟨g, g', cj, e, hc, hc'⟩
end Go.Proofs.Ytbdeppbbgokfhaa.Area
