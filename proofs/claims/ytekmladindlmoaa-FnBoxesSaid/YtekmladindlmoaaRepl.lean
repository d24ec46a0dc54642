/- Rows of strings in which several cells are written at once. -/
import Derived.Test.YtekmladindlmoaaSRow
import Derived.Laws.IdiomCopy
import Derived.Laws.CopyOwn
import Derived.Lib.SliceRun
import Derived.Lib.JoinLaws
import Derived.Shelf.Spec.SlicesInsertGrow
namespace Go.Proofs.Ytekmladindlmoaa.Strs
open Go.ChangeShapes Go.WideShapes Go.ChangeAt Go.RowKit
set_option linter.unusedVariables false

theorem heap_setCells (b : Nat) : ∀ (vs : List Value) (o : Nat) (w : World) (cs : Array Value) (T : TypeId) (m : Nat × Nat), w.heap[b]? = some (.cells cs T m) → o + vs.length ≤ cs.size →
    ∃ cs' : Array Value, (w.setCells b o vs).heap[b]? = some (.cells cs' T m) ∧ cs'.size = cs.size ∧ ∀ j, cs'[j]? = if o ≤ j ∧ j < o + vs.length then vs[j - o]? else cs[j]?
  | [], o, w, cs, T, m, h, _ => ⟨cs, h, rfl, fun j => by rw [if_neg (by simp)]⟩
  | v :: r, o, w, cs, T, m, h, hl => by
    simp only [List.length_cons] at hl
    have h1 := heap_set_at w b o cs T m v h
    obtain ⟨cs', hh, hs, hc⟩ := heap_setCells b r (o + 1) _ _ T m h1 (by simp; omega)
    refine ⟨cs', hh, by rw [hs]; simp, fun j => ?_⟩
    rw [hc j]
    simp only [List.length_cons]
    by_cases e : j = o
    · subst e
      rw [if_neg (by omega), if_pos (by omega)]
      have hj : j < cs.size := by omega
      simp [hj]
    · by_cases e2 : o + 1 ≤ j ∧ j < o + 1 + r.length
      · rw [if_pos e2, if_pos (by omega), show j - o = (j - (o + 1)) + 1 from by omega, List.getElem?_cons_succ]
      · rw [if_neg e2, if_neg (by omega), Array.getElem?_setIfInBounds_ne (by omega)]

theorem grown_setCells (b : Nat) : ∀ (vs : List Value) (o : Nat) (w : World), w.grownBy (w.setCells b o vs) (some b)
  | [], o, w => World.grownBy.refl _ _
  | v :: r, o, w => grown_trans (grown_set w b o v) (grown_setCells b r (o + 1) _)

theorem Own.of_block {w : World} {base g cap n : Nat} {cs : Array Value} {l : List ByteArray} (h : w.heap[g]? = some (.cells cs 9 (0, 0))) (hg : base ≤ g) (hs : cs.size = cap) (hl : l.length = n) (hn : n ≤ cap) (hm : cap ≤ maxLen)
    (ht : ∀ j (hj : j < l.length), cs[j]? = some (.string l[j])) : Own w base (.slice (some ⟨g, 0, none⟩) n cap) l := by
  subst hl
  refine ⟨by simp [scells], .inr ⟨g, cap, cs, rfl, hg, h, hn, hm, by omega, ?_⟩⟩
  rw [Nat.mul_one]
  apply List.ext_getElem?
  intro j
  by_cases hj : j < l.length
  · rw [List.getElem?_take_of_lt hj, scells_get l j hj, Array.getElem?_toList, ht j hj]
  · rw [List.getElem?_eq_none (by simp; omega), List.getElem?_eq_none (by simp [scells]; omega)]

theorem Own.block {w : World} {base g n cap : Nat} {l : List ByteArray} (h : Own w base (.slice (some ⟨g, 0, none⟩) n cap) l) :
    ∃ cs : Array Value, w.heap[g]? = some (.cells cs 9 (0, 0)) ∧ base ≤ g ∧ n ≤ cap ∧ cap ≤ maxLen ∧ cs.size = cap ∧ l.length = n ∧ ∀ j (hj : j < l.length), cs[j]? = some (.string l[j]) := by
  have hn := h.row2.1
  obtain ⟨hl, h1 | ⟨g', cap', cur, e, hg, hh, hnc, hcm, hcs, ht⟩⟩ := h
  · cases h1.1
  · cases e
    refine ⟨cur, hh, hg, hnc, hcm, by omega, hn.symm, fun j hj => ?_⟩
    have h2 : (cur.toList.take l.length)[j]? = (scells l)[j]? := by rw [show l.length = l.length * 1 from (Nat.mul_one _).symm, ht]
    rw [List.getElem?_take_of_lt hj, scells_get l j hj, Array.getElem?_toList] at h2
    exact h2

theorem block_cell {w : World} {g j : Nat} {cs : Array Value} {T : TypeId} {m : Nat × Nat} (h : w.heap[g]? = some (.cells cs T m)) : w.cell? ⟨g, j, none⟩ = cs[j]? := by simp [World.cell?, h]
theorem block_free {w : World} {g j : Nat} {cs : Array Value} {T : TypeId} (h : w.heap[g]? = some (.cells cs T (0, 0))) : w.frozen? ⟨g, j, none⟩ = false := by simp [World.frozen?, h]
theorem block_some {w : World} {g j : Nat} {cs : Array Value} {T : TypeId} {m : Nat × Nat} (h : w.heap[g]? = some (.cells cs T m)) (hj : j < cs.size) : (w.cell? ⟨g, j, none⟩).isSome = true := by rw [block_cell h, Array.getElem?_eq_getElem hj]; rfl
end Go.Proofs.Ytekmladindlmoaa.Strs
