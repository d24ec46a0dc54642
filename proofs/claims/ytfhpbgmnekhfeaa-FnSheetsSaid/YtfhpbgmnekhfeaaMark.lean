/- What laws.markText, markStringS and heldStringS return and leave alone. -/
import Derived.Test.YtfhpbgmnekhfeaaStrRow
namespace Go.Proofs.Ytfhpbgmnekhfeaa.Strs
open Go.ChangeShapes Go.WideShapes Go.ChangeAt Go.RowKit Go.Proofs.Ytfhpbgmnekhfeaa.Bytes
set_option linter.unusedVariables false

theorem ret_int {k : IntKind} {a b : Int} (h : a = b) : Ending.returned (.int k a) = .returned (.int k b) := by rw [h]

/-- The text of mark k. -/
def mk (k : Nat) : ByteArray := ⟨(109 :: Lib.decDigits k).toArray⟩

theorem dig_cell (u : Nat) : (48 : Int) + (u : Int) % 10 = ((digU (u % 10)).toNat : Int) := by
  unfold digU
  rw [if_pos (by omega)]
  simp; omega

/-- The marks from k on, n of them. -/
def marks (k n : Nat) : List ByteArray := (List.range n).map fun i => mk (k + i)

theorem marks_length (k n : Nat) : (marks k n).length = n := by simp [marks]
theorem marks_get (k n j : Nat) (h : j < (marks k n).length) : (marks k n)[j] = mk (k + j) := by simp [marks]

theorem heap_set_at (w : World) (k j : Nat) (cs : Array Value) (T : TypeId) (m : Nat × Nat) (v : Value) (h : w.heap[k]? = some (.cells cs T m)) :
    (w.setCell ⟨k, j, none⟩ v).heap[k]? = some (.cells (cs.setIfInBounds j v) T m) := by
  simp [World.setCell, Array.getElem?_modify, h]

/-- Block g holds n marked strings first, and then what it held. -/
def Marked (w : World) (g cap n k : Nat) (cur : Array Value) : Prop :=
  ∃ cur', w.heap[g]? = some (.cells cur' 9 (0, 0)) ∧ cur'.size = cap ∧ cur'.toList.take n = scells (marks k n)

theorem Marked.step {w : World} {g cap n k : Nat} {cur : Array Value} (h : Marked w g cap n k cur) (hn : n < cap) : Marked (w.setCell ⟨g, n, none⟩ (.string (mk (k + n)))) g cap (n + 1) k cur := by
  obtain ⟨c, hc, hs, ht⟩ := h
  refine ⟨c.setIfInBounds n (.string (mk (k + n))), heap_set_at _ _ _ _ _ _ _ hc, by simp [hs], ?_⟩
  have e : scells (marks k (n + 1)) = scells (marks k n) ++ [.string (mk (k + n))] := by
    unfold scells marks
    rw [List.range_succ]; simp
  rw [e, ← ht, Array.toList_setIfInBounds]
  apply List.ext_getElem?
  intro i
  by_cases h1 : i < n
  · rw [List.getElem?_append_left (by simp; omega), List.getElem?_take_of_lt (by omega), List.getElem?_take_of_lt h1, List.getElem?_set_ne (by omega)]
  · by_cases h2 : i = n
    · subst h2
      rw [List.getElem?_take_of_lt (by omega), List.getElem?_append_right (by simp; omega)]
      have hl : (c.toList.take i).length = i := by simp; omega
      rw [hl, List.getElem?_set_self (by simp; omega)]
      simp
    · rw [List.getElem?_eq_none (by simp; omega), List.getElem?_eq_none (by simp; omega)]

theorem Marked.cell {w : World} {g cap n k j : Nat} {cur : Array Value} (h : Marked w g cap n k cur) (hj : j < cap) : ∃ v, w.cell? ⟨g, j, none⟩ = some v := by
  obtain ⟨c, hc, hs, _⟩ := h
  exact ⟨c[j]'(by omega), by simp [World.cell?, hc, show j < c.size by omega]⟩
theorem Marked.free {w : World} {g cap n k j : Nat} {cur : Array Value} (h : Marked w g cap n k cur) : w.frozen? ⟨g, j, none⟩ = false := by
  obtain ⟨c, hc, hs, _⟩ := h
  simp [World.frozen?, hc]
theorem Marked.below {w w' : World} {g cap n k : Nat} {cur : Array Value} (h : Marked w g cap n k cur) (hb : Below w.heap.size w w') : Marked w' g cap n k cur := by
  obtain ⟨c, hc, hs, ht⟩ := h
  exact ⟨c, by rw [hb.block g (Array.getElem?_eq_some_iff.1 hc).1]; exact hc, hs, ht⟩

theorem grown_below {w w' : World} (h : Below w.heap.size w w') (row : Option Nat) : w.grownBy w' row := ⟨h.os, h.tape, h.output, h.size, fun k hk _ => h.block k hk⟩
theorem grown_set (w : World) (k j : Nat) (v : Value) : w.grownBy (w.setCell ⟨k, j, none⟩ v) (some k) :=
  ⟨rfl, rfl, rfl, by simp [World.setCell], fun b hb hne => Below.heap_setCell _ _ _ _ (fun e => hne (by rw [e]))⟩
theorem grown_trans {a b c : World} {row : Option Nat} (h : a.grownBy b row) (g : b.grownBy c row) : a.grownBy c row :=
  ⟨g.os.trans h.os, g.tape.trans h.tape, g.output.trans h.output, Nat.le_trans h.size g.size,
    fun k hk hne => (g.block k (Nat.lt_of_lt_of_le hk h.size) hne).trans (h.block k hk hne)⟩

end Go.Proofs.Ytfhpbgmnekhfeaa.Strs
