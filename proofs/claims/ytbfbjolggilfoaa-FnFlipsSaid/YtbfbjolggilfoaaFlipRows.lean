/- Rows of strings and rows of ints side by side: what is written into one of them leaves the other alone. -/
import Derived.Test.YtbfbjolggilfoaaSRow
import Derived.Test.YtbfbjolggilfoaaCornerSpec
namespace Go.Proofs.Ytbfbjolggilfoaa.Flip
open Go.ChangeShapes Go.WideShapes Go.ChangeAt Go.RowKit
open Go.Proofs.Ytbfbjolggilfoaa.Ints Go.Proofs.Ytbfbjolggilfoaa.Corner
set_option linter.unusedVariables false

theorem str_int : (9 : TypeId) ≠ 3 := by decide
theorem strs_type {w : World} {B g : Nat} {v : Value} {l : List ByteArray} (h : Strs.Own w B v l) (hg : v.ownBlock = some g) : ∃ cur, w.heap[g]? = some (.cells cur 9 (0, 0)) := by
  rcases h.2 with ⟨rfl, _⟩ | ⟨g', cap, cur, rfl, hb, hgb, _⟩
  · simp [Value.ownBlock] at hg
  · have : g' = g := by simpa [Value.ownBlock] using hg
    subst this; exact ⟨cur, hgb⟩
theorem ints_type {w : World} {B g : Nat} {v : Value} {l : List Int} (h : Ints.Own w B v l) (hg : v.ownBlock = some g) : ∃ cur, w.heap[g]? = some (.cells cur 3 (0, 0)) := by
  rcases h.2 with ⟨rfl, _⟩ | ⟨g', cap, cur, rfl, hb, hgb, _⟩
  · simp [Value.ownBlock] at hg
  · have : g' = g := by simpa [Value.ownBlock] using hg
    subst this; exact ⟨cur, hgb⟩
theorem apart_types {w : World} {B B' g : Nat} {v v' : Value} {l : List ByteArray} {l' : List Int} (h : Strs.Own w B v l) (h' : Ints.Own w B' v' l') (e : v.ownBlock = some g) (e' : v'.ownBlock = some g) : False := by
  obtain ⟨c, hc⟩ := strs_type h e
  obtain ⟨c', hc'⟩ := ints_type h' e'
  rw [hc] at hc'
  exact str_int (Obj.cells.inj (Option.some.inj hc')).2.1
theorem strs_kept {w w' : World} {B B' : Nat} {v v' : Value} {l : List ByteArray} {l' : List Int} (h : Strs.Own w B v l) (h' : Ints.Own w B' v' l') (hg : w.grownBy w' v'.ownBlock) : Strs.Own w' B v l :=
  World.ownsRow.kept h hg (by
    cases hb : v.ownBlock with
    | none => exact .inl rfl
    | some b => right; exact fun e => apart_types h h' hb e.symm)
theorem ints_kept {w w' : World} {B B' : Nat} {v v' : Value} {l : List ByteArray} {l' : List Int} (h : Strs.Own w B v l) (h' : Ints.Own w B' v' l') (hg : w.grownBy w' v.ownBlock) : Ints.Own w' B' v' l' :=
  World.ownsRow.kept h' hg (by
    cases hb : v'.ownBlock with
    | none => exact .inl rfl
    | some b => right; exact fun e => apart_types h h' e.symm hb)
theorem strs_one (w : World) (x : ByteArray) : Strs.Own (w.alloc (.cells #[.string x] 9)) w.heap.size (.slice (some ⟨w.heap.size, 0, none⟩) 1 1) [x] :=
  ⟨by simp [Strs.scells], .inr ⟨w.heap.size, 1, #[.string x], rfl, Nat.le_refl _, heap_alloc_new w _, Nat.le_refl _, by unfold maxLen; omega, rfl, rfl⟩⟩
theorem ints_one (w : World) (x : Int) : Ints.Own (w.alloc (.cells #[.int .i64 x] 3)) w.heap.size (.slice (some ⟨w.heap.size, 0, none⟩) 1 1) [x] :=
  ⟨by simp [Ints.icells], .inr ⟨w.heap.size, 1, #[.int .i64 x], rfl, Nat.le_refl _, heap_alloc_new w _, Nat.le_refl _, by unfold maxLen; omega, rfl, rfl⟩⟩
theorem strs_none (w : World) (B : Nat) (h : B ≤ w.heap.size) : Strs.Own (w.alloc (.cells #[] 9)) B (.slice (some ⟨w.heap.size, 0, none⟩) 0 0) [] := World.ownsRow_made w #[] 0 h (by unfold maxLen; omega) rfl
theorem ints_none (w : World) (B : Nat) (h : B ≤ w.heap.size) : Ints.Own (w.alloc (.cells #[] 3)) B (.slice (some ⟨w.heap.size, 0, none⟩) 0 0) [] := World.ownsRow_made w #[] 0 h (by unfold maxLen; omega) rfl
/-- A row that is not empty lies somewhere. -/
theorem strs_some {w : World} {B n c : Nat} {a : Option Addr} {l : List ByteArray} (h : Strs.Own w B (.slice a n c) l) (hl : 0 < l.length) : ∃ g, a = some ⟨g, 0, none⟩ := by
  obtain ⟨e, hr⟩ := h.row2
  obtain ⟨g, e, _⟩ := hr 0 hl
  exact ⟨g, e⟩
theorem ints_some {w : World} {B n c : Nat} {a : Option Addr} {l : List Int} (h : Ints.Own w B (.slice a n c) l) (hl : 0 < l.length) : ∃ g, a = some ⟨g, 0, none⟩ := by
  obtain ⟨a', c', e, hr, _⟩ := h.row
  cases e
  obtain ⟨g, e, _⟩ := hr 0 hl
  exact ⟨g, e⟩
end Go.Proofs.Ytbfbjolggilfoaa.Flip
