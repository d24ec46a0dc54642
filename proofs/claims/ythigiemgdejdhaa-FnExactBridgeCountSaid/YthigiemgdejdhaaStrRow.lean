/- Rows of strings in memory; what laws.eqStringS, markText, markStringS and heldStringS return and leave alone. -/
import Derived.Test.YthigiemgdejdhaaFmtSpec
import Derived.Deep.RegionHeld3
import Derived.BigQuiet
import Derived.Deep.QuietTactic
import Derived.OwnWalk
namespace Go.Proofs.Ythigiemgdejdhaa.Strs
open Go.ChangeShapes Go.WideShapes Go.ChangeAt Go.RowKit Go.Proofs.Ythigiemgdejdhaa.Bytes
set_option linter.unusedVariables false

/-- The first cells behind a are the strings l. -/
def Row (w : World) (a : Option Addr) (l : List ByteArray) : Prop :=
  ∀ j (h : j < l.length), ∃ g, a = some ⟨g, 0, none⟩ ∧ g < w.heap.size ∧ w.cell? ⟨g, j, none⟩ = some (.string l[j])

def scells (l : List ByteArray) : List Value := l.map Value.string

theorem Row.of_block {w : World} {g : Nat} {cur : Array Value} {T : TypeId} {m : Nat × Nat} {l : List ByteArray} (h : w.heap[g]? = some (.cells cur T m)) (ht : cur.toList.take l.length = scells l) : Row w (some ⟨g, 0, none⟩) l := by
  intro j hj
  refine ⟨g, rfl, (Array.getElem?_eq_some_iff.1 h).1, ?_⟩
  have h2 : (cur.toList.take l.length)[j]? = (scells l)[j]? := by rw [ht]
  rw [List.getElem?_take_of_lt hj] at h2
  simp [scells, hj] at h2
  simp [World.cell?, h, h2]

theorem Row.of_owns {w : World} {base n : Nat} {v : Value} {l : List ByteArray} (h : w.ownsRow base 9 1 v n (scells l)) : ∃ a cap, v = .slice a l.length cap ∧ Row w a l := by
  obtain ⟨hl, h1 | ⟨g, cap, cur, rfl, hg, hh, hnc, hcm, hcs, ht⟩⟩ := h
  · obtain ⟨rfl, rfl⟩ := h1
    have hl0 : l = [] := by simpa [scells] using hl
    subst hl0
    exact ⟨none, 0, rfl, fun j hj => by simp at hj⟩
  · have hn : l.length = n := by simpa [scells] using hl
    subst hn
    exact ⟨_, cap, rfl, Row.of_block hh (by simpa using ht)⟩

theorem Row.kept {w w' : World} {a : Option Addr} {l : List ByteArray} (h : Row w a l) (hb : w.grownBy w' none) : Row w' a l := by
  intro j hj
  obtain ⟨g, e, hg, hc⟩ := h j hj
  exact ⟨g, e, Nat.lt_of_lt_of_le hg hb.size, hb.cell hc (by simp)⟩

theorem Row.below {w w' : World} {a : Option Addr} {l : List ByteArray} (h : Row w a l) (hb : Below w.heap.size w w') : Row w' a l := by
  intro j hj
  obtain ⟨g, e, hg, hc⟩ := h j hj
  refine ⟨g, e, Nat.lt_of_lt_of_le hg hb.size, ?_⟩
  rw [hb.cell (p := ⟨g, j, none⟩) hg]; exact hc

end Go.Proofs.Ythigiemgdejdhaa.Strs
