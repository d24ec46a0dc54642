/- What TopView and FrontView return: rows of rows of ints. -/
import Derived.Test.YtbdeppbbgokfhaaViewMath
import Derived.Test.YtbdeppbbgokfhaaIntRows
import Derived.Test.YtbdeppbbgokfhaaCornerSpec
import Derived.Test.YtbdeppbbgokfhaaRoom
namespace Go.Proofs.Ytbdeppbbgokfhaa.View
open Go.ChangeShapes Go.WideShapes Go.ChangeAt Go.RowKit
open Go.Proofs.Ytbdeppbbgokfhaa.Strip Go.Proofs.Ytbdeppbbgokfhaa.Ints Go.Proofs.Ytbdeppbbgokfhaa.Corner Go.Proofs.Ytbdeppbbgokfhaa.Strs Go.Proofs.Ytbdeppbbgokfhaa.Card Go.Proofs.Ytbdeppbbgokfhaa.Kerf Go.Proofs.Ytbdeppbbgokfhaa.Order
set_option linter.unusedVariables false

/-- The rows of a card's strips. -/
def rowsV (g : List UInt8 → List Int) (l : List ByteArray) : List (List Int) := l.map fun s => g s.data.toList
def topV (d f : Int) (l : List ByteArray) : List (List Int) := if cardB d f l = true then rowsV htsL l else []
def frontV (d f : Int) (l : List ByteArray) : List (List Int) := if cardB d f l = true then rowsV dpsL l else []
theorem rowsV_length (g : List UInt8 → List Int) (l : List ByteArray) : (rowsV g l).length = l.length := by unfold rowsV; rw [List.length_map]
theorem rowsV_at (g : List UInt8 → List Int) (l : List ByteArray) (k : Nat) (h : k < l.length) : (rowsV g l)[k]? = some (g l[k].data.toList) := by unfold rowsV; simp [h]
theorem rowsV_next (g : List UInt8 → List Int) (l : List ByteArray) (k : Nat) (h : k < l.length) : (rowsV g l).take (k + 1) = (rowsV g l).take k ++ [g l[k].data.toList] := by
  rw [List.take_succ_eq_append_getElem (by rw [rowsV_length]; exact h)]
  simp [rowsV]
theorem rowsV_take (g : List UInt8 → List Int) (l : List ByteArray) (k : Nat) (h : k ≤ l.length) : ((rowsV g l).take k).length = k := by rw [List.length_take, rowsV_length]; omega
theorem tot_rowsV (g : List UInt8 → List Int) (hg : ∀ x, (g x).length ≤ 8) (l : List ByteArray) : tot (rowsV g l) ≤ 8 * l.length := by
  induction l with
  | nil => exact Nat.le_refl _
  | cons s l ih =>
    have h1 := hg s.data.toList
    have h2 : tot (rowsV g (s :: l)) = (g s.data.toList).length + tot (rowsV g l) := by simp [tot, rowsV]
    rw [h2, List.length_cons]
    omega
theorem tops_tot (d f : Int) (l : List ByteArray) : 1 + tot (topV d f l) ≤ 1000000 := by
  unfold topV
  split
  · have h1 := tot_rowsV htsL htsL_le l
    have h2 := (cardB_iff.1 ‹_›).2.2.1
    omega
  · decide
theorem tops_short (d f : Int) (l : List ByteArray) : (topV d f l).length ≤ 1000000 := by
  unfold topV
  split
  · have h2 := (cardB_iff.1 ‹_›).2.2.1
    rw [rowsV_length]
    omega
  · decide
theorem fronts_tot (d f : Int) (l : List ByteArray) : 1 + tot (frontV d f l) ≤ 1000000 := by
  unfold frontV
  split
  · have h1 := tot_rowsV dpsL dpsL_le l
    have h2 := (cardB_iff.1 ‹_›).2.2.1
    omega
  · decide
theorem fronts_short (d f : Int) (l : List ByteArray) : (frontV d f l).length ≤ 1000000 := by
  unfold frontV
  split
  · have h2 := (cardB_iff.1 ‹_›).2.2.1
    rw [rowsV_length]
    omega
  · decide
theorem info_rows : (Try.prog.info? 30).map (fun i => (i.zero, i.size, i.bytes)) = some (some (.slice none 0 0), 1, 24) := by kernel_rfl
/-- It returns the rows ls in memory of its own and leaves all that stood before alone. -/
theorem htsL_pos {l : List UInt8} (h : stripB l = true) : 1 ≤ (htsL l).length := by
  rw [htsL_length h]
  have h3 := stripB_frame h
  unfold frameB at h3
  rw [decide_eq_true_eq] at h3
  omega
theorem dpsL_pos {l : List UInt8} (h : stripB l = true) : 1 ≤ (dpsL l).length := by
  rw [dpsL_length h]
  have h3 := stripB_frame h
  unfold frameB at h3
  rw [decide_eq_true_eq] at h3
  omega
theorem card_strip {d f : Int} {l : List ByteArray} (h : cardB d f l = true) (s : ByteArray) (hs : s ∈ l) : stripB s.data.toList = true := by
  exact good_strip (cardB_iff.1 h).1 ((cardB_iff.1 h).2.2.2 s hs)
def PostRows (w : World) (ls : List (List Int)) (e : Ending) (w' : World) : Prop := ∃ v vs, e = .returned v ∧ Below w.heap.size w w' ∧ Own2 w' w.heap.size v vs ls
theorem own_some {w : World} {base : Nat} {v : Value} {l : List Int} (h : Own w base v l) (hl : 1 ≤ l.length) : ∃ g c, v = .slice (some ⟨g, 0, none⟩) l.length c := by
  obtain ⟨_, ⟨e, h0⟩ | ⟨g, c, cur, e, _⟩⟩ := h
  · omega
  · exact ⟨g, c, e⟩
end Go.Proofs.Ytbdeppbbgokfhaa.View
