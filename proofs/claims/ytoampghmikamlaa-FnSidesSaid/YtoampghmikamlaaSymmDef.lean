/- What the upper card of a card and the mirrored one is (printed by wip/gen_symm.py). -/
import Derived.Test.YtoampghmikamlaaSymDef
namespace Go.Proofs.Ytoampghmikamlaa.Turn
open Go.ChangeShapes Go.WideShapes Go.ChangeAt Go.RowKit Go.Sort
open Go.Proofs.Ytoampghmikamlaa.Strip Go.Proofs.Ytoampghmikamlaa.Strs Go.Proofs.Ytoampghmikamlaa.Card Go.Proofs.Ytoampghmikamlaa.Order
set_option linter.unusedVariables false

/-- What SymmetrizeCard returns of the strips. -/
def symL (l : List ByteArray) : List ByteArray := mixM true l l.reverse
theorem symL_length (l : List ByteArray) : (symL l).length = l.length := mixM_length true (by rw [List.length_reverse])
def SymmPost (w : World) (d f : Int) (l : List ByteArray) : Ending → World → Prop := GaveIf (cardB d f l) w d f (symL l)
theorem card_reverse {d f : Int} {l : List ByteArray} (h : cardB d f l = true) : cardB d f l.reverse = true := by
  obtain ⟨h1, h2, h3, h4⟩ := cardB_iff.1 h
  exact cardB_iff.2 ⟨h1, by simpa using h2, by simpa using h3, fun s hs => h4 s (List.mem_reverse.1 hs)⟩
theorem both_mirror (d f : Int) (l : List ByteArray) : bothB d f l (whenI (cardB d f l) d) (whenI (cardB d f l) f) (whenL (cardB d f l) l.reverse) = cardB d f l := by
  cases hc : cardB d f l with
  | false => unfold bothB; rw [hc]; rfl
  | true => exact both_iff.2 ⟨hc, card_reverse hc, rfl, rfl, (List.length_reverse ..).symm⟩
theorem both_gave {w w' : World} {d f : Int} {l : List ByteArray} {e : Ending} (h : BothPost true w d f l (whenI (cardB d f l) d) (whenI (cardB d f l) f) (whenL (cardB d f l) l.reverse) e w') :
    Gave2 w (whenI (cardB d f l) d) (whenI (cardB d f l) f) (whenL (cardB d f l) (symL l)) (cardB d f l) e w' := by
  unfold BothPost bothD bothF bothL at h
  rw [both_mirror] at h
  cases hc : cardB d f l with
  | false => rw [hc] at h; exact h
  | true => rw [hc] at h; exact h
theorem whenL_mem {b : Bool} {l : List ByteArray} {s : ByteArray} (h : s ∈ whenL b l.reverse) : s ∈ l := by
  unfold whenL at h
  split at h
  · exact List.mem_reverse.1 h
  · simp at h
end Go.Proofs.Ytoampghmikamlaa.Turn
