/- Chapter 19: blanks and fits of a card, what the functions return. -/
import Derived.Test.YtfhpbgmnekhfeaaSheetMath
import Derived.Test.YtfhpbgmnekhfeaaCardOk
import Derived.Test.YtfhpbgmnekhfeaaCardImpl2
namespace Go.Proofs.Ytfhpbgmnekhfeaa.Sheet
open Go.ChangeShapes Go.WideShapes Go.ChangeAt Go.RowKit
open Go.Proofs.Ytfhpbgmnekhfeaa.Strip Go.Proofs.Ytfhpbgmnekhfeaa.Strs Go.Proofs.Ytfhpbgmnekhfeaa.Card
set_option linter.unusedVariables false

theorem ret_i {a b : Int} (h : a = b) : Ending.returned (.int .i64 a) = .returned (.int .i64 b) := by rw [h]

def blankC (d f : Int) (l : List ByteArray) : Int := if cardB d f l = true then (l.length : Int) else 0
def blankR (d f : Int) (l : List ByteArray) : Int := if cardB d f l = true then d + f else 0
def fitV (d f : Int) (l : List ByteArray) (W H : Int) : Int := if cardB d f l = true ∧ (1 ≤ W ∧ W ≤ 200) ∧ (1 ≤ H ∧ H ≤ 200) then W / (l.length : Int) * (H / (d + f)) else 0
def bestV (d f : Int) (l : List ByteArray) (W H : Int) : Int := max (fitV d f l W H) (fitV d f l H W)
def sheetsV (d f : Int) (l : List ByteArray) (W H C : Int) : Int := if bestV d f l W H ≠ 0 ∧ 0 ≤ C ∧ C ≤ 100000 then (C + bestV d f l W H - 1) / bestV d f l W H else -1
theorem card_nums {d f : Int} {l : List ByteArray} (h : cardB d f l = true) : 1 ≤ (l.length : Int) ∧ (l.length : Int) ≤ 10 ∧ 2 ≤ d + f ∧ d + f ≤ 16 ∧ 1 ≤ d ∧ d ≤ 8 ∧ 1 ≤ f ∧ f ≤ 8 := by
  obtain ⟨h1, h2, h3, _⟩ := cardB_iff.1 h
  obtain ⟨a, b, c, e⟩ : 1 ≤ d ∧ d ≤ 8 ∧ 1 ≤ f ∧ f ≤ 8 := by unfold frameB at h1; simpa using h1
  omega
theorem fit_bound (d f : Int) (l : List ByteArray) (W H : Int) : 0 ≤ fitV d f l W H ∧ fitV d f l W H ≤ 40000 := by
  unfold fitV
  split
  · rename_i h
    obtain ⟨hc, hw, hh⟩ := h
    have hn := card_nums hc
    have a := quot_in (show 0 ≤ W by omega) hw.2 hn.1
    have b := quot_in (show 0 ≤ H by omega) hh.2 (show 1 ≤ d + f by omega)
    exact quots_in a.1 a.2 b.1 b.2
  · omega
theorem best_bound (d f : Int) (l : List ByteArray) (W H : Int) : 0 ≤ bestV d f l W H ∧ bestV d f l W H ≤ 40000 := by
  have a := fit_bound d f l W H
  have b := fit_bound d f l H W
  unfold bestV
  omega
theorem best_turn (d f : Int) (l : List ByteArray) (W H : Int) : bestV d f l W H = bestV d f l H W := by unfold bestV; rw [Int.max_comm]
end Go.Proofs.Ytfhpbgmnekhfeaa.Sheet
