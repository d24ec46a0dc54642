/- Cards: what is said of a card's strips; what SampleCard returns, of the model and of the program. -/
import Derived.Test.YtfhpbgmnekhfeaaSRow
import Derived.Test.YtfhpbgmnekhfeaaStripSpec2
import Derived.Laws.ResultCell
namespace Go.Proofs.Ytfhpbgmnekhfeaa.Card
open Go.ChangeShapes Go.WideShapes Go.ChangeAt Go.RowKit
open Go.Proofs.Ytfhpbgmnekhfeaa.Strip Go.Proofs.Ytfhpbgmnekhfeaa.Strs
set_option linter.unusedVariables false

/-- A strip of the frame. -/
def goodB (d f : Int) (s : ByteArray) : Bool := decide (numV 100 s.data.toList = d ∧ numV 102 s.data.toList = f)
def cardB (d f : Int) (l : List ByteArray) : Bool := frameB d f && decide (1 ≤ l.length ∧ l.length ≤ 10) && l.all (goodB d f)

theorem cardB_iff {d f : Int} {l : List ByteArray} : cardB d f l = true ↔ (frameB d f = true ∧ 1 ≤ l.length ∧ l.length ≤ 10 ∧ ∀ s ∈ l, goodB d f s = true) := by
  unfold cardB
  simp only [Bool.and_eq_true, decide_eq_true_eq, List.all_eq_true, and_assoc]

/-- A row of the call's own that was laid by one literal. -/
theorem Own.lit {w : World} {base g : Nat} (l : List ByteArray) (hg : w.heap.size = g) (hb : base ≤ g) (hm : l.length ≤ maxLen) :
    Own (w.alloc (.cells (scells l).toArray 9)) base (.slice (some ⟨g, 0, none⟩) l.length l.length) l := by
  subst hg
  exact ⟨by simp [scells], .inr ⟨w.heap.size, l.length, (scells l).toArray, rfl, hb, heap_alloc_new w _, Nat.le_refl _, hm, by simp [scells], List.take_of_length_le (by simp [scells])⟩⟩

def sampleL : List ByteArray := [⟨#[100, 100, 100, 102, 102, 102, 102]⟩, ⟨#[100, 102, 100, 102, 102, 100, 102]⟩, ⟨#[100, 102, 100, 102, 102, 100, 102]⟩, ⟨#[102, 102, 100, 100, 102, 102, 100]⟩, ⟨#[100, 100, 100, 102, 102, 102, 102]⟩]

/-- What a function of cards returned: a card of memory of its own. -/
def Gave (w : World) (d f : Int) (l : List ByteArray) (e : Ending) (w' : World) : Prop :=
  ∃ a c, e = .returned (.agg #[.int .i64 d, .int .i64 f, .slice a l.length c]) ∧ Below w.heap.size w w' ∧ Own w' w.heap.size (.slice a l.length c) l
def Gave2 (w : World) (d f : Int) (l : List ByteArray) (ok : Bool) (e : Ending) (w' : World) : Prop :=
  ∃ a c, e = .returned (.tuple #[.agg #[.int .i64 d, .int .i64 f, .slice a l.length c], .bool ok]) ∧ Below w.heap.size w w' ∧ Own w' w.heap.size (.slice a l.length c) l

end Go.Proofs.Ytfhpbgmnekhfeaa.Card
