/- How the walks of the functions that return a card end. -/
import Derived.Test.YtfhpbgmnekhfeaaCardLaw
import Derived.Test.YtfhpbgmnekhfeaaCardCopy3
namespace Go.Proofs.Ytfhpbgmnekhfeaa.Card
open Go.ChangeShapes Go.WideShapes Go.ChangeAt Go.RowKit
open Go.Proofs.Ytfhpbgmnekhfeaa.Strip Go.Proofs.Ytfhpbgmnekhfeaa.Strs
set_option linter.unusedVariables false

/-- A row's block is no card's variable. -/
theorem ne_var {w : World} {base b : Nat} {v x : Value} {d f : Int} {l : List ByteArray} (ho : Own w base v l) (hv : Var w b d f x) : v.ownBlock ≠ some b := by
  intro e
  obtain ⟨_, h1 | ⟨g, cap, cur, rfl, _, hh, _⟩⟩ := ho
  · obtain ⟨rfl, _⟩ := h1
    cases e
  · have e2 : g = b := by simpa [Value.ownBlock] using e
    subst e2
    unfold Var at hv
    rw [hv] at hh
    simp at hh
theorem Var.written {w w' : World} {base b : Nat} {v x : Value} {d f : Int} {l : List ByteArray} (hv : Var w b d f x) (ho : Own w base v l) (hg : w.grownBy w' v.ownBlock) : Var w' b d f x :=
  hv.grown hg (fun e => ne_var ho hv e.symm)
theorem Own.aside {w : World} {base b j : Nat} {v u x : Value} {d f : Int} {l : List ByteArray} (h : Own w base v l) (hv : Var w b d f x) : Own (w.setCell ⟨b, j, none⟩ u) base v l :=
  World.ownsRow.kept h (grown_set w b j u) (.inr (ne_var h hv))
theorem Own.aside3 {w : World} {base b : Nat} {v u x : Value} {d f d2 f2 : Int} {l : List ByteArray} (h : Own w base v l) (hv : Var w b d f x) : Own (Card.set3 w b d2 f2 u) base v l := by
  have hne := ne_var h hv
  have k : ∀ {w' : World} {j : Nat} {u : Value}, Own w' base v l → Own (w'.setCell ⟨b, j, none⟩ u) base v l := fun {w' j u} h' => World.ownsRow.kept h' (grown_set w' b j u) (.inr hne)
  exact k (k (k h))

/-- The result's variable is written last: whatever row the card has. -/
theorem gave_last {w1 w : World} {B0 B base : Nat} {d0 f0 d f : Int} {v0 v : Value} {l : List ByteArray} (hb : Below B0 w w1) (hv : Var w1 B d0 f0 v0) (hB : B0 ≤ B) (ho : Own w1 base v l) (hbase : B0 ≤ base) :
    Var (Card.set3 w1 B d f v) B d f v ∧ Below B0 w (Card.set3 w1 B d f v) ∧ Own (Card.set3 w1 B d f v) B0 v l :=
  ⟨hv.set3 d f v, below_set3 hb hB, (Own.aside3 ho hv).mono hbase⟩

/-- The card with its new strips where it is one, the old card where not; behind a name. -/
def Swapped (w : World) (d f : Int) (l l2 : List ByteArray) (e : Ending) (w' : World) : Prop := Gave2 w d f (if cardB d f l2 = true then l2 else l) (cardB d f l2) e w'
theorem swapped_yes {w : World} {d f : Int} {l l2 : List ByteArray} {e : Ending} {w' : World} (hc : cardB d f l2 = true) (h : Gave2 w d f l2 true e w') : Swapped w d f l l2 e w' := by unfold Swapped; rw [if_pos hc, hc]; exact h
theorem swapped_no {w : World} {d f : Int} {l l2 : List ByteArray} {e : Ending} {w' : World} (hc : cardB d f l2 = false) (h : Gave2 w d f l false e w') : Swapped w d f l l2 e w' := by unfold Swapped; rw [if_neg (by rw [hc]; simp), hc]; exact h
end Go.Proofs.Ytfhpbgmnekhfeaa.Card
