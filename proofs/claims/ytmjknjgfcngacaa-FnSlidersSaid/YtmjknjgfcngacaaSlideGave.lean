/- What PullAll hands over. -/
import Derived.Test.YtmjknjgfcngacaaSlideMove
namespace Go.Proofs.Ytmjknjgfcngacaa.Slide
open Go.ChangeShapes Go.WideShapes Go.ChangeAt Go.RowKit Go.Sort
open Go.Proofs.Ytmjknjgfcngacaa.Tri
set_option linter.unusedVariables false

/-- What PullAll hands over. -/
def GaveS (w : World) (n : Nat) (l : List T3) (b : Bool) (e : Ending) (w' : World) : Prop :=
  ∃ g cap, e = .returned (.tuple #[.slice (some ⟨g, 0, none⟩) n cap, .bool b]) ∧ Below w.heap.size w w' ∧ OwnT 33 w' w.heap.size (.slice (some ⟨g, 0, none⟩) n cap) l

theorem first_at {L : List T3} {K : Nat} {q : Int} (h : K < L.length) : first L K q = (L.set K (pullS L[K] q), fun i => if i = K then nowV L[K] q - L[K].2.2 else 0) := by
  unfold first
  rw [getD_at h]
end Go.Proofs.Ytmjknjgfcngacaa.Slide
