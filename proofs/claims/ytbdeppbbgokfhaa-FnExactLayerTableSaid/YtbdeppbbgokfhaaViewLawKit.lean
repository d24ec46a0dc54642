/- What the laws of TopView and FrontView need of rows of rows. -/
import Derived.Test.YtbdeppbbgokfhaaIntRows2
import Derived.Test.YtbdeppbbgokfhaaCardOkLaw
import Derived.Test.YtbdeppbbgokfhaaViewSee
namespace Go.Proofs.Ytbdeppbbgokfhaa.View
open Go.ChangeShapes Go.WideShapes Go.ChangeAt Go.RowKit
open Go.Proofs.Ytbdeppbbgokfhaa.Strip Go.Proofs.Ytbdeppbbgokfhaa.Strs Go.Proofs.Ytbdeppbbgokfhaa.Card
open Go.Proofs.Ytbdeppbbgokfhaa.Ints (Own2 Row2 tot marks2 marks2_length eqSS_yes markSS_at heldSS_at)
set_option linter.unusedVariables false

theorem mark_two1 (base n cap : Nat) (a : Option Addr) (vs : List Value) (ls : List (List Int)) (hl : ls.length = n) (hk : 1 + tot ls ≤ 1000000) (hn : n ≤ 1000000) (w : World) (hbw : base ≤ w.heap.size) (h : Own2 w base (.slice a n cap) vs ls) :
    Calls Try.prog 37 #[.slice a n cap, .int .i64 1] w fun e w' => e = .returned (.int .i64 (1 + (tot ls : Int))) ∧ Own2 w' base (.slice a n cap) vs (marks2 1 ls) ∧ Below base w w' := by
  have h := markSS_at 1 (by omega) base n cap a vs ls hl hk hn w hbw h
  rw [show ((1 + tot ls : Nat) : Int) = 1 + (tot ls : Int) from by omega] at h
  exact h
theorem held_two1 (a : Option Addr) (n cap : Nat) (ls : List (List Int)) (hl : ls.length = n) (hk : 1 + tot ls ≤ 1000000) (hn : n ≤ 1000000) (w : World) (hr : Row2 w a (marks2 1 ls)) :
    Calls Try.prog 38 #[.slice a n cap, .int .i64 1] w fun e w' => e = .returned (.int .i64 (1 + (tot ls : Int))) ∧ ∃ q, w' = w.drewN q := by
  have h := heldSS_at a n cap 1 (by omega) ls hl hk hn w hr
  rw [show ((1 + tot ls : Nat) : Int) = 1 + (tot ls : Int) from by omega] at h
  exact h
/-- Rows of rows stay where a block is written that lies in front of all of them. -/
theorem rows_aside {w w' : World} {base : Nat} {v : Value} {vs : List Value} {ls : List (List Int)} {o : Option Nat} (h : Own2 w base v vs ls) (hg : w.grownBy w' o) (hlt : ∀ k, o = some k → k < base) : Own2 w' base v vs ls := by
  have key : ∀ {u : Value} {b : Nat}, base ≤ b → u.ownBlock = some b → some b ≠ o := fun {u b} hb _ e => by have := hlt b e.symm; omega
  refine ⟨World.ownsRow.kept h.outer hg ?_, fun j u l hu hl => World.ownsRow.kept (h.inner j u l hu hl) hg ?_, h.far, h.off⟩
  · cases e : v.ownBlock with
    | none => exact .inl rfl
    | some b => right; intro e2; have h1 := (World.ownsRow.lt h.outer b e).1; have h2 := hlt b e2.symm; omega
  · cases e : u.ownBlock with
    | none => exact .inl rfl
    | some b => right; intro e2; have h1 := ((h.inner j u l hu hl).lt b e).1; have h2 := hlt b e2.symm; omega
end Go.Proofs.Ytbdeppbbgokfhaa.View
