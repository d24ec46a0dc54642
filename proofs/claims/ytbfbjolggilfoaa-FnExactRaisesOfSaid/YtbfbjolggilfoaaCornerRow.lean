/- The walks of two exact laws whose functions return rows of ints: CornersOf and RunsOf. -/
import Derived.Test.YtbfbjolggilfoaaCornerImpl2
namespace Go.Proofs.Ytbfbjolggilfoaa.Corner
open Go.ChangeShapes Go.WideShapes Go.ChangeAt Go.RowKit
open Go.Proofs.Ytbfbjolggilfoaa.Strip Go.Proofs.Ytbfbjolggilfoaa.Ints
set_option linter.unusedVariables false

theorem mark_one (base : Nat) (a : Option Addr) (cap : Nat) (l : List Int) (hn : l.length ≤ 1000000) (w : World) (h : Own w base (.slice a l.length cap) l) :
    Calls Try.prog 30 #[.slice a l.length cap, .int .i64 1] w fun e w' => e = .returned (.int .i64 (1 + (l.length : Int))) ∧ Own w' base (.slice a l.length cap) (marks 1 l.length) ∧ w.grownBy w' (Value.slice a l.length cap).ownBlock := by
  have h := mark_at 1 (by omega) (by omega) base a cap l hn w h
  rw [show ((1 + l.length : Nat) : Int) = 1 + (l.length : Int) from by omega] at h
  exact h
theorem held_one (a : Option Addr) (n cap : Nat) (hn : n ≤ 1000000) (w : World) (hr : IRow w a (marks 1 n)) :
    Calls Try.prog 31 #[.slice a n cap, .int .i64 1] w fun e w' => e = .returned (.int .i64 (1 + (n : Int))) ∧ ∃ q, w' = w.drewN q := by
  have h := held_at a n cap 1 (by omega) (by omega) hn w hr
  rw [show ((1 + n : Nat) : Int) = 1 + (n : Int) from by omega] at h
  exact h
theorem corners_short (l : List UInt8) : (cornersL l).length ≤ 1000000 := by
  cases h : stripB l with
  | false => rw [corners_no h]; simp
  | true =>
    rw [corners_yes h]
    have h1 := turns_le l l.length
    have h2 := (strip_size h).2
    omega
theorem runs_short (l : List UInt8) : (runsL l).length ≤ 1000000 := by
  cases h : stripB l with
  | false => rw [runs_no h]; simp
  | true =>
    rw [runs_yes h, gaps_length, List.length_append]
    have h1 := turns_le l l.length
    have h2 := (strip_size h).2
    simp; omega

end Go.Proofs.Ytbfbjolggilfoaa.Corner
