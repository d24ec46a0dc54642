/- What the model of chapter 3 returns: RunsOf, FromRuns, CountPeaks. -/
import Derived.Test.YtbfbjolggilfoaaCornerSpec
import Derived.Test.YtbfbjolggilfoaaStripMany
namespace Go.Proofs.Ytbfbjolggilfoaa.Corner
open Go.ChangeShapes Go.WideShapes Go.ChangeAt Go.RowKit
open Go.Proofs.Ytbfbjolggilfoaa.Strip Go.Proofs.Ytbfbjolggilfoaa.Ints
set_option linter.unusedVariables false

/-- What RunsOf has made behind k corners. -/
theorem gaps_take (cs : List Int) (k : Nat) (h : k < cs.length) : gaps 0 (cs.take (k + 1)) = gaps 0 (cs.take k) ++ [cs[k] - (cs.take k).getLastD 0] := by
  rw [List.take_succ_eq_append_getElem h, gaps_snoc]
theorem last_take (cs : List Int) (k : Nat) (h : k < cs.length) : (cs.take (k + 1)).getLastD 0 = cs[k] := by
  rw [List.take_succ_eq_append_getElem h, List.getLastD_concat]
theorem last_bound (l : List UInt8) (k : Nat) : 0 ≤ ((turns l l.length).take k).getLastD 0 ∧ ((turns l l.length).take k).getLastD 0 ≤ l.length := by
  have hm : ((turns l l.length).take k).getLastD 0 = 0 ∨ ((turns l l.length).take k).getLastD 0 ∈ turns l l.length := by
    cases hc : (turns l l.length).take k with
    | nil => left; rfl
    | cons x r =>
      right
      rw [← hc]
      have hne : (turns l l.length).take k ≠ [] := by rw [hc]; simp
      rw [List.getLastD_eq_getLast?, List.getLast?_eq_some_getLast hne]
      exact List.mem_of_mem_take (List.getLast_mem hne)
  rcases hm with h | h
  · rw [h]; omega
  · rw [turns_mem] at h
    obtain ⟨j, e, hj, _⟩ := h
    omega
theorem get_bound (l : List UInt8) (k : Nat) (h : k < (turns l l.length).length) : 0 ≤ (turns l l.length)[k] ∧ (turns l l.length)[k] < l.length := by
  have h := (turns_mem l l.length (turns l l.length)[k]).1 (List.getElem_mem h)
  obtain ⟨j, e, hj, _⟩ := h
  omega

end Go.Proofs.Ytbfbjolggilfoaa.Corner
