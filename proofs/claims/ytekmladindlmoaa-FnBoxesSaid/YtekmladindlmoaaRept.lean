/- What slices.Repeat returns at a row of one string. -/
import Derived.Test.YtekmladindlmoaaRepl
import Derived.Test.YtekmladindlmoaaKit
import Derived.Test.YtekmladindlmoaaReplCut
namespace Go.Proofs.Ytekmladindlmoaa.Strs
open Go.ChangeShapes Go.WideShapes Go.ChangeAt Go.RowKit
set_option linter.unusedVariables false

/-- m strings s, then empty ones: n in all. -/
def rep (n m : Nat) (s : ByteArray) : List ByteArray := List.replicate m s ++ List.replicate (n - m) ⟨#[]⟩
theorem rep_length (n m : Nat) (s : ByteArray) (h : m ≤ n) : (rep n m s).length = n := by unfold rep; simp; omega
theorem rep_all (n : Nat) (s : ByteArray) : rep n n s = List.replicate n s := by unfold rep; simp
theorem rep_zero (n : Nat) (s : ByteArray) : rep n 0 s = List.replicate n ⟨#[]⟩ := by unfold rep; simp
theorem rep_get (n m : Nat) (s : ByteArray) (j : Nat) (h : m ≤ n) (hj : j < n) : (rep n m s)[j]? = some (if j < m then s else ⟨#[]⟩) := by
  unfold rep
  by_cases h1 : j < m
  · rw [if_pos h1, List.getElem?_append_left (by simpa using h1)]; simp [h1]
  · rw [if_neg h1, List.getElem?_append_right (by simp; omega), List.length_replicate, List.getElem?_replicate_of_lt (by omega)]

/-- r more of them are written. -/
theorem rep_more {w : World} {base B n m r : Nat} {s : ByteArray} (h : Own w base (.slice (some ⟨B, 0, none⟩) n n) (rep n m s)) (hm : m + r ≤ n) :
    Own (w.setCells B m (List.replicate r (.string s))) base (.slice (some ⟨B, 0, none⟩) n n) (rep n (m + r) s) := by
  obtain ⟨cs, hh, hgb, hnc, hcm, hcs, hln, hcell⟩ := h.block
  obtain ⟨c1, hh1, hs1, hc1⟩ := heap_setCells B (List.replicate r (Value.string s)) m w cs _ _ hh (by simp; omega)
  refine Own.of_block hh1 hgb (by omega) (rep_length n (m + r) s hm) (Nat.le_refl _) hcm (fun j hj => ?_)
  have hjn : j < n := by rwa [rep_length n (m + r) s hm] at hj
  have e1 := rep_get n (m + r) s j hm hjn
  rw [List.getElem?_eq_getElem hj] at e1
  rw [Option.some.inj e1, hc1]
  simp only [List.length_replicate]
  have hj2 : j < (rep n m s).length := by rw [rep_length n m s (by omega)]; exact hjn
  have e2 := rep_get n m s j (by omega) hjn
  rw [List.getElem?_eq_getElem hj2] at e2
  by_cases a1 : m ≤ j ∧ j < m + r
  · rw [if_pos a1, if_pos a1.2, List.getElem?_replicate_of_lt (by omega)]
  · rw [if_neg a1, hcell j hj2, Option.some.inj e2]
    by_cases a2 : j < m
    · rw [if_pos a2, if_pos (by omega)]
    · rw [if_neg a2, if_neg (by omega)]

/-- The post, behind a name. -/
def Repeated (w : World) (l : List ByteArray) (e : Ending) (w' : World) : Prop :=
  ∃ a c, e = .returned (.slice a l.length c) ∧ Below w.heap.size w w' ∧ Own w' w.heap.size (.slice a l.length c) l

end Go.Proofs.Ytekmladindlmoaa.Strs
