/- ROWS OF BOXES in memory; what laws.toBoxS, eqBoxS, markBoxS and heldBoxS return and leave alone. -/
import Derived.Test.YtekmladindlmoaaBoxLaw
import Derived.Deep.AppendLies
import Derived.Laws.MakeOwn
import Derived.Laws.OwnMore
import Derived.Deep.Slices
namespace Go.Proofs.Ytekmladindlmoaa.Box
open Go.ChangeShapes Go.WideShapes Go.ChangeAt Go.RowKit Go.Sort Go.Joins
open Go.Proofs.Ytekmladindlmoaa.Strip Go.Proofs.Ytekmladindlmoaa.Strs Go.Proofs.Ytekmladindlmoaa.Card
set_option linter.unusedVariables false

/-- A box: First, Last, At. -/
abbrev B3 := Int × Int × Int
def bcell (b : B3) : List Value := [.int .i64 b.1, .int .i64 b.2.1, .int .i64 b.2.2]
def bcells (l : List B3) : List Value := l.flatMap bcell
theorem bcells_length : ∀ l : List B3, (bcells l).length = l.length * 3
  | [] => rfl
  | b :: l => by
    have := bcells_length l
    unfold bcells at *
    rw [List.flatMap_cons, List.length_append, this, List.length_cons]
    show 3 + _ = _
    omega
theorem bcells_append (l m : List B3) : bcells (l ++ m) = bcells l ++ bcells m := by unfold bcells; rw [List.flatMap_append]
theorem bcells_one (b : B3) : bcells [b] = bcell b := by unfold bcells; simp
theorem bcells_get : ∀ (l : List B3) (j : Nat) (h : j < l.length), (bcells l)[j * 3]? = some (.int .i64 l[j].1) ∧ (bcells l)[j * 3 + 1]? = some (.int .i64 l[j].2.1) ∧ (bcells l)[j * 3 + 2]? = some (.int .i64 l[j].2.2)
  | b :: l, 0, _ => ⟨rfl, rfl, rfl⟩
  | b :: l, j + 1, h => by
    have hj : j < l.length := by simpa using h
    have ih := bcells_get l j hj
    have e : ∀ q, (bcells (b :: l))[(j + 1) * 3 + q]? = (bcells l)[j * 3 + q]? := by
      intro q
      show (bcell b ++ bcells l)[(j + 1) * 3 + q]? = _
      rw [List.getElem?_append_right (by simp [bcell]; omega)]
      congr 1
      simp [bcell]; omega
    have e0 := e 0
    have e1 := e 1
    have e2 := e 2
    simp only [Nat.add_zero] at e0
    simp only [List.getElem_cons_succ]
    exact ⟨e0.trans ih.1, e1.trans ih.2.1, e2.trans ih.2.2⟩
theorem bcells_cell (l : List B3) : ∀ v ∈ bcells l, v.oneCell' = true := by
  intro v hv
  unfold bcells bcell at hv
  simp only [List.mem_flatMap, List.mem_cons, List.not_mem_nil, or_false] at hv
  obtain ⟨b, _, rfl | rfl | rfl⟩ := hv <;> rfl

/-- v is a slice of the boxes l; its block is none of those below base. -/
def OwnB (w : World) (base : Nat) (v : Value) (l : List B3) : Prop := w.ownsRow base 39 3 v l.length (bcells l)

/-- The first cells behind a are the boxes l. -/
def BRow (w : World) (a : Option Addr) (l : List B3) : Prop :=
  ∀ j (h : j < l.length), ∃ g, a = some ⟨g, 0, none⟩ ∧ g < w.heap.size ∧ w.cell? ⟨g, j * 3, none⟩ = some (.int .i64 l[j].1) ∧ w.cell? ⟨g, j * 3 + 1, none⟩ = some (.int .i64 l[j].2.1) ∧ w.cell? ⟨g, j * 3 + 2, none⟩ = some (.int .i64 l[j].2.2)

theorem BRow.of_block {w : World} {g : Nat} {cur : Array Value} {T : TypeId} {m : Nat × Nat} {l : List B3} (h : w.heap[g]? = some (.cells cur T m)) (ht : cur.toList.take (l.length * 3) = bcells l) : BRow w (some ⟨g, 0, none⟩) l := by
  intro j hj
  have e : ∀ q, q < 3 → w.cell? ⟨g, j * 3 + q, none⟩ = (bcells l)[j * 3 + q]? := by
    intro q hq
    have h2 : (cur.toList.take (l.length * 3))[j * 3 + q]? = (bcells l)[j * 3 + q]? := by rw [ht]
    rw [List.getElem?_take_of_lt (by omega)] at h2
    rw [← h2]
    simp [World.cell?, h]
  obtain ⟨h0, h1, h2⟩ := bcells_get l j hj
  have e0 := e 0 (by omega)
  simp only [Nat.add_zero] at e0
  exact ⟨g, rfl, (Array.getElem?_eq_some_iff.1 h).1, e0.trans h0, (e 1 (by omega)).trans h1, (e 2 (by omega)).trans h2⟩

theorem OwnB.row {w : World} {base : Nat} {v : Value} {l : List B3} (h : OwnB w base v l) : ∃ a cap, v = .slice a l.length cap ∧ BRow w a l ∧ l.length ≤ maxLen := by
  obtain ⟨hl, h1 | ⟨g, cap, cur, rfl, hg, hh, hnc, hcm, hcs, ht⟩⟩ := h
  · obtain ⟨rfl, h0⟩ := h1
    have hl0 : l = [] := by simpa using h0
    subst hl0
    exact ⟨none, 0, rfl, fun j hj => by simp at hj, Nat.zero_le _⟩
  · exact ⟨_, cap, rfl, BRow.of_block hh ht, by omega⟩
theorem OwnB.row2 {w : World} {base n c : Nat} {a : Option Addr} {l : List B3} (h : OwnB w base (.slice a n c) l) : n = l.length ∧ BRow w a l := by
  obtain ⟨a', c', e, hr, _⟩ := h.row
  cases e
  exact ⟨rfl, hr⟩
theorem BRow.below {w w' : World} {a : Option Addr} {l : List B3} (h : BRow w a l) (hb : Below w.heap.size w w') : BRow w' a l := by
  intro j hj
  obtain ⟨g, e, hg, h0, h1, h2⟩ := h j hj
  refine ⟨g, e, Nat.lt_of_lt_of_le hg hb.size, ?_, ?_, ?_⟩
  · rw [hb.cell (p := ⟨g, j * 3, none⟩) hg]; exact h0
  · rw [hb.cell (p := ⟨g, j * 3 + 1, none⟩) hg]; exact h1
  · rw [hb.cell (p := ⟨g, j * 3 + 2, none⟩) hg]; exact h2
theorem OwnB.nil (w : World) (base : Nat) : OwnB w base (.slice none 0 0) [] := World.ownsRow_nil w base _ _
theorem OwnB.below {w w' : World} {base : Nat} {v : Value} {l : List B3} (h : OwnB w base v l) (hb : Below w.heap.size w w') : OwnB w' base v l :=
  World.ownsRow.kept h (grown_below hb none) (by
    cases hb : v.ownBlock with
    | none => exact .inl rfl
    | some b => right; simp)
theorem OwnB.lt {w : World} {base : Nat} {v : Value} {l : List B3} (h : OwnB w base v l) : ∀ k, v.ownBlock = some k → base ≤ k ∧ k < w.heap.size := World.ownsRow.lt h
theorem OwnB.mono {w : World} {base base2 : Nat} {v : Value} {l : List B3} (h : OwnB w base v l) (hb : base2 ≤ base) : OwnB w base2 v l := by
  obtain ⟨hl, h1 | ⟨g, cap, cur, e, hg, rest⟩⟩ := h
  · exact ⟨hl, .inl h1⟩
  · exact ⟨hl, .inr ⟨g, cap, cur, e, by omega, rest⟩⟩
theorem OwnB.mark {w w' : World} {base : Nat} {v v2 : Value} {l : List B3} (h : OwnB w base v l) (hg : w.grownBy w' v2.ownBlock) (hne : ∀ k k2, v.ownBlock = some k → v2.ownBlock = some k2 → k ≠ k2) : OwnB w' base v l :=
  World.ownsRow.kept h hg (by
    cases hb : v.ownBlock with
    | none => exact .inl rfl
    | some b => right; exact fun e => hne b b hb e.symm rfl)
theorem OwnB.shape {w : World} {base n c : Nat} {a : Option Addr} {l : List B3} (h : OwnB w base (.slice a n c) l) : (a = none ∧ c = 0 ∧ l = []) ∨ ∃ g, a = some ⟨g, 0, none⟩ := by
  obtain ⟨_, h1 | ⟨g', cap', cur, e, _⟩⟩ := h
  · left
    obtain ⟨e, h0⟩ := h1
    cases e
    exact ⟨rfl, rfl, List.eq_nil_of_length_eq_zero h0⟩
  · right; cases e; exact ⟨_, rfl⟩
theorem OwnB.free {w : World} {base g n cap : Nat} {l : List B3} (h : OwnB w base (.slice (some ⟨g, 0, none⟩) n cap) l) (j : Nat) : w.frozen? ⟨g, j, none⟩ = false := by
  obtain ⟨hl, h1 | ⟨g', cap', cur, e, hg, hh, _⟩⟩ := h
  · cases h1.1
  · cases e; simp [World.frozen?, hh]
theorem OwnB.cell {w : World} {base g n cap j : Nat} {l : List B3} (h : OwnB w base (.slice (some ⟨g, 0, none⟩) n cap) l) (hj : j < l.length) : w.cell? ⟨g, j * 3, none⟩ = some (.int .i64 l[j].1) ∧ w.cell? ⟨g, j * 3 + 1, none⟩ = some (.int .i64 l[j].2.1) ∧ w.cell? ⟨g, j * 3 + 2, none⟩ = some (.int .i64 l[j].2.2) := by
  obtain ⟨a, c, e, hr, _⟩ := h.row
  cases e
  obtain ⟨g', e, _, hc⟩ := hr j hj
  cases e; exact hc

/-- Three cells of a row written, one after another. -/
theorem bcells_set (l : List B3) (j : Nat) (x y z : Int) (h : j < l.length) : (((bcells l).set (j * 3) (.int .i64 x)).set (j * 3 + 1) (.int .i64 y)).set (j * 3 + 2) (.int .i64 z) = bcells (l.set j (x, y, z)) := by
  induction l generalizing j with
  | nil => simp at h
  | cons b l ih =>
    cases j with
    | zero => rfl
    | succ j =>
      have hj : j < l.length := by simpa using h
      have e : ∀ (m : List Value) (q : Nat) (v : Value), (bcell b ++ m).set ((j + 1) * 3 + q) v = bcell b ++ m.set (j * 3 + q) v := by
        intro m q v
        rw [List.set_append_right _ _ (by simp [bcell]; omega)]
        congr 2
        simp [bcell]; omega
      show (((bcell b ++ bcells l).set ((j + 1) * 3 + 0) _).set ((j + 1) * 3 + 1) _).set ((j + 1) * 3 + 2) _ = bcell b ++ bcells (l.set j (x, y, z))
      rw [e, e, e]
      congr 1
      exact ih j hj
/-- The three cells of box j are written. -/
def setB (w : World) (g j : Nat) (x y z : Int) : World := ((w.setCell ⟨g, j * 3, none⟩ (.int .i64 x)).setCell ⟨g, j * 3 + 1, none⟩ (.int .i64 y)).setCell ⟨g, j * 3 + 2, none⟩ (.int .i64 z)
theorem grown_setB (w : World) (g j : Nat) (x y z : Int) : w.grownBy (setB w g j x y z) (some g) := grown_trans (grown_trans (grown_set _ _ _ _) (grown_set _ _ _ _)) (grown_set _ _ _ _)
theorem OwnB.set {w : World} {base g n cap j : Nat} {l : List B3} (x y z : Int) (h : OwnB w base (.slice (some ⟨g, 0, none⟩) n cap) l) (hj : j < l.length) :
    OwnB (setB w g j x y z) base (.slice (some ⟨g, 0, none⟩) n cap) (l.set j (x, y, z)) := by
  obtain ⟨hl, h1 | ⟨g', cap', cur, e, hg, hh, hnc, hcm, hcs, ht⟩⟩ := h
  · cases h1.1
  · cases e
    have h1 := heap_set_at _ _ (j * 3) _ _ _ (.int .i64 x) hh
    have h2 := heap_set_at _ _ (j * 3 + 1) _ _ _ (.int .i64 y) h1
    have h3 := heap_set_at _ _ (j * 3 + 2) _ _ _ (.int .i64 z) h2
    refine ⟨by rw [bcells_length], .inr ⟨g, cap, _, by rw [List.length_set], hg, h3, by rw [List.length_set]; exact hnc, hcm, by simp [hcs], ?_⟩⟩
    rw [Array.toList_setIfInBounds, Array.toList_setIfInBounds, Array.toList_setIfInBounds, List.length_set, List.take_set, List.take_set, List.take_set, ht]
    exact bcells_set l j x y z hj

theorem info_box : (Try.prog.info? 39).map (fun i => (i.zero, i.size, i.bytes)) = some (some (.agg #[.int .i64 0, .int .i64 0, .int .i64 0]), 3, 24) := by kernel_rfl
end Go.Proofs.Ytekmladindlmoaa.Box
