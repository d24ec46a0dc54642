/- ROWS OF STRUCTS OF THREE INTS in memory, of whatever type T: a slice of one's own, one that came in; a struct's variable. -/
import Derived.Test.YtmjknjgfcngacaaIntRow
import Derived.Test.YtmjknjgfcngacaaSlideMath
import Derived.Laws.MakeOwn
import Derived.Laws.OwnMore
import Derived.Deep.Slices
import Derived.Lib.QuietBelow
import Derived.Lib.SmallJoins
import Derived.SliceStrings
namespace Go.Proofs.Ytmjknjgfcngacaa.Tri
open Go.ChangeShapes Go.WideShapes Go.ChangeAt Go.RowKit Go.Sort Go.Joins
open Go.Proofs.Ytmjknjgfcngacaa.Ints (grown_below grown_set grown_trans heap_set_at drewN_below)
open Go.Proofs.Ytmjknjgfcngacaa.Slide (T3 zero3)
set_option linter.unusedVariables false

theorem add_block (x : Addr) (j : Nat) : (x.add j).block = x.block := by unfold Addr.add; split <;> rfl
theorem alloc_below (w : World) (o : Obj) : Below w.heap.size w (w.alloc o) := (Below.refl _ _).alloc (Nat.le_refl _) o
theorem i64_bounds {n : Int} (h : (Lit.int .i64 n).wf = true) : -9223372036854775808 ≤ n ∧ n ≤ 9223372036854775807 := by
  simp [Lit.wf, IntKind.min, IntKind.max, IntKind.signed, IntKind.bits] at h
  omega
def bcell (b : T3) : List Value := [.int .i64 b.1, .int .i64 b.2.1, .int .i64 b.2.2]
def bcells (l : List T3) : List Value := l.flatMap bcell
theorem bcells_length : ∀ l : List T3, (bcells l).length = l.length * 3
  | [] => rfl
  | b :: l => by
    have := bcells_length l
    unfold bcells at *
    rw [List.flatMap_cons, List.length_append, this, List.length_cons]
    show 3 + _ = _
    omega
theorem bcells_append (l m : List T3) : bcells (l ++ m) = bcells l ++ bcells m := by unfold bcells; rw [List.flatMap_append]
theorem bcells_one (b : T3) : bcells [b] = bcell b := by unfold bcells; simp
theorem bcells_get : ∀ (l : List T3) (j : Nat) (h : j < l.length), (bcells l)[j * 3]? = some (.int .i64 l[j].1) ∧ (bcells l)[j * 3 + 1]? = some (.int .i64 l[j].2.1) ∧ (bcells l)[j * 3 + 2]? = some (.int .i64 l[j].2.2)
  | b :: l, 0, _ => ⟨rfl, rfl, rfl⟩
  | b :: l, j + 1, h => by
    have hj : j < l.length := by simpa using h
    have ih := bcells_get l j hj
    have e : ∀ q, (bcells (b :: l))[(j + 1) * 3 + q]? = (bcells l)[j * 3 + q]? := by
      intro q
      show (bcell b ++ bcells l)[(j + 1) * 3 + q]? = _
      rw [List.getElem?_append_right (by simp [bcell]; omega)]
      congr 1
      simp [bcell]; omega
    have e0 := e 0
    have e1 := e 1
    have e2 := e 2
    simp only [Nat.add_zero] at e0
    simp only [List.getElem_cons_succ]
    exact ⟨e0.trans ih.1, e1.trans ih.2.1, e2.trans ih.2.2⟩
theorem bcells_cell (l : List T3) : ∀ v ∈ bcells l, v.oneCell' = true := by
  intro v hv
  unfold bcells bcell at hv
  simp only [List.mem_flatMap, List.mem_cons, List.not_mem_nil, or_false] at hv
  obtain ⟨b, _, rfl | rfl | rfl⟩ := hv <;> rfl

/-- v is a slice of the boxes l; its block is none of those below base. -/
def OwnT (T : TypeId) (w : World) (base : Nat) (v : Value) (l : List T3) : Prop := w.ownsRow base T 3 v l.length (bcells l)
variable {T : TypeId}

/-- The first cells behind a are the boxes l. -/
def Row3 (w : World) (a : Option Addr) (l : List T3) : Prop :=
  ∀ j (h : j < l.length), ∃ g, a = some ⟨g, 0, none⟩ ∧ g < w.heap.size ∧ w.cell? ⟨g, j * 3, none⟩ = some (.int .i64 l[j].1) ∧ w.cell? ⟨g, j * 3 + 1, none⟩ = some (.int .i64 l[j].2.1) ∧ w.cell? ⟨g, j * 3 + 2, none⟩ = some (.int .i64 l[j].2.2)

theorem Row3.of_block {w : World} {g : Nat} {cur : Array Value} {m : Nat × Nat} {l : List T3} (h : w.heap[g]? = some (.cells cur T m)) (ht : cur.toList.take (l.length * 3) = bcells l) : Row3 w (some ⟨g, 0, none⟩) l := by
  intro j hj
  have e : ∀ q, q < 3 → w.cell? ⟨g, j * 3 + q, none⟩ = (bcells l)[j * 3 + q]? := by
    intro q hq
    have h2 : (cur.toList.take (l.length * 3))[j * 3 + q]? = (bcells l)[j * 3 + q]? := by rw [ht]
    rw [List.getElem?_take_of_lt (by omega)] at h2
    rw [← h2]
    simp [World.cell?, h]
  obtain ⟨h0, h1, h2⟩ := bcells_get l j hj
  have e0 := e 0 (by omega)
  simp only [Nat.add_zero] at e0
  exact ⟨g, rfl, (Array.getElem?_eq_some_iff.1 h).1, e0.trans h0, (e 1 (by omega)).trans h1, (e 2 (by omega)).trans h2⟩

theorem OwnT.row {w : World} {base : Nat} {v : Value} {l : List T3} (h : OwnT T w base v l) : ∃ a cap, v = .slice a l.length cap ∧ Row3 w a l ∧ l.length ≤ maxLen := by
  obtain ⟨hl, h1 | ⟨g, cap, cur, rfl, hg, hh, hnc, hcm, hcs, ht⟩⟩ := h
  · obtain ⟨rfl, h0⟩ := h1
    have hl0 : l = [] := by simpa using h0
    subst hl0
    exact ⟨none, 0, rfl, fun j hj => by simp at hj, Nat.zero_le _⟩
  · exact ⟨_, cap, rfl, Row3.of_block hh ht, by omega⟩
theorem OwnT.row2 {w : World} {base n c : Nat} {a : Option Addr} {l : List T3} (h : OwnT T w base (.slice a n c) l) : n = l.length ∧ Row3 w a l := by
  obtain ⟨a', c', e, hr, _⟩ := h.row
  cases e
  exact ⟨rfl, hr⟩
theorem Row3.below {w w' : World} {a : Option Addr} {l : List T3} (h : Row3 w a l) (hb : Below w.heap.size w w') : Row3 w' a l := by
  intro j hj
  obtain ⟨g, e, hg, h0, h1, h2⟩ := h j hj
  refine ⟨g, e, Nat.lt_of_lt_of_le hg hb.size, ?_, ?_, ?_⟩
  · rw [hb.cell (p := ⟨g, j * 3, none⟩) hg]; exact h0
  · rw [hb.cell (p := ⟨g, j * 3 + 1, none⟩) hg]; exact h1
  · rw [hb.cell (p := ⟨g, j * 3 + 2, none⟩) hg]; exact h2
theorem OwnT.nil (w : World) (base : Nat) : OwnT T w base (.slice none 0 0) [] := World.ownsRow_nil w base _ _
theorem OwnT.below {w w' : World} {base : Nat} {v : Value} {l : List T3} (h : OwnT T w base v l) (hb : Below w.heap.size w w') : OwnT T w' base v l :=
  World.ownsRow.kept h (grown_below hb none) (by
    cases hb : v.ownBlock with
    | none => exact .inl rfl
    | some b => right; simp)
theorem OwnT.lt {w : World} {base : Nat} {v : Value} {l : List T3} (h : OwnT T w base v l) : ∀ k, v.ownBlock = some k → base ≤ k ∧ k < w.heap.size := World.ownsRow.lt h
theorem OwnT.mono {w : World} {base base2 : Nat} {v : Value} {l : List T3} (h : OwnT T w base v l) (hb : base2 ≤ base) : OwnT T w base2 v l := by
  obtain ⟨hl, h1 | ⟨g, cap, cur, e, hg, rest⟩⟩ := h
  · exact ⟨hl, .inl h1⟩
  · exact ⟨hl, .inr ⟨g, cap, cur, e, by omega, rest⟩⟩
theorem OwnT.mark {w w' : World} {base : Nat} {v v2 : Value} {l : List T3} (h : OwnT T w base v l) (hg : w.grownBy w' v2.ownBlock) (hne : ∀ k k2, v.ownBlock = some k → v2.ownBlock = some k2 → k ≠ k2) : OwnT T w' base v l :=
  World.ownsRow.kept h hg (by
    cases hb : v.ownBlock with
    | none => exact .inl rfl
    | some b => right; exact fun e => hne b b hb e.symm rfl)
theorem OwnT.shape {w : World} {base n c : Nat} {a : Option Addr} {l : List T3} (h : OwnT T w base (.slice a n c) l) : (a = none ∧ c = 0 ∧ l = []) ∨ ∃ g, a = some ⟨g, 0, none⟩ := by
  obtain ⟨_, h1 | ⟨g', cap', cur, e, _⟩⟩ := h
  · left
    obtain ⟨e, h0⟩ := h1
    cases e
    exact ⟨rfl, rfl, List.eq_nil_of_length_eq_zero h0⟩
  · right; cases e; exact ⟨_, rfl⟩
theorem OwnT.free {w : World} {base g n cap : Nat} {l : List T3} (h : OwnT T w base (.slice (some ⟨g, 0, none⟩) n cap) l) (j : Nat) : w.frozen? ⟨g, j, none⟩ = false := by
  obtain ⟨hl, h1 | ⟨g', cap', cur, e, hg, hh, _⟩⟩ := h
  · cases h1.1
  · cases e; simp [World.frozen?, hh]
theorem OwnT.cell {w : World} {base g n cap j : Nat} {l : List T3} (h : OwnT T w base (.slice (some ⟨g, 0, none⟩) n cap) l) (hj : j < l.length) : w.cell? ⟨g, j * 3, none⟩ = some (.int .i64 l[j].1) ∧ w.cell? ⟨g, j * 3 + 1, none⟩ = some (.int .i64 l[j].2.1) ∧ w.cell? ⟨g, j * 3 + 2, none⟩ = some (.int .i64 l[j].2.2) := by
  obtain ⟨a, c, e, hr, _⟩ := h.row
  cases e
  obtain ⟨g', e, _, hc⟩ := hr j hj
  cases e; exact hc

/-- Three cells of a row written, one after another. -/
theorem bcells_set (l : List T3) (j : Nat) (x y z : Int) (h : j < l.length) : (((bcells l).set (j * 3) (.int .i64 x)).set (j * 3 + 1) (.int .i64 y)).set (j * 3 + 2) (.int .i64 z) = bcells (l.set j (x, y, z)) := by
  induction l generalizing j with
  | nil => simp at h
  | cons b l ih =>
    cases j with
    | zero => rfl
    | succ j =>
      have hj : j < l.length := by simpa using h
      have e : ∀ (m : List Value) (q : Nat) (v : Value), (bcell b ++ m).set ((j + 1) * 3 + q) v = bcell b ++ m.set (j * 3 + q) v := by
        intro m q v
        rw [List.set_append_right _ _ (by simp [bcell]; omega)]
        congr 2
        simp [bcell]; omega
      show (((bcell b ++ bcells l).set ((j + 1) * 3 + 0) _).set ((j + 1) * 3 + 1) _).set ((j + 1) * 3 + 2) _ = bcell b ++ bcells (l.set j (x, y, z))
      rw [e, e, e]
      congr 1
      exact ih j hj
/-- The three cells of box j are written. -/
def setB (w : World) (g j : Nat) (x y z : Int) : World := ((w.setCell ⟨g, j * 3, none⟩ (.int .i64 x)).setCell ⟨g, j * 3 + 1, none⟩ (.int .i64 y)).setCell ⟨g, j * 3 + 2, none⟩ (.int .i64 z)
theorem grown_setB (w : World) (g j : Nat) (x y z : Int) : w.grownBy (setB w g j x y z) (some g) := grown_trans (grown_trans (grown_set _ _ _ _) (grown_set _ _ _ _)) (grown_set _ _ _ _)
theorem OwnT.set {w : World} {base g n cap j : Nat} {l : List T3} (x y z : Int) (h : OwnT T w base (.slice (some ⟨g, 0, none⟩) n cap) l) (hj : j < l.length) :
    OwnT T (setB w g j x y z) base (.slice (some ⟨g, 0, none⟩) n cap) (l.set j (x, y, z)) := by
  obtain ⟨hl, h1 | ⟨g', cap', cur, e, hg, hh, hnc, hcm, hcs, ht⟩⟩ := h
  · cases h1.1
  · cases e
    have h1 := heap_set_at _ _ (j * 3) _ _ _ (.int .i64 x) hh
    have h2 := heap_set_at _ _ (j * 3 + 1) _ _ _ (.int .i64 y) h1
    have h3 := heap_set_at _ _ (j * 3 + 2) _ _ _ (.int .i64 z) h2
    refine ⟨by rw [bcells_length], .inr ⟨g, cap, _, by rw [List.length_set], hg, h3, by rw [List.length_set]; exact hnc, hcm, by simp [hcs], ?_⟩⟩
    rw [Array.toList_setIfInBounds, Array.toList_setIfInBounds, Array.toList_setIfInBounds, List.length_set, List.take_set, List.take_set, List.take_set, ht]
    exact bcells_set l j x y z hj

/-- A slice of boxes that came in. -/
def ARow3 (w : World) (a : Option Addr) (l : List T3) : Prop :=
  ∀ j (h : j < l.length), ∃ x, a = some x ∧ x.block < w.heap.size ∧ w.cell? (x.add (j * 3)) = some (.int .i64 l[j].1) ∧ w.cell? ⟨(x.add (j * 3)).block, (x.add (j * 3)).off + 1, none⟩ = some (.int .i64 l[j].2.1) ∧ w.cell? ⟨(x.add (j * 3)).block, (x.add (j * 3)).off + 2, none⟩ = some (.int .i64 l[j].2.2)
theorem add_step (x : Addr) (m q : Nat) (hq : 0 < q) : x.add (m + q) = ⟨(x.add m).block, (x.add m).off + q, none⟩ := by
  unfold Addr.add
  rw [if_neg (by omega)]
  split
  · rename_i h; subst h; simp
  · simp [Nat.add_assoc]
theorem ARow3.below {w w' : World} {a : Option Addr} {l : List T3} (h : ARow3 w a l) (hb : Below w.heap.size w w') : ARow3 w' a l := by
  intro j hj
  obtain ⟨x, e, hx, h0, h1, h2⟩ := h j hj
  have k : ∀ p : Addr, p.block = x.block → ∀ u, w.cell? p = some u → w'.cell? p = some u := fun p hp u hc => by rw [hb.cell (p := p) (by rw [hp]; exact hx)]; exact hc
  exact ⟨x, e, Nat.lt_of_lt_of_le hx hb.size, k (x.add (j * 3)) (add_block _ _) _ h0, k ⟨(x.add (j * 3)).block, (x.add (j * 3)).off + 1, none⟩ (add_block x (j * 3)) _ h1, k ⟨(x.add (j * 3)).block, (x.add (j * 3)).off + 2, none⟩ (add_block x (j * 3)) _ h2⟩
def ok3 (b : T3) : Prop := (Lit.int .i64 b.1).wf = true ∧ (Lit.int .i64 b.2.1).wf = true ∧ (Lit.int .i64 b.2.2).wf = true
def IsRow3 (w : World) (a : Option Addr) (len : Nat) (l : List T3) : Prop := l.length = len ∧ len ≤ maxLen ∧ (∀ b ∈ l, ok3 b) ∧ ARow3 w a l

/-- The first k of l, then zero boxes. -/
def filled3 (l : List T3) (k : Nat) : List T3 := l.take k ++ List.replicate (l.length - k) zero3
theorem filled3_length (l : List T3) (k : Nat) (h : k ≤ l.length) : (filled3 l k).length = l.length := by simp [filled3]; omega
theorem filled3_zero (l : List T3) : filled3 l 0 = List.replicate l.length zero3 := by simp [filled3]
theorem filled3_all (l : List T3) : filled3 l l.length = l := by simp [filled3]
theorem filled3_set (l : List T3) (k : Nat) (h : k < l.length) : (filled3 l k).set k l[k] = filled3 l (k + 1) := by
  unfold filled3
  have hl : (l.take k).length = k := by rw [List.length_take]; omega
  rw [List.set_append_right _ _ (by omega), hl, Nat.sub_self, show l.length - k = (l.length - (k + 1)) + 1 from by omega, List.replicate_succ, List.set_cons_zero, List.take_succ_eq_append_getElem h, List.append_assoc]
  rfl
theorem bcells_zero : ∀ n : Nat, bcells (List.replicate n zero3) = List.replicate (n * 3) (.int .i64 0)
  | 0 => rfl
  | n + 1 => by
    have ih := bcells_zero n
    rw [List.replicate_succ]
    show bcell zero3 ++ bcells (List.replicate n zero3) = _
    rw [ih, show (n + 1) * 3 = n * 3 + 1 + 1 + 1 by omega, List.replicate_succ, List.replicate_succ, List.replicate_succ]
    rfl
theorem zero_at (i : Nat) : (#[Value.int .i64 0, Value.int .i64 0, Value.int .i64 0] : Array Value)[i % 3]! = .int .i64 0 := by
  have h : i % 3 = 0 ∨ i % 3 = 1 ∨ i % 3 = 2 := by omega
  rcases h with h | h | h <;> rw [h] <;> rfl
theorem made_boxes (n : Nat) : (madeCells (Value.cells (.agg #[.int .i64 0, .int .i64 0, .int .i64 0])) (n * 3)).toList = bcells (List.replicate n zero3) := by
  rw [bcells_zero]
  refine List.ext_getElem (by simp [madeCells]) fun i h1 h2 => ?_
  rw [List.getElem_replicate]
  simp only [madeCells, Value.cells, Array.toList_map, List.getElem_map, Array.toList_range, List.getElem_range]
  exact zero_at i

/-- The marks from k on, three a box, n boxes. -/
def marks3 (k : Int) (n : Nat) : List T3 := (List.range n).map fun (i : Nat) => (k + 3 * (i : Int), k + 3 * (i : Int) + 1, k + 3 * (i : Int) + 1 + 1)
theorem marks3_length (k : Int) (n : Nat) : (marks3 k n).length = n := by simp [marks3]
theorem marks3_get (k : Int) (n j : Nat) (h : j < (marks3 k n).length) : (marks3 k n)[j] = (k + 3 * (j : Int), k + 3 * (j : Int) + 1, k + 3 * (j : Int) + 1 + 1) := by simp [marks3]
def part3 (k : Int) (j : Nat) (l : List T3) : List T3 := marks3 k j ++ l.drop j
theorem part3_length (k : Int) (j : Nat) (l : List T3) (h : j ≤ l.length) : (part3 k j l).length = l.length := by simp [part3, marks3_length]; omega
theorem part3_zero (k : Int) (l : List T3) : part3 k 0 l = l := by simp [part3, marks3]
theorem part3_all (k : Int) (l : List T3) : part3 k l.length l = marks3 k l.length := by simp [part3]
theorem part3_set (k : Int) (j : Nat) (l : List T3) (h : j < l.length) : (part3 k j l).set j (k + 3 * (j : Int), k + 3 * (j : Int) + 1, k + 3 * (j : Int) + 1 + 1) = part3 k (j + 1) l := by
  unfold part3
  rw [List.set_append_right _ _ (by rw [marks3_length]; exact Nat.le_refl _), marks3_length, Nat.sub_self, List.drop_eq_getElem_cons h, List.set_cons_zero]
  have e : marks3 k (j + 1) = marks3 k j ++ [(k + 3 * (j : Int), k + 3 * (j : Int) + 1, k + 3 * (j : Int) + 1 + 1)] := by unfold marks3; rw [List.range_succ]; simp
  rw [e]; simp

theorem ret_int {k : IntKind} {a b : Int} (h : a = b) : Ending.returned (.int k a) = .returned (.int k b) := by rw [h]

theorem cells3 {H : Type} {enc : TypeId × Value → H} {P : Program} {w : World} {base : Nat} {spare : Nat → Bool} {held : Bool} {t : TypeId} {f0 f1 f2 : Field} {fuel : Nat} {c0 c1 c2 : Value} {y : DataW H × List MemPlace} (hs : P.underlying t = some (.struct #[f0, f1, f2])) (hone : Go.Deep.oneCellFields P #[f0, f1, f2] = true)
    (h : DataW.trod enc P w base spare held fuel t [c0, c1, c2] = some y) :
    ∃ (y0 y1 y2 : DataW H × List MemPlace) (n : Nat), DataW.trod enc P w base spare held n f0.type [c0] = some y0 ∧ DataW.trod enc P w base spare held n f1.type [c1] = some y1 ∧ DataW.trod enc P w base spare held n f2.type [c2] = some y2 := by
  obtain ⟨y0, y1, y2, n, hx, _, h0, h1, h2⟩ := Go.Deep.trod_struct3 hs h
  obtain ⟨o0, k0⟩ := Go.Deep.hone_of hone 0 f0 rfl
  obtain ⟨o1, k1⟩ := Go.Deep.hone_of hone 1 f1 rfl
  obtain ⟨o2, k2⟩ := Go.Deep.hone_of hone 2 f2 rfl
  exact ⟨y0, y1, y2, n, by simpa [o0, k0] using h0, by simpa [o1, k1] using h1, by simpa [o2, k2] using h2⟩
theorem list_of {p : Nat → T3 → Prop} : ∀ n : Nat, (∀ i, i < n → ∃ b, p i b) → ∃ l : List T3, l.length = n ∧ ∀ i (h : i < l.length), p i l[i]
  | 0, _ => ⟨[], rfl, fun i h => by simp at h⟩
  | n + 1, h => by
    obtain ⟨l, hl, hp⟩ := list_of n fun i hi => h i (by omega)
    obtain ⟨b, hb⟩ := h n (by omega)
    refine ⟨l ++ [b], by simp [hl], fun i hi => ?_⟩
    by_cases e : i < l.length
    · rw [List.getElem_append_left e]; exact hp i e
    · have : i = n := by simp at hi; omega
      subst this
      rw [List.getElem_append_right (by omega)]
      simpa [hl] using hb


/-- Block b is a variable that holds three ints, of type T. -/
def VarT (T : TypeId) (w : World) (b : Nat) (s : T3) : Prop := w.heap[b]? = some (.cells #[.int .i64 s.1, .int .i64 s.2.1, .int .i64 s.2.2] T (0, 0))
theorem VarT.new (w : World) (s : T3) : VarT T (w.alloc (.cells #[.int .i64 s.1, .int .i64 s.2.1, .int .i64 s.2.2] T)) w.heap.size s := heap_alloc_new w _
theorem VarT.lt {w : World} {b : Nat} {s : T3} (h : VarT T w b s) : b < w.heap.size := (Array.getElem?_eq_some_iff.1 h).1
theorem VarT.below {w w' : World} {b : Nat} {s : T3} (h : VarT T w b s) (hb : Below w.heap.size w w') : VarT T w' b s := (hb.block b h.lt).trans h
theorem VarT.grown {w w' : World} {row : Option Nat} {b : Nat} {s : T3} (h : VarT T w b s) (hg : w.grownBy w' row) (hne : some b ≠ row) : VarT T w' b s := (hg.block b h.lt hne).trans h
theorem VarT.cells {w : World} {b : Nat} {s : T3} (h : VarT T w b s) : w.cell? ⟨b, 0, none⟩ = some (.int .i64 s.1) ∧ w.cell? ⟨b, 1, none⟩ = some (.int .i64 s.2.1) ∧ w.cell? ⟨b, 2, none⟩ = some (.int .i64 s.2.2) := by
  unfold VarT at h
  simp [World.cell?, h]
theorem VarT.free {w : World} {b : Nat} {s : T3} (h : VarT T w b s) (j : Nat) : w.frozen? ⟨b, j, none⟩ = false := by
  unfold VarT at h
  simp [World.frozen?, h]
theorem VarT.set2 {w : World} {b : Nat} {x y z : Int} (h : VarT T w b (x, y, z)) (u : Int) : VarT T (w.setCell ⟨b, 2, none⟩ (.int .i64 u)) b (x, y, u) := by
  unfold VarT at *
  rw [heap_set_at _ _ _ _ _ _ _ h]; rfl
theorem VarT.set3 {w : World} {b : Nat} {s : T3} (h : VarT T w b s) (x y z : Int) : VarT T (((w.setCell ⟨b, 0, none⟩ (.int .i64 x)).setCell ⟨b, 1, none⟩ (.int .i64 y)).setCell ⟨b, 2, none⟩ (.int .i64 z)) b (x, y, z) := by
  unfold VarT at *
  rw [heap_set_at _ _ _ _ _ _ _ (heap_set_at _ _ _ _ _ _ _ (heap_set_at _ _ _ _ _ _ _ h))]; rfl
theorem VarT.other {w : World} {b c j : Nat} {s : T3} {u : Value} (h : VarT T w b s) (hne : b ≠ c) : VarT T (w.setCell ⟨c, j, none⟩ u) b s :=
  h.grown (grown_set w c j u) (by simpa using hne)
theorem OwnT.at {w : World} {base n c : Nat} {a : Option Addr} {l : List T3} {j : Nat} (h : OwnT T w base (.slice a n c) l) (hj : j < l.length) : ∃ g, a = some ⟨g, 0, none⟩ ∧ base ≤ g ∧ g < w.heap.size := by
  obtain ⟨g, e, hg, _⟩ := h.row2.2 j hj
  subst e
  exact ⟨g, rfl, (h.lt g rfl).1, hg⟩
theorem T3.one (s : T3) : (s.1, s.2.1, s.2.2) = s := rfl
/-- Three ints as a value. -/
def agg (s : T3) : Value := .agg #[.int .i64 s.1, .int .i64 s.2.1, .int .i64 s.2.2]
end Go.Proofs.Ytmjknjgfcngacaa.Tri
