/- Texts of mine, laid into one (printed by wip/merge_tpl.py): BoxRow, BoxWith, BoxAdds, BoxWide, BoxWideImpl, BoxFor, BoxProp. -/
import Derived.Test.YtekmladindlmoaaBoxVar
import Derived.Deep.AppendLies
import Derived.Laws.MakeOwn
import Derived.Laws.OwnMore
import Derived.Deep.Slices
import Derived.Test.YtekmladindlmoaaFlipImpl
import Derived.Test.YtekmladindlmoaaBoxMath
import Derived.Test.YtekmladindlmoaaFlipWayImpl
import Derived.Test.YtekmladindlmoaaCardImpl2
import Derived.Test.YtekmladindlmoaaStripMany
import Derived.Test.YtekmladindlmoaaBoxesA
/- ROWS OF BOXES in memory; what laws.toBoxS, eqBoxS, markBoxS and heldBoxS return and leave alone. -/
namespace Go.Proofs.Ytekmladindlmoaa.Box
open Go.ChangeShapes Go.WideShapes Go.ChangeAt Go.RowKit Go.Sort
open Go.Proofs.Ytekmladindlmoaa.Strip Go.Proofs.Ytekmladindlmoaa.Strs Go.Proofs.Ytekmladindlmoaa.Card
set_option linter.unusedVariables false

/-- A box: First, Last, At. -/
abbrev B3 := Int × Int × Int
def bcell (b : B3) : List Value := [.int .i64 b.1, .int .i64 b.2.1, .int .i64 b.2.2]
def bcells (l : List B3) : List Value := l.flatMap bcell
theorem bcells_length : ∀ l : List B3, (bcells l).length = l.length * 3
  | [] => rfl
  | b :: l => by
    have := bcells_length l
    unfold bcells at *
    rw [List.flatMap_cons, List.length_append, this, List.length_cons]
    show 3 + _ = _
    omega
theorem bcells_append (l m : List B3) : bcells (l ++ m) = bcells l ++ bcells m := by unfold bcells; rw [List.flatMap_append]
theorem bcells_one (b : B3) : bcells [b] = bcell b := by unfold bcells; simp
theorem bcells_get : ∀ (l : List B3) (j : Nat) (h : j < l.length), (bcells l)[j * 3]? = some (.int .i64 l[j].1) ∧ (bcells l)[j * 3 + 1]? = some (.int .i64 l[j].2.1) ∧ (bcells l)[j * 3 + 2]? = some (.int .i64 l[j].2.2)
  | b :: l, 0, _ => ⟨rfl, rfl, rfl⟩
  | b :: l, j + 1, h => by
    have hj : j < l.length := by simpa using h
    have ih := bcells_get l j hj
    have e : ∀ q, (bcells (b :: l))[(j + 1) * 3 + q]? = (bcells l)[j * 3 + q]? := by
      intro q
      show (bcell b ++ bcells l)[(j + 1) * 3 + q]? = _
      rw [List.getElem?_append_right (by simp [bcell]; omega)]
      congr 1
      simp [bcell]; omega
    have e0 := e 0
    have e1 := e 1
    have e2 := e 2
    simp only [Nat.add_zero] at e0
    simp only [List.getElem_cons_succ]
    exact ⟨e0.trans ih.1, e1.trans ih.2.1, e2.trans ih.2.2⟩
theorem bcells_cell (l : List B3) : ∀ v ∈ bcells l, v.oneCell' = true := by
  intro v hv
  unfold bcells bcell at hv
  simp only [List.mem_flatMap, List.mem_cons, List.not_mem_nil, or_false] at hv
  obtain ⟨b, _, rfl | rfl | rfl⟩ := hv <;> rfl

/-- v is a slice of the boxes l; its block is none of those below base. -/
def OwnB (w : World) (base : Nat) (v : Value) (l : List B3) : Prop := w.ownsRow base 39 3 v l.length (bcells l)

/-- The first cells behind a are the boxes l. -/
def BRow (w : World) (a : Option Addr) (l : List B3) : Prop :=
  ∀ j (h : j < l.length), ∃ g, a = some ⟨g, 0, none⟩ ∧ g < w.heap.size ∧ w.cell? ⟨g, j * 3, none⟩ = some (.int .i64 l[j].1) ∧ w.cell? ⟨g, j * 3 + 1, none⟩ = some (.int .i64 l[j].2.1) ∧ w.cell? ⟨g, j * 3 + 2, none⟩ = some (.int .i64 l[j].2.2)

theorem BRow.of_block {w : World} {g : Nat} {cur : Array Value} {T : TypeId} {m : Nat × Nat} {l : List B3} (h : w.heap[g]? = some (.cells cur T m)) (ht : cur.toList.take (l.length * 3) = bcells l) : BRow w (some ⟨g, 0, none⟩) l := by
  intro j hj
  have e : ∀ q, q < 3 → w.cell? ⟨g, j * 3 + q, none⟩ = (bcells l)[j * 3 + q]? := by
    intro q hq
    have h2 : (cur.toList.take (l.length * 3))[j * 3 + q]? = (bcells l)[j * 3 + q]? := by rw [ht]
    rw [List.getElem?_take_of_lt (by omega)] at h2
    rw [← h2]
    simp [World.cell?, h]
  obtain ⟨h0, h1, h2⟩ := bcells_get l j hj
  have e0 := e 0 (by omega)
  simp only [Nat.add_zero] at e0
  exact ⟨g, rfl, (Array.getElem?_eq_some_iff.1 h).1, e0.trans h0, (e 1 (by omega)).trans h1, (e 2 (by omega)).trans h2⟩

theorem OwnB.row {w : World} {base : Nat} {v : Value} {l : List B3} (h : OwnB w base v l) : ∃ a cap, v = .slice a l.length cap ∧ BRow w a l ∧ l.length ≤ maxLen := by
  obtain ⟨hl, h1 | ⟨g, cap, cur, rfl, hg, hh, hnc, hcm, hcs, ht⟩⟩ := h
  · obtain ⟨rfl, h0⟩ := h1
    have hl0 : l = [] := by simpa using h0
    subst hl0
    exact ⟨none, 0, rfl, fun j hj => by simp at hj, Nat.zero_le _⟩
  · exact ⟨_, cap, rfl, BRow.of_block hh ht, by omega⟩
theorem OwnB.row2 {w : World} {base n c : Nat} {a : Option Addr} {l : List B3} (h : OwnB w base (.slice a n c) l) : n = l.length ∧ BRow w a l := by
  obtain ⟨a', c', e, hr, _⟩ := h.row
  cases e
  exact ⟨rfl, hr⟩
theorem BRow.below {w w' : World} {a : Option Addr} {l : List B3} (h : BRow w a l) (hb : Below w.heap.size w w') : BRow w' a l := by
  intro j hj
  obtain ⟨g, e, hg, h0, h1, h2⟩ := h j hj
  refine ⟨g, e, Nat.lt_of_lt_of_le hg hb.size, ?_, ?_, ?_⟩
  · rw [hb.cell (p := ⟨g, j * 3, none⟩) hg]; exact h0
  · rw [hb.cell (p := ⟨g, j * 3 + 1, none⟩) hg]; exact h1
  · rw [hb.cell (p := ⟨g, j * 3 + 2, none⟩) hg]; exact h2
theorem OwnB.nil (w : World) (base : Nat) : OwnB w base (.slice none 0 0) [] := World.ownsRow_nil w base _ _
theorem OwnB.below {w w' : World} {base : Nat} {v : Value} {l : List B3} (h : OwnB w base v l) (hb : Below w.heap.size w w') : OwnB w' base v l :=
  World.ownsRow.kept h (grown_below hb none) (by
    cases hb : v.ownBlock with
    | none => exact .inl rfl
    | some b => right; simp)
theorem OwnB.lt {w : World} {base : Nat} {v : Value} {l : List B3} (h : OwnB w base v l) : ∀ k, v.ownBlock = some k → base ≤ k ∧ k < w.heap.size := World.ownsRow.lt h
theorem OwnB.mono {w : World} {base base2 : Nat} {v : Value} {l : List B3} (h : OwnB w base v l) (hb : base2 ≤ base) : OwnB w base2 v l := by
  obtain ⟨hl, h1 | ⟨g, cap, cur, e, hg, rest⟩⟩ := h
  · exact ⟨hl, .inl h1⟩
  · exact ⟨hl, .inr ⟨g, cap, cur, e, by omega, rest⟩⟩
theorem OwnB.mark {w w' : World} {base : Nat} {v v2 : Value} {l : List B3} (h : OwnB w base v l) (hg : w.grownBy w' v2.ownBlock) (hne : ∀ k k2, v.ownBlock = some k → v2.ownBlock = some k2 → k ≠ k2) : OwnB w' base v l :=
  World.ownsRow.kept h hg (by
    cases hb : v.ownBlock with
    | none => exact .inl rfl
    | some b => right; exact fun e => hne b b hb e.symm rfl)
theorem OwnB.shape {w : World} {base n c : Nat} {a : Option Addr} {l : List B3} (h : OwnB w base (.slice a n c) l) : (a = none ∧ c = 0 ∧ l = []) ∨ ∃ g, a = some ⟨g, 0, none⟩ := by
  obtain ⟨_, h1 | ⟨g', cap', cur, e, _⟩⟩ := h
  · left
    obtain ⟨e, h0⟩ := h1
    cases e
    exact ⟨rfl, rfl, List.eq_nil_of_length_eq_zero h0⟩
  · right; cases e; exact ⟨_, rfl⟩
theorem OwnB.free {w : World} {base g n cap : Nat} {l : List B3} (h : OwnB w base (.slice (some ⟨g, 0, none⟩) n cap) l) (j : Nat) : w.frozen? ⟨g, j, none⟩ = false := by
  obtain ⟨hl, h1 | ⟨g', cap', cur, e, hg, hh, _⟩⟩ := h
  · cases h1.1
  · cases e; simp [World.frozen?, hh]
theorem OwnB.cell {w : World} {base g n cap j : Nat} {l : List B3} (h : OwnB w base (.slice (some ⟨g, 0, none⟩) n cap) l) (hj : j < l.length) : w.cell? ⟨g, j * 3, none⟩ = some (.int .i64 l[j].1) ∧ w.cell? ⟨g, j * 3 + 1, none⟩ = some (.int .i64 l[j].2.1) ∧ w.cell? ⟨g, j * 3 + 2, none⟩ = some (.int .i64 l[j].2.2) := by
  obtain ⟨a, c, e, hr, _⟩ := h.row
  cases e
  obtain ⟨g', e, _, hc⟩ := hr j hj
  cases e; exact hc

/-- Three cells of a row written, one after another. -/
theorem bcells_set (l : List B3) (j : Nat) (x y z : Int) (h : j < l.length) : (((bcells l).set (j * 3) (.int .i64 x)).set (j * 3 + 1) (.int .i64 y)).set (j * 3 + 2) (.int .i64 z) = bcells (l.set j (x, y, z)) := by
  induction l generalizing j with
  | nil => simp at h
  | cons b l ih =>
    cases j with
    | zero => rfl
    | succ j =>
      have hj : j < l.length := by simpa using h
      have e : ∀ (m : List Value) (q : Nat) (v : Value), (bcell b ++ m).set ((j + 1) * 3 + q) v = bcell b ++ m.set (j * 3 + q) v := by
        intro m q v
        rw [List.set_append_right _ _ (by simp [bcell]; omega)]
        congr 2
        simp [bcell]; omega
      show (((bcell b ++ bcells l).set ((j + 1) * 3 + 0) _).set ((j + 1) * 3 + 1) _).set ((j + 1) * 3 + 2) _ = bcell b ++ bcells (l.set j (x, y, z))
      rw [e, e, e]
      congr 1
      exact ih j hj
/-- The three cells of box j are written. -/
def setB (w : World) (g j : Nat) (x y z : Int) : World := ((w.setCell ⟨g, j * 3, none⟩ (.int .i64 x)).setCell ⟨g, j * 3 + 1, none⟩ (.int .i64 y)).setCell ⟨g, j * 3 + 2, none⟩ (.int .i64 z)
theorem grown_setB (w : World) (g j : Nat) (x y z : Int) : w.grownBy (setB w g j x y z) (some g) := grown_trans (grown_trans (grown_set _ _ _ _) (grown_set _ _ _ _)) (grown_set _ _ _ _)
theorem OwnB.set {w : World} {base g n cap j : Nat} {l : List B3} (x y z : Int) (h : OwnB w base (.slice (some ⟨g, 0, none⟩) n cap) l) (hj : j < l.length) :
    OwnB (setB w g j x y z) base (.slice (some ⟨g, 0, none⟩) n cap) (l.set j (x, y, z)) := by
  obtain ⟨hl, h1 | ⟨g', cap', cur, e, hg, hh, hnc, hcm, hcs, ht⟩⟩ := h
  · cases h1.1
  · cases e
    have h1 := heap_set_at _ _ (j * 3) _ _ _ (.int .i64 x) hh
    have h2 := heap_set_at _ _ (j * 3 + 1) _ _ _ (.int .i64 y) h1
    have h3 := heap_set_at _ _ (j * 3 + 2) _ _ _ (.int .i64 z) h2
    refine ⟨by rw [bcells_length], .inr ⟨g, cap, _, by rw [List.length_set], hg, h3, by rw [List.length_set]; exact hnc, hcm, by simp [hcs], ?_⟩⟩
    rw [Array.toList_setIfInBounds, Array.toList_setIfInBounds, Array.toList_setIfInBounds, List.length_set, List.take_set, List.take_set, List.take_set, ht]
    exact bcells_set l j x y z hj

theorem info_box : (Try.prog.info? 39).map (fun i => (i.zero, i.size, i.bytes)) = some (some (.agg #[.int .i64 0, .int .i64 0, .int .i64 0]), 3, 24) := by kernel_rfl
end Go.Proofs.Ytekmladindlmoaa.Box

/- What the program of chapter 11 returns: withBox, AddBox, TakeBox (printed by wip/gen_boxwith.py). -/
namespace Go.Proofs.Ytekmladindlmoaa.Box
open Go.ChangeShapes Go.WideShapes Go.ChangeAt Go.RowKit Go.Sort
open Go.Proofs.Ytekmladindlmoaa.Strip Go.Proofs.Ytekmladindlmoaa.Strs Go.Proofs.Ytekmladindlmoaa.Card Go.Proofs.Ytekmladindlmoaa.Corner Go.Proofs.Ytekmladindlmoaa.Kerf Go.Proofs.Ytekmladindlmoaa.Order Go.Proofs.Ytekmladindlmoaa.Flip
set_option linter.unusedVariables false

set_option maxRecDepth 100000 in
set_option maxHeartbeats 2000000 in
theorem withRaise_bad (d f : Int) (F L A : Int) (base n c : Nat) (a : Option Addr) (l : List ByteArray) (w : World) (hn : n ≤ 1048576) (h : Own w base (.slice a n c) l) (hz : ∀ s ∈ l, s.size ≤ 1048576) (hA0 : -9223372036854775808 ≤ A) (hA1 : A ≤ 9223372036854775807) (hbad : cardB d f l = false) :
    Calls Try.prog 53 #[.agg #[.int .i64 d, .int .i64 f, .slice a n c], .agg #[.int .i64 F, .int .i64 L, .int .i64 A], .func (.func 54) #[] #[]] w (Gave2 w d f l false) := by
  obtain ⟨W, hW, hv1, hv2, hv3, hb, hs0⟩ := beginCBR w d f (.slice a n c) F L A
  have hoW : Own W base (.slice a n c) l := by rw [hW]; exact ((h.below (alloc_below _ _)).below (alloc_below _ _)).below (alloc_below _ _)
  have HN := Lib.hid h.row2.1
  have HOW := Lib.hid hoW
  have HV1 := Lib.hid hv1
  have HV2 := Lib.hid hv2
  have HV3 := Lib.hid hv3
  have HB := Lib.hid hb
  have HS := Lib.hid hs0
  have HZ := Lib.hid hz
  have HW := Lib.hid hW
  have HLT := Lib.hid (fun b e => (h.lt b e).2)
  clear hv1 hv2 hv3 hb hs0 hz hW hoW h
  go_enter Try.func53, Try.ntmps53
  go_wp2_with fail
  rw [← HW.out]
  clear HW
  obtain ⟨k0, k1, k2⟩ := HV1.out.cells
  go_wp2_with fail
  refine (copy_impl d f base n c a l _ hn HOW.out).mono ?_
  rintro e w1 ⟨a2, c2, rfl, hb1, ho1⟩
  have HV1 := Lib.hid (HV1.out.below hb1)
  have HV2 := Lib.hid (HV2.out.below hb1)
  have HV3 := Lib.hid (HV3.out.below hb1)
  have HOW := Lib.hid (HOW.out.below hb1)
  have HB1 := Lib.hid (HB.out.trans (hb1.mono HB.out.size))
  have HO1 := Lib.hid (ho1.mono (base2 := w.heap.size) HB.out.size)
  have hs1 : w.heap.size + 3 ≤ w1.heap.size := by have := hb1.size; have := HS.out; omega
  clear hb1 k0 k1 k2 HB ho1
  have hv0 := Var.new w1 d f (.slice a2 l.length c2)
  have hb := alloc_below w1 (.cells #[.int .i64 d, .int .i64 f, .slice a2 l.length c2] 26)
  have HV1 := Lib.hid (HV1.out.below hb)
  have HV2 := Lib.hid (HV2.out.below hb)
  have HV3 := Lib.hid (HV3.out.below hb)
  have HO1 := Lib.hid (HO1.out.below hb)
  have HOW := Lib.hid (HOW.out.below hb)
  have HB1 := Lib.hid (HB1.out.trans (hb.mono HB1.out.size))
  have HV4 := Lib.hid hv0
  clear hv0 hb
  obtain ⟨k0, k1, k2⟩ := HV1.out.cells
  go_wp2_with fail
  clear k0 k1 k2
  generalize (w1.alloc (.cells #[.int .i64 d, .int .i64 f, .slice a2 l.length c2] 26)) = w2 at *
  generalize w1.heap.size = B4 at *
  refine (ok_impl d f a n c l _ HN.out.symm hn HZ.out HOW.out.row2.2).mono ?_
  rintro e w3 ⟨rfl, hb3⟩
  have HV1 := Lib.hid (HV1.out.below hb3)
  have HV2 := Lib.hid (HV2.out.below hb3)
  have HV3 := Lib.hid (HV3.out.below hb3)
  have HV4 := Lib.hid (HV4.out.below hb3)
  have HO3 := Lib.hid (HO1.out.below hb3)
  have HOW := Lib.hid (HOW.out.below hb3)
  have HB3 := Lib.hid (HB1.out.trans (hb3.mono HB1.out.size))
  clear hb3 HO1 HB1
  rw [hbad]
  obtain ⟨g0, g1, g2⟩ := HV4.out.cells
  have hx : ∃ Z, Z = Card.set3 w3 (w.heap.size + 2) d f (.slice a2 l.length c2) ∧ Var Z (w.heap.size + 2) d f (.slice a2 l.length c2) ∧ Below w.heap.size w Z ∧ Own Z w.heap.size (.slice a2 l.length c2) l := ⟨_, rfl, gave_last HB3.out HV3.out (by omega) HO3.out (Nat.le_refl _)⟩
  obtain ⟨Z, hZ, hz1, hz2, hz3⟩ := hx
  unfold set3 at hZ
  obtain ⟨p0, p1, p2⟩ := HV3.out.cells
  have f0 := HV3.out.free 0
  have f1 := HV3.out.free 1
  have f2 := HV3.out.free 2
  have HZZ := Lib.hid hZ
  have HZ1 := Lib.hid hz1
  have HZ2 := Lib.hid hz2
  have HZ3 := Lib.hid hz3
  clear hZ hz1 hz2 hz3
  go_wp2_with fail
  clear g0 g1 g2
  rw [← HZZ.out]
  clear HZZ p0 p1 p2 f0 f1 f2
  obtain ⟨z0, z1, z2⟩ := HZ1.out.cells
  refine bodyPost_ret (v := .tuple #[.agg #[.int .i64 d, .int .i64 f, .slice a2 l.length c2], .bool false]) (by simp [results, Try.results53, go_sem, z0, z1, z2]) rfl ?_
  exact ⟨_, c2, rfl, HZ2.out, HZ3.out⟩

set_option maxRecDepth 100000 in
set_option maxHeartbeats 2000000 in
theorem withRaise_out (d f : Int) (F L A : Int) (base n c : Nat) (a : Option Addr) (l : List ByteArray) (w : World) (hn : n ≤ 1048576) (h : Own w base (.slice a n c) l) (hz : ∀ s ∈ l, s.size ≤ 1048576) (hA0 : -9223372036854775808 ≤ A) (hA1 : A ≤ 9223372036854775807) (hcard : cardB d f l = true) (hout : ¬ (0 ≤ F ∧ F ≤ L ∧ L < (n : Int))) :
    Calls Try.prog 53 #[.agg #[.int .i64 d, .int .i64 f, .slice a n c], .agg #[.int .i64 F, .int .i64 L, .int .i64 A], .func (.func 54) #[] #[]] w (Gave2 w d f l false) := by
  obtain ⟨W, hW, hv1, hv2, hv3, hb, hs0⟩ := beginCBR w d f (.slice a n c) F L A
  have hoW : Own W base (.slice a n c) l := by rw [hW]; exact ((h.below (alloc_below _ _)).below (alloc_below _ _)).below (alloc_below _ _)
  have HN := Lib.hid h.row2.1
  have HOW := Lib.hid hoW
  have HV1 := Lib.hid hv1
  have HV2 := Lib.hid hv2
  have HV3 := Lib.hid hv3
  have HB := Lib.hid hb
  have HS := Lib.hid hs0
  have HZ := Lib.hid hz
  have HW := Lib.hid hW
  have HLT := Lib.hid (fun b e => (h.lt b e).2)
  clear hv1 hv2 hv3 hb hs0 hz hW hoW h
  have hd := decide_eq_false hout
  clear hout
  go_enter Try.func53, Try.ntmps53
  go_wp2_with fail
  rw [← HW.out]
  clear HW
  obtain ⟨k0, k1, k2⟩ := HV1.out.cells
  go_wp2_with fail
  refine (copy_impl d f base n c a l _ hn HOW.out).mono ?_
  rintro e w1 ⟨a2, c2, rfl, hb1, ho1⟩
  have HV1 := Lib.hid (HV1.out.below hb1)
  have HV2 := Lib.hid (HV2.out.below hb1)
  have HV3 := Lib.hid (HV3.out.below hb1)
  have HOW := Lib.hid (HOW.out.below hb1)
  have HB1 := Lib.hid (HB.out.trans (hb1.mono HB.out.size))
  have HO1 := Lib.hid (ho1.mono (base2 := w.heap.size) HB.out.size)
  have hs1 : w.heap.size + 3 ≤ w1.heap.size := by have := hb1.size; have := HS.out; omega
  clear hb1 k0 k1 k2 HB ho1
  have hv0 := Var.new w1 d f (.slice a2 l.length c2)
  have hb := alloc_below w1 (.cells #[.int .i64 d, .int .i64 f, .slice a2 l.length c2] 26)
  have HV1 := Lib.hid (HV1.out.below hb)
  have HV2 := Lib.hid (HV2.out.below hb)
  have HV3 := Lib.hid (HV3.out.below hb)
  have HO1 := Lib.hid (HO1.out.below hb)
  have HOW := Lib.hid (HOW.out.below hb)
  have HB1 := Lib.hid (HB1.out.trans (hb.mono HB1.out.size))
  have HV4 := Lib.hid hv0
  clear hv0 hb
  obtain ⟨k0, k1, k2⟩ := HV1.out.cells
  go_wp2_with fail
  clear k0 k1 k2
  generalize (w1.alloc (.cells #[.int .i64 d, .int .i64 f, .slice a2 l.length c2] 26)) = w2 at *
  generalize w1.heap.size = B4 at *
  refine (ok_impl d f a n c l _ HN.out.symm hn HZ.out HOW.out.row2.2).mono ?_
  rintro e w3 ⟨rfl, hb3⟩
  have HV1 := Lib.hid (HV1.out.below hb3)
  have HV2 := Lib.hid (HV2.out.below hb3)
  have HV3 := Lib.hid (HV3.out.below hb3)
  have HV4 := Lib.hid (HV4.out.below hb3)
  have HO3 := Lib.hid (HO1.out.below hb3)
  have HOW := Lib.hid (HOW.out.below hb3)
  have HB3 := Lib.hid (HB1.out.trans (hb3.mono HB1.out.size))
  clear hb3 HO1 HB1
  rw [hcard]
  obtain ⟨k0, k1, k2⟩ := HV1.out.cells
  obtain ⟨m0, m1, m2⟩ := HV2.out.cells
  go_wp2_with fail
  clear k0 k1 k2 m0 m1 m2
  refine (has_impl d f a n c F L A _ hn).mono ?_
  rintro e w4 ⟨rfl, hb4⟩
  rw [hd]
  clear hd
  have HV3 := Lib.hid (HV3.out.below hb4)
  have HV4 := Lib.hid (HV4.out.below hb4)
  have HO4 := Lib.hid (HO3.out.below hb4)
  have HB4 := Lib.hid (HB3.out.trans (hb4.mono HB3.out.size))
  clear hb4
  obtain ⟨g0, g1, g2⟩ := HV4.out.cells
  have hx : ∃ Z, Z = Card.set3 w4 (w.heap.size + 2) d f (.slice a2 l.length c2) ∧ Var Z (w.heap.size + 2) d f (.slice a2 l.length c2) ∧ Below w.heap.size w Z ∧ Own Z w.heap.size (.slice a2 l.length c2) l := ⟨_, rfl, gave_last HB4.out HV3.out (by omega) HO4.out (Nat.le_refl _)⟩
  obtain ⟨Z, hZ, hz1, hz2, hz3⟩ := hx
  unfold set3 at hZ
  obtain ⟨p0, p1, p2⟩ := HV3.out.cells
  have f0 := HV3.out.free 0
  have f1 := HV3.out.free 1
  have f2 := HV3.out.free 2
  have HZZ := Lib.hid hZ
  have HZ1 := Lib.hid hz1
  have HZ2 := Lib.hid hz2
  have HZ3 := Lib.hid hz3
  clear hZ hz1 hz2 hz3
  go_wp2_with fail
  clear g0 g1 g2
  rw [← HZZ.out]
  clear HZZ p0 p1 p2 f0 f1 f2
  obtain ⟨z0, z1, z2⟩ := HZ1.out.cells
  refine bodyPost_ret (v := .tuple #[.agg #[.int .i64 d, .int .i64 f, .slice a2 l.length c2], .bool false]) (by simp [results, Try.results53, go_sem, z0, z1, z2]) rfl ?_
  exact ⟨_, c2, rfl, HZ2.out, HZ3.out⟩

set_option maxRecDepth 100000 in
set_option maxHeartbeats 2000000 in
theorem withRaise_in (d f : Int) (i0 j0 : Nat) (A : Int) (base n c : Nat) (a : Option Addr) (l : List ByteArray) (w : World) (hn : n ≤ 1048576) (h : Own w base (.slice a n c) l) (hz : ∀ s ∈ l, s.size ≤ 1048576) (hA0 : -9223372036854775808 ≤ A) (hA1 : A ≤ 9223372036854775807) (hcard : cardB d f l = true) (hij : i0 ≤ j0) (hj : j0 < n) :
    Calls Try.prog 53 #[.agg #[.int .i64 d, .int .i64 f, .slice a n c], .agg #[.int .i64 (i0 : Int), .int .i64 (j0 : Int), .int .i64 A], .func (.func 54) #[] #[]] w (Gave2 w d f (boxL 100 d f l (i0 : Int) (j0 : Int) A) (boxB 100 d f l (i0 : Int) (j0 : Int) A)) := by
  obtain ⟨W, hW, hv1, hv2, hv3, hb, hs0⟩ := beginCBR w d f (.slice a n c) i0 j0 A
  have hoW : Own W base (.slice a n c) l := by rw [hW]; exact ((h.below (alloc_below _ _)).below (alloc_below _ _)).below (alloc_below _ _)
  have HN := Lib.hid h.row2.1
  have HOW := Lib.hid hoW
  have HV1 := Lib.hid hv1
  have HV2 := Lib.hid hv2
  have HV3 := Lib.hid hv3
  have HB := Lib.hid hb
  have HS := Lib.hid hs0
  have HZ := Lib.hid hz
  have HW := Lib.hid hW
  have HLT := Lib.hid (fun b e => (h.lt b e).2)
  clear hv1 hv2 hv3 hb hs0 hz hW hoW h
  have hd : decide ((0 : Int) ≤ (i0 : Int) ∧ (i0 : Int) ≤ (j0 : Int) ∧ (j0 : Int) < (n : Int)) = true := decide_eq_true (by omega)
  have hjn : (j0 : Int) < (n : Int) := by omega
  have HR := Lib.hid (rangeB_iff.2 ⟨hcard, (show (0 : Int) ≤ (i0 : Int) by omega), (show (i0 : Int) ≤ (j0 : Int) by omega), (show (j0 : Int) < (l.length : Int) by have := HN.out; omega)⟩)
  go_enter Try.func53, Try.ntmps53
  go_wp2_with fail
  rw [← HW.out]
  clear HW
  obtain ⟨k0, k1, k2⟩ := HV1.out.cells
  go_wp2_with fail
  refine (copy_impl d f base n c a l _ hn HOW.out).mono ?_
  rintro e w1 ⟨a2, c2, rfl, hb1, ho1⟩
  have HV1 := Lib.hid (HV1.out.below hb1)
  have HV2 := Lib.hid (HV2.out.below hb1)
  have HV3 := Lib.hid (HV3.out.below hb1)
  have HOW := Lib.hid (HOW.out.below hb1)
  have HB1 := Lib.hid (HB.out.trans (hb1.mono HB.out.size))
  have HO1 := Lib.hid (ho1.mono (base2 := w.heap.size) HB.out.size)
  have hs1 : w.heap.size + 3 ≤ w1.heap.size := by have := hb1.size; have := HS.out; omega
  clear hb1 k0 k1 k2 HB ho1
  have hv0 := Var.new w1 d f (.slice a2 l.length c2)
  have hb := alloc_below w1 (.cells #[.int .i64 d, .int .i64 f, .slice a2 l.length c2] 26)
  have HV1 := Lib.hid (HV1.out.below hb)
  have HV2 := Lib.hid (HV2.out.below hb)
  have HV3 := Lib.hid (HV3.out.below hb)
  have HO1 := Lib.hid (HO1.out.below hb)
  have HOW := Lib.hid (HOW.out.below hb)
  have HB1 := Lib.hid (HB1.out.trans (hb.mono HB1.out.size))
  have HV4 := Lib.hid hv0
  clear hv0 hb
  obtain ⟨k0, k1, k2⟩ := HV1.out.cells
  go_wp2_with fail
  clear k0 k1 k2
  generalize (w1.alloc (.cells #[.int .i64 d, .int .i64 f, .slice a2 l.length c2] 26)) = w2 at *
  generalize w1.heap.size = B4 at *
  refine (ok_impl d f a n c l _ HN.out.symm hn HZ.out HOW.out.row2.2).mono ?_
  rintro e w3 ⟨rfl, hb3⟩
  have HV1 := Lib.hid (HV1.out.below hb3)
  have HV2 := Lib.hid (HV2.out.below hb3)
  have HV3 := Lib.hid (HV3.out.below hb3)
  have HV4 := Lib.hid (HV4.out.below hb3)
  have HO3 := Lib.hid (HO1.out.below hb3)
  have HOW := Lib.hid (HOW.out.below hb3)
  have HB3 := Lib.hid (HB1.out.trans (hb3.mono HB1.out.size))
  clear hb3 HO1 HB1
  rw [hcard]
  clear hcard
  obtain ⟨k0, k1, k2⟩ := HV1.out.cells
  obtain ⟨m0, m1, m2⟩ := HV2.out.cells
  go_wp2_with fail
  refine (has_impl d f a n c (i0 : Int) (j0 : Int) A _ hn).mono ?_
  rintro e w4 ⟨rfl, hb4⟩
  rw [hd]
  clear hd k0 k1 k2 m0 m1 m2
  have HV1 := Lib.hid (HV1.out.below hb4)
  have HV2 := Lib.hid (HV2.out.below hb4)
  have HV3 := Lib.hid (HV3.out.below hb4)
  have HV4 := Lib.hid (HV4.out.below hb4)
  have HO4 := Lib.hid (HO3.out.below hb4)
  have HOW := Lib.hid (HOW.out.below hb4)
  have HB4 := Lib.hid (HB3.out.trans (hb4.mono HB3.out.size))
  clear hb4 HO3 HB3
  obtain ⟨m0, m1, m2⟩ := HV2.out.cells
  go_wp2_with fail
  clear m0 m1 m2
  have HP0 := Lib.hid (show Own w4 w.heap.size (.slice a2 l.length c2) (partL 100 A l i0 i0) by rw [partL_none _ _ _ _ _ (Nat.le_refl _)]; exact HO4.out)
  have HB4B := Lib.hid (show w.heap.size + 3 ≤ B4 by omega)
  clear hs1
  go_loopw [9] (fun i wr => ∃ k : Nat, i0 ≤ k ∧ k ≤ j0 + 1 ∧ i = .int .i64 (k : Int) ∧ Hid (Var wr w.heap.size d f (.slice a n c)) ∧ Hid (BVar wr (w.heap.size + 1) i0 j0 A) ∧ Hid (Var wr (w.heap.size + 2) 0 0 (.slice none 0 0)) ∧ Hid (Var wr B4 d f (.slice a2 l.length c2)) ∧ Hid (Own wr base (.slice a n c) l) ∧ Hid (Own wr w.heap.size (.slice a2 l.length c2) (partL 100 A l i0 k)) ∧ Hid (Below w.heap.size w wr) ∧ Hid (∀ m (hm : m < l.length), i0 ≤ m → m < k → cornerB 100 l[m].data.toList A = true)) (fun i _ => j0 + 1 - (intOf i).toNat)
  case atStart => exact ⟨i0, Nat.le_refl _, by omega, rfl, HV1, HV2, HV3, HV4, HOW, HP0, HB4, fun m _ h1 h2 => by omega⟩
  case round =>
    obtain ⟨k, hk0, hk, rfl, HV1, HV2, HV3, HV4, HOW, HO, HB, HG⟩ := hrel
    obtain ⟨m0, m1, m2⟩ := HV2.out.cells
    by_cases hlt : k < j0 + 1
    · have hk1 : decide ((k : Int) ≤ (j0 : Int)) = true := decide_eq_true (by omega)
      have hk2 : (0 : Int) ≤ (k : Int) := Int.natCast_nonneg _
      have hk3 : (k : Int) < (n : Int) := by omega
      have hk4 : k < n := by omega
      have hkl : k < l.length := by have := HN.out; omega
      obtain ⟨g, hg⟩ : ∃ g, a = some ⟨g, 0, none⟩ := by
        rcases HOW.out.shape with ⟨_, _, e⟩ | h
        · rw [e] at hkl; simp at hkl
        · exact h
      subst hg
      have HX := Lib.hid (fun (dd : Nat) (os : Array Obj) => Calls.regrown_of (raise_impl l[k] A (grow (redrawn wr dd) os) (HZ.out _ (List.getElem_mem hkl)) hA0 hA1))
      have hcell := cell_regrown (HOW.out.cell hkl)
      obtain ⟨k0, k1, k2⟩ := HV1.out.cells
      have k0 := cell_regrown k0
      have k1 := cell_regrown k1
      have k2 := cell_regrown k2
      obtain ⟨q0, q1, q2⟩ := HV2.out.cells
      have q0 := cell_regrown q0
      have q1 := cell_regrown q1
      have q2 := cell_regrown q2
      have HSET := Lib.hid (partL_set 100 A l i0 k hkl hk0)
      have HBAD := Lib.hid (fun hc => box_bad (x := 100) (d := d) (f := f) (i := i0) (j := j0) (A := A) k hkl hk0 hlt hc)
      have HNEXT := Lib.hid (fun (hc : cornerB 100 l[k].data.toList A = true) => show ∀ m (hm : m < l.length), i0 ≤ m → m < k + 1 → cornerB 100 l[m].data.toList A = true from fun m hm h1 h2 => by
        by_cases e : m = k
        · subst e; exact hc
        · exact HG.out m hm h1 (by omega))
      rw [chS_up] at HSET
      generalize l[k] = s at *
      go_wp2_with fail
      refine wp_region_quiet_below (by kernel_rfl) (by kernel_rfl) ?_
      repeat (go_big_quiet_step ((go_at_call 54; exact HX.out _ _)))
      refine wpQuiet_nil ?_
      intro _ hw'
      obtain ⟨⟨dq, osq⟩, hw''⟩ := hw'
      subst hw''
      have hbr := below_regrown wr dq osq
      have HV1 := Lib.hid (HV1.out.below hbr)
      have HV2 := Lib.hid (HV2.out.below hbr)
      have HV3 := Lib.hid (HV3.out.below hbr)
      have HV4 := Lib.hid (HV4.out.below hbr)
      have HOW := Lib.hid (HOW.out.below hbr)
      have HO := Lib.hid (HO.out.below hbr)
      have HB := Lib.hid (HB.out.trans (hbr.mono HB.out.size))
      clear hbr k0 k1 k2 q0 q1 q2 m0 m1 m2 hcell HX
      generalize (grow (redrawn wr dq) osq) = w5 at *
      cases hc : cornerB 100 s.data.toList A with
      | true =>
        have HC := Lib.hid (HNEXT.out hc)
        clear hc HBAD HNEXT HG
        have hkp : k < (partL 100 A l i0 k).length := by rw [partL_length]; exact hkl
        have hsh : ∃ g2, a2 = some ⟨g2, 0, none⟩ := by
          rcases HO.out.shape with ⟨_, _, e⟩ | h
          · rw [e] at hkp; simp at hkp
          · exact h
        obtain ⟨g2, rfl⟩ := hsh
        have hcell := HO.out.cell hkp
        have hfree := HO.out.free k
        have hkl2 : (k : Int) < (l.length : Int) := by omega
        generalize (partL 100 A l i0 k)[k]'_ = old at hcell
        have ho2 := HO.out.set (raiseS s A) hkp
        rw [HSET.out] at ho2
        have HO2 := Lib.hid ho2
        have hg := grown_set w5 g2 k (.string (raiseS s A))
        have HV1 := Lib.hid (HV1.out.written HO.out hg)
        have HV2 := Lib.hid (HV2.out.written HO.out hg)
        have HV3 := Lib.hid (HV3.out.written HO.out hg)
        have HV6 := Lib.hid (HV4.out.written HO.out hg)
        have HOW := Lib.hid (HOW.out.apart HO.out HLT.out hg)
        have HB6 := Lib.hid (HO.out.write_below HB.out (Nat.le_refl _) HB.out.size hg)
        obtain ⟨r0, r1, r2⟩ := HV4.out.cells
        clear hg HB HO ho2 HV4 hkp HSET
        go_wp2_with fail
        clear r0 r1 r2 hcell hfree
        generalize (w5.setCell ⟨g2, k, none⟩ (.string (raiseS s A))) = w6 at *
        go_roundw
        case rel => exact ⟨k + 1, by omega, by omega, by go_num, HV1, HV2, HV3, HV6, HOW, HO2, HB6, HC⟩
        case measure => simp [intOf]; omega
      | false =>
        have HE := Lib.hid (HBAD.out hc)
        clear HBAD HNEXT HSET HO HV4 hc
        obtain ⟨k0, k1, k2⟩ := HV1.out.cells
        go_wp2_with fail
        clear k0 k1 k2
        refine (copy_impl d f base n c (some ⟨g, 0, none⟩) l _ hn HOW.out).mono ?_
        rintro e w7 ⟨a7, c7, rfl, hb7, ho7⟩
        have HV3 := Lib.hid (HV3.out.below hb7)
        have HB7 := Lib.hid (HB.out.trans (hb7.mono HB.out.size))
        have HO7 := Lib.hid (ho7.mono (base2 := w.heap.size) HB.out.size)
        clear hb7 ho7
        have hx : ∃ Z, Z = Card.set3 w7 (w.heap.size + 2) d f (.slice a7 l.length c7) ∧ Var Z (w.heap.size + 2) d f (.slice a7 l.length c7) ∧ Below w.heap.size w Z ∧ Own Z w.heap.size (.slice a7 l.length c7) l := ⟨_, rfl, gave_last HB7.out HV3.out (by omega) HO7.out (Nat.le_refl _)⟩
        obtain ⟨Z, hZ, hz1, hz2, hz3⟩ := hx
        unfold set3 at hZ
        obtain ⟨p0, p1, p2⟩ := HV3.out.cells
        have f0 := HV3.out.free 0
        have f1 := HV3.out.free 1
        have f2 := HV3.out.free 2
        have HZZ := Lib.hid hZ
        have HZ1 := Lib.hid hz1
        have HZ2 := Lib.hid hz2
        have HZ3 := Lib.hid hz3
        clear hZ hz1 hz2 hz3
        go_wp2_with fail
        skip
        rw [← HZZ.out]
        clear HZZ p0 p1 p2 f0 f1 f2
        obtain ⟨z0, z1, z2⟩ := HZ1.out.cells
        refine bodyPost_ret (v := .tuple #[.agg #[.int .i64 d, .int .i64 f, .slice a7 l.length c7], .bool false]) (by simp [results, Try.results53, go_sem, z0, z1, z2]) rfl ?_
        rw [HE.out.1, HE.out.2]; exact ⟨_, c7, rfl, HZ2.out, HZ3.out⟩
    · obtain rfl : k = j0 + 1 := by omega
      have HE := Lib.hid (box_good HR.out HG.out)
      have HLN := Lib.hid (partL_length 100 A l i0 (j0 + 1))
      have HOZ := Lib.hid (show Own wr w.heap.size (.slice a2 (partL 100 A l i0 (j0 + 1)).length c2) (partL 100 A l i0 (j0 + 1)) by rw [HLN.out]; exact HO.out)
      have hv4 := HV4.out
      rw [← HLN.out] at hv4
      have hk1 : ¬ (j0 + 1 ≤ j0) := by omega
      clear HO HG HV4
      generalize (partL 100 A l i0 (j0 + 1)) = l5 at *
      have HV4 := Lib.hid hv4
      clear hv4
      obtain ⟨g0, g1, g2⟩ := HV4.out.cells
      have hx : ∃ Z, Z = Card.set3 wr (w.heap.size + 2) d f (.slice a2 l5.length c2) ∧ Var Z (w.heap.size + 2) d f (.slice a2 l5.length c2) ∧ Below w.heap.size w Z ∧ Own Z w.heap.size (.slice a2 l5.length c2) l5 := ⟨_, rfl, gave_last HB.out HV3.out (by omega) HOZ.out (Nat.le_refl _)⟩
      obtain ⟨Z, hZ, hz1, hz2, hz3⟩ := hx
      unfold set3 at hZ
      obtain ⟨p0, p1, p2⟩ := HV3.out.cells
      have f0 := HV3.out.free 0
      have f1 := HV3.out.free 1
      have f2 := HV3.out.free 2
      have HZZ := Lib.hid hZ
      have HZ1 := Lib.hid hz1
      have HZ2 := Lib.hid hz2
      have HZ3 := Lib.hid hz3
      clear hZ hz1 hz2 hz3
      go_wp2_with fail
      clear g0 g1 g2
      rw [← HZZ.out]
      clear HZZ p0 p1 p2 f0 f1 f2
      obtain ⟨z0, z1, z2⟩ := HZ1.out.cells
      refine bodyPost_ret (v := .tuple #[.agg #[.int .i64 d, .int .i64 f, .slice a2 l5.length c2], .bool true]) (by simp [results, Try.results53, go_sem, z0, z1, z2]) rfl ?_
      rw [HE.out.1, HE.out.2]; exact ⟨_, c2, rfl, HZ2.out, HZ3.out⟩

set_option maxRecDepth 100000 in
set_option maxHeartbeats 2000000 in
theorem withLower_bad (d f : Int) (F L A : Int) (base n c : Nat) (a : Option Addr) (l : List ByteArray) (w : World) (hn : n ≤ 1048576) (h : Own w base (.slice a n c) l) (hz : ∀ s ∈ l, s.size ≤ 1048576) (hA0 : -9223372036854775808 ≤ A) (hA1 : A ≤ 9223372036854775807) (hbad : cardB d f l = false) :
    Calls Try.prog 53 #[.agg #[.int .i64 d, .int .i64 f, .slice a n c], .agg #[.int .i64 F, .int .i64 L, .int .i64 A], .func (.func 55) #[] #[]] w (Gave2 w d f l false) := by
  obtain ⟨W, hW, hv1, hv2, hv3, hb, hs0⟩ := beginCBR w d f (.slice a n c) F L A
  have hoW : Own W base (.slice a n c) l := by rw [hW]; exact ((h.below (alloc_below _ _)).below (alloc_below _ _)).below (alloc_below _ _)
  have HN := Lib.hid h.row2.1
  have HOW := Lib.hid hoW
  have HV1 := Lib.hid hv1
  have HV2 := Lib.hid hv2
  have HV3 := Lib.hid hv3
  have HB := Lib.hid hb
  have HS := Lib.hid hs0
  have HZ := Lib.hid hz
  have HW := Lib.hid hW
  have HLT := Lib.hid (fun b e => (h.lt b e).2)
  clear hv1 hv2 hv3 hb hs0 hz hW hoW h
  go_enter Try.func53, Try.ntmps53
  go_wp2_with fail
  rw [← HW.out]
  clear HW
  obtain ⟨k0, k1, k2⟩ := HV1.out.cells
  go_wp2_with fail
  refine (copy_impl d f base n c a l _ hn HOW.out).mono ?_
  rintro e w1 ⟨a2, c2, rfl, hb1, ho1⟩
  have HV1 := Lib.hid (HV1.out.below hb1)
  have HV2 := Lib.hid (HV2.out.below hb1)
  have HV3 := Lib.hid (HV3.out.below hb1)
  have HOW := Lib.hid (HOW.out.below hb1)
  have HB1 := Lib.hid (HB.out.trans (hb1.mono HB.out.size))
  have HO1 := Lib.hid (ho1.mono (base2 := w.heap.size) HB.out.size)
  have hs1 : w.heap.size + 3 ≤ w1.heap.size := by have := hb1.size; have := HS.out; omega
  clear hb1 k0 k1 k2 HB ho1
  have hv0 := Var.new w1 d f (.slice a2 l.length c2)
  have hb := alloc_below w1 (.cells #[.int .i64 d, .int .i64 f, .slice a2 l.length c2] 26)
  have HV1 := Lib.hid (HV1.out.below hb)
  have HV2 := Lib.hid (HV2.out.below hb)
  have HV3 := Lib.hid (HV3.out.below hb)
  have HO1 := Lib.hid (HO1.out.below hb)
  have HOW := Lib.hid (HOW.out.below hb)
  have HB1 := Lib.hid (HB1.out.trans (hb.mono HB1.out.size))
  have HV4 := Lib.hid hv0
  clear hv0 hb
  obtain ⟨k0, k1, k2⟩ := HV1.out.cells
  go_wp2_with fail
  clear k0 k1 k2
  generalize (w1.alloc (.cells #[.int .i64 d, .int .i64 f, .slice a2 l.length c2] 26)) = w2 at *
  generalize w1.heap.size = B4 at *
  refine (ok_impl d f a n c l _ HN.out.symm hn HZ.out HOW.out.row2.2).mono ?_
  rintro e w3 ⟨rfl, hb3⟩
  have HV1 := Lib.hid (HV1.out.below hb3)
  have HV2 := Lib.hid (HV2.out.below hb3)
  have HV3 := Lib.hid (HV3.out.below hb3)
  have HV4 := Lib.hid (HV4.out.below hb3)
  have HO3 := Lib.hid (HO1.out.below hb3)
  have HOW := Lib.hid (HOW.out.below hb3)
  have HB3 := Lib.hid (HB1.out.trans (hb3.mono HB1.out.size))
  clear hb3 HO1 HB1
  rw [hbad]
  obtain ⟨g0, g1, g2⟩ := HV4.out.cells
  have hx : ∃ Z, Z = Card.set3 w3 (w.heap.size + 2) d f (.slice a2 l.length c2) ∧ Var Z (w.heap.size + 2) d f (.slice a2 l.length c2) ∧ Below w.heap.size w Z ∧ Own Z w.heap.size (.slice a2 l.length c2) l := ⟨_, rfl, gave_last HB3.out HV3.out (by omega) HO3.out (Nat.le_refl _)⟩
  obtain ⟨Z, hZ, hz1, hz2, hz3⟩ := hx
  unfold set3 at hZ
  obtain ⟨p0, p1, p2⟩ := HV3.out.cells
  have f0 := HV3.out.free 0
  have f1 := HV3.out.free 1
  have f2 := HV3.out.free 2
  have HZZ := Lib.hid hZ
  have HZ1 := Lib.hid hz1
  have HZ2 := Lib.hid hz2
  have HZ3 := Lib.hid hz3
  clear hZ hz1 hz2 hz3
  go_wp2_with fail
  clear g0 g1 g2
  rw [← HZZ.out]
  clear HZZ p0 p1 p2 f0 f1 f2
  obtain ⟨z0, z1, z2⟩ := HZ1.out.cells
  refine bodyPost_ret (v := .tuple #[.agg #[.int .i64 d, .int .i64 f, .slice a2 l.length c2], .bool false]) (by simp [results, Try.results53, go_sem, z0, z1, z2]) rfl ?_
  exact ⟨_, c2, rfl, HZ2.out, HZ3.out⟩

set_option maxRecDepth 100000 in
set_option maxHeartbeats 2000000 in
theorem withLower_out (d f : Int) (F L A : Int) (base n c : Nat) (a : Option Addr) (l : List ByteArray) (w : World) (hn : n ≤ 1048576) (h : Own w base (.slice a n c) l) (hz : ∀ s ∈ l, s.size ≤ 1048576) (hA0 : -9223372036854775808 ≤ A) (hA1 : A ≤ 9223372036854775807) (hcard : cardB d f l = true) (hout : ¬ (0 ≤ F ∧ F ≤ L ∧ L < (n : Int))) :
    Calls Try.prog 53 #[.agg #[.int .i64 d, .int .i64 f, .slice a n c], .agg #[.int .i64 F, .int .i64 L, .int .i64 A], .func (.func 55) #[] #[]] w (Gave2 w d f l false) := by
  obtain ⟨W, hW, hv1, hv2, hv3, hb, hs0⟩ := beginCBR w d f (.slice a n c) F L A
  have hoW : Own W base (.slice a n c) l := by rw [hW]; exact ((h.below (alloc_below _ _)).below (alloc_below _ _)).below (alloc_below _ _)
  have HN := Lib.hid h.row2.1
  have HOW := Lib.hid hoW
  have HV1 := Lib.hid hv1
  have HV2 := Lib.hid hv2
  have HV3 := Lib.hid hv3
  have HB := Lib.hid hb
  have HS := Lib.hid hs0
  have HZ := Lib.hid hz
  have HW := Lib.hid hW
  have HLT := Lib.hid (fun b e => (h.lt b e).2)
  clear hv1 hv2 hv3 hb hs0 hz hW hoW h
  have hd := decide_eq_false hout
  clear hout
  go_enter Try.func53, Try.ntmps53
  go_wp2_with fail
  rw [← HW.out]
  clear HW
  obtain ⟨k0, k1, k2⟩ := HV1.out.cells
  go_wp2_with fail
  refine (copy_impl d f base n c a l _ hn HOW.out).mono ?_
  rintro e w1 ⟨a2, c2, rfl, hb1, ho1⟩
  have HV1 := Lib.hid (HV1.out.below hb1)
  have HV2 := Lib.hid (HV2.out.below hb1)
  have HV3 := Lib.hid (HV3.out.below hb1)
  have HOW := Lib.hid (HOW.out.below hb1)
  have HB1 := Lib.hid (HB.out.trans (hb1.mono HB.out.size))
  have HO1 := Lib.hid (ho1.mono (base2 := w.heap.size) HB.out.size)
  have hs1 : w.heap.size + 3 ≤ w1.heap.size := by have := hb1.size; have := HS.out; omega
  clear hb1 k0 k1 k2 HB ho1
  have hv0 := Var.new w1 d f (.slice a2 l.length c2)
  have hb := alloc_below w1 (.cells #[.int .i64 d, .int .i64 f, .slice a2 l.length c2] 26)
  have HV1 := Lib.hid (HV1.out.below hb)
  have HV2 := Lib.hid (HV2.out.below hb)
  have HV3 := Lib.hid (HV3.out.below hb)
  have HO1 := Lib.hid (HO1.out.below hb)
  have HOW := Lib.hid (HOW.out.below hb)
  have HB1 := Lib.hid (HB1.out.trans (hb.mono HB1.out.size))
  have HV4 := Lib.hid hv0
  clear hv0 hb
  obtain ⟨k0, k1, k2⟩ := HV1.out.cells
  go_wp2_with fail
  clear k0 k1 k2
  generalize (w1.alloc (.cells #[.int .i64 d, .int .i64 f, .slice a2 l.length c2] 26)) = w2 at *
  generalize w1.heap.size = B4 at *
  refine (ok_impl d f a n c l _ HN.out.symm hn HZ.out HOW.out.row2.2).mono ?_
  rintro e w3 ⟨rfl, hb3⟩
  have HV1 := Lib.hid (HV1.out.below hb3)
  have HV2 := Lib.hid (HV2.out.below hb3)
  have HV3 := Lib.hid (HV3.out.below hb3)
  have HV4 := Lib.hid (HV4.out.below hb3)
  have HO3 := Lib.hid (HO1.out.below hb3)
  have HOW := Lib.hid (HOW.out.below hb3)
  have HB3 := Lib.hid (HB1.out.trans (hb3.mono HB1.out.size))
  clear hb3 HO1 HB1
  rw [hcard]
  obtain ⟨k0, k1, k2⟩ := HV1.out.cells
  obtain ⟨m0, m1, m2⟩ := HV2.out.cells
  go_wp2_with fail
  clear k0 k1 k2 m0 m1 m2
  refine (has_impl d f a n c F L A _ hn).mono ?_
  rintro e w4 ⟨rfl, hb4⟩
  rw [hd]
  clear hd
  have HV3 := Lib.hid (HV3.out.below hb4)
  have HV4 := Lib.hid (HV4.out.below hb4)
  have HO4 := Lib.hid (HO3.out.below hb4)
  have HB4 := Lib.hid (HB3.out.trans (hb4.mono HB3.out.size))
  clear hb4
  obtain ⟨g0, g1, g2⟩ := HV4.out.cells
  have hx : ∃ Z, Z = Card.set3 w4 (w.heap.size + 2) d f (.slice a2 l.length c2) ∧ Var Z (w.heap.size + 2) d f (.slice a2 l.length c2) ∧ Below w.heap.size w Z ∧ Own Z w.heap.size (.slice a2 l.length c2) l := ⟨_, rfl, gave_last HB4.out HV3.out (by omega) HO4.out (Nat.le_refl _)⟩
  obtain ⟨Z, hZ, hz1, hz2, hz3⟩ := hx
  unfold set3 at hZ
  obtain ⟨p0, p1, p2⟩ := HV3.out.cells
  have f0 := HV3.out.free 0
  have f1 := HV3.out.free 1
  have f2 := HV3.out.free 2
  have HZZ := Lib.hid hZ
  have HZ1 := Lib.hid hz1
  have HZ2 := Lib.hid hz2
  have HZ3 := Lib.hid hz3
  clear hZ hz1 hz2 hz3
  go_wp2_with fail
  clear g0 g1 g2
  rw [← HZZ.out]
  clear HZZ p0 p1 p2 f0 f1 f2
  obtain ⟨z0, z1, z2⟩ := HZ1.out.cells
  refine bodyPost_ret (v := .tuple #[.agg #[.int .i64 d, .int .i64 f, .slice a2 l.length c2], .bool false]) (by simp [results, Try.results53, go_sem, z0, z1, z2]) rfl ?_
  exact ⟨_, c2, rfl, HZ2.out, HZ3.out⟩

set_option maxRecDepth 100000 in
set_option maxHeartbeats 2000000 in
theorem withLower_in (d f : Int) (i0 j0 : Nat) (A : Int) (base n c : Nat) (a : Option Addr) (l : List ByteArray) (w : World) (hn : n ≤ 1048576) (h : Own w base (.slice a n c) l) (hz : ∀ s ∈ l, s.size ≤ 1048576) (hA0 : -9223372036854775808 ≤ A) (hA1 : A ≤ 9223372036854775807) (hcard : cardB d f l = true) (hij : i0 ≤ j0) (hj : j0 < n) :
    Calls Try.prog 53 #[.agg #[.int .i64 d, .int .i64 f, .slice a n c], .agg #[.int .i64 (i0 : Int), .int .i64 (j0 : Int), .int .i64 A], .func (.func 55) #[] #[]] w (Gave2 w d f (boxL 102 d f l (i0 : Int) (j0 : Int) A) (boxB 102 d f l (i0 : Int) (j0 : Int) A)) := by
  obtain ⟨W, hW, hv1, hv2, hv3, hb, hs0⟩ := beginCBR w d f (.slice a n c) i0 j0 A
  have hoW : Own W base (.slice a n c) l := by rw [hW]; exact ((h.below (alloc_below _ _)).below (alloc_below _ _)).below (alloc_below _ _)
  have HN := Lib.hid h.row2.1
  have HOW := Lib.hid hoW
  have HV1 := Lib.hid hv1
  have HV2 := Lib.hid hv2
  have HV3 := Lib.hid hv3
  have HB := Lib.hid hb
  have HS := Lib.hid hs0
  have HZ := Lib.hid hz
  have HW := Lib.hid hW
  have HLT := Lib.hid (fun b e => (h.lt b e).2)
  clear hv1 hv2 hv3 hb hs0 hz hW hoW h
  have hd : decide ((0 : Int) ≤ (i0 : Int) ∧ (i0 : Int) ≤ (j0 : Int) ∧ (j0 : Int) < (n : Int)) = true := decide_eq_true (by omega)
  have hjn : (j0 : Int) < (n : Int) := by omega
  have HR := Lib.hid (rangeB_iff.2 ⟨hcard, (show (0 : Int) ≤ (i0 : Int) by omega), (show (i0 : Int) ≤ (j0 : Int) by omega), (show (j0 : Int) < (l.length : Int) by have := HN.out; omega)⟩)
  go_enter Try.func53, Try.ntmps53
  go_wp2_with fail
  rw [← HW.out]
  clear HW
  obtain ⟨k0, k1, k2⟩ := HV1.out.cells
  go_wp2_with fail
  refine (copy_impl d f base n c a l _ hn HOW.out).mono ?_
  rintro e w1 ⟨a2, c2, rfl, hb1, ho1⟩
  have HV1 := Lib.hid (HV1.out.below hb1)
  have HV2 := Lib.hid (HV2.out.below hb1)
  have HV3 := Lib.hid (HV3.out.below hb1)
  have HOW := Lib.hid (HOW.out.below hb1)
  have HB1 := Lib.hid (HB.out.trans (hb1.mono HB.out.size))
  have HO1 := Lib.hid (ho1.mono (base2 := w.heap.size) HB.out.size)
  have hs1 : w.heap.size + 3 ≤ w1.heap.size := by have := hb1.size; have := HS.out; omega
  clear hb1 k0 k1 k2 HB ho1
  have hv0 := Var.new w1 d f (.slice a2 l.length c2)
  have hb := alloc_below w1 (.cells #[.int .i64 d, .int .i64 f, .slice a2 l.length c2] 26)
  have HV1 := Lib.hid (HV1.out.below hb)
  have HV2 := Lib.hid (HV2.out.below hb)
  have HV3 := Lib.hid (HV3.out.below hb)
  have HO1 := Lib.hid (HO1.out.below hb)
  have HOW := Lib.hid (HOW.out.below hb)
  have HB1 := Lib.hid (HB1.out.trans (hb.mono HB1.out.size))
  have HV4 := Lib.hid hv0
  clear hv0 hb
  obtain ⟨k0, k1, k2⟩ := HV1.out.cells
  go_wp2_with fail
  clear k0 k1 k2
  generalize (w1.alloc (.cells #[.int .i64 d, .int .i64 f, .slice a2 l.length c2] 26)) = w2 at *
  generalize w1.heap.size = B4 at *
  refine (ok_impl d f a n c l _ HN.out.symm hn HZ.out HOW.out.row2.2).mono ?_
  rintro e w3 ⟨rfl, hb3⟩
  have HV1 := Lib.hid (HV1.out.below hb3)
  have HV2 := Lib.hid (HV2.out.below hb3)
  have HV3 := Lib.hid (HV3.out.below hb3)
  have HV4 := Lib.hid (HV4.out.below hb3)
  have HO3 := Lib.hid (HO1.out.below hb3)
  have HOW := Lib.hid (HOW.out.below hb3)
  have HB3 := Lib.hid (HB1.out.trans (hb3.mono HB1.out.size))
  clear hb3 HO1 HB1
  rw [hcard]
  clear hcard
  obtain ⟨k0, k1, k2⟩ := HV1.out.cells
  obtain ⟨m0, m1, m2⟩ := HV2.out.cells
  go_wp2_with fail
  refine (has_impl d f a n c (i0 : Int) (j0 : Int) A _ hn).mono ?_
  rintro e w4 ⟨rfl, hb4⟩
  rw [hd]
  clear hd k0 k1 k2 m0 m1 m2
  have HV1 := Lib.hid (HV1.out.below hb4)
  have HV2 := Lib.hid (HV2.out.below hb4)
  have HV3 := Lib.hid (HV3.out.below hb4)
  have HV4 := Lib.hid (HV4.out.below hb4)
  have HO4 := Lib.hid (HO3.out.below hb4)
  have HOW := Lib.hid (HOW.out.below hb4)
  have HB4 := Lib.hid (HB3.out.trans (hb4.mono HB3.out.size))
  clear hb4 HO3 HB3
  obtain ⟨m0, m1, m2⟩ := HV2.out.cells
  go_wp2_with fail
  clear m0 m1 m2
  have HP0 := Lib.hid (show Own w4 w.heap.size (.slice a2 l.length c2) (partL 102 A l i0 i0) by rw [partL_none _ _ _ _ _ (Nat.le_refl _)]; exact HO4.out)
  have HB4B := Lib.hid (show w.heap.size + 3 ≤ B4 by omega)
  clear hs1
  go_loopw [9] (fun i wr => ∃ k : Nat, i0 ≤ k ∧ k ≤ j0 + 1 ∧ i = .int .i64 (k : Int) ∧ Hid (Var wr w.heap.size d f (.slice a n c)) ∧ Hid (BVar wr (w.heap.size + 1) i0 j0 A) ∧ Hid (Var wr (w.heap.size + 2) 0 0 (.slice none 0 0)) ∧ Hid (Var wr B4 d f (.slice a2 l.length c2)) ∧ Hid (Own wr base (.slice a n c) l) ∧ Hid (Own wr w.heap.size (.slice a2 l.length c2) (partL 102 A l i0 k)) ∧ Hid (Below w.heap.size w wr) ∧ Hid (∀ m (hm : m < l.length), i0 ≤ m → m < k → cornerB 102 l[m].data.toList A = true)) (fun i _ => j0 + 1 - (intOf i).toNat)
  case atStart => exact ⟨i0, Nat.le_refl _, by omega, rfl, HV1, HV2, HV3, HV4, HOW, HP0, HB4, fun m _ h1 h2 => by omega⟩
  case round =>
    obtain ⟨k, hk0, hk, rfl, HV1, HV2, HV3, HV4, HOW, HO, HB, HG⟩ := hrel
    obtain ⟨m0, m1, m2⟩ := HV2.out.cells
    by_cases hlt : k < j0 + 1
    · have hk1 : decide ((k : Int) ≤ (j0 : Int)) = true := decide_eq_true (by omega)
      have hk2 : (0 : Int) ≤ (k : Int) := Int.natCast_nonneg _
      have hk3 : (k : Int) < (n : Int) := by omega
      have hk4 : k < n := by omega
      have hkl : k < l.length := by have := HN.out; omega
      obtain ⟨g, hg⟩ : ∃ g, a = some ⟨g, 0, none⟩ := by
        rcases HOW.out.shape with ⟨_, _, e⟩ | h
        · rw [e] at hkl; simp at hkl
        · exact h
      subst hg
      have HX := Lib.hid (fun (dd : Nat) (os : Array Obj) => Calls.regrown_of (lower_impl l[k] A (grow (redrawn wr dd) os) (HZ.out _ (List.getElem_mem hkl)) hA0 hA1))
      have hcell := cell_regrown (HOW.out.cell hkl)
      obtain ⟨k0, k1, k2⟩ := HV1.out.cells
      have k0 := cell_regrown k0
      have k1 := cell_regrown k1
      have k2 := cell_regrown k2
      obtain ⟨q0, q1, q2⟩ := HV2.out.cells
      have q0 := cell_regrown q0
      have q1 := cell_regrown q1
      have q2 := cell_regrown q2
      have HSET := Lib.hid (partL_set 102 A l i0 k hkl hk0)
      have HBAD := Lib.hid (fun hc => box_bad (x := 102) (d := d) (f := f) (i := i0) (j := j0) (A := A) k hkl hk0 hlt hc)
      have HNEXT := Lib.hid (fun (hc : cornerB 102 l[k].data.toList A = true) => show ∀ m (hm : m < l.length), i0 ≤ m → m < k + 1 → cornerB 102 l[m].data.toList A = true from fun m hm h1 h2 => by
        by_cases e : m = k
        · subst e; exact hc
        · exact HG.out m hm h1 (by omega))
      rw [chS_low] at HSET
      generalize l[k] = s at *
      go_wp2_with fail
      refine wp_region_quiet_below (by kernel_rfl) (by kernel_rfl) ?_
      repeat (go_big_quiet_step ((go_at_call 55; exact HX.out _ _)))
      refine wpQuiet_nil ?_
      intro _ hw'
      obtain ⟨⟨dq, osq⟩, hw''⟩ := hw'
      subst hw''
      have hbr := below_regrown wr dq osq
      have HV1 := Lib.hid (HV1.out.below hbr)
      have HV2 := Lib.hid (HV2.out.below hbr)
      have HV3 := Lib.hid (HV3.out.below hbr)
      have HV4 := Lib.hid (HV4.out.below hbr)
      have HOW := Lib.hid (HOW.out.below hbr)
      have HO := Lib.hid (HO.out.below hbr)
      have HB := Lib.hid (HB.out.trans (hbr.mono HB.out.size))
      clear hbr k0 k1 k2 q0 q1 q2 m0 m1 m2 hcell HX
      generalize (grow (redrawn wr dq) osq) = w5 at *
      cases hc : cornerB 102 s.data.toList A with
      | true =>
        have HC := Lib.hid (HNEXT.out hc)
        clear hc HBAD HNEXT HG
        have hkp : k < (partL 102 A l i0 k).length := by rw [partL_length]; exact hkl
        have hsh : ∃ g2, a2 = some ⟨g2, 0, none⟩ := by
          rcases HO.out.shape with ⟨_, _, e⟩ | h
          · rw [e] at hkp; simp at hkp
          · exact h
        obtain ⟨g2, rfl⟩ := hsh
        have hcell := HO.out.cell hkp
        have hfree := HO.out.free k
        have hkl2 : (k : Int) < (l.length : Int) := by omega
        generalize (partL 102 A l i0 k)[k]'_ = old at hcell
        have ho2 := HO.out.set (lowerS s A) hkp
        rw [HSET.out] at ho2
        have HO2 := Lib.hid ho2
        have hg := grown_set w5 g2 k (.string (lowerS s A))
        have HV1 := Lib.hid (HV1.out.written HO.out hg)
        have HV2 := Lib.hid (HV2.out.written HO.out hg)
        have HV3 := Lib.hid (HV3.out.written HO.out hg)
        have HV6 := Lib.hid (HV4.out.written HO.out hg)
        have HOW := Lib.hid (HOW.out.apart HO.out HLT.out hg)
        have HB6 := Lib.hid (HO.out.write_below HB.out (Nat.le_refl _) HB.out.size hg)
        obtain ⟨r0, r1, r2⟩ := HV4.out.cells
        clear hg HB HO ho2 HV4 hkp HSET
        go_wp2_with fail
        clear r0 r1 r2 hcell hfree
        generalize (w5.setCell ⟨g2, k, none⟩ (.string (lowerS s A))) = w6 at *
        go_roundw
        case rel => exact ⟨k + 1, by omega, by omega, by go_num, HV1, HV2, HV3, HV6, HOW, HO2, HB6, HC⟩
        case measure => simp [intOf]; omega
      | false =>
        have HE := Lib.hid (HBAD.out hc)
        clear HBAD HNEXT HSET HO HV4 hc
        obtain ⟨k0, k1, k2⟩ := HV1.out.cells
        go_wp2_with fail
        clear k0 k1 k2
        refine (copy_impl d f base n c (some ⟨g, 0, none⟩) l _ hn HOW.out).mono ?_
        rintro e w7 ⟨a7, c7, rfl, hb7, ho7⟩
        have HV3 := Lib.hid (HV3.out.below hb7)
        have HB7 := Lib.hid (HB.out.trans (hb7.mono HB.out.size))
        have HO7 := Lib.hid (ho7.mono (base2 := w.heap.size) HB.out.size)
        clear hb7 ho7
        have hx : ∃ Z, Z = Card.set3 w7 (w.heap.size + 2) d f (.slice a7 l.length c7) ∧ Var Z (w.heap.size + 2) d f (.slice a7 l.length c7) ∧ Below w.heap.size w Z ∧ Own Z w.heap.size (.slice a7 l.length c7) l := ⟨_, rfl, gave_last HB7.out HV3.out (by omega) HO7.out (Nat.le_refl _)⟩
        obtain ⟨Z, hZ, hz1, hz2, hz3⟩ := hx
        unfold set3 at hZ
        obtain ⟨p0, p1, p2⟩ := HV3.out.cells
        have f0 := HV3.out.free 0
        have f1 := HV3.out.free 1
        have f2 := HV3.out.free 2
        have HZZ := Lib.hid hZ
        have HZ1 := Lib.hid hz1
        have HZ2 := Lib.hid hz2
        have HZ3 := Lib.hid hz3
        clear hZ hz1 hz2 hz3
        go_wp2_with fail
        skip
        rw [← HZZ.out]
        clear HZZ p0 p1 p2 f0 f1 f2
        obtain ⟨z0, z1, z2⟩ := HZ1.out.cells
        refine bodyPost_ret (v := .tuple #[.agg #[.int .i64 d, .int .i64 f, .slice a7 l.length c7], .bool false]) (by simp [results, Try.results53, go_sem, z0, z1, z2]) rfl ?_
        rw [HE.out.1, HE.out.2]; exact ⟨_, c7, rfl, HZ2.out, HZ3.out⟩
    · obtain rfl : k = j0 + 1 := by omega
      have HE := Lib.hid (box_good HR.out HG.out)
      have HLN := Lib.hid (partL_length 102 A l i0 (j0 + 1))
      have HOZ := Lib.hid (show Own wr w.heap.size (.slice a2 (partL 102 A l i0 (j0 + 1)).length c2) (partL 102 A l i0 (j0 + 1)) by rw [HLN.out]; exact HO.out)
      have hv4 := HV4.out
      rw [← HLN.out] at hv4
      have hk1 : ¬ (j0 + 1 ≤ j0) := by omega
      clear HO HG HV4
      generalize (partL 102 A l i0 (j0 + 1)) = l5 at *
      have HV4 := Lib.hid hv4
      clear hv4
      obtain ⟨g0, g1, g2⟩ := HV4.out.cells
      have hx : ∃ Z, Z = Card.set3 wr (w.heap.size + 2) d f (.slice a2 l5.length c2) ∧ Var Z (w.heap.size + 2) d f (.slice a2 l5.length c2) ∧ Below w.heap.size w Z ∧ Own Z w.heap.size (.slice a2 l5.length c2) l5 := ⟨_, rfl, gave_last HB.out HV3.out (by omega) HOZ.out (Nat.le_refl _)⟩
      obtain ⟨Z, hZ, hz1, hz2, hz3⟩ := hx
      unfold set3 at hZ
      obtain ⟨p0, p1, p2⟩ := HV3.out.cells
      have f0 := HV3.out.free 0
      have f1 := HV3.out.free 1
      have f2 := HV3.out.free 2
      have HZZ := Lib.hid hZ
      have HZ1 := Lib.hid hz1
      have HZ2 := Lib.hid hz2
      have HZ3 := Lib.hid hz3
      clear hZ hz1 hz2 hz3
      go_wp2_with fail
      clear g0 g1 g2
      rw [← HZZ.out]
      clear HZZ p0 p1 p2 f0 f1 f2
      obtain ⟨z0, z1, z2⟩ := HZ1.out.cells
      refine bodyPost_ret (v := .tuple #[.agg #[.int .i64 d, .int .i64 f, .slice a2 l5.length c2], .bool true]) (by simp [results, Try.results53, go_sem, z0, z1, z2]) rfl ?_
      rw [HE.out.1, HE.out.2]; exact ⟨_, c2, rfl, HZ2.out, HZ3.out⟩

set_option maxRecDepth 100000 in
set_option maxHeartbeats 2000000 in
theorem withRaise_impl (d f : Int) (F L A : Int) (base n c : Nat) (a : Option Addr) (l : List ByteArray) (w : World) (hn : n ≤ 1048576) (h : Own w base (.slice a n c) l) (hz : ∀ s ∈ l, s.size ≤ 1048576) (hA0 : -9223372036854775808 ≤ A) (hA1 : A ≤ 9223372036854775807) :
    Calls Try.prog 53 #[.agg #[.int .i64 d, .int .i64 f, .slice a n c], .agg #[.int .i64 F, .int .i64 L, .int .i64 A], .func (.func 54) #[] #[]] w (Gave2 w d f (boxL 100 d f l F L A) (boxB 100 d f l F L A)) := by
  have hl := h.row2.1
  cases hr : rangeB d f l F L with
  | true =>
    obtain ⟨i, j, rfl, rfl, hij, hj, hc⟩ := range_nats hr
    exact withRaise_in d f i j A base n c a l w hn h hz hA0 hA1 hc hij (by omega)
  | false =>
    obtain ⟨e1, e2⟩ := box_out (x := 100) (A := A) hr
    rw [e1, e2]
    cases hc : cardB d f l with
    | false => exact withRaise_bad d f F L A base n c a l w hn h hz hA0 hA1 hc
    | true =>
      refine withRaise_out d f F L A base n c a l w hn h hz hA0 hA1 hc fun hq => ?_
      rw [hl] at hq
      have := rangeB_iff.2 ⟨hc, hq⟩
      rw [hr] at this
      cases this

set_option maxRecDepth 100000 in
set_option maxHeartbeats 2000000 in
theorem add_impl (d f : Int) (F L A : Int) (base n c : Nat) (a : Option Addr) (l : List ByteArray) (w : World) (hn : n ≤ 1048576) (h : Own w base (.slice a n c) l) (hz : ∀ s ∈ l, s.size ≤ 1048576) (hA0 : -9223372036854775808 ≤ A) (hA1 : A ≤ 9223372036854775807) :
    Calls Try.prog 20 #[.agg #[.int .i64 d, .int .i64 f, .slice a n c], .agg #[.int .i64 F, .int .i64 L, .int .i64 A]] w (Gave2 w d f (boxL 100 d f l F L A) (boxB 100 d f l F L A)) := by
  obtain ⟨W, hW, hv1, hv2, hv3, hb, hs0⟩ := beginCBR w d f (.slice a n c) F L A
  have hoW : Own W base (.slice a n c) l := by rw [hW]; exact ((h.below (alloc_below _ _)).below (alloc_below _ _)).below (alloc_below _ _)
  have HN := Lib.hid h.row2.1
  have HOW := Lib.hid hoW
  have HV1 := Lib.hid hv1
  have HV2 := Lib.hid hv2
  have HV3 := Lib.hid hv3
  have HB := Lib.hid hb
  have HS := Lib.hid hs0
  have HZ := Lib.hid hz
  have HW := Lib.hid hW
  have HLT := Lib.hid (fun b e => (h.lt b e).2)
  clear hv1 hv2 hv3 hb hs0 hz hW hoW h
  have HLN := Lib.hid (boxL_length 100 d f l F L A)
  have HCA := Lib.hid (fun W' (h : Own W' base (.slice a n c) l) => withRaise_impl d f F L A base n c a l W' hn h HZ.out hA0 hA1)
  generalize boxL 100 d f l F L A = l2 at *
  generalize boxB 100 d f l F L A = ok at *
  go_enter Try.func20, Try.ntmps20
  go_wp2_with fail
  rw [← HW.out]
  clear HW
  obtain ⟨k0, k1, k2⟩ := HV1.out.cells
  obtain ⟨m0, m1, m2⟩ := HV2.out.cells
  go_wp2_with fail
  clear k0 k1 k2 m0 m1 m2
  refine (HCA.out _ HOW.out).mono ?_
  rintro e w1 ⟨a2, c2, rfl, hb1, ho1⟩
  have HV3 := Lib.hid (HV3.out.below hb1)
  have HB1 := Lib.hid (HB.out.trans (hb1.mono HB.out.size))
  have HO1 := Lib.hid (ho1.mono (base2 := w.heap.size) HB.out.size)
  clear hb1 HB ho1
  have hx : ∃ Z, Z = Card.set3 w1 (w.heap.size + 2) d f (.slice a2 l2.length c2) ∧ Var Z (w.heap.size + 2) d f (.slice a2 l2.length c2) ∧ Below w.heap.size w Z ∧ Own Z w.heap.size (.slice a2 l2.length c2) l2 := ⟨_, rfl, gave_last HB1.out HV3.out (by omega) HO1.out (Nat.le_refl _)⟩
  obtain ⟨Z, hZ, hz1, hz2, hz3⟩ := hx
  unfold set3 at hZ
  obtain ⟨p0, p1, p2⟩ := HV3.out.cells
  have f0 := HV3.out.free 0
  have f1 := HV3.out.free 1
  have f2 := HV3.out.free 2
  have HZZ := Lib.hid hZ
  have HZ1 := Lib.hid hz1
  have HZ2 := Lib.hid hz2
  have HZ3 := Lib.hid hz3
  clear hZ hz1 hz2 hz3
  go_wp2_with fail
  skip
  rw [← HZZ.out]
  clear HZZ p0 p1 p2 f0 f1 f2
  obtain ⟨z0, z1, z2⟩ := HZ1.out.cells
  refine bodyPost_ret (v := .tuple #[.agg #[.int .i64 d, .int .i64 f, .slice a2 l2.length c2], .bool ok]) (by simp [results, Try.results20, go_sem, z0, z1, z2]) rfl ?_
  exact ⟨_, c2, rfl, HZ2.out, HZ3.out⟩

set_option maxRecDepth 100000 in
set_option maxHeartbeats 2000000 in
theorem withLower_impl (d f : Int) (F L A : Int) (base n c : Nat) (a : Option Addr) (l : List ByteArray) (w : World) (hn : n ≤ 1048576) (h : Own w base (.slice a n c) l) (hz : ∀ s ∈ l, s.size ≤ 1048576) (hA0 : -9223372036854775808 ≤ A) (hA1 : A ≤ 9223372036854775807) :
    Calls Try.prog 53 #[.agg #[.int .i64 d, .int .i64 f, .slice a n c], .agg #[.int .i64 F, .int .i64 L, .int .i64 A], .func (.func 55) #[] #[]] w (Gave2 w d f (boxL 102 d f l F L A) (boxB 102 d f l F L A)) := by
  have hl := h.row2.1
  cases hr : rangeB d f l F L with
  | true =>
    obtain ⟨i, j, rfl, rfl, hij, hj, hc⟩ := range_nats hr
    exact withLower_in d f i j A base n c a l w hn h hz hA0 hA1 hc hij (by omega)
  | false =>
    obtain ⟨e1, e2⟩ := box_out (x := 102) (A := A) hr
    rw [e1, e2]
    cases hc : cardB d f l with
    | false => exact withLower_bad d f F L A base n c a l w hn h hz hA0 hA1 hc
    | true =>
      refine withLower_out d f F L A base n c a l w hn h hz hA0 hA1 hc fun hq => ?_
      rw [hl] at hq
      have := rangeB_iff.2 ⟨hc, hq⟩
      rw [hr] at this
      cases this

set_option maxRecDepth 100000 in
set_option maxHeartbeats 2000000 in
theorem take_impl (d f : Int) (F L A : Int) (base n c : Nat) (a : Option Addr) (l : List ByteArray) (w : World) (hn : n ≤ 1048576) (h : Own w base (.slice a n c) l) (hz : ∀ s ∈ l, s.size ≤ 1048576) (hA0 : -9223372036854775808 ≤ A) (hA1 : A ≤ 9223372036854775807) :
    Calls Try.prog 21 #[.agg #[.int .i64 d, .int .i64 f, .slice a n c], .agg #[.int .i64 F, .int .i64 L, .int .i64 A]] w (Gave2 w d f (boxL 102 d f l F L A) (boxB 102 d f l F L A)) := by
  obtain ⟨W, hW, hv1, hv2, hv3, hb, hs0⟩ := beginCBR w d f (.slice a n c) F L A
  have hoW : Own W base (.slice a n c) l := by rw [hW]; exact ((h.below (alloc_below _ _)).below (alloc_below _ _)).below (alloc_below _ _)
  have HN := Lib.hid h.row2.1
  have HOW := Lib.hid hoW
  have HV1 := Lib.hid hv1
  have HV2 := Lib.hid hv2
  have HV3 := Lib.hid hv3
  have HB := Lib.hid hb
  have HS := Lib.hid hs0
  have HZ := Lib.hid hz
  have HW := Lib.hid hW
  have HLT := Lib.hid (fun b e => (h.lt b e).2)
  clear hv1 hv2 hv3 hb hs0 hz hW hoW h
  have HLN := Lib.hid (boxL_length 102 d f l F L A)
  have HCA := Lib.hid (fun W' (h : Own W' base (.slice a n c) l) => withLower_impl d f F L A base n c a l W' hn h HZ.out hA0 hA1)
  generalize boxL 102 d f l F L A = l2 at *
  generalize boxB 102 d f l F L A = ok at *
  go_enter Try.func21, Try.ntmps21
  go_wp2_with fail
  rw [← HW.out]
  clear HW
  obtain ⟨k0, k1, k2⟩ := HV1.out.cells
  obtain ⟨m0, m1, m2⟩ := HV2.out.cells
  go_wp2_with fail
  clear k0 k1 k2 m0 m1 m2
  refine (HCA.out _ HOW.out).mono ?_
  rintro e w1 ⟨a2, c2, rfl, hb1, ho1⟩
  have HV3 := Lib.hid (HV3.out.below hb1)
  have HB1 := Lib.hid (HB.out.trans (hb1.mono HB.out.size))
  have HO1 := Lib.hid (ho1.mono (base2 := w.heap.size) HB.out.size)
  clear hb1 HB ho1
  have hx : ∃ Z, Z = Card.set3 w1 (w.heap.size + 2) d f (.slice a2 l2.length c2) ∧ Var Z (w.heap.size + 2) d f (.slice a2 l2.length c2) ∧ Below w.heap.size w Z ∧ Own Z w.heap.size (.slice a2 l2.length c2) l2 := ⟨_, rfl, gave_last HB1.out HV3.out (by omega) HO1.out (Nat.le_refl _)⟩
  obtain ⟨Z, hZ, hz1, hz2, hz3⟩ := hx
  unfold set3 at hZ
  obtain ⟨p0, p1, p2⟩ := HV3.out.cells
  have f0 := HV3.out.free 0
  have f1 := HV3.out.free 1
  have f2 := HV3.out.free 2
  have HZZ := Lib.hid hZ
  have HZ1 := Lib.hid hz1
  have HZ2 := Lib.hid hz2
  have HZ3 := Lib.hid hz3
  clear hZ hz1 hz2 hz3
  go_wp2_with fail
  skip
  rw [← HZZ.out]
  clear HZZ p0 p1 p2 f0 f1 f2
  obtain ⟨z0, z1, z2⟩ := HZ1.out.cells
  refine bodyPost_ret (v := .tuple #[.agg #[.int .i64 d, .int .i64 f, .slice a2 l2.length c2], .bool ok]) (by simp [results, Try.results21, go_sem, z0, z1, z2]) rfl ?_
  exact ⟨_, c2, rfl, HZ2.out, HZ3.out⟩

set_option maxRecDepth 100000 in
set_option maxHeartbeats 2000000 in
theorem canAdd_impl (d f : Int) (F L A : Int) (base n c : Nat) (a : Option Addr) (l : List ByteArray) (w : World) (hn : n ≤ 1048576) (h : Own w base (.slice a n c) l) (hz : ∀ s ∈ l, s.size ≤ 1048576) (hA0 : -9223372036854775808 ≤ A) (hA1 : A ≤ 9223372036854775807) :
    Calls Try.prog 22 #[.agg #[.int .i64 d, .int .i64 f, .slice a n c], .agg #[.int .i64 F, .int .i64 L, .int .i64 A]] w (fun e w' => e = .returned (.bool (boxB 100 d f l F L A)) ∧ Below w.heap.size w w') := by
  obtain ⟨W, hW, hv1, hv2, hb, hs0⟩ := beginCB w d f (.slice a n c) F L A
  have hoW : Own W base (.slice a n c) l := by rw [hW]; exact (h.below (alloc_below _ _)).below (alloc_below _ _)
  have HCA := Lib.hid (add_impl d f F L A base n c a l W hn hoW hz hA0 hA1)
  have HB := Lib.hid hb
  have HW := Lib.hid hW
  obtain ⟨k0, k1, k2⟩ := hv1.cells
  obtain ⟨m0, m1, m2⟩ := hv2.cells
  clear hv1 hv2 hb hs0 hz hW hoW h
  generalize boxL 100 d f l F L A = l2 at *
  generalize boxB 100 d f l F L A = ok at *
  go_enter Try.func22, Try.ntmps22
  go_wp2_with fail
  rw [← HW.out]
  clear HW
  go_wp2_with fail
  clear k0 k1 k2 m0 m1 m2
  refine HCA.out.mono ?_
  rintro e w1 ⟨a2, c2, rfl, hb1, ho1⟩
  have HB1 := Lib.hid (HB.out.trans (hb1.mono HB.out.size))
  clear hb1 HB ho1
  go_wp2
  go_ret
  exact ⟨rfl, HB1.out.alloc HB1.out.size _⟩
end Go.Proofs.Ytekmladindlmoaa.Box

/- Boxes that are added one after another: the mathematics; what the program's AddBoxes returns. -/
namespace Go.Proofs.Ytekmladindlmoaa.Box
open Go.ChangeShapes Go.WideShapes Go.ChangeAt Go.RowKit Go.Sort
open Go.Proofs.Ytekmladindlmoaa.Strip Go.Proofs.Ytekmladindlmoaa.Strs Go.Proofs.Ytekmladindlmoaa.Card Go.Proofs.Ytekmladindlmoaa.Corner Go.Proofs.Ytekmladindlmoaa.Kerf Go.Proofs.Ytekmladindlmoaa.Order Go.Proofs.Ytekmladindlmoaa.Flip
set_option linter.unusedVariables false

/-- One box more: the strips behind it, and how many were added. -/
def addStep (d f : Int) (s : List ByteArray × Nat) (b : B3) : List ByteArray × Nat := (boxL 100 d f s.1 b.1 b.2.1 b.2.2, if boxB 100 d f s.1 b.1 b.2.1 b.2.2 = true then s.2 + 1 else s.2)
def adds (d f : Int) (l : List ByteArray) (bs : List B3) : List ByteArray × Nat := bs.foldl (addStep d f) (l, 0)
theorem adds_nil (d f : Int) (l : List ByteArray) : adds d f l [] = (l, 0) := rfl
theorem adds_take (d f : Int) (l : List ByteArray) (bs : List B3) (k : Nat) (h : k < bs.length) : adds d f l (bs.take (k + 1)) = addStep d f (adds d f l (bs.take k)) bs[k] := by
  unfold adds
  rw [List.take_succ_eq_append_getElem h, List.foldl_append]; rfl
theorem addStep_len (d f : Int) (s : List ByteArray × Nat) (b : B3) : (addStep d f s b).1.length = s.1.length := boxL_length _ _ _ _ _ _ _
theorem adds_length (d f : Int) (l : List ByteArray) (bs : List B3) : ∀ k, k ≤ bs.length → (adds d f l (bs.take k)).1.length = l.length
  | 0, _ => by rw [List.take_zero, adds_nil]
  | k + 1, h => by rw [adds_take d f l bs k (by omega), addStep_len]; exact adds_length d f l bs k (by omega)
theorem adds_sizes (d f : Int) (l : List ByteArray) (bs : List B3) (M : Nat) (hz : ∀ s ∈ l, s.size ≤ M) : ∀ k, k ≤ bs.length → ∀ s ∈ (adds d f l (bs.take k)).1, s.size ≤ M
  | 0, _ => by rw [List.take_zero, adds_nil]; exact hz
  | k + 1, h => by
    rw [adds_take d f l bs k (by omega)]
    exact boxL_sizes _ _ _ _ _ _ _ _ (adds_sizes d f l bs M hz k (by omega))
theorem adds_count (d f : Int) (l : List ByteArray) (bs : List B3) : ∀ k, k ≤ bs.length → (adds d f l (bs.take k)).2 ≤ k
  | 0, _ => by rw [List.take_zero, adds_nil]; exact Nat.le_refl _
  | k + 1, h => by
    rw [adds_take d f l bs k (by omega)]
    have := adds_count d f l bs k (by omega)
    unfold addStep
    simp only
    split <;> omega
theorem addStep_yes {d f : Int} {s : List ByteArray × Nat} {b : B3} (h : boxB 100 d f s.1 b.1 b.2.1 b.2.2 = true) : addStep d f s b = (boxL 100 d f s.1 b.1 b.2.1 b.2.2, s.2 + 1) := by unfold addStep; rw [if_pos h]
theorem addStep_no {d f : Int} {s : List ByteArray × Nat} {b : B3} (h : boxB 100 d f s.1 b.1 b.2.1 b.2.2 = false) : addStep d f s b = s := by
  have e : boxL 100 d f s.1 b.1 b.2.1 b.2.2 = s.1 := by unfold boxL; rw [if_neg (by rw [h]; simp)]
  unfold addStep; rw [if_neg (by rw [h]; simp), e]
/-- What AddBoxes returns. -/
def addsL (d f : Int) (l : List ByteArray) (bs : List B3) : List ByteArray := if cardB d f l = true then (adds d f l bs).1 else l
def addsN (d f : Int) (l : List ByteArray) (bs : List B3) : Int := if cardB d f l = true then ((adds d f l bs).2 : Int) else -1
theorem addsL_length (d f : Int) (l : List ByteArray) (bs : List B3) : (addsL d f l bs).length = l.length := by
  unfold addsL; split
  · have := adds_length d f l bs bs.length (Nat.le_refl _)
    rwa [List.take_length] at this
  · rfl

/-- A box's numbers fit. -/
def Fits (b : B3) : Prop := -9223372036854775808 ≤ b.2.2 ∧ b.2.2 ≤ 9223372036854775807

/-- A card of memory of its own and a number. -/
def Gave3 (w : World) (d f : Int) (l : List ByteArray) (n : Int) (e : Ending) (w' : World) : Prop :=
  ∃ a c, e = .returned (.tuple #[.agg #[.int .i64 d, .int .i64 f, .slice a l.length c], .int .i64 n]) ∧ Below w.heap.size w w' ∧ Own w' w.heap.size (.slice a l.length c) l

set_option maxRecDepth 100000 in
set_option maxHeartbeats 2000000 in
theorem adds_impl (d f : Int) (base n c : Nat) (a : Option Addr) (l : List ByteArray) (ab : Option Addr) (nb cb : Nat) (bs : List B3) (w : World) (hn : n ≤ 1048576) (h : Own w base (.slice a n c) l) (hz : ∀ s ∈ l, s.size ≤ 1048576) (hnb : bs.length = nb) (hnb1 : nb ≤ 1048576) (hbr : BRow w ab bs) (hfit : ∀ b ∈ bs, Fits b) :
    Calls Try.prog 14 #[.agg #[.int .i64 d, .int .i64 f, .slice a n c], .slice ab nb cb] w (Gave3 w d f (addsL d f l bs) (addsN d f l bs)) := by
  obtain ⟨W, hW, hv1, hv2, hb, hs0⟩ := begin2 w d f (.slice a n c)
  have hoW : Own W base (.slice a n c) l := by rw [hW]; exact (h.below (alloc_below _ _)).below (alloc_below _ _)
  have HN := Lib.hid h.row2.1
  have HOW := Lib.hid hoW
  have HV1 := Lib.hid hv1
  have HV2 := Lib.hid hv2
  have HB := Lib.hid hb
  have HS := Lib.hid hs0
  have HZ := Lib.hid hz
  have HW := Lib.hid hW
  have HBR := Lib.hid hbr
  have HFIT := Lib.hid hfit
  have HNB := Lib.hid hnb
  clear hv1 hv2 hb hs0 hz hW hoW h hbr hfit hnb
  go_enter Try.func14, Try.ntmps14
  go_wp2_with fail
  rw [← HW.out]
  clear HW
  obtain ⟨k0, k1, k2⟩ := HV1.out.cells
  go_wp2_with fail
  refine (copy_impl d f base n c a l _ hn HOW.out).mono ?_
  rintro e w1 ⟨a2, c2, rfl, hb1, ho1⟩
  have HV1 := Lib.hid (HV1.out.below hb1)
  have HV2 := Lib.hid (HV2.out.below hb1)
  have HOW := Lib.hid (HOW.out.below hb1)
  have HB1 := Lib.hid (HB.out.trans (hb1.mono HB.out.size))
  have HO1 := Lib.hid (ho1.mono (base2 := w.heap.size) HB.out.size)
  have hs1 : w.heap.size + 2 ≤ w1.heap.size := by have := hb1.size; have := HS.out; omega
  clear hb1 k0 k1 k2 HB ho1
  have hv0 := Var.new w1 d f (.slice a2 l.length c2)
  have hb := alloc_below w1 (.cells #[.int .i64 d, .int .i64 f, .slice a2 l.length c2] 26)
  have HV1 := Lib.hid (HV1.out.below hb)
  have HV2 := Lib.hid (HV2.out.below hb)
  have HO1 := Lib.hid (HO1.out.below hb)
  have HOW := Lib.hid (HOW.out.below hb)
  have HB1 := Lib.hid (HB1.out.trans (hb.mono HB1.out.size))
  have HV4 := Lib.hid hv0
  clear hv0 hb
  obtain ⟨k0, k1, k2⟩ := HV1.out.cells
  go_wp2_with fail
  clear k0 k1 k2
  generalize (w1.alloc (.cells #[.int .i64 d, .int .i64 f, .slice a2 l.length c2] 26)) = w2 at *
  generalize w1.heap.size = B4 at *
  refine (ok_impl d f a n c l _ HN.out.symm hn HZ.out HOW.out.row2.2).mono ?_
  rintro e w3 ⟨rfl, hb3⟩
  have HV2 := Lib.hid (HV2.out.below hb3)
  have HV4 := Lib.hid (HV4.out.below hb3)
  have HO3 := Lib.hid (HO1.out.below hb3)
  have HB3 := Lib.hid (HB1.out.trans (hb3.mono HB1.out.size))
  clear hb3 HO1 HB1 HV1 HOW
  cases hcard : cardB d f l with
  | false =>
    have HEL := Lib.hid (show addsL d f l bs = l by unfold addsL; rw [hcard]; rfl)
    have HEN := Lib.hid (show addsN d f l bs = -1 by unfold addsN; rw [hcard]; rfl)
    obtain ⟨g0, g1, g2⟩ := HV4.out.cells
    have hx : ∃ Z, Z = Card.set3 w3 (w.heap.size + 1) d f (.slice a2 l.length c2) ∧ Var Z (w.heap.size + 1) d f (.slice a2 l.length c2) ∧ Below w.heap.size w Z ∧ Own Z w.heap.size (.slice a2 l.length c2) l := ⟨_, rfl, gave_last HB3.out HV2.out (by omega) HO3.out (Nat.le_refl _)⟩
    obtain ⟨Z, hZ, hz1, hz2, hz3⟩ := hx
    unfold set3 at hZ
    obtain ⟨p0, p1, p2⟩ := HV2.out.cells
    have f0 := HV2.out.free 0
    have f1 := HV2.out.free 1
    have f2 := HV2.out.free 2
    have HZZ := Lib.hid hZ
    have HZ1 := Lib.hid hz1
    have HZ2 := Lib.hid hz2
    have HZ3 := Lib.hid hz3
    clear hZ hz1 hz2 hz3 hcard
    go_wp2_with fail
    clear g0 g1 g2
    rw [← HZZ.out]
    clear HZZ p0 p1 p2 f0 f1 f2
    obtain ⟨z0, z1, z2⟩ := HZ1.out.cells
    refine bodyPost_ret (v := .tuple #[.agg #[.int .i64 d, .int .i64 f, .slice a2 l.length c2], .int .i64 (-1)]) (by simp [results, Try.results14, go_sem, z0, z1, z2]) rfl ?_
    rw [HEL.out, HEN.out]
    exact ⟨_, c2, rfl, HZ2.out, HZ3.out⟩
  | true =>
    have HEL := Lib.hid (show addsL d f l bs = (adds d f l bs).1 by unfold addsL; rw [hcard]; rfl)
    have HEN := Lib.hid (show addsN d f l bs = ((adds d f l bs).2 : Int) by unfold addsN; rw [hcard]; rfl)
    clear hcard
    have HLEN := Lib.hid (adds_length d f l bs)
    have HSZ := Lib.hid (adds_sizes d f l bs 1048576 HZ.out)
    have HCNT := Lib.hid (adds_count d f l bs)
    have hln : l.length ≤ 1048576 := by rw [← HN.out]; exact hn
    have HB4 := Lib.hid (show w.heap.size + 2 ≤ B4 by omega)
    clear hs1
    go_wp2_with fail
    go_loopw [7, 20] (fun q i wr => ∃ (k : Nat) (a2 : Option Addr) (c2 : Nat), k ≤ nb ∧ i = .int .i64 (k : Int) ∧ q = .int .i64 ((adds d f l (bs.take k)).2 : Int) ∧ Hid (Var wr (w.heap.size + 1) 0 0 (.slice none 0 0)) ∧ Hid (Var wr B4 d f (.slice a2 l.length c2)) ∧ Hid (Own wr w.heap.size (.slice a2 l.length c2) (adds d f l (bs.take k)).1) ∧ Hid (Below w.heap.size w wr)) (fun _ i _ => nb - (intOf i).toNat)
    case atStart => exact ⟨0, a2, c2, Nat.zero_le _, rfl, by rw [List.take_zero, adds_nil]; rfl, HV2, HV4, by rw [List.take_zero, adds_nil]; exact HO3, HB3⟩
    case round =>
      clear HV2 HV4 HO3 HB3
      obtain ⟨k, a2, c2, hk, rfl, rfl, HV2, HV4, HO, HB⟩ := hrel
      by_cases hlt : k < nb
      · have hkb : k < bs.length := by rw [HNB.out]; exact hlt
        have hk0 : (0 : Int) ≤ (k : Int) := Int.natCast_nonneg _
        have hk1 : (k : Int) < (nb : Int) := by omega
        have HTK := Lib.hid (adds_take d f l bs k hkb)
        have hle := HLEN.out k (by omega)
        have hsz := HSZ.out k (by omega)
        have hcnt := HCNT.out k (by omega)
        have hfit := HFIT.out _ (List.getElem_mem hkb)
        obtain ⟨gb, rfl, hgb, c0, c1, c2'⟩ := (HBR.out.below HB.out) k hkb
        generalize bs[k] = b at *
        obtain ⟨b0, b1, b2⟩ := b
        generalize adds d f l (bs.take k) = s at *
        obtain ⟨l2, q⟩ := s
        have HYES := Lib.hid (addStep_yes (d := d) (f := f) (s := (l2, q)) (b := (b0, b1, b2)))
        have HNO := Lib.hid (addStep_no (d := d) (f := f) (s := (l2, q)) (b := (b0, b1, b2)))
        simp only at hle hsz hcnt c0 c1 c2' HO
        have HADD := Lib.hid (fun (w' : World) (h : Own w' w.heap.size (.slice a2 l.length c2) l2) => add_impl d f b0 b1 b2 w.heap.size l.length c2 a2 l2 w' hln h hsz hfit.1 hfit.2)
        have hbl := boxL_length 100 d f l2 b0 b1 b2
        rw [hle] at hbl
        have hvb := BVar.new wr b0 b1 b2
        have hb := alloc_below wr (.cells #[.int .i64 b0, .int .i64 b1, .int .i64 b2] 39)
        have HV2 := Lib.hid (HV2.out.below hb)
        have HV4 := Lib.hid (HV4.out.below hb)
        have HO := Lib.hid (HO.out.below hb)
        have HB := Lib.hid (HB.out.trans (hb.mono HB.out.size))
        obtain ⟨k0, k1, k2⟩ := HV4.out.cells
        obtain ⟨m0, m1, m2⟩ := hvb.cells
        clear hb hvb
        go_wp2_with fail
        clear k0 k1 k2 m0 m1 m2 c0 c1 c2'
        generalize (wr.alloc (.cells #[.int .i64 b0, .int .i64 b1, .int .i64 b2] 39)) = w4 at *
        generalize wr.heap.size = B9 at *
        refine (HADD.out _ HO.out).mono ?_
        clear HADD
        generalize boxL 100 d f l2 b0 b1 b2 = l3 at *
        generalize boxB 100 d f l2 b0 b1 b2 = ok at *
        rintro e w5 ⟨a3, c3, rfl, hb5, ho5⟩
        rw [hbl] at ho5 ⊢
        have hv0 := Var.new w5 d f (.slice a3 l.length c3)
        have hbb := alloc_below w5 (.cells #[.int .i64 d, .int .i64 f, .slice a3 l.length c3] 26)
        have hb6 := hb5.trans (hbb.mono hb5.size)
        have HV2 := Lib.hid (HV2.out.below hb6)
        have HV4 := Lib.hid (HV4.out.below hb6)
        have HO := Lib.hid (HO.out.below hb6)
        have ho5 := (ho5.mono (base2 := w.heap.size) HB.out.size).below hbb
        have HB := Lib.hid (HB.out.trans (hb6.mono HB.out.size))
        cases ok with
        | false =>
          have hno := HNO.out rfl
          rw [hno] at HTK
          clear HNO HYES hno ho5 hb5 hb6 hbb hv0 hbl
          go_wp2_with fail
          generalize (w5.alloc (.cells #[.int .i64 d, .int .i64 f, .slice a3 l.length c3] 26)) = w6 at *
          exact ⟨⟨k + 1, a2, c2, by omega, by go_num, by rw [HTK.out], HV2, HV4, by rw [HTK.out]; exact HO, HB⟩, by simp [intOf]; omega⟩
        | true =>
          have hno := HYES.out rfl
          rw [hno] at HTK
          have HO5 := Lib.hid ho5
          have HV5 := Lib.hid hv0
          clear HNO HYES hno ho5 hb5 hb6 hbb hv0 hbl HO
          obtain ⟨k0, k1, k2⟩ := HV5.out.cells
          obtain ⟨p0, p1, p2⟩ := HV4.out.cells
          have f0 := HV4.out.free 0
          have f1 := HV4.out.free 1
          have f2 := HV4.out.free 2
          have hx : ∃ Z, Z = Card.set3 (w5.alloc (.cells #[.int .i64 d, .int .i64 f, .slice a3 l.length c3] 26)) B4 d f (.slice a3 l.length c3) ∧ Var Z B4 d f (.slice a3 l.length c3) ∧ Var Z (w.heap.size + 1) 0 0 (.slice none 0 0) ∧ Below w.heap.size w Z ∧ Own Z w.heap.size (.slice a3 l.length c3) l3 :=
            ⟨_, rfl, HV4.out.set3 _ _ _, HV2.out.other3 (by have := HB4.out; omega), below_set3 HB.out (by have := HB4.out; omega), Own.aside3 HO5.out HV4.out⟩
          obtain ⟨Z, hZ, hz1, hz2, hz3, hz4⟩ := hx
          unfold set3 at hZ
          have HZZ := Lib.hid hZ
          have HZ1 := Lib.hid hz1
          have HZ2 := Lib.hid hz2
          have HZ3 := Lib.hid hz3
          have HZ4 := Lib.hid hz4
          clear hZ hz1 hz2 hz3 hz4 HV2 HV4 HV5 HB
          go_wp2_with fail
          rw [← HZZ.out]
          clear HZZ k0 k1 k2 p0 p1 p2 f0 f1 f2 HO5
          exact ⟨⟨k + 1, a3, c3, by omega, by go_num, by rw [HTK.out]; simp, HZ2, HZ1, by rw [HTK.out]; exact HZ4, HZ3⟩, by simp [intOf]; omega⟩
      · obtain rfl : k = nb := by omega
        have hfin : bs.take k = bs := by rw [← HNB.out]; exact List.take_length
        rw [hfin] at HO ⊢
        have hle : (adds d f l bs).1.length = l.length := by have := HLEN.out bs.length (Nat.le_refl _); rwa [List.take_length] at this
        clear hfin
        generalize adds d f l bs = s at *
        obtain ⟨l2, q⟩ := s
        simp only at HO hle HEL HEN ⊢
        have ho := HO.out
        have hv4 := HV4.out
        rw [← hle] at ho hv4
        have HO := Lib.hid ho
        have HV4 := Lib.hid hv4
        clear ho hv4 hle
        obtain ⟨g0, g1, g2⟩ := HV4.out.cells
        have hx : ∃ Z, Z = Card.set3 wr (w.heap.size + 1) d f (.slice a2 l2.length c2) ∧ Var Z (w.heap.size + 1) d f (.slice a2 l2.length c2) ∧ Below w.heap.size w Z ∧ Own Z w.heap.size (.slice a2 l2.length c2) l2 := ⟨_, rfl, gave_last HB.out HV2.out (by omega) HO.out (Nat.le_refl _)⟩
        obtain ⟨Z, hZ, hz1, hz2, hz3⟩ := hx
        unfold set3 at hZ
        obtain ⟨p0, p1, p2⟩ := HV2.out.cells
        have f0 := HV2.out.free 0
        have f1 := HV2.out.free 1
        have f2 := HV2.out.free 2
        have HZZ := Lib.hid hZ
        have HZ1 := Lib.hid hz1
        have HZ2 := Lib.hid hz2
        have HZ3 := Lib.hid hz3
        clear hZ hz1 hz2 hz3
        go_wp2_with fail
        clear g0 g1 g2
        rw [← HZZ.out]
        clear HZZ p0 p1 p2 f0 f1 f2
        obtain ⟨z0, z1, z2⟩ := HZ1.out.cells
        refine bodyPost_ret (v := .tuple #[.agg #[.int .i64 d, .int .i64 f, .slice a2 l2.length c2], .int .i64 (q : Int)]) (by simp [results, Try.results14, go_sem, z0, z1, z2]) rfl ?_
        rw [HEL.out, HEN.out]
        exact ⟨_, c2, rfl, HZ2.out, HZ3.out⟩
end Go.Proofs.Ytekmladindlmoaa.Box

/- THE WIDEST BOX: mathematics. From a strip on, as far as the strips can be raised at the same number. -/
namespace Go.Proofs.Ytekmladindlmoaa.Box
open Go.ChangeShapes Go.WideShapes Go.ChangeAt Go.RowKit
open Go.Proofs.Ytekmladindlmoaa.Strip Go.Proofs.Ytekmladindlmoaa.Strs Go.Proofs.Ytekmladindlmoaa.Card Go.Proofs.Ytekmladindlmoaa.Corner Go.Proofs.Ytekmladindlmoaa.Kerf Go.Proofs.Ytekmladindlmoaa.Order Go.Proofs.Ytekmladindlmoaa.Flip
set_option linter.unusedVariables false

/-- Can strip k of the row be raised at A? -/
def upB (l : List ByteArray) (A : Int) (k : Nat) : Bool := match l[k]? with
  | some s => cornerB 100 s.data.toList A
  | none => false
theorem upB_get {l : List ByteArray} {A : Int} {k : Nat} (h : k < l.length) : upB l A k = cornerB 100 l[k].data.toList A := by
  unfold upB; rw [List.getElem?_eq_getElem h]
theorem upB_out {l : List ByteArray} {A : Int} {k : Nat} (h : l.length ≤ k) : upB l A k = false := by
  unfold upB; rw [List.getElem?_eq_none h]
/-- The least number from which on all strips up to k can be raised. -/
def downTo (p : Nat → Bool) : Nat → Nat
  | 0 => 0
  | i + 1 => if p i = true then downTo p i else i + 1
/-- The greatest number up to which all strips from k on can be raised; n: how many steps at most. -/
def upTo (p : Nat → Bool) : Nat → Nat → Nat
  | 0, j => j
  | n + 1, j => if p (j + 1) = true then upTo p n (j + 1) else j
theorem downTo_le (p : Nat → Bool) : ∀ i, downTo p i ≤ i
  | 0 => Nat.le_refl _
  | i + 1 => by
    have := downTo_le p i
    unfold downTo; split <;> omega
theorem upTo_ge (p : Nat → Bool) : ∀ n j, j ≤ upTo p n j
  | 0, j => Nat.le_refl _
  | n + 1, j => by
    have := upTo_ge p n (j + 1)
    unfold upTo; split <;> omega
theorem downTo_all (p : Nat → Bool) : ∀ i k, downTo p i ≤ k → k < i → p k = true
  | 0, k, _, h => by omega
  | i + 1, k, h1, h2 => by
    unfold downTo at h1
    split at h1
    · rename_i hp
      by_cases e : k = i
      · subst e; exact hp
      · exact downTo_all p i k h1 (by omega)
    · omega
theorem downTo_end (p : Nat → Bool) : ∀ i, downTo p i = 0 ∨ p (downTo p i - 1) = false
  | 0 => .inl rfl
  | i + 1 => by
    unfold downTo
    split
    · exact downTo_end p i
    · rename_i hp
      right
      simpa using hp
theorem upTo_all (p : Nat → Bool) : ∀ n j k, j < k → k ≤ upTo p n j → p k = true
  | 0, j, k, h1, h2 => by unfold upTo at h2; omega
  | n + 1, j, k, h1, h2 => by
    unfold upTo at h2
    split at h2
    · rename_i hp
      by_cases e : k = j + 1
      · subst e; exact hp
      · exact upTo_all p n (j + 1) k (by omega) h2
    · omega
theorem upTo_lt (l : List ByteArray) (A : Int) : ∀ n j, j < l.length → upTo (upB l A) n j < l.length
  | 0, j, h => h
  | n + 1, j, h => by
    unfold upTo
    split
    · rename_i hp
      refine upTo_lt l A n (j + 1) ?_
      refine Nat.lt_of_not_le fun hle => ?_
      rw [upB_out hle] at hp; cases hp
    · exact h
theorem upTo_end (l : List ByteArray) (A : Int) : ∀ n j, j < l.length → l.length ≤ j + n → upB l A (upTo (upB l A) n j + 1) = false
  | 0, j, h1, h2 => by omega
  | n + 1, j, h1, h2 => by
    unfold upTo
    split
    · rename_i hp
      have h3 : j + 1 < l.length := by
        refine Nat.lt_of_not_le fun hle => ?_
        rw [upB_out hle] at hp; cases hp
      exact upTo_end l A n (j + 1) h3 (by omega)
    · rename_i hp
      simpa using hp

/-- The least First, the greatest Last round strip k. -/
def wideF (l : List ByteArray) (A : Int) (k : Nat) : Nat := downTo (upB l A) k
def wideL (l : List ByteArray) (A : Int) (k : Nat) : Nat := upTo (upB l A) l.length k

/-- What WidestBox returns. -/
def wideB (d f : Int) (l : List ByteArray) (k A : Int) : Int × Int × Int := if boxB 100 d f l k k A = true then ((wideF l A k.toNat : Int), (wideL l A k.toNat : Int), A) else (0, 0, 0)
theorem box_up {d f : Int} {l : List ByteArray} {i j : Nat} {A : Int} (hc : cardB d f l = true) (hij : i ≤ j) : boxB 100 d f l (i : Int) (j : Int) A = true ↔ ∀ k, i ≤ k → k ≤ j → upB l A k = true := by
  rw [boxB_iff]
  simp only [Int.toNat_natCast]
  constructor
  · rintro ⟨hr, h⟩ k h1 h2
    have hj := (rangeB_iff.1 hr).2.2.2
    have hk : k < l.length := by omega
    rw [upB_get hk]
    exact h k hk h1 (by omega)
  · intro h
    have hj : j < l.length := by
      refine Nat.lt_of_not_le fun hle => ?_
      have := h j hij (Nat.le_refl _)
      rw [upB_out hle] at this; cases this
    refine ⟨rangeB_iff.2 ⟨hc, by omega, by omega, by omega⟩, fun k hk h1 h2 => ?_⟩
    rw [← upB_get hk]
    exact h k h1 (by omega)
theorem box_single {d f : Int} {l : List ByteArray} {k A : Int} : boxB 100 d f l k k A = true → ∃ j : Nat, k = (j : Int) ∧ j < l.length ∧ cardB d f l = true ∧ upB l A j = true := by
  intro h
  obtain ⟨i, j, e1, e2, hij, hj, hc⟩ := range_nats (boxB_iff.1 h).1
  have : i = j := by omega
  subst this
  subst e1
  exact ⟨i, rfl, hj, hc, (box_up hc (Nat.le_refl _)).1 h i (Nat.le_refl _) (Nat.le_refl _)⟩
/-- One strip more in front. -/
theorem box_front {d f : Int} {l : List ByteArray} {i j : Nat} {A : Int} (hc : cardB d f l = true) (hij : i ≤ j) (h : ∀ k, i ≤ k → k ≤ j → upB l A k = true) : boxB 100 d f l ((i : Int) - 1) (j : Int) A = (decide (0 < i) && upB l A (i - 1)) := by
  rcases Nat.eq_zero_or_pos i with e | e
  · subst e
    rw [decide_eq_false (by omega)]
    cases hb : boxB 100 d f l ((0 : Nat) - 1 : Int) (j : Int) A with
    | false => rfl
    | true => have := (rangeB_iff.1 (boxB_iff.1 hb).1).2.1; omega
  · rw [decide_eq_true e, show ((i : Int) - 1) = ((i - 1 : Nat) : Int) by omega, Bool.true_and]
    rw [Bool.eq_iff_iff, box_up hc (by omega)]
    constructor
    · intro h2; exact h2 _ (Nat.le_refl _) (by omega)
    · intro h2 k h3 h4
      by_cases e2 : k = i - 1
      · subst e2; exact h2
      · exact h k (by omega) h4
/-- One strip more behind. -/
theorem box_behind {d f : Int} {l : List ByteArray} {i j : Nat} {A : Int} (hc : cardB d f l = true) (hij : i ≤ j) (h : ∀ k, i ≤ k → k ≤ j → upB l A k = true) : boxB 100 d f l (i : Int) ((j : Int) + 1) A = upB l A (j + 1) := by
  rw [show ((j : Int) + 1) = ((j + 1 : Nat) : Int) by omega, Bool.eq_iff_iff, box_up hc (by omega)]
  constructor
  · intro h2; exact h2 _ (by omega) (Nat.le_refl _)
  · intro h2 k h3 h4
    by_cases e2 : k = j + 1
    · subst e2; exact h2
    · exact h k h3 (by omega)
theorem downTo_step {p : Nat → Bool} {i : Nat} (h : 0 < i) (hp : p (i - 1) = true) : downTo p i = downTo p (i - 1) := by
  obtain ⟨m, rfl⟩ : ∃ m, i = m + 1 := ⟨i - 1, by omega⟩
  show (if p m = true then downTo p m else m + 1) = _
  rw [if_pos (show p m = true from hp)]; rfl
theorem downTo_stop {p : Nat → Bool} {i : Nat} (hp : i = 0 ∨ p (i - 1) = false) : downTo p i = i := by
  cases i with
  | zero => rfl
  | succ m =>
    rcases hp with h | h
    · omega
    · show (if p m = true then downTo p m else m + 1) = _
      rw [if_neg (by rw [show m = m + 1 - 1 by omega, h]; simp)]
/-- The number of steps does not matter as long as there are enough. -/
theorem upTo_more (l : List ByteArray) (A : Int) : ∀ n m j, j < l.length → l.length ≤ j + n → l.length ≤ j + m → upTo (upB l A) n j = upTo (upB l A) m j
  | 0, m, j, h1, h2, h3 => by omega
  | n + 1, 0, j, h1, h2, h3 => by omega
  | n + 1, m + 1, j, h1, h2, h3 => by
    unfold upTo
    split
    · rename_i hp
      have h4 : j + 1 < l.length := by
        refine Nat.lt_of_not_le fun hle => ?_
        rw [upB_out hle] at hp; cases hp
      exact upTo_more l A n m (j + 1) h4 (by omega) (by omega)
    · rfl
theorem wideL_step {l : List ByteArray} {A : Int} {j : Nat} (h : j < l.length) (hp : upB l A (j + 1) = true) : wideL l A j = wideL l A (j + 1) ∧ j + 1 < l.length := by
  have h4 : j + 1 < l.length := by
    refine Nat.lt_of_not_le fun hle => ?_
    rw [upB_out hle] at hp; cases hp
  refine ⟨?_, h4⟩
  unfold wideL
  rw [upTo_more l A l.length (l.length + 1) j h (by omega) (by omega)]
  show (if upB l A (j + 1) = true then upTo (upB l A) l.length (j + 1) else j) = _
  rw [if_pos hp]
theorem wideL_stop {l : List ByteArray} {A : Int} {j : Nat} (hp : upB l A (j + 1) = false) : wideL l A j = j := by
  unfold wideL
  cases l.length with
  | zero => rfl
  | succ n =>
    show (if upB l A (j + 1) = true then upTo (upB l A) n (j + 1) else j) = _
    rw [if_neg (by rw [hp]; simp)]
end Go.Proofs.Ytekmladindlmoaa.Box

/- What the program's WidestBox returns. -/
namespace Go.Proofs.Ytekmladindlmoaa.Box
open Go.ChangeShapes Go.WideShapes Go.ChangeAt Go.RowKit Go.Sort
open Go.Proofs.Ytekmladindlmoaa.Strip Go.Proofs.Ytekmladindlmoaa.Strs Go.Proofs.Ytekmladindlmoaa.Card Go.Proofs.Ytekmladindlmoaa.Corner Go.Proofs.Ytekmladindlmoaa.Kerf Go.Proofs.Ytekmladindlmoaa.Order Go.Proofs.Ytekmladindlmoaa.Flip
set_option linter.unusedVariables false

/-- The two blocks of a card that is handed over and of the box that is returned. -/
theorem beginCR (w : World) (d f : Int) (v : Value) : ∃ W, W = (w.alloc (.cells #[.int .i64 d, .int .i64 f, v] 26)).alloc (.cells #[.int .i64 0, .int .i64 0, .int .i64 0] 39) ∧ Var W w.heap.size d f v ∧ BVar W (w.heap.size + 1) 0 0 0 ∧ Below w.heap.size w W ∧ W.heap.size = w.heap.size + 2 := beginCB w d f v 0 0 0

def GaveBox (w : World) (r : Int × Int × Int) (ok : Bool) (e : Ending) (w' : World) : Prop :=
  e = .returned (.tuple #[.agg #[.int .i64 r.1, .int .i64 r.2.1, .int .i64 r.2.2], .bool ok]) ∧ Below w.heap.size w w'
/-- The three cells of a box's variable are written. -/
def setV (w : World) (b : Nat) (x y z : Int) : World := ((w.setCell ⟨b, 0, none⟩ (.int .i64 x)).setCell ⟨b, 1, none⟩ (.int .i64 y)).setCell ⟨b, 2, none⟩ (.int .i64 z)
theorem BVar.setV {w : World} {b : Nat} {x0 y0 z0 : Int} (h : BVar w b x0 y0 z0) (x y z : Int) : BVar (setV w b x y z) b x y z := by
  have h1 := heap_set_at _ _ 0 _ _ _ (.int .i64 x) h
  have h2 := heap_set_at _ _ 1 _ _ _ (.int .i64 y) h1
  have h3 := heap_set_at _ _ 2 _ _ _ (.int .i64 z) h2
  exact h3.trans (by simp)
theorem below_setV {B b : Nat} {w0 w : World} {x y z : Int} (h : Below B w0 w) (hb : B ≤ b) : Below B w0 (setV w b x y z) := ((h.setCell (p := ⟨b, 0, none⟩) hb _).setCell (p := ⟨b, 1, none⟩) hb _).setCell (p := ⟨b, 2, none⟩) hb _
theorem BVar.first {w : World} {b : Nat} {x0 y z : Int} (h : BVar w b x0 y z) (x : Int) : BVar (w.setCell ⟨b, 0, none⟩ (.int .i64 x)) b x y z := (heap_set_at _ _ 0 _ _ _ (.int .i64 x) h).trans (by simp)
theorem BVar.last {w : World} {b : Nat} {x y0 z : Int} (h : BVar w b x y0 z) (y : Int) : BVar (w.setCell ⟨b, 1, none⟩ (.int .i64 y)) b x y z := (heap_set_at _ _ 1 _ _ _ (.int .i64 y) h).trans (by simp)
theorem var_asideB {w : World} {b c j : Nat} {d f x : Int} {v : Value} (h : Var w b d f v) (hne : b ≠ c) : Var (w.setCell ⟨c, j, none⟩ (.int .i64 x)) b d f v := h.grown (grown_set w c j _) (by simpa using hne)
theorem own_asideB {w : World} {base b j : Nat} {v : Value} {x y z q : Int} {l : List ByteArray} (h : Own w base v l) (hv : BVar w b x y z) : Own (w.setCell ⟨b, j, none⟩ (.int .i64 q)) base v l :=
  World.ownsRow.kept h (grown_set w b j _) (.inr (ne_bvar h hv))

/-- What the loops lead down and up. -/
def cellN (w : World) (b j : Nat) : Nat := match w.cell? ⟨b, j, none⟩ with
  | some (.int _ x) => x.toNat
  | _ => 0
theorem lt_via {a b c d : Nat} (h1 : a = b) (h2 : c = d) (h : b < d) : a < c := by omega
theorem BVar.firstN {w : World} {b : Nat} {x y z : Int} (h : BVar w b x y z) : cellN w b 0 = x.toNat := by unfold cellN; rw [h.cells.1]
theorem BVar.lastN {w : World} {b : Nat} {x y z : Int} (h : BVar w b x y z) : cellN w b 1 = y.toNat := by unfold cellN; rw [h.cells.2.1]

set_option maxRecDepth 100000 in
set_option maxHeartbeats 2000000 in
theorem wide_impl (d f : Int) (k A : Int) (base n c : Nat) (a : Option Addr) (l : List ByteArray) (w : World) (hn : n ≤ 1048576) (h : Own w base (.slice a n c) l) (hz : ∀ s ∈ l, s.size ≤ 1048576) (hA0 : -9223372036854775808 ≤ A) (hA1 : A ≤ 9223372036854775807) :
    Calls Try.prog 18 #[.agg #[.int .i64 d, .int .i64 f, .slice a n c], .int .i64 k, .int .i64 A] w (GaveBox w (wideB d f l k A) (boxB 100 d f l k k A)) := by
  obtain ⟨W, hW, hv1, hv2, hb, hs0⟩ := beginCR w d f (.slice a n c)
  have hoW : Own W base (.slice a n c) l := by rw [hW]; exact (h.below (alloc_below _ _)).below (alloc_below _ _)
  have HN := Lib.hid h.row2.1
  have HS := Lib.hid hs0
  have HW := Lib.hid hW
  have HCA := Lib.hid (fun (F L : Int) (w' : World) (h : Own w' base (.slice a n c) l) => canAdd_impl d f F L A base n c a l w' hn h hz hA0 hA1)
  have hb2 := alloc_below W (.cells #[.int .i64 k, .int .i64 k, .int .i64 A] 39)
  have hv3 := BVar.new W k k A
  have HA1 := Lib.hid (hv1.below hb2)
  have HA2 := Lib.hid (hv2.below hb2)
  have HAO := Lib.hid (hoW.below hb2)
  have HAB := Lib.hid (hb.trans (hb2.mono hb.size))
  obtain ⟨k0, k1, k2⟩ := HA1.out.cells
  obtain ⟨m0, m1, m2⟩ := hv3.cells
  rw [hs0] at hv3
  have HA3 := Lib.hid hv3
  clear hv1 hv2 hb hs0 hz hW hoW h hb2 hv3
  go_enter Try.func18, Try.ntmps18
  go_wp2_with fail
  rw [← HW.out]
  clear HW
  go_wp2_with fail
  refine (HCA.out k k _ HAO.out).mono ?_
  rintro e w1 ⟨rfl, hb1⟩
  have HV1 := Lib.hid (HA1.out.below hb1)
  have HV2 := Lib.hid (HA2.out.below hb1)
  have HV3 := Lib.hid (HA3.out.below hb1)
  have HOW := Lib.hid (HAO.out.below hb1)
  have HB := Lib.hid (HAB.out.trans (hb1.mono HAB.out.size))
  clear hb1 k0 k1 k2 m0 m1 m2 HA1 HA2 HA3 HAO HAB
  cases hbx : boxB 100 d f l k k A with
  | false =>
    have HBX := Lib.hid hbx
    have HE := Lib.hid (show wideB d f l k A = (0, 0, 0) by unfold wideB; rw [hbx]; rfl)
    have hx : ∃ Z, Z = setV w1 (w.heap.size + 1) 0 0 0 ∧ BVar Z (w.heap.size + 1) 0 0 0 ∧ Below w.heap.size w Z := ⟨_, rfl, HV2.out.setV _ _ _, below_setV HB.out (by omega)⟩
    obtain ⟨Z, hZ, hz1, hz2⟩ := hx
    unfold setV at hZ
    obtain ⟨p0, p1, p2⟩ := HV2.out.cells
    have f0 := HV2.out.free 0
    have f1 := HV2.out.free 1
    have f2 := HV2.out.free 2
    have HZZ := Lib.hid hZ
    have HZ1 := Lib.hid hz1
    have HZ2 := Lib.hid hz2
    clear hZ hz1 hz2 hbx
    go_wp2_with fail
    rw [← HZZ.out]
    clear HZZ p0 p1 p2 f0 f1 f2
    obtain ⟨z0, z1, z2⟩ := HZ1.out.cells
    refine bodyPost_ret (v := .tuple #[.agg #[.int .i64 0, .int .i64 0, .int .i64 0], .bool false]) (by simp [results, Try.results18, go_sem, z0, z1, z2]) rfl ?_
    unfold GaveBox
    rw [HE.out, HBX.out]
    exact ⟨rfl, HZ2.out⟩
  | true =>
    have he : wideB d f l k A = ((wideF l A k.toNat : Int), (wideL l A k.toNat : Int), A) := by unfold wideB; rw [if_pos hbx]
    obtain ⟨j, rfl, hj, hc, hup⟩ := box_single hbx
    rw [Int.toNat_natCast] at he
    have HE := Lib.hid he
    have hjn : j ≤ 1048576 := by have := HN.out; omega
    have HJ := Lib.hid hj
    have HFR := Lib.hid (fun (i j : Nat) (h1 : i ≤ j) h2 => box_front (d := d) (f := f) (l := l) (i := i) (j := j) (A := A) hc h1 h2)
    have HBE := Lib.hid (fun (i j : Nat) (h1 : i ≤ j) h2 => box_behind (d := d) (f := f) (l := l) (i := i) (j := j) (A := A) hc h1 h2)
    have HUP := Lib.hid hup
    have HC := Lib.hid hc
    have HBX := Lib.hid hbx
    clear he hbx hj hc hup
    have HALL0 := Lib.hid (show ∀ m, j ≤ m → m ≤ j → upB l A m = true from fun m h1 h2 => by
      have e : m = j := by omega
      rw [e]; exact HUP.out)
    go_wp2_with fail
    go_loopw [] (fun wr => ∃ i : Nat, i ≤ j ∧ Hid (downTo (upB l A) i = wideF l A j) ∧ Hid (∀ m, i ≤ m → m ≤ j → upB l A m = true) ∧ Hid (Var wr w.heap.size d f (.slice a n c)) ∧ Hid (BVar wr (w.heap.size + 1) 0 0 0) ∧ Hid (BVar wr (w.heap.size + 2) (i : Int) (j : Int) A) ∧ Hid (Own wr base (.slice a n c) l) ∧ Hid (Below w.heap.size w wr)) (fun wr => cellN wr (w.heap.size + 2) 0)
    case atStart => exact ⟨j, Nat.le_refl _, rfl, HALL0, HV1, HV2, HV3, HOW, HB⟩
    case round =>
      clear HV1 HV2 HV3 HOW HB
      obtain ⟨i, hij, HD, HALL, HV1, HV2, HV3, HOW, HB⟩ := hrel
      have hi0 : (0 : Int) ≤ (i : Int) := Int.natCast_nonneg _
      have hi1 : (i : Int) ≤ 1048576 := by omega
      have hfr := HFR.out i j hij HALL.out
      obtain ⟨k0, k1, k2⟩ := HV1.out.cells
      obtain ⟨m0, m1, m2⟩ := HV3.out.cells
      go_wp2_with fail
      refine (HCA.out _ _ _ HOW.out).mono ?_
      rintro e w2 ⟨rfl, hb2⟩
      have hme := HV3.out.firstN
      have HV1 := Lib.hid (HV1.out.below hb2)
      have HV2 := Lib.hid (HV2.out.below hb2)
      have HV3 := Lib.hid (HV3.out.below hb2)
      have HOW := Lib.hid (HOW.out.below hb2)
      have HB := Lib.hid (HB.out.trans (hb2.mono HB.out.size))
      clear hb2 k0 k1 k2 m0 m1 m2
      rw [hfr]
      cases hq : (decide (0 < i) && upB l A (i - 1)) with
      | true =>
        rw [Bool.and_eq_true, decide_eq_true_eq] at hq
        obtain ⟨hq1, hq2⟩ := hq
        have e1 : ((i : Int) - 1) = ((i - 1 : Nat) : Int) := by omega
        have hb3 := HV3.out.first ((i - 1 : Nat) : Int)
        have HV3' := Lib.hid hb3
        obtain ⟨m0, m1, m2⟩ := HV3.out.cells
        have f0 := HV3.out.free 0
        have HV1 := Lib.hid (var_asideB (j := 0) (x := ((i - 1 : Nat) : Int)) HV1.out (show w.heap.size ≠ w.heap.size + 2 by omega))
        have HV2 := Lib.hid (HV2.out.other (j := 0) (u := .int .i64 ((i - 1 : Nat) : Int)) (show w.heap.size + 1 ≠ w.heap.size + 2 by omega))
        have HOW := Lib.hid (own_asideB (j := 0) (q := ((i - 1 : Nat) : Int)) HOW.out HV3.out)
        have HB := Lib.hid (HB.out.setCell (p := ⟨w.heap.size + 2, 0, none⟩) (by simp) (.int .i64 ((i - 1 : Nat) : Int)))
        have HMN := Lib.hid hb3.firstN
        have HD2 := Lib.hid (show downTo (upB l A) (i - 1) = wideF l A j by rw [← HD.out, downTo_step hq1 hq2])
        have HALL2 := Lib.hid (show ∀ m, i - 1 ≤ m → m ≤ j → upB l A m = true from fun m h1 h2 => by
          by_cases e : m = i - 1
          · rw [e]; exact hq2
          · exact HALL.out m (by omega) h2)
        have HME := Lib.hid hme
        clear hb3 hfr hme hq2
        go_wp2_with fail
        exact ⟨⟨i - 1, by omega, HD2, HALL2, HV1, HV2, HV3', HOW, HB⟩, lt_via HMN.out HME.out (show (((i - 1 : Nat) : Int)).toNat < ((i : Nat) : Int).toNat by omega)⟩
      | false =>
        clear hfr
        have hst : i = 0 ∨ upB l A (i - 1) = false := by
          rcases Nat.eq_zero_or_pos i with e | e
          · exact .inl e
          · right; rw [decide_eq_true e] at hq; simpa using hq
        have HFI := Lib.hid (show i = wideF l A j by rw [← HD.out, downTo_stop hst])
        clear hq hst hme HD
        go_wp2_with fail
        go_loopw [] (fun wr => ∃ j2 : Nat, j ≤ j2 ∧ j2 < l.length ∧ Hid (wideL l A j2 = wideL l A j) ∧ Hid (∀ m, i ≤ m → m ≤ j2 → upB l A m = true) ∧ Hid (Var wr w.heap.size d f (.slice a n c)) ∧ Hid (BVar wr (w.heap.size + 1) 0 0 0) ∧ Hid (BVar wr (w.heap.size + 2) (i : Int) (j2 : Int) A) ∧ Hid (Own wr base (.slice a n c) l) ∧ Hid (Below w.heap.size w wr)) (fun wr => l.length - cellN wr (w.heap.size + 2) 1)
        case atStart => exact ⟨j, Nat.le_refl _, HJ.out, rfl, HALL, HV1, HV2, HV3, HOW, HB⟩
        case round =>
          clear HV1 HV2 HV3 HOW HB HALL
          obtain ⟨j2, hjj, hjl, HD, HALL, HV1, HV2, HV3, HOW, HB⟩ := hrel
          have hi0 : (0 : Int) ≤ (j2 : Int) := Int.natCast_nonneg _
          have hi1 : (j2 : Int) ≤ 1048576 := by have := HN.out; omega
          have hfr := HBE.out i j2 (by omega) HALL.out
          obtain ⟨k0, k1, k2⟩ := HV1.out.cells
          obtain ⟨m0, m1, m2⟩ := HV3.out.cells
          go_wp2_with fail
          refine (HCA.out _ _ _ HOW.out).mono ?_
          rintro e w3 ⟨rfl, hb2⟩
          have hme := HV3.out.lastN
          have HV1 := Lib.hid (HV1.out.below hb2)
          have HV2 := Lib.hid (HV2.out.below hb2)
          have HV3 := Lib.hid (HV3.out.below hb2)
          have HOW := Lib.hid (HOW.out.below hb2)
          have HB := Lib.hid (HB.out.trans (hb2.mono HB.out.size))
          clear hb2 k0 k1 k2 m0 m1 m2
          rw [hfr]
          cases hq : upB l A (j2 + 1) with
          | true =>
            obtain ⟨hq1, hq2⟩ := wideL_step hjl hq
            have hb3 := HV3.out.last ((j2 : Int) + 1)
            have HV3' := Lib.hid hb3
            obtain ⟨m0, m1, m2⟩ := HV3.out.cells
            have f0 := HV3.out.free 1
            have HV1 := Lib.hid (var_asideB (j := 1) (x := (j2 : Int) + 1) HV1.out (show w.heap.size ≠ w.heap.size + 2 by omega))
            have HV2 := Lib.hid (HV2.out.other (j := 1) (u := .int .i64 ((j2 : Int) + 1)) (show w.heap.size + 1 ≠ w.heap.size + 2 by omega))
            have HOW := Lib.hid (own_asideB (j := 1) (q := (j2 : Int) + 1) HOW.out HV3.out)
            have HB := Lib.hid (HB.out.setCell (p := ⟨w.heap.size + 2, 1, none⟩) (by simp) (.int .i64 ((j2 : Int) + 1)))
            have HMN := Lib.hid hb3.lastN
            have HD2 := Lib.hid (show wideL l A (j2 + 1) = wideL l A j by rw [← hq1]; exact HD.out)
            have HALL2 := Lib.hid (show ∀ m, i ≤ m → m ≤ j2 + 1 → upB l A m = true from fun m h1 h2 => by
              by_cases e : m = j2 + 1
              · rw [e]; exact hq
              · exact HALL.out m h1 (by omega))
            have HME := Lib.hid hme
            clear hb3 hfr hme hq hq1
            go_wp2_with fail
            refine ⟨⟨j2 + 1, by omega, hq2, HD2, HALL2, HV1, HV2, HV3', HOW, HB⟩, ?_⟩
            refine lt_via (congrArg (fun x => l.length - x) HMN.out) (congrArg (fun x => l.length - x) HME.out) ?_
            show l.length - ((j2 : Int) + 1).toNat < l.length - (j2 : Int).toNat
            omega
          | false =>
            have HLI := Lib.hid (show j2 = wideL l A j by rw [← HD.out, wideL_stop hq])
            clear hfr hq hme
            have hx : ∃ Z, Z = setV w3 (w.heap.size + 1) (i : Int) (j2 : Int) A ∧ BVar Z (w.heap.size + 1) (i : Int) (j2 : Int) A ∧ Below w.heap.size w Z := ⟨_, rfl, HV2.out.setV _ _ _, below_setV HB.out (by omega)⟩
            obtain ⟨Z, hZ, hz1, hz2⟩ := hx
            unfold setV at hZ
            obtain ⟨m0, m1, m2⟩ := HV3.out.cells
            obtain ⟨p0, p1, p2⟩ := HV2.out.cells
            have f0 := HV2.out.free 0
            have f1 := HV2.out.free 1
            have f2 := HV2.out.free 2
            have HZZ := Lib.hid hZ
            have HZ1 := Lib.hid hz1
            have HZ2 := Lib.hid hz2
            clear hZ hz1 hz2
            go_wp2_with fail
            rw [← HZZ.out]
            clear HZZ p0 p1 p2 f0 f1 f2
            obtain ⟨z0, z1, z2⟩ := HZ1.out.cells
            refine bodyPost_ret (v := .tuple #[.agg #[.int .i64 (i : Int), .int .i64 (j2 : Int), .int .i64 A], .bool true]) (by simp [results, Try.results18, go_sem, z0, z1, z2]) rfl ?_
            unfold GaveBox
            rw [HE.out, HBX.out, ← HFI.out, ← HLI.out]
            exact ⟨rfl, HZ2.out⟩
end Go.Proofs.Ytekmladindlmoaa.Box

/- What BoxesFor returns: boxes of single strips that lead from the plain card to a card; of the program. -/
namespace Go.Proofs.Ytekmladindlmoaa.Box
open Go.ChangeShapes Go.WideShapes Go.ChangeAt Go.RowKit Go.Sort
open Go.Proofs.Ytekmladindlmoaa.Strip Go.Proofs.Ytekmladindlmoaa.Strs Go.Proofs.Ytekmladindlmoaa.Card Go.Proofs.Ytekmladindlmoaa.Corner Go.Proofs.Ytekmladindlmoaa.Kerf Go.Proofs.Ytekmladindlmoaa.Order Go.Proofs.Ytekmladindlmoaa.Flip
set_option linter.unusedVariables false

theorem way_256 (s t : List UInt8) : (wayL s t).length ≤ 256 := by
  unfold wayL
  split
  · rename_i h
    have h0 := above_nonneg h
    have h1 := area_bound h
    rw [way_length _ h (by omega)]
    omega
  · simp
/-- The boxes of strip k along a way. -/
def along (k : Nat) (l : List Int) : List B3 := l.map fun a => ((k : Int), (k : Int), a)
theorem along_snoc (k : Nat) (l : List Int) (i : Nat) (h : i < l.length) : along k (l.take (i + 1)) = along k (l.take i) ++ [((k : Int), (k : Int), l[i])] := by
  unfold along; rw [List.take_succ_eq_append_getElem h, List.map_append]; rfl
theorem along_length (k : Nat) (l : List Int) : (along k l).length = l.length := by simp [along]
/-- The boxes of the first k strips. -/
def boxesN (d f : Int) (l : List ByteArray) : Nat → List B3
  | 0 => []
  | k + 1 => boxesN d f l k ++ along k (wayL (flatL d f) (l.getD k ByteArray.empty).data.toList)
theorem boxesN_len (d f : Int) (l : List ByteArray) : ∀ k, (boxesN d f l k).length ≤ k * 256
  | 0 => by simp [boxesN]
  | k + 1 => by
    have h1 := boxesN_len d f l k
    have h2 := way_256 (flatL d f) (l.getD k ByteArray.empty).data.toList
    unfold boxesN
    rw [List.length_append, along_length]
    omega
def boxesL (d f : Int) (l : List ByteArray) : List B3 := if cardB d f l = true then boxesN d f l l.length else []
theorem boxesL_len (d f : Int) (l : List ByteArray) : (boxesL d f l).length ≤ 2560 := by
  unfold boxesL
  split
  · rename_i h
    have h1 := boxesN_len d f l l.length
    have h2 := (cardB_iff.1 h).2.2.1
    omega
  · simp

/-- A row of boxes of memory of its own, and a bool. -/
def GaveBs (w : World) (bs : List B3) (ok : Bool) (e : Ending) (w' : World) : Prop :=
  ∃ v, e = .returned (.tuple #[v, .bool ok]) ∧ Below w.heap.size w w' ∧ OwnB w' w.heap.size v bs

theorem flat_small (d f : Int) : (⟨(flatL d f).toArray⟩ : ByteArray).size ≤ 16 := by
  rw [sized_of]
  unfold flatL
  split
  · rename_i h
    have := frameB_iff.1 h
    simp
    omega
  · simp

/-- A row's block is of its elements' type. -/
theorem row_type {w : World} {base size n : Nat} {e : TypeId} {v : Value} {xs : List Value} (h : w.ownsRow base e size v n xs) {b : Nat} (hb : v.ownBlock = some b) : ∃ cur m, w.heap[b]? = some (.cells cur e m) := by
  obtain ⟨_, h1 | ⟨g, cap, cur, rfl, _, hh, _⟩⟩ := h
  · obtain ⟨rfl, _⟩ := h1
    cases hb
  · have e2 : g = b := by simpa [Value.ownBlock] using hb
    subst e2
    exact ⟨_, _, hh⟩
theorem rows_ne {w : World} {base size n base2 size2 n2 : Nat} {e e2 : TypeId} {v v2 : Value} {xs xs2 : List Value} (h : w.ownsRow base e size v n xs) (h2 : w.ownsRow base2 e2 size2 v2 n2 xs2) (hne : e ≠ e2) : ∀ b, v.ownBlock = some b → v2.ownBlock ≠ some b := by
  intro b hb hb2
  obtain ⟨c1, m1, h3⟩ := row_type h hb
  obtain ⟨c2, m2, h4⟩ := row_type h2 hb2
  rw [h3] at h4
  simp at h4
  exact hne h4.2.1
/-- Rows of other types are kept where one is written. -/
theorem row_kept {w w' : World} {base size n base2 size2 n2 : Nat} {e e2 : TypeId} {v v2 : Value} {xs xs2 : List Value} (h : w.ownsRow base e size v n xs) (h2 : w.ownsRow base2 e2 size2 v2 n2 xs2) (hne : e ≠ e2) (hg : w.grownBy w' v2.ownBlock) : w'.ownsRow base e size v n xs :=
  World.ownsRow.kept h hg (by
    cases hb : v.ownBlock with
    | none => exact .inl rfl
    | some b => right; exact (rows_ne h h2 hne b hb).symm)
theorem irow2 {w : World} {base n c : Nat} {a : Option Addr} {l : List Int} (h : Ints.Own w base (.slice a n c) l) : n = l.length ∧ Ints.IRow w a l := by
  obtain ⟨a', c', e, hr, _⟩ := h.row
  cases e
  exact ⟨rfl, hr⟩
theorem var_kept {w w' : World} {base b : Nat} {d f : Int} {v v2 : Value} {bs : List B3} (h : Var w b d f v) (h2 : OwnB w base v2 bs) (hg : w.grownBy w' v2.ownBlock) : Var w' b d f v :=
  h.grown hg (fun e => by
    obtain ⟨c1, m1, h3⟩ := row_type h2 e.symm
    unfold Var at h
    rw [h] at h3
    simp at h3)

set_option maxRecDepth 100000 in
set_option maxHeartbeats 2000000 in
theorem for_impl (d f : Int) (base n c : Nat) (a : Option Addr) (l : List ByteArray) (w : World) (hn : n ≤ 1048576) (h : Own w base (.slice a n c) l) (hz : ∀ s ∈ l, s.size ≤ 1048576) :
    Calls Try.prog 12 #[.agg #[.int .i64 d, .int .i64 f, .slice a n c]] w (GaveBs w (boxesL d f l) (cardB d f l)) := by
  obtain ⟨i0, hi, hz0, hz1, hz2⟩ := info_parts info_box
  have hv0 := Var.new w d f (.slice a n c)
  have hb0 := alloc_below w (.cells #[.int .i64 d, .int .i64 f, .slice a n c] 26)
  have HN := Lib.hid h.row2.1
  have HZ := Lib.hid hz
  have HRW := Lib.hid (h.below hb0)
  have HOK := Lib.hid (ok_impl d f a n c l _ h.row2.1.symm hn hz (h.below hb0).row2.2)
  have HV1 := Lib.hid hv0
  have HB := Lib.hid hb0
  obtain ⟨k0, k1, k2⟩ := hv0.cells
  clear hv0 hb0 hz h
  cases hcard : cardB d f l with
  | false =>
    have HE := Lib.hid (show boxesL d f l = [] by unfold boxesL; rw [hcard]; rfl)
    rw [hcard] at HOK
    clear hcard
    go_enter Try.func12, Try.ntmps12
    go_wp2_with fail
    refine HOK.out.mono ?_
    rintro e w1 ⟨rfl, hb1⟩
    have HB := Lib.hid (HB.out.trans (hb1.mono HB.out.size))
    clear hb1 k0 k1 k2
    go_wp2
    go_ret2
    rw [HE.out]
    exact ⟨_, rfl, HB.out, OwnB.nil _ _⟩
  | true =>
    have HE := Lib.hid (show boxesL d f l = boxesN d f l l.length by unfold boxesL; rw [hcard]; rfl)
    obtain ⟨g, hg⟩ : ∃ g, a = some ⟨g, 0, none⟩ := by
      rcases HRW.out.shape with ⟨_, _, e⟩ | h
      · have := (cardB_iff.1 hcard).2.1; rw [e] at this; simp at this
      · exact h
    subst hg
    have hn10 : n ≤ 10 := by have := (cardB_iff.1 hcard).2.2.1; have := HN.out; omega
    rw [hcard] at HOK
    clear hcard
    have HFL := Lib.hid (fun w' => flat_impl d f w')
    go_enter Try.func12, Try.ntmps12
    go_wp2_with fail
    refine HOK.out.mono ?_
    rintro e w1 ⟨rfl, hb1⟩
    have HV1 := Lib.hid (HV1.out.below hb1)
    have HRW := Lib.hid (HRW.out.below hb1)
    have HB := Lib.hid (HB.out.trans (hb1.mono HB.out.size))
    clear hb1 k0 k1 k2 HOK
    obtain ⟨k0, k1, k2⟩ := HV1.out.cells
    go_wp2_with fail
    clear k0 k1 k2
    go_loopw [4, 15] (fun v i wr => ∃ k : Nat, k ≤ n ∧ i = .int .i64 (k : Int) ∧ Hid (Var wr w.heap.size d f (.slice (some ⟨g, 0, none⟩) n c)) ∧ Hid (Own wr base (.slice (some ⟨g, 0, none⟩) n c) l) ∧ Hid (OwnB wr w.heap.size v (boxesN d f l k)) ∧ Hid (Below w.heap.size w wr)) (fun _ i _ => n - (intOf i).toNat)
    case atStart => exact ⟨0, Nat.zero_le _, rfl, HV1, HRW, OwnB.nil _ _, HB⟩
    case round =>
      clear HV1 HRW HB
      obtain ⟨k, hk, rfl, HV1, HRW, HO, HB⟩ := hrel
      have hk0 : (0 : Int) ≤ (k : Int) := Int.natCast_nonneg _
      obtain ⟨av, cv, rfl, _, _⟩ := HO.out.row
      by_cases hlt : k < n
      · have hk1 : (k : Int) < (n : Int) := by omega
        have hkl : k < l.length := by have := HN.out; omega
        have hcell := HRW.out.cell hkl
        have hsz := HZ.out _ (List.getElem_mem hkl)
        have HST := Lib.hid (show boxesN d f l (k + 1) = boxesN d f l k ++ along k (wayL (flatL d f) l[k].data.toList) by
          show boxesN d f l k ++ along k (wayL (flatL d f) (l.getD k ByteArray.empty).data.toList) = _
          rw [show l.getD k ByteArray.empty = l[k] by simp [List.getD, hkl]])
        generalize l[k] = s at *
        obtain ⟨k0, k1, k2⟩ := HV1.out.cells
        go_wp2_with fail
        refine (HFL.out _).mono ?_
        rintro e w2 ⟨rfl, hb2⟩
        have hfs : (⟨(flatL d f).toArray⟩ : ByteArray).size ≤ 1048576 := Nat.le_trans (flat_small d f) (by omega)
        have hway := fun w' => way_impl ⟨(flatL d f).toArray⟩ s w' hfs hsz
        have HWAY := Lib.hid hway
        have HV1 := Lib.hid (HV1.out.below hb2)
        have HRW := Lib.hid (HRW.out.below hb2)
        have HO := Lib.hid (HO.out.below hb2)
        have HB := Lib.hid (HB.out.trans (hb2.mono HB.out.size))
        clear hb2 hway k0 k1 k2 hcell hfs
        go_wp2_with fail
        refine (HWAY.out _).mono ?_
        rintro e w3 ⟨vr, rfl, hb3, ho3⟩
        have hl256 := way_256 (flatL d f) s.data.toList
        have hbl := boxesN_len d f l k
        have HV1 := Lib.hid (HV1.out.below hb3)
        have HRW := Lib.hid (HRW.out.below hb3)
        have HO := Lib.hid (HO.out.below hb3)
        have HI := Lib.hid (ho3.mono (base2 := w.heap.size) HB.out.size)
        have HB := Lib.hid (HB.out.trans (hb3.mono HB.out.size))
        have HST2 := HST.out
        generalize wayL (flatL d f) s.data.toList = L at *
        clear hb3 ho3 HWAY HST
        have HST := Lib.hid HST2
        clear HST2
        generalize boxesN d f l k = Bk at *
        obtain ⟨ar, cr, rfl, hir, _⟩ := HI.out.row
        go_wp2_with fail
        go_loopw [4, 28] (fun v i wr => ∃ q : Nat, q ≤ L.length ∧ i = .int .i64 (q : Int) ∧ Hid (Var wr w.heap.size d f (.slice (some ⟨g, 0, none⟩) n c)) ∧ Hid (Own wr base (.slice (some ⟨g, 0, none⟩) n c) l) ∧ Hid (Ints.Own wr w.heap.size (.slice ar L.length cr) L) ∧ Hid (OwnB wr w.heap.size v (Bk ++ along k (L.take q))) ∧ Hid (Below w.heap.size w wr)) (fun _ i _ => L.length - (intOf i).toNat)
        case atStart => exact ⟨0, Nat.zero_le _, rfl, HV1, HRW, HI, by rw [List.take_zero]; simpa [along] using HO, HB⟩
        case round =>
          clear HV1 HRW HI HO HB hir
          obtain ⟨q, hq, rfl, HV1, HRW, HI, HO, HB⟩ := hrel
          have hq0 : (0 : Int) ≤ (q : Int) := Int.natCast_nonneg _
          by_cases hlq : q < L.length
          · have hq1 : (q : Int) < (L.length : Int) := by omega
            obtain ⟨gi, rfl, hgi, hci⟩ := (irow2 HI.out).2 q hlq
            have HAL := Lib.hid (along_snoc k L q hlq)
            have hle : (Bk ++ along k (L.take q)).length ≤ 2560 := by rw [List.length_append, along_length, List.length_take]; omega
            have HAP := Lib.hid (show Bk ++ along k (L.take (q + 1)) = (Bk ++ along k (L.take q)) ++ [((k : Int), (k : Int), L[q])] by rw [HAL.out, List.append_assoc])
            clear HAL
            generalize L[q] = at_ at *
            generalize Bk ++ along k (L.take q) = cur at *
            have HS := Lib.hid HB.out.size
            go_wp2_with (at_builtin; refine wpList_append_own _ rfl _ _ 28 rfl w.heap.size 39 i0 _ 3 24 Try.underlying28 hi hz0 hz1 hz2 rfl (by decide) u4 cur.length (bcells cur) rfl (World.ownsRow.alloc HO.out _) ⟨wr.heap.size, 0, none⟩ 1 1 (bcell ((k : Int), (k : Int), at_)) rfl rfl (World.news_of_block (cs := #[.int .i64 (k : Int), .int .i64 (k : Int), .int .i64 at_]) (t := 39) (fr := (0, 0)) (heap_alloc_new _ _)) (by simp [bcell, Value.oneCell']) (by unfold maxLen; omega) (by omega) (by have := HS.out; simp; omega) ?_)
            intro v1 w4 hown1 hgrow _
            have hba := alloc_below wr (.cells #[.int .i64 (k : Int), .int .i64 (k : Int), .int .i64 at_] 39)
            have hoa := HO.out.below hba
            have HV1 := Lib.hid (var_kept (HV1.out.below hba) hoa hgrow)
            have HRW := Lib.hid (show Own w4 base (.slice (some ⟨g, 0, none⟩) n c) l from row_kept (HRW.out.below hba) hoa (by decide) hgrow)
            have HI := Lib.hid (show Ints.Own w4 w.heap.size (.slice (some ⟨gi, 0, none⟩) L.length cr) L from row_kept (HI.out.below hba) hoa (by decide) hgrow)
            have HB := Lib.hid ((HB.out.trans (hba.mono HS.out)).grown hgrow (by have := HS.out; simp; omega) (fun t e => (hoa.lt t e).1))
            have HO := Lib.hid (show OwnB w4 w.heap.size v1 (cur ++ [((k : Int), (k : Int), at_)]) by
              show World.ownsRow _ _ _ _ _ _ _
              rw [bcells_append, bcells_one, List.length_append]; exact hown1)
            rw [← HAP.out] at HO
            clear hown1 hgrow hba hoa hci
            go_wp2
            go_roundw
            case rel => exact ⟨q + 1, by omega, by go_num, HV1, HRW, HI, HO, HB⟩
            case measure => simp [intOf]; omega
          · obtain rfl : q = L.length := by omega
            rw [List.take_length, ← HST.out] at HO
            go_wp2
            go_roundw
            case rel => exact ⟨k + 1, by omega, by go_num, HV1, HRW, HO, HB⟩
            case measure => simp [intOf]; omega
      · have HKN := Lib.hid (show k = n by omega)
        have HO := Lib.hid (show OwnB wr w.heap.size (.slice av (boxesN d f l k).length cv) (boxesL d f l) by rw [HE.out, ← HN.out, ← HKN.out]; exact HO.out)
        go_wp2
        go_ret2
        exact ⟨_, rfl, HB.out, HO.out⟩
end Go.Proofs.Ytekmladindlmoaa.Box

/- What the law of chapter 11 asks, as facts on cards. Pure mathematics. -/
namespace Go.Proofs.Ytekmladindlmoaa.Box
open Go.ChangeShapes Go.WideShapes Go.ChangeAt Go.RowKit
open Go.Proofs.Ytekmladindlmoaa.Strip Go.Proofs.Ytekmladindlmoaa.Strs Go.Proofs.Ytekmladindlmoaa.Card Go.Proofs.Ytekmladindlmoaa.Corner Go.Proofs.Ytekmladindlmoaa.Kerf Go.Proofs.Ytekmladindlmoaa.Order Go.Proofs.Ytekmladindlmoaa.Flip Go.Proofs.Ytekmladindlmoaa.Draw
set_option linter.unusedVariables false

/-! ### strips of one frame -/
theorem good_iff {d f : Int} {s : ByteArray} (hf : frameB d f = true) : goodB d f s = true ↔ stripB s.data.toList = true ∧ (cnt 100 s.data.toList : Int) = d ∧ (cnt 102 s.data.toList : Int) = f := by
  constructor
  · intro h
    have hs := good_strip hf h
    unfold goodB numV at h
    rw [decide_eq_true_eq, if_pos hs, if_pos hs] at h
    exact ⟨hs, h⟩
  · rintro ⟨hs, h⟩
    unfold goodB numV
    rw [decide_eq_true_eq, if_pos hs, if_pos hs]
    exact h
theorem good_same {d f : Int} {s t : ByteArray} (hf : frameB d f = true) (h : sameB s.data.toList t.data.toList = true) (hg : goodB d f s = true) : goodB d f t = true := by
  obtain ⟨h1, h2, h3, h4, _⟩ := same_facts h
  obtain ⟨_, g1, g2⟩ := (good_iff hf).1 hg
  exact (good_iff hf).2 ⟨h2, by omega, by omega⟩
theorem corner_nat {x : UInt8} {l : List UInt8} {A : Int} (h : cornerB x l A = true) : ∃ k : Nat, A = (k : Int) := ⟨A.toNat, by have := corner_in h; omega⟩
theorem raise_good {d f A : Int} {s : ByteArray} (hf : frameB d f = true) (hg : goodB d f s = true) (hc : cornerB 100 s.data.toList A = true) : goodB d f (raiseS s A) = true := by
  obtain ⟨k, rfl⟩ := corner_nat hc
  refine good_same hf ?_ hg
  rw [raise_list hc]
  exact (raise_facts hc).1
/-- Raised and lowered again. -/
theorem raise_back {A : Int} {s : ByteArray} (hc : cornerB 100 s.data.toList A = true) : cornerB 102 (raiseS s A).data.toList A = true ∧ lowerS (raiseS s A) A = s ∧ roomI (raiseS s A).data.toList = roomI s.data.toList + 1 := by
  obtain ⟨k, rfl⟩ := corner_nat hc
  obtain ⟨f1, f2, f3, f4⟩ := raise_facts hc
  have hrl := raise_list hc
  have h5 : cornerB 102 (raiseS s (k : Int)).data.toList (k : Int) = true := by rw [hrl]; exact f3
  refine ⟨h5, ?_, by rw [hrl]; exact raise_room hc⟩
  refine of_list ?_
  unfold lowerS
  rw [if_pos h5]
  show lowerL (raiseS s (k : Int)).data.toList (k : Int).toNat = _
  rw [hrl, Int.toNat_natCast, f4]

/-! ### the flat strip is under all others -/
theorem flat_eq {d f : Int} (h : frameB d f = true) : flatL d f = List.replicate d.toNat 100 ++ List.replicate f.toNat 102 := by unfold flatL; rw [if_pos h]
theorem ff_flat (a b k : Nat) : ff (List.replicate a 100 ++ List.replicate b 102) k ≤ k - a := by
  unfold ff cnt
  rw [List.take_append, List.count_append, List.take_replicate, List.take_replicate, List.count_replicate, List.count_replicate, List.length_replicate]
  simp
  omega
theorem ff_least {l : List UInt8} (hok : okL l = true) (k : Nat) (hk : k ≤ l.length) : k - cnt 100 l ≤ ff l k := by
  have h1 := cnt_sum (l.take k) (okL_take l k hok)
  have h2 : cnt 100 (l.take k) ≤ cnt 100 l := by unfold cnt; exact List.Sublist.count_le _ (List.take_sublist k l)
  rw [List.length_take] at h1
  unfold ff
  omega
theorem above_flatL {d f : Int} {s : ByteArray} (hf : frameB d f = true) (hg : goodB d f s = true) : aboveB s.data.toList (flatL d f) = true := by
  obtain ⟨h1, h2, h3⟩ := (good_iff hf).1 hg
  obtain ⟨g1, g2, g3⟩ := (good_iff hf).1 (flat_good hf)
  have e : (⟨(flatL d f).toArray⟩ : ByteArray).data.toList = flatL d f := rfl
  rw [e] at g1 g2 g3
  have hsame : sameB s.data.toList (flatL d f) = true := same_of h1 g1 (by omega) (by omega)
  refine above_iff.2 ⟨hsame, fun k hk => ?_⟩
  have h4 := ff_least (stripB_ok h1) k hk
  have h5 : ff (flatL d f) k ≤ k - d.toNat := by rw [flat_eq hf]; exact ff_flat _ _ _
  omega
theorem room_flats : ∀ a b : Fin 9, 1 ≤ a.val → 1 ≤ b.val → roomI (List.replicate a.val 100 ++ List.replicate b.val 102) = 0 := by decide +kernel
theorem room_flat {d f : Int} (hf : frameB d f = true) : roomI (flatL d f) = 0 := by
  have h := frameB_iff.1 hf
  rw [flat_eq hf]
  exact room_flats ⟨d.toNat, by omega⟩ ⟨f.toNat, by omega⟩ (by show 1 ≤ d.toNat; omega) (by show 1 ≤ f.toNat; omega)
theorem way_room {d f : Int} {s : ByteArray} (hf : frameB d f = true) (hg : goodB d f s = true) : ((wayL (flatL d f) s.data.toList).length : Int) = roomI s.data.toList := by
  have ha := above_flatL hf hg
  have h0 := above_nonneg ha
  have e := area_above ha
  rw [room_flat hf] at e
  unfold wayL
  rw [if_pos ha, way_length _ ha (by omega)]
  omega

/-! ### the boxes of a card are its room -/
theorem sumL_append (a b : List Int) : sumL (a ++ b) = sumL a + sumL b := by
  induction a with
  | nil => show sumL b = 0 + sumL b; omega
  | cons x a ih => show x + sumL (a ++ b) = x + sumL a + sumL b; omega
theorem boxes_room {d f : Int} {l : List ByteArray} (hf : frameB d f = true) (hg : ∀ s ∈ l, goodB d f s = true) : ∀ k, k ≤ l.length → ((boxesN d f l k).length : Int) = sumL (roomsL (l.take k))
  | 0, _ => rfl
  | k + 1, h => by
    have ih := boxes_room hf hg k (by omega)
    have e : l.getD k ByteArray.empty = l[k] := by simp [List.getD, show k < l.length by omega]
    have hw := way_room hf (hg l[k] (List.getElem_mem (by omega)))
    unfold boxesN
    rw [List.length_append, along_length, e, List.take_succ_eq_append_getElem (by omega)]
    unfold roomsL at ih ⊢
    rw [List.map_append, sumL_append]
    show _ = _ + (roomI l[k].data.toList + 0)
    omega
theorem boxes_vol {d f : Int} {l : List ByteArray} (hc : cardB d f l = true) : ((boxesL d f l).length : Int) = volI d f l := by
  obtain ⟨hf, _, _, hg⟩ := cardB_iff.1 hc
  unfold boxesL volI
  rw [if_pos hc, if_pos hc, boxes_room hf hg l.length (Nat.le_refl _), List.take_length]

theorem way_in (s t : List UInt8) : ∀ n, ∀ a ∈ way n s t, (0 : Int) ≤ a ∧ a ≤ 16 := by
  intro n
  induction n generalizing s with
  | zero => intro a ha; simp [way] at ha
  | succ n ih =>
    intro a ha
    cases e : nexts s t with
    | nil =>
      have : way (n + 1) s t = [] := by show (match nexts s t with | [] => [] | k :: _ => (k : Int) :: way n (raiseL s k) t) = _; rw [e]
      rw [this] at ha; simp at ha
    | cons k r =>
      rw [way_cons e] at ha
      rcases List.mem_cons.1 ha with rfl | ha
      · obtain ⟨h1, _, h3, _, h5, _⟩ := next_facts (nexts_mem.1 (show k ∈ nexts s t by rw [e]; simp))
        have := (strip_size (above_strip h3).1).2
        omega
      · exact ih _ a ha
theorem along_fit (d f : Int) (l : List ByteArray) : ∀ k, ∀ b ∈ boxesN d f l k, Fits b
  | 0, b, hb => by simp [boxesN] at hb
  | k + 1, b, hb => by
    unfold boxesN at hb
    rcases List.mem_append.1 hb with hb | hb
    · exact along_fit d f l k b hb
    · unfold along at hb
      obtain ⟨a, ha, rfl⟩ := List.mem_map.1 hb
      unfold wayL at ha
      split at ha
      · have := way_in _ _ _ a ha
        show -9223372036854775808 ≤ a ∧ a ≤ 9223372036854775807
        omega
      · simp at ha
theorem boxes_fit (d f : Int) (l : List ByteArray) : ∀ b ∈ boxesL d f l, Fits b := by
  unfold boxesL
  split
  · exact along_fit d f l _
  · intro b hb; simp at hb

/-! ### and lead to it from the plain card -/
def addsFrom (d f : Int) (s : List ByteArray × Nat) (bs : List B3) : List ByteArray × Nat := bs.foldl (addStep d f) s
theorem addsFrom_append (d f : Int) (s : List ByteArray × Nat) (a b : List B3) : addsFrom d f s (a ++ b) = addsFrom d f (addsFrom d f s a) b := by unfold addsFrom; rw [List.foldl_append]
theorem mid_get (a b : List ByteArray) (x : ByteArray) : upB (a ++ x :: b) = fun A k => if k < a.length then upB a A k else if k = a.length then cornerB 100 x.data.toList A else upB b A (k - a.length - 1) := by
  funext A k
  unfold upB
  by_cases h1 : k < a.length
  · rw [if_pos h1, List.getElem?_append_left h1]
  · rw [if_neg h1, List.getElem?_append_right (by omega)]
    by_cases h2 : k = a.length
    · subst h2; simp
    · rw [if_neg h2]
      obtain ⟨m, hm⟩ : ∃ m, k - a.length = m + 1 := ⟨k - a.length - 1, by omega⟩
      rw [hm]; simp
theorem partL_mid (A : Int) (a b : List ByteArray) (x : ByteArray) : partL 100 A (a ++ x :: b) a.length (a.length + 1) = a ++ raiseS x A :: b := by
  have h := partL_set 100 A (a ++ x :: b) a.length a.length (by simp) (Nat.le_refl _)
  rw [partL_none _ _ _ _ _ (Nat.le_refl _)] at h
  rw [← h]
  simp [chS_up]
theorem card_mid {d f : Int} {a b : List ByteArray} {x y : ByteArray} (h : cardB d f (a ++ x :: b) = true) (hy : goodB d f y = true) : cardB d f (a ++ y :: b) = true := by
  obtain ⟨hf, h1, h2, hg⟩ := cardB_iff.1 h
  refine cardB_iff.2 ⟨hf, by simpa using h1, by simpa using h2, fun s hs => ?_⟩
  rcases List.mem_append.1 hs with hs | hs
  · exact hg s (List.mem_append_left _ hs)
  · rcases List.mem_cons.1 hs with rfl | hs
    · exact hy
    · exact hg s (List.mem_append_right _ (List.mem_cons_of_mem _ hs))
theorem step_mid {d f : Int} {a b : List ByteArray} {x : ByteArray} {A : Int} {q : Nat} (hc : cardB d f (a ++ x :: b) = true) (hx : cornerB 100 x.data.toList A = true) :
    addStep d f (a ++ x :: b, q) ((a.length : Int), (a.length : Int), A) = (a ++ raiseS x A :: b, q + 1) := by
  have hb : boxB 100 d f (a ++ x :: b) (a.length : Int) (a.length : Int) A = true := by
    rw [box_up hc (Nat.le_refl _)]
    intro k h1 h2
    have : k = a.length := by omega
    subst this
    rw [mid_get]
    simp [hx]
  rw [addStep_yes (s := (a ++ x :: b, q)) (b := ((a.length : Int), (a.length : Int), A)) hb]
  show (boxL 100 d f (a ++ x :: b) (a.length : Int) (a.length : Int) A, q + 1) = _
  unfold boxL
  rw [if_pos hb, Int.toNat_natCast, partL_mid]
theorem way_adds (d f : Int) (a b : List ByteArray) (t : ByteArray) : ∀ (n : Nat) (x : ByteArray) (q : Nat), aboveB t.data.toList x.data.toList = true → areaI x.data.toList t.data.toList = (n : Int) → cardB d f (a ++ x :: b) = true →
    addsFrom d f (a ++ x :: b, q) (along a.length (way n x.data.toList t.data.toList)) = (a ++ t :: b, q + n)
  | 0, x, q, h, ha, hc => by
    have e := of_list (above_zero h ha)
    subst e
    rfl
  | n + 1, x, q, h, ha, hc => by
    have hne : x.data.toList ≠ t.data.toList := by
      intro e
      have h1 := area_above h
      rw [e] at h1 ha
      omega
    cases e : nexts x.data.toList t.data.toList with
    | nil => exact absurd e (nexts_some h hne)
    | cons k r =>
      obtain ⟨h1, h2, h3, h4, _⟩ := next_facts (nexts_mem.1 (show k ∈ nexts x.data.toList t.data.toList by rw [e]; simp))
      obtain ⟨hf, _, _, hg⟩ := cardB_iff.1 hc
      have hgx := raise_good hf (hg x (by simp)) h1
      have hl := raise_list h1
      rw [way_cons e, ← hl]
      show addsFrom d f (addStep d f (a ++ x :: b, q) ((a.length : Int), (a.length : Int), (k : Int))) (along a.length (way n (raiseS x (k : Int)).data.toList t.data.toList)) = _
      rw [step_mid hc h1, way_adds d f a b t n (raiseS x (k : Int)) (q + 1) (by rw [hl]; exact h2) (by rw [hl, h4, ha]; omega) (card_mid hc hgx)]
      congr 1
      omega
theorem plain_adds {d f : Int} {l : List ByteArray} (hc : cardB d f l = true) : ∀ k, k ≤ l.length → addsFrom d f (List.replicate l.length ⟨(flatL d f).toArray⟩, 0) (boxesN d f l k) = (l.take k ++ List.replicate (l.length - k) ⟨(flatL d f).toArray⟩, (boxesN d f l k).length)
  | 0, _ => by simp [boxesN, addsFrom]
  | k + 1, h => by
    obtain ⟨hf, c1, c2, hg⟩ := cardB_iff.1 hc
    have ih := plain_adds hc k (by omega)
    have hkl : k < l.length := by omega
    have e : l.getD k ByteArray.empty = l[k] := by simp [List.getD, hkl]
    have hgk := hg l[k] (List.getElem_mem hkl)
    have ha := above_flatL hf hgk
    have h0 := above_nonneg ha
    have hlen : (l.take k).length = k := by rw [List.length_take]; omega
    have er : List.replicate (l.length - k) (⟨(flatL d f).toArray⟩ : ByteArray) = ⟨(flatL d f).toArray⟩ :: List.replicate (l.length - (k + 1)) ⟨(flatL d f).toArray⟩ := by
      rw [← List.replicate_succ]; congr 1; omega
    have hcc : cardB d f (l.take k ++ (⟨(flatL d f).toArray⟩ : ByteArray) :: List.replicate (l.length - (k + 1)) ⟨(flatL d f).toArray⟩) = true := by
      refine cardB_iff.2 ⟨hf, by simp; omega, by simp; omega, fun s hs => ?_⟩
      rcases List.mem_append.1 hs with hs | hs
      · exact hg s (List.mem_of_mem_take hs)
      · rcases List.mem_cons.1 hs with rfl | hs
        · exact flat_good hf
        · rw [(List.mem_replicate.1 hs).2]; exact flat_good hf
    have hw : wayL (flatL d f) l[k].data.toList = way (areaI (flatL d f) l[k].data.toList).toNat (flatL d f) l[k].data.toList := by unfold wayL; rw [if_pos ha]
    have hn := way_length (areaI (flatL d f) l[k].data.toList).toNat ha (by omega)
    have hwa := way_adds d f (l.take k) (List.replicate (l.length - (k + 1)) ⟨(flatL d f).toArray⟩) l[k] (areaI (flatL d f) l[k].data.toList).toNat ⟨(flatL d f).toArray⟩ (boxesN d f l k).length ha (by show areaI (flatL d f) l[k].data.toList = _; omega) hcc
    rw [hlen] at hwa
    unfold boxesN
    rw [addsFrom_append, ih, e, er, List.length_append, along_length, hw, hn, List.take_succ_eq_append_getElem hkl, List.append_assoc]
    exact hwa
theorem plain_card {d f : Int} {l : List ByteArray} (hc : cardB d f l = true) : cardB d f (List.replicate l.length ⟨(flatL d f).toArray⟩) = true := by
  obtain ⟨hf, c1, c2, hg⟩ := cardB_iff.1 hc
  exact cardB_iff.2 ⟨hf, by simpa using c1, by simpa using c2, fun s hs => by rw [(List.mem_replicate.1 hs).2]; exact flat_good hf⟩
/-- Every card is built of boxes. -/
theorem built {d f : Int} {l : List ByteArray} (hc : cardB d f l = true) : addsL d f (List.replicate l.length ⟨(flatL d f).toArray⟩) (boxesL d f l) = l ∧ addsN d f (List.replicate l.length ⟨(flatL d f).toArray⟩) (boxesL d f l) = ((boxesL d f l).length : Int) := by
  have h := plain_adds hc l.length (Nat.le_refl _)
  have e : boxesL d f l = boxesN d f l l.length := by unfold boxesL; rw [if_pos hc]
  have h2 : adds d f (List.replicate l.length ⟨(flatL d f).toArray⟩) (boxesL d f l) = (l, (boxesL d f l).length) := by
    rw [e]
    show addsFrom d f _ _ = _
    rw [h, Nat.sub_self, List.take_length]
    simp
  unfold addsL addsN
  rw [if_pos (plain_card hc), if_pos (plain_card hc), h2]
  exact ⟨rfl, rfl⟩
theorem no_card (bs : List B3) : addsN 0 0 [] bs = -1 := by unfold addsN; rfl

/-! ### the widest box, added and taken away again -/
theorem roomsL_set (l : List ByteArray) (k : Nat) (x : ByteArray) (h : k < l.length) : sumL (roomsL (l.set k x)) = sumL (roomsL l) - roomI l[k].data.toList + roomI x.data.toList := by
  induction l generalizing k with
  | nil => simp at h
  | cons s l ih =>
    cases k with
    | zero => show roomI x.data.toList + sumL (roomsL l) = roomI s.data.toList + sumL (roomsL l) - roomI s.data.toList + roomI x.data.toList; omega
    | succ k =>
      have hk : k < l.length := by simpa using h
      have := ih k hk
      show roomI s.data.toList + sumL (roomsL (l.set k x)) = roomI s.data.toList + sumL (roomsL l) - roomI l[k].data.toList + roomI x.data.toList
      omega
theorem part_room {A : Int} {l : List ByteArray} {i : Nat} : ∀ m, i + m ≤ l.length → (∀ k, i ≤ k → k < i + m → upB l A k = true) → sumL (roomsL (partL 100 A l i (i + m))) = sumL (roomsL l) + (m : Int)
  | 0, _, _ => by rw [Nat.add_zero, partL_none _ _ _ _ _ (Nat.le_refl _)]; simp
  | m + 1, h, hu => by
    have ih := part_room m (by omega) fun k h1 h2 => hu k h1 (by omega)
    have hk : i + m < l.length := by omega
    have hup := hu (i + m) (by omega) (by omega)
    rw [upB_get hk] at hup
    rw [show i + (m + 1) = i + m + 1 by omega, ← partL_set 100 A l i (i + m) hk (by omega), roomsL_set _ _ _ (by rw [partL_length]; exact hk), ih, partL_get _ _ _ _ _ _ hk, if_neg (by omega), chS_up, (raise_back hup).2.2]
    omega
/-- What the law asks of the widest box. -/
structure Wide (d f : Int) (l : List ByteArray) (k : Nat) (A : Int) (F L : Nat) (y : List ByteArray) : Prop where
  wide : wideB d f l (k : Int) A = ((F : Int), (L : Int), A)
  up : boxL 100 d f l (F : Int) (L : Int) A = y
  can : boxB 100 d f l (F : Int) (L : Int) A = true
  down : boxL 102 d f y (F : Int) (L : Int) A = l
  back : boxB 102 d f y (F : Int) (L : Int) A = true
  first : F ≤ k
  last : k ≤ L
  lt : L < l.length
  card : cardB d f y = true
  room : volI d f y = volI d f l + (L : Int) - (F : Int) + 1
  front : boxB 100 d f l ((F : Int) - 1) (L : Int) A = false
  behind : boxB 100 d f l (F : Int) ((L : Int) + 1) A = false
  len : y.length = l.length
theorem wide_is {d f : Int} {l : List ByteArray} {k : Nat} {A : Int} (hc : cardB d f l = true) (hk : k < l.length) (hx : cornerB 100 l[k].data.toList A = true) : ∃ F L y, Wide d f l k A F L y := by
  obtain ⟨hf, c1, c2, hg⟩ := cardB_iff.1 hc
  have hup : upB l A k = true := by rw [upB_get hk]; exact hx
  have hF := downTo_le (upB l A) k
  have hL := upTo_ge (upB l A) l.length k
  have hLl := upTo_lt l A l.length k hk
  have hall : ∀ m, wideF l A k ≤ m → m ≤ wideL l A k → upB l A m = true := by
    intro m h1 h2
    by_cases e1 : m < k
    · exact downTo_all _ k m h1 e1
    · by_cases e2 : m = k
      · subst e2; exact hup
      · exact upTo_all _ l.length k m (by omega) h2
  have hFL : wideF l A k ≤ wideL l A k := Nat.le_trans hF hL
  have hcan : boxB 100 d f l (wideF l A k : Int) (wideL l A k : Int) A = true := (box_up hc hFL).2 hall
  have hup2 : boxL 100 d f l (wideF l A k : Int) (wideL l A k : Int) A = partL 100 A l (wideF l A k) (wideL l A k + 1) := by unfold boxL; rw [if_pos hcan, Int.toNat_natCast, Int.toNat_natCast]
  have hcorner : ∀ m (hm : m < l.length), wideF l A k ≤ m → m < wideL l A k + 1 → cornerB 100 l[m].data.toList A = true := fun m hm h1 h2 => by rw [← upB_get hm]; exact hall m h1 (by omega)
  have hcy : cardB d f (partL 100 A l (wideF l A k) (wideL l A k + 1)) = true := by
    refine cardB_iff.2 ⟨hf, by rw [partL_length]; exact c1, by rw [partL_length]; exact c2, fun s hs => ?_⟩
    obtain ⟨m, hm, rfl⟩ := List.mem_iff_getElem.1 hs
    rw [partL_length] at hm
    rw [partL_get _ _ _ _ _ _ hm]
    split
    · rename_i h
      exact raise_good hf (hg _ (List.getElem_mem hm)) (hcorner m hm h.1 h.2)
    · exact hg _ (List.getElem_mem hm)
  have hrange : rangeB d f (partL 100 A l (wideF l A k) (wideL l A k + 1)) (wideF l A k : Int) (wideL l A k : Int) = true := rangeB_iff.2 ⟨hcy, by omega, by omega, by rw [partL_length]; show ((upTo (upB l A) l.length k : Nat) : Int) < _; omega⟩
  obtain ⟨hb1, hb2⟩ := box_good (x := 102) (A := A) hrange (fun m hm h1 h2 => by
    rw [partL_length] at hm
    rw [partL_get _ _ _ _ _ _ hm, if_pos ⟨h1, h2⟩, chS_up]
    exact (raise_back (hcorner m hm h1 h2)).1)
  refine ⟨wideF l A k, wideL l A k, _, ?_, hup2, hcan, ?_, hb1, hF, hL, hLl, hcy, ?_, ?_, ?_, partL_length _ _ _ _ _⟩
  · unfold wideB
    rw [if_pos ((box_up hc (Nat.le_refl _)).2 fun m h1 h2 => by have : m = k := by omega
                                                                subst this; exact hup), Int.toNat_natCast]
  · rw [hb2]
    refine List.ext_getElem (by rw [partL_length, partL_length]) fun m h1 h2 => ?_
    rw [partL_get _ _ _ _ _ _ (by rw [partL_length]; exact h2), partL_get _ _ _ _ _ _ h2]
    by_cases e : wideF l A k ≤ m ∧ m < wideL l A k + 1
    · rw [if_pos e, if_pos e, chS_up, chS_low]
      exact (raise_back (hcorner m h2 e.1 e.2)).2.1
    · rw [if_neg e, if_neg e]
  · have hr := part_room (A := A) (l := l) (i := wideF l A k) (wideL l A k + 1 - wideF l A k) (by have : wideL l A k < l.length := hLl; omega) fun m h1 h2 => hall m h1 (by omega)
    rw [show wideF l A k + (wideL l A k + 1 - wideF l A k) = wideL l A k + 1 by omega] at hr
    unfold volI
    rw [if_pos hc, if_pos hcy, hr]
    omega
  · rw [box_front hc hFL hall]
    rcases downTo_end (upB l A) k with h | h
    · have : wideF l A k = 0 := h
      rw [this]; rfl
    · rw [show upB l A (wideF l A k - 1) = false from h, Bool.and_false]
  · rw [box_behind hc hFL hall]
    exact upTo_end l A l.length k hk (by omega)
/-- Where the strip is no valley there, no box. -/
theorem wide_not {d f : Int} {l : List ByteArray} {k : Nat} {A : Int} (hk : k < l.length) (hx : cornerB 100 l[k].data.toList A = false) : boxB 100 d f l (k : Int) (k : Int) A = false ∧ wideB d f l (k : Int) A = (0, 0, 0) := by
  have h := (box_bad (x := 100) (d := d) (f := f) (i := k) (j := k) (A := A) k hk (Nat.le_refl _) (by omega) hx).1
  exact ⟨h, by unfold wideB; rw [if_neg (by rw [h]; simp)]⟩
theorem wide_yes {d f : Int} {l : List ByteArray} {k : Nat} {A : Int} (hc : cardB d f l = true) (hk : k < l.length) (hx : cornerB 100 l[k].data.toList A = true) : boxB 100 d f l (k : Int) (k : Int) A = true :=
  (box_up hc (Nat.le_refl _)).2 fun m h1 h2 => by
    have e : m = k := by omega
    rw [e, upB_get hk]; exact hx
end Go.Proofs.Ytekmladindlmoaa.Box
