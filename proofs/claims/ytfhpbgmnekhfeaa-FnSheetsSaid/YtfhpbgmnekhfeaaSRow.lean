/- Slices of strings in memory: rows of the call's own, rows that came in; marks in them. -/
import Derived.Test.YtfhpbgmnekhfeaaMark
import Derived.Deep.AppendLies
import Derived.Laws.MakeOwn
import Derived.Laws.OwnMore
namespace Go.Proofs.Ytfhpbgmnekhfeaa.Strs
open Go.ChangeShapes Go.WideShapes Go.ChangeAt Go.RowKit
set_option linter.unusedVariables false

theorem scells_length (l : List ByteArray) : (scells l).length = l.length := by simp [scells]
theorem scells_snoc (l : List ByteArray) (x : ByteArray) : scells (l ++ [x]) = scells l ++ [.string x] := by simp [scells]
theorem scells_append (l m : List ByteArray) : scells (l ++ m) = scells l ++ scells m := by simp [scells]
theorem scells_get (l : List ByteArray) (j : Nat) (h : j < l.length) : (scells l)[j]? = some (.string l[j]) := by simp [scells, h]
theorem scells_one (l : List ByteArray) : ∀ v ∈ scells l, v.oneCell' = true := by
  intro v hv
  simp [scells] at hv
  obtain ⟨s, _, rfl⟩ := hv
  rfl

/-- v is a slice of the strings l; its block is none of those below base. -/
def Own (w : World) (base : Nat) (v : Value) (l : List ByteArray) : Prop := w.ownsRow base 9 1 v l.length (scells l)

theorem Own.row {w : World} {base : Nat} {v : Value} {l : List ByteArray} (h : Own w base v l) : ∃ a cap, v = .slice a l.length cap ∧ Row w a l ∧ l.length ≤ maxLen := by
  obtain ⟨hl, h1 | ⟨g, cap, cur, rfl, hg, hh, hnc, hcm, hcs, ht⟩⟩ := h
  · obtain ⟨rfl, h0⟩ := h1
    have hl0 : l = [] := by simpa using h0
    subst hl0
    exact ⟨none, 0, rfl, fun j hj => by simp at hj, Nat.zero_le _⟩
  · exact ⟨_, cap, rfl, Row.of_block hh (by simpa using ht), by omega⟩

theorem Own.row2 {w : World} {base n c : Nat} {a : Option Addr} {l : List ByteArray} (h : Own w base (.slice a n c) l) : n = l.length ∧ Row w a l := by
  obtain ⟨a', c', e, hr, _⟩ := h.row
  cases e
  exact ⟨rfl, hr⟩

theorem Own.nil (w : World) (base : Nat) : Own w base (.slice none 0 0) [] := World.ownsRow_nil w base _ _
theorem drewN_below (w : World) (q : Nat) : Below w.heap.size w (w.drewN q) := ⟨rfl, rfl, rfl, Nat.le_refl _, fun _ _ => rfl⟩
theorem alloc_below (w : World) (o : Obj) : Below w.heap.size w (w.alloc o) := (Below.refl _ _).alloc (Nat.le_refl _) _

/-- A row is kept by what leaves all that stood before alone. -/
theorem Own.below {w w' : World} {base : Nat} {v : Value} {l : List ByteArray} (h : Own w base v l) (hb : Below w.heap.size w w') : Own w' base v l :=
  World.ownsRow.kept h (grown_below hb none) (by
    cases hb : v.ownBlock with
    | none => exact .inl rfl
    | some b => right; simp)

/-- A row is kept by what writes into another's block. -/
theorem Own.apart {w w' : World} {base base2 : Nat} {v v2 : Value} {l l2 : List ByteArray} (h : Own w base v l) (h2 : Own w base2 v2 l2) (hne : ∀ b, v.ownBlock = some b → b < base2) (hg : w.grownBy w' v2.ownBlock) : Own w' base v l :=
  World.ownsRow.kept h hg (by
    cases hb : v.ownBlock with
    | none => exact .inl rfl
    | some b =>
      right
      intro e
      have h3 := hne b hb
      have h4 := (World.ownsRow.lt h2 b e.symm).1
      omega)

theorem Own.lt {w : World} {base : Nat} {v : Value} {l : List ByteArray} (h : Own w base v l) : ∀ k, v.ownBlock = some k → base ≤ k ∧ k < w.heap.size := World.ownsRow.lt h
theorem Own.mono {w : World} {base base2 : Nat} {v : Value} {l : List ByteArray} (h : Own w base v l) (hb : base2 ≤ base) : Own w base2 v l := by
  obtain ⟨hl, h1 | ⟨g, cap, cur, e, hg, rest⟩⟩ := h
  · exact ⟨hl, .inl h1⟩
  · exact ⟨hl, .inr ⟨g, cap, cur, e, by omega, rest⟩⟩

/-- What stood below a number stays as it was where only a row from there on is written. -/
theorem Own.write_below {B : Nat} {w0 w w' : World} {base : Nat} {v : Value} {l : List ByteArray} (h : Own w base v l) (hb : Below B w0 w) (hB : B ≤ base) (hB2 : B ≤ w.heap.size) (hg : w.grownBy w' v.ownBlock) : Below B w0 w' :=
  hb.grown hg hB2 (fun j e => by have := (h.lt j e).1; omega)

/-- One of its cells is written. -/
theorem Own.set {w : World} {base g n cap j : Nat} {l : List ByteArray} (x : ByteArray) (h : Own w base (.slice (some ⟨g, 0, none⟩) n cap) l) (hj : j < l.length) :
    Own (w.setCell ⟨g, j, none⟩ (.string x)) base (.slice (some ⟨g, 0, none⟩) n cap) (l.set j x) := by
  obtain ⟨hl, h1 | ⟨g', cap', cur, e, hg, hh, hnc, hcm, hcs, ht⟩⟩ := h
  · cases h1.1
  · cases e
    refine ⟨by simp [scells], .inr ⟨g, cap, cur.setIfInBounds j (.string x), by simp, hg, heap_set_at _ _ _ _ _ _ _ hh, by simpa using hnc, hcm, by simp [hcs], ?_⟩⟩
    rw [Array.toList_setIfInBounds, List.length_set, List.take_set, ht]
    simp [scells, List.map_set]

theorem Own.free {w : World} {base g n cap : Nat} {l : List ByteArray} (h : Own w base (.slice (some ⟨g, 0, none⟩) n cap) l) (j : Nat) : w.frozen? ⟨g, j, none⟩ = false := by
  obtain ⟨hl, h1 | ⟨g', cap', cur, e, hg, hh, _⟩⟩ := h
  · cases h1.1
  · cases e; simp [World.frozen?, hh]

theorem Own.cell {w : World} {base g n cap j : Nat} {l : List ByteArray} (h : Own w base (.slice (some ⟨g, 0, none⟩) n cap) l) (hj : j < l.length) : w.cell? ⟨g, j, none⟩ = some (.string l[j]) := by
  obtain ⟨a, c, e, hr, _⟩ := h.row
  cases e
  obtain ⟨g', e, _, hc⟩ := hr j hj
  cases e; exact hc

theorem Own.shape {w : World} {base n c : Nat} {a : Option Addr} {l : List ByteArray} (h : Own w base (.slice a n c) l) : (a = none ∧ c = 0 ∧ l = []) ∨ ∃ g, a = some ⟨g, 0, none⟩ := by
  obtain ⟨_, h1 | ⟨g', cap', cur, e, _⟩⟩ := h
  · left
    obtain ⟨e, h0⟩ := h1
    cases e
    exact ⟨rfl, rfl, List.eq_nil_of_length_eq_zero h0⟩
  · right; cases e; exact ⟨_, rfl⟩

theorem row_news {w : World} {g : Nat} {l : List ByteArray} (h : Row w (some ⟨g, 0, none⟩) l) : ∀ j u, (scells l)[j]? = some u → w.cell? ((⟨g, 0, none⟩ : Addr).add j) = some u := by
  intro j u hj
  have hjl : j < l.length := by
    have := (List.getElem?_eq_some_iff.1 hj).1
    rwa [scells_length] at this
  rw [scells_get l j hjl] at hj
  obtain ⟨g', e, _, hc⟩ := h j hjl
  cases e
  have hadd : (⟨g, 0, none⟩ : Addr).add j = ⟨g, j, none⟩ := by unfold Addr.add; split <;> simp_all
  rw [hadd, hc]; exact hj

/-- A slice that came in: the first strings behind a. -/
def ARow (w : World) (a : Option Addr) (l : List ByteArray) : Prop :=
  ∀ j (h : j < l.length), ∃ x, a = some x ∧ x.block < w.heap.size ∧ w.cell? (x.add j) = some (.string l[j])

theorem add_block (x : Addr) (j : Nat) : (x.add j).block = x.block := by unfold Addr.add; split <;> rfl

theorem ARow.below {w w' : World} {a : Option Addr} {l : List ByteArray} (h : ARow w a l) (hb : Below w.heap.size w w') : ARow w' a l := by
  intro j hj
  obtain ⟨x, e, hx, hc⟩ := h j hj
  refine ⟨x, e, Nat.lt_of_lt_of_le hx hb.size, ?_⟩
  rw [hb.cell (p := x.add j) (by rw [add_block]; exact hx)]; exact hc

/-- The same where only what lies from the start on was written. -/
theorem ARow.since {B : Nat} {w w' : World} {a : Option Addr} {l : List ByteArray} (h : ARow w a l) (hB : w.heap.size ≤ B) (hb : Below B w w') : ARow w' a l := h.below (hb.mono hB)
theorem Row.since {B : Nat} {w w' : World} {a : Option Addr} {l : List ByteArray} (h : Row w a l) (hB : w.heap.size ≤ B) (hb : Below B w w') : Row w' a l := h.below (hb.mono hB)

/-- The first k of l, then empty strings. -/
def filled (l : List ByteArray) (k : Nat) : List ByteArray := l.take k ++ List.replicate (l.length - k) ⟨#[]⟩
theorem filled_length (l : List ByteArray) (k : Nat) (h : k ≤ l.length) : (filled l k).length = l.length := by simp [filled]; omega
theorem filled_zero (l : List ByteArray) : filled l 0 = List.replicate l.length ⟨#[]⟩ := by simp [filled]
theorem filled_all (l : List ByteArray) : filled l l.length = l := by simp [filled]
theorem filled_set (l : List ByteArray) (k : Nat) (h : k < l.length) : (filled l k).set k l[k] = filled l (k + 1) := by
  unfold filled
  have hl : (l.take k).length = k := by rw [List.length_take]; omega
  rw [List.set_append_right _ _ (by omega), hl, Nat.sub_self, show l.length - k = (l.length - (k + 1)) + 1 from by omega, List.replicate_succ, List.set_cons_zero, List.take_succ_eq_append_getElem h, List.append_assoc]
  rfl

theorem info_str16 : (Try.prog.info? 9).map (fun i => (i.zero, i.size, i.bytes)) = some (some (.string ⟨#[]⟩), 1, 16) := by kernel_rfl

theorem made_strs (n : Nat) : (madeCells (Value.cells (.string ⟨#[]⟩)) (n * 1)).toList = scells (List.replicate n ⟨#[]⟩) := by
  rw [Nat.mul_one]
  have h := toList_madeCells_one (.string ⟨#[]⟩) n
  unfold scells
  rw [List.map_replicate]
  exact h

set_option maxRecDepth 100000 in
theorem to_at (a : Option Addr) (c : Nat) (l : List ByteArray) (w : World) (hn : l.length ≤ 1048576) (hr : ARow w a l) :
    Calls Try.prog 39 #[.slice a l.length c] w fun e w' => ∃ v, e = .returned v ∧ Below w.heap.size w w' ∧ Own w' w.heap.size v l := by
  obtain ⟨i0, hi, hz0, hz1, hz2⟩ := info_parts info_str16
  obtain ⟨w1, hmk, hown1, hg1⟩ := run_make_full (P := Try.prog) w w.heap.size 24 9 i0 _ 1 Try.underlying24 hi hz0 hz1 .i64 .i64 l.length (by rw [hz2]; omega) (by unfold maxLen; omega) (Nat.le_refl _)
  rw [made_strs] at hown1
  have hb1 : Below w.heap.size w w1 := (Below.refl _ _).grown hg1 (Nat.le_refl _) (fun t e => by cases e)
  have ho1 : Own w1 w.heap.size (.slice (some ⟨w.heap.size, 0, none⟩) l.length l.length) (filled l 0) := by
    rw [filled_zero]
    unfold Own
    rw [List.length_replicate]; exact hown1
  have HB1 := Lib.hid hb1; clear hb1
  have HO1 := Lib.hid ho1; clear ho1 hown1 hg1
  have HR := Lib.hid hr; clear hr
  obtain ⟨n, hnl⟩ : ∃ n, l.length = n := ⟨_, rfl⟩
  rw [hnl] at hmk HO1 hn ⊢
  have HNL := Lib.hid hnl; clear hnl
  go_enter Try.func39, Try.ntmps39
  go_wp2_with fail
  go_loopw [4] (fun i wr => ∃ k : Nat, k ≤ n ∧ i = .int .i64 (k : Int) ∧ Hid (Own wr w.heap.size (.slice (some ⟨w.heap.size, 0, none⟩) n n) (filled l k)) ∧ Hid (Below w.heap.size w wr)) (fun i _ => n - (intOf i).toNat)
  case atStart => exact ⟨0, Nat.zero_le _, rfl, HO1, HB1⟩
  case round =>
    obtain ⟨k, hk, rfl, HO, HB⟩ := hrel
    by_cases hlt : k < n
    · have hk0 : (0 : Int) ≤ (k : Int) := Int.natCast_nonneg _
      have hk1 : (k : Int) < (n : Int) := by omega
      obtain ⟨x, rfl, hxs, hcell⟩ := (HR.out.below HB.out) k (by rw [HNL.out]; exact hlt)
      have hkl : k < (filled l k).length := by rw [filled_length _ _ (by rw [HNL.out]; omega), HNL.out]; exact hlt
      have hv := HO.out.cell hkl
      have hf := HO.out.free k
      generalize (filled l k)[k] = v0 at hv
      have hs := HO.out.set (l[k]'(by rw [HNL.out]; exact hlt)) hkl
      rw [filled_set _ _ (by rw [HNL.out]; exact hlt)] at hs
      generalize l[k]'_ = y at *
      have HO2 := Lib.hid hs; clear hs hkl
      have HB2 := Lib.hid (HB.out.setCell (p := ⟨w.heap.size, k, none⟩) (Nat.le_refl _) (.string y))
      go_wp2_with fail
      exact ⟨⟨k + 1, by omega, by go_num, HO2, HB2⟩, by simp [intOf]; omega⟩
    · obtain rfl : k = n := by omega
      have hfa := filled_all l
      rw [HNL.out] at hfa
      rw [hfa] at HO
      go_wp2
      go_ret
      exact ⟨_, rfl, HB.out, HO.out⟩
end Go.Proofs.Ytfhpbgmnekhfeaa.Strs
