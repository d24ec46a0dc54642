/- Bands in memory: a slice of slices, each either one strip of the row that came in, full, or a row of the call's own. -/
import Derived.Test.YtfhpbgmnekhfeaaFitRow
import Derived.ArgAppend
import Derived.Laws.OwnMore
namespace Go.Proofs.Ytfhpbgmnekhfeaa.Sheet
open Go.ChangeShapes Go.WideShapes Go.ChangeAt Go.RowKit
open Go.Proofs.Ytfhpbgmnekhfeaa.Ints
set_option linter.unusedVariables false

theorem info_band : (Try.prog.info? 33).map (fun i => (i.zero, i.size, i.bytes)) = some (some (.slice none 0 0), 1, 24) := by kernel_rfl

/-- A band: a part of one cell of block g0, which is older than what is written here; or a row of the call's own. -/
def Band (w : World) (B g0 : Nat) (u : Value) (l : List Int) : Prop :=
  (∃ k x, u = .slice (some ⟨g0, k, none⟩) 1 1 ∧ l = [x] ∧ g0 + 1 < B ∧ w.cell? ⟨g0, k, none⟩ = some (.int .i64 x)) ∨ (Own w B u l ∧ 0 < l.length)

structure Bands (w : World) (B g0 : Nat) (v : Value) (vs : List Value) (ls : List (List Int)) : Prop where
  outer : w.ownsRow B 33 1 v ls.length vs
  inner : ∀ (j : Nat) (u : Value) (l : List Int), vs[j]? = some u → ls[j]? = some l → Band w B g0 u l
  far : ∀ (j k : Nat) (u u' : Value) (b : Nat), vs[j]? = some u → vs[k]? = some u' → B ≤ b → u.ownBlock = some b → u'.ownBlock = some b → j = k
  off : ∀ (j : Nat) (u : Value) (b : Nat), vs[j]? = some u → B ≤ b → u.ownBlock = some b → v.ownBlock ≠ some b

section
variable {w w' : World} {B g0 : Nat} {u v : Value} {l : List Int} {vs : List Value} {ls : List (List Int)}

/-- What is read of a band. -/
theorem Band.arow (h : Band w B g0 u l) : 0 < l.length ∧ ∃ a c, u = .slice a l.length c ∧ ARow w a l := by
  rcases h with ⟨k, x, rfl, rfl, hg, hc⟩ | ⟨ho, h0⟩
  · refine ⟨by simp, some ⟨g0, k, none⟩, 1, rfl, fun j hj => ⟨_, rfl, World.block_lt_of_cell? w ⟨g0, k, none⟩ hc, ?_⟩⟩
    have e : j = 0 := by simpa using hj
    subst e
    have hadd : (⟨g0, k, none⟩ : Addr).add 0 = ⟨g0, k, none⟩ := by unfold Addr.add; split <;> simp_all
    rw [hadd]; exact hc
  · obtain ⟨a, c, e, hr, _⟩ := ho.row
    refine ⟨h0, a, c, e, fun j hj => ?_⟩
    obtain ⟨g, rfl, hg, hc⟩ := hr j hj
    have hadd : (⟨g, 0, none⟩ : Addr).add j = ⟨g, j, none⟩ := by unfold Addr.add; split <;> simp_all
    exact ⟨_, rfl, hg, by rw [hadd]; exact hc⟩
/-- A band stays: what is written is none of its own. -/
theorem Band.kept {row : Option Nat} (h : Band w B g0 u l) (hg : w.grownBy w' row) (hr : ∀ b, row = some b → B ≤ b + 1) (hne : ∀ b, u.ownBlock = some b → B ≤ b → row ≠ some b) : Band w' B g0 u l := by
  rcases h with ⟨k, x, rfl, rfl, h0, hc⟩ | ⟨ho, h0⟩
  · exact .inl ⟨k, x, rfl, rfl, h0, hg.cell hc (fun e => by have := hr g0 e.symm; omega)⟩
  · refine .inr ⟨World.ownsRow.kept ho hg ?_, h0⟩
    cases e : u.ownBlock with
    | none => exact .inl rfl
    | some b => right; exact fun e2 => hne b e (ho.lt b e).1 e2.symm
/-- The bands stay: a block of the call's own below them is written, or none. -/
theorem Bands.kept {row : Option Nat} (h : Bands w B g0 v vs ls) (hg : w.grownBy w' row) (hr : ∀ b, row = some b → b + 1 = B) : Bands w' B g0 v vs ls := by
  refine ⟨World.ownsRow.kept h.outer hg ?_, fun j u l hu hl => (h.inner j u l hu hl).kept hg (fun b e => by have := hr b e; omega) (fun b e hb e2 => by have := hr b e2; omega), h.far, h.off⟩
  cases e : v.ownBlock with
  | none => exact .inl rfl
  | some b => right; exact fun e2 => by have h1 := (World.ownsRow.lt h.outer b e).1; have := hr b e2.symm; omega
theorem Bands.below (h : Bands w B g0 v vs ls) (hb : Below w.heap.size w w') : Bands w' B g0 v vs ls := h.kept (grown_below hb none) (fun b e => by cases e)
theorem Bands.nil (w : World) (B g0 : Nat) : Bands w B g0 (.slice none 0 0) [] [] :=
  ⟨World.ownsRow_nil w B _ _, by intro j u l h; simp at h, by intro j k u u' b h; simp at h, by intro j u b h; simp at h⟩
theorem Bands.len (h : Bands w B g0 v vs ls) : vs.length = ls.length := by simpa using h.outer.1
theorem Bands.val (h : Bands w B g0 v vs ls) {j : Nat} {l : List Int} (hl : ls[j]? = some l) : ∃ u, vs[j]? = some u := by
  have h1 := (List.getElem?_eq_some_iff.1 hl).1
  exact ⟨vs[j]'(by rw [h.len]; exact h1), List.getElem?_eq_getElem _⟩
theorem Bands.form (h : Bands w B g0 v vs ls) : ∃ a c, v = .slice a ls.length c := by
  obtain ⟨_, ⟨e, h1⟩ | ⟨g, c, cur, e, _⟩⟩ := h.outer
  · exact ⟨none, 0, by rw [h1]; exact e⟩
  · exact ⟨some ⟨g, 0, none⟩, c, e⟩
theorem Bands.where_ {j : Nat} {l : List Int} (h : Bands w B g0 v vs ls) (hl : ls[j]? = some l) : ∃ g c, v = .slice (some ⟨g, 0, none⟩) ls.length c ∧ B ≤ g := by
  have h1 := (List.getElem?_eq_some_iff.1 hl).1
  obtain ⟨_, ⟨e, h1⟩ | ⟨g, c, cur, e, hb, _⟩⟩ := h.outer
  · omega
  · exact ⟨g, c, e, hb⟩

/-- A new band: one strip of the row. -/
theorem Bands.add (h : Bands w B g0 v vs ls) {k : Nat} {x : Int} (hg0 : g0 + 1 < B) (hc : w.cell? ⟨g0, k, none⟩ = some (.int .i64 x)) (hl : ls.length ≤ 1000) (hb : B ≤ w.heap.size) :
    ∃ (g2 cap : Nat) (w' : World), (∀ ty, (Builtin.append_ #[54, 54] ty #[v, .slice (some ⟨w.heap.size, 0, none⟩) 1 1]).run Try.prog (w.alloc (.cells #[.slice (some ⟨g0, k, none⟩) 1 1] 33)) = .ok (.slice (some ⟨g2, 0, none⟩) (ls.length + 1) cap) w') ∧
      Bands w' B g0 (.slice (some ⟨g2, 0, none⟩) (ls.length + 1) cap) (vs ++ [.slice (some ⟨g0, k, none⟩) 1 1]) (ls ++ [[x]]) ∧ Below B w w' := by
  obtain ⟨i0, hi, hz0, hz1, hz2⟩ := info_parts info_band
  have ha := below_alloc w (.cells #[.slice (some ⟨g0, k, none⟩) 1 1] 33)
  have h2 := h.below ha
  have h1 := fun ty => run_append_lies (P := Try.prog) (w.alloc (.cells #[.slice (some ⟨g0, k, none⟩) 1 1] 33)) 54 ty B 33 i0 _ 1 24 Try.underlying54 hi hz0 hz1 hz2 rfl (by decide) _ ls.length vs h2.outer ⟨w.heap.size, 0, none⟩ 1 1 [.slice (some ⟨g0, k, none⟩) 1 1] rfl (World.news_of_block (cs := #[.slice (some ⟨g0, k, none⟩) 1 1]) (t := 33) (fr := (0, 0)) (heap_alloc_new _ _)) (by simp [Value.oneCell']) (by omega) (by unfold maxLen; omega) (by omega) (by simp; omega) _ rfl
  obtain ⟨g2, cap, w', hr, hown, hg, hat, _⟩ := h1 0
  have hvb : ∀ b, v.ownBlock = .some b → B ≤ b ∧ b < w.heap.size := fun b e => World.ownsRow.lt h.outer b e
  refine ⟨g2, cap, w', fun ty => ?_, ⟨?_, ?_, ?_, ?_⟩, ((Below.refl B w).alloc hb _).grown hg (by simp; omega) (fun t e => (hvb t e).1)⟩
  · rw [← hr]; rfl
  · rw [List.length_append]; exact hown
  · intro j u l hu hl2
    rcases Nat.lt_trichotomy j vs.length with hj | hj | hj
    · rw [List.getElem?_append_left hj] at hu
      rw [List.getElem?_append_left (by rw [← h.len]; exact hj)] at hl2
      exact (h2.inner j u l hu hl2).kept hg (fun b e => by have := (hvb b e).1; omega) (fun b e hb2 e2 => h.off j u b hu hb2 e e2)
    · subst hj
      rw [List.getElem?_append_right (Nat.le_refl _), Nat.sub_self] at hu
      rw [h.len, List.getElem?_append_right (Nat.le_refl _), Nat.sub_self] at hl2
      simp at hu hl2
      subst hu hl2
      exact .inl ⟨k, x, rfl, rfl, hg0, hg.cell ((ha.cell (p := ⟨g0, k, none⟩) (World.block_lt_of_cell? w ⟨g0, k, none⟩ hc)).trans hc) (fun e => by have := (hvb g0 e.symm).1; omega)⟩
    · rw [List.getElem?_eq_none (by simp; omega)] at hu
      cases hu
  · intro j j' u u' b hu hu' hbb e e'
    have part : ∀ (j : Nat) (u : Value), (vs ++ [Value.slice (.some ⟨g0, k, none⟩) 1 1])[j]? = .some u → u.ownBlock = .some b → vs[j]? = .some u := by
      intro j u hu e
      rcases Nat.lt_trichotomy j vs.length with hj | hj | hj
      · rwa [List.getElem?_append_left hj] at hu
      · subst hj
        rw [List.getElem?_append_right (Nat.le_refl _), Nat.sub_self] at hu
        simp at hu
        subst hu
        simp [Value.ownBlock] at e
        omega
      · rw [List.getElem?_eq_none (by simp; omega)] at hu
        cases hu
    exact h.far j j' u u' b (part j u hu e) (part j' u' hu' e') hbb e e'
  · intro j u b hu hbb e e2
    have e3 : g2 = b := by simpa [Value.ownBlock] using e2
    subst e3
    rcases Nat.lt_trichotomy j vs.length with hj | hj | hj
    · rw [List.getElem?_append_left hj] at hu
      rcases hat with h3 | h3
      · exact h.off j u g2 hu hbb e h3
      · have hlj : ∃ l, ls[j]? = .some l := ⟨ls[j]'(by rw [← h.len]; exact hj), List.getElem?_eq_getElem _⟩
        obtain ⟨l, hlj⟩ := hlj
        rcases h.inner j u l hu hlj with ⟨k', x', rfl, _, hg', hc'⟩ | ⟨ho, _⟩
        · simp [Value.ownBlock] at e; omega
        · have := (ho.lt g2 e).2
          simp at h3
          omega
    · subst hj
      rw [List.getElem?_append_right (Nat.le_refl _), Nat.sub_self] at hu
      simp at hu
      subst hu
      simp [Value.ownBlock] at e
      omega
    · rw [List.getElem?_eq_none (by simp; omega)] at hu
      cases hu

/-- One more strip onto a band of one's own or a full part. -/
theorem Band.push (h : Band w B g0 u l) (x : Int) (hl : l.length ≤ 1000) (hb : B ≤ w.heap.size) :
    ∃ (g2 cap : Nat) (w' : World), (∀ ty, (Builtin.append_ #[33, 33] ty #[u, .slice (some ⟨w.heap.size, 0, none⟩) 1 1]).run Try.prog (w.alloc (.cells #[.int .i64 x] 3)) = .ok (.slice (some ⟨g2, 0, none⟩) (l.length + 1) cap) w') ∧
      Own w' B (.slice (some ⟨g2, 0, none⟩) (l.length + 1) cap) (l ++ [x]) ∧ (∃ row, w.grownBy w' row ∧ ∀ b, row = some b → B ≤ b ∧ u.ownBlock = some b) ∧ (u.ownBlock = some g2 ∨ w.heap.size ≤ g2) := by
  rcases h with ⟨k, y, rfl, rfl, h0, hc⟩ | ⟨ho, h0⟩
  · obtain ⟨i0, hi, hz0, hz1, hz2⟩ := info_parts info_int8
    have ha := below_alloc w (.cells #[.int .i64 x] 3)
    have hc2 := (ha.cell (p := ⟨g0, k, none⟩) (World.block_lt_of_cell? w ⟨g0, k, none⟩ hc)).trans hc
    have h1 := fun ty => run_append_arg_grows (P := Try.prog) (w.alloc (.cells #[.int .i64 x] 3)) 33 ty 3 i0 _ 1 8 Try.underlying33 hi hz0 hz1 hz2 rfl (by decide) ⟨g0, k, none⟩ 1 1 [.int .i64 y] rfl
      (fun j u hu => by
        have e : j = 0 := by have := (List.getElem?_eq_some_iff.1 hu).1; simpa using this
        subst e
        simp at hu
        subst hu
        have hadd : (⟨g0, k, none⟩ : Addr).add 0 = ⟨g0, k, none⟩ := by unfold Addr.add; split <;> simp_all
        rw [hadd]; exact hc2) ⟨w.heap.size, 0, none⟩ 1 1 [.int .i64 x] rfl (World.news_of_block (cs := #[.int .i64 x]) (t := 3) (fr := (0, 0)) (heap_alloc_new _ _)) (by omega) (by unfold maxLen; omega) (by omega)
    obtain ⟨v', w', hr, hown, hg⟩ := h1 0
    obtain ⟨hlen, ⟨_, e⟩ | ⟨g2, cap, cur, rfl, hgb, rest⟩⟩ := id hown
    · omega
    · have hgs : w.heap.size ≤ g2 := by simp at hgb; omega
      refine ⟨g2, cap, w', fun ty => ?_, ?_, ⟨none, ⟨hg.os, hg.tape, hg.output, by have := hg.size; simp at this; omega, fun b hbb hne => (hg.block b (by simp; omega) hne).trans (ha.block b hbb)⟩, fun b e => by cases e⟩, .inr hgs⟩
      · show _ = Result.ok (Value.slice (some ⟨g2, 0, none⟩) (1 + 1) cap) w'
        rw [← hr]; rfl
      · obtain ⟨q1, q2 | ⟨g3, cap3, cur3, e3, hg3, rest3⟩⟩ := hown
        · cases q2.1
        · cases e3
          exact ⟨q1, .inr ⟨g2, cap, cur3, rfl, by omega, rest3⟩⟩
  · obtain ⟨g2, cap, w', hr, ho2, hg, hat⟩ := push_at x ho hl hb
    have ha := below_alloc w (.cells #[.int .i64 x] 3)
    refine ⟨g2, cap, w', hr, ho2, ⟨u.ownBlock, ⟨hg.os, hg.tape, hg.output, by have := hg.size; simp at this; omega, fun b hbb hne => (hg.block b (by simp; omega) hne).trans (ha.block b hbb)⟩, fun b e => ⟨(ho.lt b e).1, e⟩⟩, ?_⟩
    rcases hat with e | e
    · exact .inl e
    · right; rw [e]; simp
/-- One more strip onto one of the bands: the append. -/
structure Onto (w w' : World) (B g0 : Nat) (gO N cO : Nat) (vs : List Value) (ls : List (List Int)) (j : Nat) (u s : Value) (l : List Int) (x : Int) : Prop where
  cell : w'.cell? ⟨gO, j, none⟩ = some u
  free : w'.frozen? ⟨gO, j, none⟩ = false
  bands : Bands (w'.setCell ⟨gO, j, none⟩ s) B g0 (.slice (some ⟨gO, 0, none⟩) N cO) (vs.set j s) (ls.set j (l ++ [x]))
  below : Below B w (w'.setCell ⟨gO, j, none⟩ s)
  mid : Below B w w'
theorem Bands.put {gO cO j : Nat} (h : Bands w B g0 (.slice (some ⟨gO, 0, none⟩) ls.length cO) vs ls) (hu : vs[j]? = some u) (hlj : ls[j]? = some l) (x : Int) (hl : l.length ≤ 1000) (hb : B ≤ w.heap.size) :
    ∃ (g2 cap : Nat) (w' : World), (∀ ty, (Builtin.append_ #[33, 33] ty #[u, .slice (some ⟨w.heap.size, 0, none⟩) 1 1]).run Try.prog (w.alloc (.cells #[.int .i64 x] 3)) = .ok (.slice (some ⟨g2, 0, none⟩) (l.length + 1) cap) w') ∧
      Onto w w' B g0 gO ls.length cO vs ls j u (.slice (some ⟨g2, 0, none⟩) (l.length + 1) cap) l x := by
  obtain ⟨g2, cap, w', hr, ho, ⟨row, hg, hrow⟩, hat⟩ := (h.inner j u l hu hlj).push x hl hb
  have hgO := World.ownsRow.lt h.outer gO rfl
  have hj := (List.getElem?_eq_some_iff.1 hlj).1
  have hout : w'.ownsRow B 33 1 (.slice (some ⟨gO, 0, none⟩) ls.length cO) ls.length vs := World.ownsRow.kept h.outer hg (by
    right
    cases row with
    | none => simp [Value.ownBlock]
    | some b =>
      obtain ⟨h1, h2⟩ := hrow b rfl
      exact h.off j u b hu h1 h2)
  obtain ⟨hst, hgs⟩ := World.ownsRow.stored hout j (.slice (some ⟨g2, 0, none⟩) (l.length + 1) cap)
  have hmid : Below B w w' := (Below.refl B w).grown hg hb (fun t e => (hrow t e).1)
  have hne2 : gO ≠ g2 := by
    intro e
    rcases hat with h3 | h3
    · exact h.off j u g2 hu (by omega) h3 (by simp [Value.ownBlock, e])
    · omega
  have hB2 : B ≤ g2 := (ho.lt g2 rfl).1
  refine ⟨g2, cap, w', hr, ?_, World.ownsRow.frozenAt hout j, ⟨?_, ?_, ?_, ?_⟩, ?_, hmid⟩
  · rw [World.ownsRow.cellAt hout j (by omega)]; exact hu
  · rw [List.length_set]; exact hst
  · intro i u' l' hu' hl'
    by_cases e : j = i
    · subst e
      rw [List.getElem?_set_self (by rw [h.len]; exact hj)] at hu'
      rw [List.getElem?_set_self hj] at hl'
      simp at hu' hl'
      subst hu' hl'
      exact .inr ⟨World.ownsRow.kept ho hgs (by right; simp [Value.ownBlock]; exact fun e => hne2 e.symm), by simp⟩
    · rw [List.getElem?_set_ne e] at hu' hl'
      refine ((h.inner i u' l' hu' hl').kept hg (fun b e => by have := (hrow b e).1; omega) (fun b e1 e2 e3 => ?_)).kept hgs (fun b e => by have e4 : gO = b := (by simpa using e); omega) (fun b e1 e2 e3 => ?_)
      · obtain ⟨_, h2⟩ := hrow b e3
        exact e (h.far j i u u' b hu hu' e2 h2 e1)
      · have e4 : gO = b := by simpa using e3
        exact h.off i u' b hu' e2 e1 (by simp [Value.ownBlock, e4])
  · intro i i' u1 u2 b h1 h2 hbb e1 e2
    have part : ∀ (i : Nat) (u1 : Value), (vs.set j (.slice (some ⟨g2, 0, none⟩) (l.length + 1) cap))[i]? = some u1 → u1.ownBlock = some b → (i = j ∧ g2 = b) ∨ (i ≠ j ∧ vs[i]? = some u1) := by
      intro i u1 h1 e1
      by_cases e : j = i
      · subst e
        rw [List.getElem?_set_self (by rw [h.len]; exact hj)] at h1
        simp at h1
        subst h1
        exact .inl ⟨rfl, by simpa [Value.ownBlock] using e1⟩
      · rw [List.getElem?_set_ne e] at h1
        exact .inr ⟨fun e2 => e e2.symm, h1⟩
    have old : ∀ (i : Nat) (u1 : Value), i ≠ j → vs[i]? = some u1 → u1.ownBlock = some b → g2 = b → False := by
      intro i u1 hij h1 e1 e2
      rcases hat with h3 | h3
      · exact hij (h.far i j u1 u b h1 hu hbb e1 (by rw [h3, e2]))
      · obtain ⟨l1, hl1⟩ : ∃ l, ls[i]? = some l := ⟨ls[i]'(by have := (List.getElem?_eq_some_iff.1 h1).1; rw [← h.len]; exact this), List.getElem?_eq_getElem _⟩
        rcases h.inner i u1 l1 h1 hl1 with ⟨k', x', rfl, _, hg', hc'⟩ | ⟨ho', _⟩
        · simp [Value.ownBlock] at e1; omega
        · have := (ho'.lt b e1).2
          omega
    rcases part i u1 h1 e1 with ⟨rfl, a1⟩ | ⟨n1, a1⟩ <;> rcases part i' u2 h2 e2 with ⟨b1, b2⟩ | ⟨n2, b2⟩
    · exact b1.symm
    · exact absurd a1 (fun e => old i' u2 n2 b2 e2 e)
    · exact absurd b2 (fun e => old i u1 n1 a1 e1 e)
    · exact h.far i i' u1 u2 b a1 b2 hbb e1 e2
  · intro i u1 b h1 hbb e1 e2
    have e3 : gO = b := by simpa [Value.ownBlock] using e2
    subst e3
    by_cases e : j = i
    · subst e
      rw [List.getElem?_set_self (by rw [h.len]; exact hj)] at h1
      simp at h1
      subst h1
      exact hne2 (by simpa [Value.ownBlock] using e1.symm)
    · rw [List.getElem?_set_ne e] at h1
      exact h.off i u1 gO h1 hbb e1 rfl
  · exact hmid.setCell (p := ⟨gO, j, none⟩) hgO.1 _
end
end Go.Proofs.Ytfhpbgmnekhfeaa.Sheet
