/- Rows of rows of ints in memory, each row in a block of its own; what laws.eqIntSS, markIntSS and heldIntSS return and leave alone. -/
import Derived.Test.YtbdeppbbgokfhaaIntRow
namespace Go.Proofs.Ytbdeppbbgokfhaa.Ints
open Go.ChangeShapes Go.WideShapes Go.ChangeAt Go.RowKit
set_option linter.unusedVariables false

/-- v is a slice of the rows ls, whose values are vs; all their blocks lie from base on, and no two are the same. -/
structure Own2 (w : World) (base : Nat) (v : Value) (vs : List Value) (ls : List (List Int)) : Prop where
  outer : w.ownsRow base 30 1 v ls.length vs
  inner : ∀ (j : Nat) (u : Value) (l : List Int), vs[j]? = some u → ls[j]? = some l → Own w base u l
  far : ∀ (j k : Nat) (u u' : Value) (b : Nat), vs[j]? = some u → vs[k]? = some u' → u.ownBlock = some b → u'.ownBlock = some b → j = k
  off : ∀ (j : Nat) (u : Value) (b : Nat), vs[j]? = some u → u.ownBlock = some b → v.ownBlock ≠ some b

/-- Rows of ints that can be read behind a. -/
def Row2 (w : World) (a : Option Addr) (ls : List (List Int)) : Prop :=
  ∀ (j : Nat) (l : List Int), ls[j]? = some l → ∃ g aj cj, a = some ⟨g, 0, none⟩ ∧ w.cell? ⟨g, j, none⟩ = some (.slice aj l.length cj) ∧ IRow w aj l ∧ l.length ≤ maxLen

section
variable {w w' : World} {base : Nat} {v : Value} {vs : List Value} {ls : List (List Int)}

theorem Own2.len (h : Own2 w base v vs ls) : vs.length = ls.length := by simpa using h.outer.1

theorem Own2.val (h : Own2 w base v vs ls) {j : Nat} {l : List Int} (hl : ls[j]? = some l) : ∃ u, vs[j]? = some u := by
  have h1 := (List.getElem?_eq_some_iff.1 hl).1
  exact ⟨vs[j]'(by rw [h.len]; exact h1), List.getElem?_eq_getElem _⟩

theorem Own2.nil (w : World) (base : Nat) : Own2 w base (.slice none 0 0) [] [] :=
  ⟨World.ownsRow_nil w base _ _, by intro j u l h; simp at h, by intro j k u u' b h; simp at h, by intro j u b h; simp at h⟩

theorem Own2.made (w : World) (base : Nat) (hb : base ≤ w.heap.size) : Own2 (w.alloc (.cells #[] 30)) base (.slice (some ⟨w.heap.size, 0, none⟩) 0 0) [] [] :=
  ⟨World.ownsRow_made w #[] 0 hb (by unfold maxLen; omega) rfl, by intro j u l h; simp at h, by intro j k u u' b h; simp at h, by intro j u b h; simp at h⟩

theorem Own2.row (h : Own2 w base v vs ls) : ∃ a cap, v = .slice a ls.length cap ∧ Row2 w a ls ∧ ls.length ≤ maxLen := by
  have hlen := h.len
  obtain ⟨hl, h1 | ⟨g, cap, cur, rfl, hg, hh, hnc, hcm, hcs, ht⟩⟩ := h.outer
  · obtain ⟨rfl, h0⟩ := h1
    refine ⟨none, 0, by rw [h0], ?_, by omega⟩
    intro j l hj
    have := (List.getElem?_eq_some_iff.1 hj).1
    omega
  · refine ⟨_, cap, rfl, ?_, by omega⟩
    intro j l hj
    obtain ⟨u, hu⟩ := h.val hj
    obtain ⟨aj, cj, rfl, hr, hm⟩ := (h.inner j u l hu hj).row
    refine ⟨g, aj, cj, rfl, ?_, hr, hm⟩
    have hjl := (List.getElem?_eq_some_iff.1 hj).1
    have h2 : (cur.toList.take (ls.length * 1))[j]? = vs[j]? := by rw [ht]
    rw [List.getElem?_take_of_lt (by omega), hu] at h2
    simp at h2
    simp [World.cell?, hh, h2]

theorem Row2.below {a : Option Addr} (h : Row2 w a ls) (hb : Below w.heap.size w w') : Row2 w' a ls := by
  intro j l hj
  obtain ⟨g, aj, cj, e, hc, hr, hm⟩ := h j l hj
  exact ⟨g, aj, cj, e, (hb.cell (p := ⟨g, j, none⟩) (World.block_lt_of_cell? _ _ hc)).trans hc, hr.below hb, hm⟩

theorem Own2.below (h : Own2 w base v vs ls) (hb : Below w.heap.size w w') : Own2 w' base v vs ls := by
  refine ⟨World.ownsRow.kept h.outer (grown_below hb none) ?_, fun j u l hu hl => (h.inner j u l hu hl).below hb, h.far, h.off⟩
  cases e : v.ownBlock with
  | none => exact .inl rfl
  | some b => right; simp

theorem Own2.mono {base2 : Nat} (h : Own2 w base v vs ls) (hb : base2 ≤ base) : Own2 w base2 v vs ls := by
  refine ⟨?_, fun j u l hu hl => (h.inner j u l hu hl).mono hb, h.far, h.off⟩
  obtain ⟨hl, h1 | ⟨g, cap, cur, e, hg, rest⟩⟩ := h.outer
  · exact ⟨hl, .inl h1⟩
  · exact ⟨hl, .inr ⟨g, cap, cur, e, by omega, rest⟩⟩

theorem Own2.lt (h : Own2 w base v vs ls) {j : Nat} {u : Value} (hu : vs[j]? = some u) : ∀ b, u.ownBlock = some b → base ≤ b ∧ b < w.heap.size := by
  have h1 := (List.getElem?_eq_some_iff.1 hu).1
  have h2 : ls[j]? = some (ls[j]'(by rw [← h.len]; exact h1)) := List.getElem?_eq_getElem _
  exact (h.inner j u _ hu h2).lt

/-- One of the rows is written into. -/
theorem Own2.turn (h : Own2 w base v vs ls) {j : Nat} {u : Value} {l' : List Int} (hu : vs[j]? = some u) (ho : Own w' base u l') (hg : w.grownBy w' u.ownBlock) : Own2 w' base v vs (ls.set j l') := by
  have hj := (List.getElem?_eq_some_iff.1 hu).1
  refine ⟨?_, ?_, h.far, h.off⟩
  · rw [List.length_set]
    refine World.ownsRow.kept h.outer hg ?_
    cases e : u.ownBlock with
    | none =>
      cases e2 : v.ownBlock with
      | none => exact .inl rfl
      | some b => right; simp
    | some b => right; exact h.off j u b hu e
  · intro k u' l hk hl
    by_cases e : k = j
    · subst e
      rw [hu] at hk
      obtain rfl : u = u' := Option.some.inj hk
      rw [List.getElem?_set_self (by rw [← h.len]; exact hj)] at hl
      obtain rfl : l' = l := Option.some.inj hl
      exact ho
    · rw [List.getElem?_set_ne (fun e2 => e e2.symm)] at hl
      refine World.ownsRow.kept (h.inner k u' l hk hl) hg ?_
      cases e2 : u'.ownBlock with
      | none => exact .inl rfl
      | some b => right; exact fun e3 => e (h.far k j u' u b hk hu e2 e3.symm)

/-- A row is appended that lies in a block of its own, behind which the slice is made. -/
theorem Own2.push (h : Own2 w base v vs ls) {w1 w2 : World} {u : Value} {l : List Int} {k g cap : Nat} (hk : u.ownBlock = some k) (hkb : w.heap.size ≤ k) (hkl : k < w1.heap.size) (hb1 : Below w.heap.size w w1) (ho : Own w1 base u l)
    (hown : w2.ownsRow base 30 1 (.slice (some ⟨g, 0, none⟩) (ls.length + 1) cap) (ls.length + 1) (vs ++ [u])) (hg : w1.grownBy w2 v.ownBlock) (hat : v.ownBlock = some g ∨ g = w1.heap.size) :
    Own2 w2 base (.slice (some ⟨g, 0, none⟩) (ls.length + 1) cap) (vs ++ [u]) (ls ++ [l]) := by
  have h1 := h.below hb1
  have hlen := h.len
  have hvk : ∀ b, v.ownBlock = some b → b < w.heap.size := fun b e => (World.ownsRow.lt h.outer b e).2
  have old : ∀ (j : Nat) (u' : Value) (l' : List Int), vs[j]? = some u' → ls[j]? = some l' → Own w2 base u' l' := fun j u' l' hu hl => by
    refine World.ownsRow.kept (h1.inner j u' l' hu hl) hg ?_
    cases e : u'.ownBlock with
    | none => exact .inl rfl
    | some b => right; exact fun e2 => h.off j u' b hu e e2.symm
  have new : Own w2 base u l := World.ownsRow.kept ho hg (by right; rw [hk]; exact fun e => by have := hvk k e.symm; omega)
  have part : ∀ (j : Nat) (u' : Value), (vs ++ [u])[j]? = some u' → (j < ls.length ∧ vs[j]? = some u') ∨ (j = ls.length ∧ u' = u) := by
    intro j u' hu
    rcases Nat.lt_trichotomy j vs.length with hj | hj | hj
    · rw [List.getElem?_append_left hj] at hu
      exact .inl ⟨by omega, hu⟩
    · subst hj
      rw [List.getElem?_append_right (Nat.le_refl _), Nat.sub_self] at hu
      simp at hu
      exact .inr ⟨hlen, hu.symm⟩
    · rw [List.getElem?_eq_none (by simp; omega)] at hu
      cases hu
  refine ⟨by rw [List.length_append]; exact hown, ?_, ?_, ?_⟩
  · intro j u' l' hu hl
    rcases part j u' hu with ⟨hj, hu2⟩ | ⟨hj, rfl⟩
    · rw [List.getElem?_append_left hj] at hl
      exact old j u' l' hu2 hl
    · subst hj
      rw [List.getElem?_append_right (Nat.le_refl _), Nat.sub_self] at hl
      simp at hl
      subst hl
      exact new
  · intro j k' u' u'' b hu hu' e e'
    rcases part j u' hu with ⟨hj, hu2⟩ | ⟨hj, rfl⟩ <;> rcases part k' u'' hu' with ⟨hj', hu2'⟩ | ⟨hj', rfl⟩
    · exact h.far j k' u' u'' b hu2 hu2' e e'
    · have := (h.lt hu2 b e).2
      rw [hk] at e'
      have : k = b := Option.some.inj e'
      omega
    · have := (h.lt hu2' b e').2
      rw [hk] at e
      have : k = b := Option.some.inj e
      omega
    · omega
  · intro j u' b hu e e2
    have e3 : g = b := by simpa [Value.ownBlock] using e2
    subst e3
    rcases part j u' hu with ⟨hj, hu2⟩ | ⟨hj, rfl⟩
    · rcases hat with h2 | h2
      · exact h.off j u' g hu2 e h2
      · have := (h.lt hu2 g e).2
        have := hb1.size
        omega
    · rw [hk] at e
      have : k = g := Option.some.inj e
      rcases hat with h2 | h2
      · have := hvk g h2; omega
      · omega

/-- The cell in which a row's value lies. -/
theorem Own2.at {g n cap : Nat} (h : Own2 w base (.slice (some ⟨g, 0, none⟩) n cap) vs ls) {j : Nat} {u : Value} (hu : vs[j]? = some u) : w.cell? ⟨g, j, none⟩ = some u := by
  have h1 := World.ownsRow.cells h.outer (g := g) rfl j u hu
  have hadd : (⟨g, 0, none⟩ : Addr).add j = ⟨g, j, none⟩ := by unfold Addr.add; split <;> simp_all
  rwa [hadd] at h1
end

/-- How many ints there are in all. -/
def tot (ls : List (List Int)) : Nat := (ls.map List.length).sum
theorem tot_snoc (a : List (List Int)) (l : List Int) : tot (a ++ [l]) = tot a + l.length := by simp [tot]
theorem tot_take_le (ls : List (List Int)) (j : Nat) : tot (ls.take j) ≤ tot ls := by
  have h : tot ls = tot (ls.take j) + tot (ls.drop j) := by
    unfold tot
    rw [← List.sum_append, ← List.map_append, List.take_append_drop]
  omega
def marks2 : Nat → List (List Int) → List (List Int)
  | _, [] => []
  | k, l :: r => marks k l.length :: marks2 (k + l.length) r
theorem marks2_length (ls : List (List Int)) : ∀ k, (marks2 k ls).length = ls.length := by
  induction ls with
  | nil => intro k; rfl
  | cons l r ih => intro k; show (marks2 _ r).length + 1 = _; rw [ih]; rfl
theorem marks2_snoc (a : List (List Int)) (l : List Int) : ∀ k, marks2 k (a ++ [l]) = marks2 k a ++ [marks (k + tot a) l.length] := by
  induction a with
  | nil => intro k; rfl
  | cons b a ih =>
    intro k
    show marks k b.length :: marks2 (k + b.length) (a ++ [l]) = marks k b.length :: marks2 (k + b.length) a ++ _
    rw [ih, List.cons_append, show tot (b :: a) = b.length + tot a from by simp [tot], Nat.add_assoc]
theorem marks2_get (ls : List (List Int)) (j : Nat) (l : List Int) (h : ls[j]? = some l) (k : Nat) : (marks2 k ls)[j]? = some (marks (k + tot (ls.take j)) l.length) := by
  induction ls generalizing j k with
  | nil => simp at h
  | cons b a ih =>
    cases j with
    | zero =>
      have e : b = l := by simpa using h
      subst e
      rfl
    | succ j =>
      have e : a[j]? = some l := by simpa using h
      show (marks2 (k + b.length) a)[j]? = _
      rw [ih j e, List.take_succ_cons, show tot (b :: a.take j) = b.length + tot (a.take j) from by simp [tot], Nat.add_assoc]
def part2 (k j : Nat) (ls : List (List Int)) : List (List Int) := marks2 k (ls.take j) ++ ls.drop j
theorem part2_zero (k : Nat) (ls : List (List Int)) : part2 k 0 ls = ls := by simp [part2, marks2]
theorem part2_all (k : Nat) (ls : List (List Int)) : part2 k ls.length ls = marks2 k ls := by simp [part2]
theorem part2_length (k j : Nat) (ls : List (List Int)) (h : j ≤ ls.length) : (part2 k j ls).length = ls.length := by simp [part2, marks2_length]; omega
theorem part2_at (k j : Nat) (ls : List (List Int)) (h : j < ls.length) : (part2 k j ls)[j]? = some ls[j] := by
  unfold part2
  have e : (marks2 k (ls.take j)).length = j := by rw [marks2_length, List.length_take]; omega
  rw [List.getElem?_append_right (by omega), e, Nat.sub_self, List.drop_eq_getElem_cons h]
  rfl
theorem part2_set (k j : Nat) (ls : List (List Int)) (h : j < ls.length) : (part2 k j ls).set j (marks (k + tot (ls.take j)) ls[j].length) = part2 k (j + 1) ls := by
  unfold part2
  have e : (marks2 k (ls.take j)).length = j := by rw [marks2_length, List.length_take]; omega
  rw [List.set_append_right _ _ (by omega), e, Nat.sub_self, List.drop_eq_getElem_cons h, List.set_cons_zero, List.take_succ_eq_append_getElem h, marks2_snoc]
  simp
theorem tot_step (ls : List (List Int)) (j : Nat) (h : j < ls.length) : tot (ls.take (j + 1)) = tot (ls.take j) + ls[j].length := by
  rw [List.take_succ_eq_append_getElem h, tot_snoc]
end Go.Proofs.Ytbdeppbbgokfhaa.Ints
