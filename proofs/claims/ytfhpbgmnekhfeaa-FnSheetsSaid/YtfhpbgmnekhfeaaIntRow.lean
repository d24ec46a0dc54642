/- Rows of ints in memory; what laws.eqIntS, markIntS and heldIntS return and leave alone. -/
import Derived.Test.YtfhpbgmnekhfeaaChecked
import Derived.WalkKit
import Derived.ProofKit
import Derived.WalkLawsBesides
import Derived.Below
import Derived.IntWalk
import Derived.Lib.Hide
import Derived.LoopTactic
import Derived.OpenShut
import Derived.Deep.AppendLies
import Derived.Deep.RegionHeld3
import Derived.BigQuiet
import Derived.Deep.QuietTactic
import Derived.OwnWalk
namespace Go.Proofs.Ytfhpbgmnekhfeaa.Ints
open Go.ChangeShapes Go.WideShapes Go.ChangeAt Go.RowKit
set_option linter.unusedVariables false

def icells (l : List Int) : List Value := l.map fun x => Value.int .i64 x
theorem icells_length (l : List Int) : (icells l).length = l.length := by simp [icells]
theorem icells_snoc (l : List Int) (x : Int) : icells (l ++ [x]) = icells l ++ [.int .i64 x] := by simp [icells]
theorem icells_get (l : List Int) (j : Nat) (h : j < l.length) : (icells l)[j]? = some (.int .i64 l[j]) := by simp [icells, h]

/-- v is a slice of the ints l; its block is none of those below base. -/
def Own (w : World) (base : Nat) (v : Value) (l : List Int) : Prop := w.ownsRow base 3 1 v l.length (icells l)

/-- The first cells behind a are the ints l. -/
def IRow (w : World) (a : Option Addr) (l : List Int) : Prop :=
  ∀ j (h : j < l.length), ∃ g, a = some ⟨g, 0, none⟩ ∧ g < w.heap.size ∧ w.cell? ⟨g, j, none⟩ = some (.int .i64 l[j])

theorem IRow.of_block {w : World} {g : Nat} {cur : Array Value} {T : TypeId} {m : Nat × Nat} {l : List Int} (h : w.heap[g]? = some (.cells cur T m)) (ht : cur.toList.take l.length = icells l) : IRow w (some ⟨g, 0, none⟩) l := by
  intro j hj
  refine ⟨g, rfl, (Array.getElem?_eq_some_iff.1 h).1, ?_⟩
  have h2 : (cur.toList.take l.length)[j]? = (icells l)[j]? := by rw [ht]
  rw [List.getElem?_take_of_lt hj] at h2
  simp [icells, hj] at h2
  simp [World.cell?, h, h2]

theorem Own.row {w : World} {base : Nat} {v : Value} {l : List Int} (h : Own w base v l) : ∃ a cap, v = .slice a l.length cap ∧ IRow w a l ∧ l.length ≤ maxLen := by
  obtain ⟨hl, h1 | ⟨g, cap, cur, rfl, hg, hh, hnc, hcm, hcs, ht⟩⟩ := h
  · obtain ⟨rfl, h0⟩ := h1
    have hl0 : l = [] := by simpa using h0
    subst hl0
    exact ⟨none, 0, rfl, fun j hj => by simp at hj, Nat.zero_le _⟩
  · exact ⟨_, cap, rfl, IRow.of_block hh (by simpa using ht), by omega⟩

theorem IRow.below {w w' : World} {a : Option Addr} {l : List Int} (h : IRow w a l) (hb : Below w.heap.size w w') : IRow w' a l := by
  intro j hj
  obtain ⟨g, e, hg, hc⟩ := h j hj
  refine ⟨g, e, Nat.lt_of_lt_of_le hg hb.size, ?_⟩
  rw [hb.cell (p := ⟨g, j, none⟩) hg]; exact hc

theorem Own.nil (w : World) (base : Nat) : Own w base (.slice none 0 0) [] := World.ownsRow_nil w base _ _

theorem grown_below {w w' : World} (h : Below w.heap.size w w') (row : Option Nat) : w.grownBy w' row := ⟨h.os, h.tape, h.output, h.size, fun k hk _ => h.block k hk⟩
theorem grown_set (w : World) (k j : Nat) (v : Value) : w.grownBy (w.setCell ⟨k, j, none⟩ v) (some k) :=
  ⟨rfl, rfl, rfl, by simp [World.setCell], fun b hb hne => Below.heap_setCell _ _ _ _ (fun e => hne (by rw [e]))⟩
theorem grown_trans {a b c : World} {row : Option Nat} (h : a.grownBy b row) (g : b.grownBy c row) : a.grownBy c row :=
  ⟨g.os.trans h.os, g.tape.trans h.tape, g.output.trans h.output, Nat.le_trans h.size g.size,
    fun k hk hne => (g.block k (Nat.lt_of_lt_of_le hk h.size) hne).trans (h.block k hk hne)⟩
theorem drewN_below (w : World) (q : Nat) : Below w.heap.size w (w.drewN q) := ⟨rfl, rfl, rfl, Nat.le_refl _, fun _ _ => rfl⟩

/-- A row is kept by what leaves all that stood before alone. -/
theorem Own.below {w w' : World} {base : Nat} {v : Value} {l : List Int} (h : Own w base v l) (hb : Below w.heap.size w w') : Own w' base v l :=
  World.ownsRow.kept h (grown_below hb none) (by
    cases hb : v.ownBlock with
    | none => exact .inl rfl
    | some b => right; simp)

/-- A row is kept by what writes into another's block. -/
theorem Own.apart {w w' : World} {base base2 : Nat} {v v2 : Value} {l l2 : List Int} (h : Own w base v l) (h2 : Own w base2 v2 l2) (hne : ∀ b, v.ownBlock = some b → b < base2) (hg : w.grownBy w' v2.ownBlock) : Own w' base v l :=
  World.ownsRow.kept h hg (by
    cases hb : v.ownBlock with
    | none => exact .inl rfl
    | some b =>
      right
      intro e
      have h3 := hne b hb
      have h4 := (World.ownsRow.lt h2 b e.symm).1
      omega)

/-- The blocks of two slices differ. -/
def Apart (v c : Value) : Prop := ∀ b, c.ownBlock = some b → v.ownBlock ≠ some b
theorem Own.apart2 {w w' : World} {base : Nat} {v c : Value} {l : List Int} (h : Own w base c l) (ha : Apart v c) (hg : w.grownBy w' v.ownBlock) : Own w' base c l :=
  World.ownsRow.kept h hg (by
    cases hb : c.ownBlock with
    | none => exact .inl rfl
    | some b => right; exact fun e => ha b hb e.symm)
theorem Apart.grown {w : World} {base H g n cap : Nat} {v c : Value} {l : List Int} (h : Own w base c l) (hH : w.heap.size ≤ H) (ha : Apart v c) (hg : v.ownBlock = some g ∨ g = H) : Apart (.slice (some ⟨g, 0, none⟩) n cap) c := by
  intro b hb e
  have h1 := (World.ownsRow.lt h b hb).2
  have e1 : g = b := by simpa [Value.ownBlock] using e
  rcases hg with h2 | h2
  · exact ha b hb (by rw [h2, e1])
  · omega

theorem Own.lt {w : World} {base : Nat} {v : Value} {l : List Int} (h : Own w base v l) : ∀ k, v.ownBlock = some k → base ≤ k ∧ k < w.heap.size := World.ownsRow.lt h
theorem Own.mono {w : World} {base base2 : Nat} {v : Value} {l : List Int} (h : Own w base v l) (hb : base2 ≤ base) : Own w base2 v l := by
  obtain ⟨hl, h1 | ⟨g, cap, cur, e, hg, rest⟩⟩ := h
  · exact ⟨hl, .inl h1⟩
  · exact ⟨hl, .inr ⟨g, cap, cur, e, by omega, rest⟩⟩

theorem heap_set_at (w : World) (k j : Nat) (cs : Array Value) (T : TypeId) (m : Nat × Nat) (v : Value) (h : w.heap[k]? = some (.cells cs T m)) :
    (w.setCell ⟨k, j, none⟩ v).heap[k]? = some (.cells (cs.setIfInBounds j v) T m) := by
  simp [World.setCell, Array.getElem?_modify, h]

/-- One of its cells is written. -/
theorem Own.set {w : World} {base g n cap j : Nat} {l : List Int} (x : Int) (h : Own w base (.slice (some ⟨g, 0, none⟩) n cap) l) (hj : j < l.length) :
    Own (w.setCell ⟨g, j, none⟩ (.int .i64 x)) base (.slice (some ⟨g, 0, none⟩) n cap) (l.set j x) := by
  obtain ⟨hl, h1 | ⟨g', cap', cur, e, hg, hh, hnc, hcm, hcs, ht⟩⟩ := h
  · cases h1.1
  · cases e
    refine ⟨by simp [icells], .inr ⟨g, cap, cur.setIfInBounds j (.int .i64 x), by simp, hg, heap_set_at _ _ _ _ _ _ _ hh, by simpa using hnc, hcm, by simp [hcs], ?_⟩⟩
    rw [Array.toList_setIfInBounds, List.length_set, List.take_set, ht]
    simp [icells, List.map_set]

theorem Own.free {w : World} {base g n cap : Nat} {l : List Int} (h : Own w base (.slice (some ⟨g, 0, none⟩) n cap) l) (j : Nat) : w.frozen? ⟨g, j, none⟩ = false := by
  obtain ⟨hl, h1 | ⟨g', cap', cur, e, hg, hh, _⟩⟩ := h
  · cases h1.1
  · cases e; simp [World.frozen?, hh]

theorem Own.cell {w : World} {base g n cap j : Nat} {l : List Int} (h : Own w base (.slice (some ⟨g, 0, none⟩) n cap) l) (hj : j < l.length) : w.cell? ⟨g, j, none⟩ = some (.int .i64 l[j]) := by
  obtain ⟨a, c, e, hr, _⟩ := h.row
  cases e
  obtain ⟨g', e, _, hc⟩ := hr j hj
  cases e; exact hc

theorem eq_yes (n ca cb : Nat) (a b : Option Addr) (l : List Int) (hl : l.length = n) (hm : n ≤ maxLen) (w : World) (ha : IRow w a l) (hb : IRow w b l) :
    Calls Try.prog 27 #[.slice a n ca, .slice b n cb] w fun e w' => e = .returned (.bool true) ∧ ∃ q, w' = w.drewN q := by
  unfold maxLen at hm
  have HL := Lib.hid hl; clear hl
  have HA := Lib.hid ha; clear ha
  have HB := Lib.hid hb; clear hb
  go_enter Try.func27, Try.ntmps27
  go_wp2_with fail
  go_loopw [5] (fun i wr => ∃ k q : Nat, k ≤ n ∧ i = .int .i64 k ∧ wr = w.drewN q) (fun i _ => n - (intOf i).toNat)
  case atStart => exact ⟨0, 0, Nat.zero_le _, rfl, rfl⟩
  case round =>
    obtain ⟨k, q, hk, rfl, rfl⟩ := hrel
    by_cases hlt : k < n
    · obtain ⟨ga, rfl, hga, hca⟩ := HA.out k (by rw [HL.out]; exact hlt)
      obtain ⟨gb, rfl, hgb, hcb⟩ := HB.out k (by rw [HL.out]; exact hlt)
      generalize l[k]'_ = x at hca hcb
      have hx : (x != x) = false := by simp
      have hk0 : (0 : Int) ≤ (k : Int) := Int.natCast_nonneg _
      have hk1 : (k : Int) < (n : Int) := by omega
      go_wp2_with fail
      go_quiet (fail)
      go_wp2
      go_roundw
      case rel => exact ⟨k + 1, _, by omega, by go_num, rfl⟩
      case measure => simp [intOf]; omega
    · go_wp2
      go_ret
      exact ⟨rfl, q, rfl⟩

theorem ret_int {k : IntKind} {a b : Int} (h : a = b) : Ending.returned (.int k a) = .returned (.int k b) := by rw [h]

/-- The marks from k on, n of them. -/
def marks (k n : Nat) : List Int := (List.range n).map fun (i : Nat) => ((k + i : Nat) : Int)
theorem marks_length (k n : Nat) : (marks k n).length = n := by simp [marks]
theorem marks_get (k n j : Nat) (h : j < (marks k n).length) : (marks k n)[j] = ((k + j : Nat) : Int) := by simp [marks]

/-- The list behind the first j marks. -/
def part (k j : Nat) (l : List Int) : List Int := marks k j ++ l.drop j
theorem part_length (k j : Nat) (l : List Int) (h : j ≤ l.length) : (part k j l).length = l.length := by simp [part, marks_length]; omega
theorem part_zero (k : Nat) (l : List Int) : part k 0 l = l := by simp [part, marks]
theorem part_all (k : Nat) (l : List Int) : part k l.length l = marks k l.length := by simp [part]
theorem part_set (k j : Nat) (l : List Int) (h : j < l.length) : (part k j l).set j ((k + j : Nat) : Int) = part k (j + 1) l := by
  unfold part
  rw [List.set_append_right _ _ (by rw [marks_length]; exact Nat.le_refl _), marks_length, Nat.sub_self, List.drop_eq_getElem_cons h, List.set_cons_zero]
  have e : marks k (j + 1) = marks k j ++ [((k + j : Nat) : Int)] := by unfold marks; rw [List.range_succ]; simp
  rw [e]; simp

theorem mark_wide (k : Nat) (hk1 : 1 ≤ k) (hk : k ≤ 4000000) (base : Nat) (a : Option Addr) (cap : Nat) (l : List Int) (hn : l.length ≤ 2000000) (w : World) (h : Own w base (.slice a l.length cap) l) :
    Calls Try.prog 28 #[.slice a l.length cap, .int .i64 (k : Int)] w fun e w' => e = .returned (.int .i64 ((k + l.length : Nat) : Int)) ∧ Own w' base (.slice a l.length cap) (marks k l.length) ∧ w.grownBy w' (Value.slice a l.length cap).ownBlock := by
  cases a with
  | none =>
    have hl0 : l.length = 0 := by
      obtain ⟨a, c, e, hr, _⟩ := h.row
      cases e
      by_cases h0 : l.length = 0
      · exact h0
      · obtain ⟨g, e, _⟩ := hr 0 (by omega)
        cases e
    have hl1 : l = [] := List.eq_nil_of_length_eq_zero hl0
    subst hl1
    have H := Lib.hid h; clear h
    go_enter Try.func28, Try.ntmps28
    go_wp2_with fail
    refine wp_loop_rounds 1 ?_
    rw [rounds_succ]
    go_wp2
    go_ret
    exact ⟨rfl, H.out, World.grownBy.refl _ _⟩
  | some ad =>
    obtain ⟨g, rfl⟩ : ∃ g, ad = ⟨g, 0, none⟩ := by
      obtain ⟨_, h1 | ⟨g', cap', cur, e, _⟩⟩ := h
      · cases h1.1
      · cases e; exact ⟨_, rfl⟩
    obtain ⟨n, hnl⟩ : ∃ n, l.length = n := ⟨_, rfl⟩
    rw [hnl] at h hn ⊢
    have HNL := Lib.hid hnl; clear hnl
    have H := Lib.hid h; clear h
    go_enter Try.func28, Try.ntmps28
    go_wp2_with fail
    go_loopw [1, 5] (fun kv i wr => ∃ j : Nat, j ≤ n ∧ i = .int .i64 j ∧ kv = .int .i64 ((k : Int) + (j : Int)) ∧ Hid (Own wr base (.slice (some ⟨g, 0, none⟩) n cap) (part k j l)) ∧ Hid (w.grownBy wr (some g))) (fun _ i _ => n - (intOf i).toNat)
    case atStart => exact ⟨0, Nat.zero_le _, rfl, by simp, (by rw [part_zero]; exact H.out), World.grownBy.refl _ _⟩
    case round =>
      obtain ⟨j, hj, rfl, rfl, hmk, hgr⟩ := hrel
      by_cases hlt : j < n
      · have hj0 : (0 : Int) ≤ (j : Int) := Int.natCast_nonneg _
        have hj1 : (j : Int) < (n : Int) := by omega
        have hjl : j < (part k j l).length := by rw [part_length _ _ _ (by rw [HNL.out]; omega), HNL.out]; exact hlt
        have hv := hmk.out.cell hjl
        have hf := hmk.out.free j
        generalize (part k j l)[j] = v0 at hv
        have hs := hmk.out.set ((k + j : Nat) : Int) hjl
        rw [part_set _ _ _ (by rw [HNL.out]; exact hlt)] at hs
        rw [show ((k + j : Nat) : Int) = (k : Int) + (j : Int) from by omega] at hs
        have HM2 := Lib.hid hs; clear hs hjl
        have HG2 := Lib.hid (grown_trans hgr.out (grown_set wr g j (.int .i64 ((k : Int) + (j : Int)))))
        go_wp2_with fail
        refine ⟨⟨j + 1, by omega, by go_num, ?_, HM2, HG2⟩, by simp [intOf]; omega⟩
        congr 1
        try omega
      · obtain rfl : j = n := by omega
        go_wp2
        go_ret
        refine ⟨ret_int (by omega), ?_, hgr.out⟩
        have h2 := hmk.out
        rw [← HNL.out, part_all] at h2
        rw [HNL.out] at h2
        exact h2

theorem mark_at (k : Nat) (hk1 : 1 ≤ k) (hk : k ≤ 1000000) (base : Nat) (a : Option Addr) (cap : Nat) (l : List Int) (hn : l.length ≤ 1000000) (w : World) (h : Own w base (.slice a l.length cap) l) :
    Calls Try.prog 28 #[.slice a l.length cap, .int .i64 (k : Int)] w fun e w' => e = .returned (.int .i64 ((k + l.length : Nat) : Int)) ∧ Own w' base (.slice a l.length cap) (marks k l.length) ∧ w.grownBy w' (Value.slice a l.length cap).ownBlock :=
  mark_wide k hk1 (by omega) base a cap l (by omega) w h

/-- A row of the marks from k on holds them. -/
theorem held_wide (a : Option Addr) (n cap k : Nat) (hk1 : 1 ≤ k) (hk : k ≤ 4000000) (hn : n ≤ 2000000) (w : World) (hr : IRow w a (marks k n)) :
    Calls Try.prog 29 #[.slice a n cap, .int .i64 (k : Int)] w fun e w' => e = .returned (.int .i64 ((k + n : Nat) : Int)) ∧ ∃ q, w' = w.drewN q := by
  have HR := Lib.hid hr; clear hr
  go_enter Try.func29, Try.ntmps29
  go_wp2_with fail
  go_loopw [1, 5] (fun kv i wr => ∃ j q : Nat, j ≤ n ∧ i = .int .i64 j ∧ kv = .int .i64 ((k : Int) + (j : Int)) ∧ wr = w.drewN q) (fun _ i _ => n - (intOf i).toNat)
  case atStart => exact ⟨0, 0, Nat.zero_le _, rfl, by simp, rfl⟩
  case round =>
    obtain ⟨j, q, hj, rfl, rfl, rfl⟩ := hrel
    by_cases hlt : j < n
    · have hj0 : (0 : Int) ≤ (j : Int) := Int.natCast_nonneg _
      have hj1 : (j : Int) < (n : Int) := by omega
      obtain ⟨g, rfl, hgs, hc⟩ := HR.out j (by rw [marks_length]; exact hlt)
      rw [marks_get, show ((k + j : Nat) : Int) = (k : Int) + (j : Int) from by omega] at hc
      have hx : (((k : Int) + (j : Int)) != ((k : Int) + (j : Int))) = false := by simp
      go_wp2_with fail
      try (go_quiet (fail))
      all_goals try go_wp2
      all_goals
        first
        | (refine ⟨⟨j + 1, _, by omega, by go_num, ?_, rfl⟩, by simp [intOf]; omega⟩; congr 1; try omega)
        | skip
    · obtain rfl : j = n := by omega
      go_wp2
      go_ret
      exact ⟨ret_int (by omega), q, rfl⟩
theorem held_at (a : Option Addr) (n cap k : Nat) (hk1 : 1 ≤ k) (hk : k ≤ 1000000) (hn : n ≤ 1000000) (w : World) (hr : IRow w a (marks k n)) :
    Calls Try.prog 29 #[.slice a n cap, .int .i64 (k : Int)] w fun e w' => e = .returned (.int .i64 ((k + n : Nat) : Int)) ∧ ∃ q, w' = w.drewN q :=
  held_wide a n cap k hk1 (by omega) (by omega) w hr
end Go.Proofs.Ytfhpbgmnekhfeaa.Ints
