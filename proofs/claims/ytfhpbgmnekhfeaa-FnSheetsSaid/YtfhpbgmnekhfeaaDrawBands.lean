/- What spec.l19Rows and spec.DrawBands draw. -/
import Derived.Test.YtfhpbgmnekhfeaaFitRow
import Derived.Test.YtfhpbgmnekhfeaaDraw
namespace Go.Proofs.Ytfhpbgmnekhfeaa.Sheet
open Go.ChangeShapes Go.WideShapes Go.ChangeAt Go.RowKit
open Go.Proofs.Ytfhpbgmnekhfeaa.Draw (Cur below_get new_get RowIn grownBy_trans below_of_grown)
open Go.Proofs.Ytfhpbgmnekhfeaa.Ints
set_option linter.unusedVariables false

/-- The cursor, the world since the beginning, the row in work. -/
structure Rd (w0 : World) (k : Nat) (ca : Option Addr) (cl cc : Nat) (v : Value) (l : List Int) (w : World) : Prop where
  cur : Cur w k ca cl cc
  grown : w0.grownBy w (some k)
  own : Own w w0.heap.size v l
section
variable {w0 w w' : World} {k cl cc : Nat} {ca : Option Addr} {v : Value} {l : List Int}
theorem Rd.next (h : Rd w0 k ca cl cc v l w) (hc : Cur w' k ca cl cc) (g : w.grownBy w' (some k)) (hk : k < w0.heap.size) : Rd w0 k ca cl cc v l w' :=
  ⟨hc, grownBy_trans h.grown g, World.ownsRow.kept h.own g (by
    cases e : v.ownBlock with
    | none => exact .inl rfl
    | some b =>
      right; intro e2
      have := (h.own.lt b e).1
      cases e2; omega)⟩
/-- A block that is new since w0 is written. -/
theorem grown_newB {a b : World} {row row2 : Option Nat} (h : w0.grownBy a row) (g : a.grownBy b row2) (hR : ∀ r, row2 = some r → w0.heap.size ≤ r) : w0.grownBy b row :=
  ⟨g.os.trans h.os, g.tape.trans h.tape, g.output.trans h.output, Nat.le_trans h.size g.size,
    fun k hk hne => (g.block k (Nat.lt_of_lt_of_le hk h.size) (fun e => by have := hR k e.symm; omega)).trans (h.block k hk hne)⟩
/-- One more int. -/
theorem Rd.push (h : Rd w0 k ca cl cc v l w) (x : Int) (hl : l.length ≤ 1000) (hk : k < w0.heap.size) :
    ∃ (g2 cap : Nat) (w' : World), (∀ ty, (Builtin.append_ #[33, 33] ty #[v, .slice (some ⟨w.heap.size, 0, none⟩) 1 1]).run Try.prog (w.alloc (.cells #[.int .i64 x] 3)) = .ok (.slice (some ⟨g2, 0, none⟩) (l.length + 1) cap) w') ∧
      Rd w0 k ca cl cc (.slice (some ⟨g2, 0, none⟩) (l.length + 1) cap) (l ++ [x]) w' := by
  obtain ⟨g2, cap, w', hr, ho, hg, _⟩ := push_at x h.own hl h.grown.size
  have hrow : ∀ r, v.ownBlock = some r → w0.heap.size ≤ r := fun r e => (h.own.lt r e).1
  exact ⟨g2, cap, w', hr, ⟨(h.cur.alloc _).kept hg (fun e => by have := hrow k e.symm; omega) (fun b hb e => by have := hrow b e.symm; omega), grown_newB (grownBy_trans h.grown (World.grownBy_alloc w _ _)) hg hrow, ho⟩⟩
end

set_option maxRecDepth 100000 in
set_option maxHeartbeats 2000000 in
theorem rows_get (k : Nat) (ca : Option Addr) (cl cc : Nat) (w : World) (hc : Cur w k ca cl cc) {Q : Ending → World → Prop}
    (h : ∀ (W : Int) (a : Option Addr) (c : Nat) (l : List Int) (w' : World), 10 ≤ W → W ≤ 39 → l.length ≤ 11 → (∀ x ∈ l, 1 ≤ x ∧ x ≤ W) → Own w' w.heap.size (.slice a l.length c) l → w.grownBy w' (some k) → Q (.returned (.tuple #[.int .i64 W, .slice a l.length c])) w') :
    Calls Try.prog 34 #[.pointer (some ⟨k, 0, none⟩)] w Q := by
  have H := Lib.hid h
  clear h
  have HK := Lib.hid hc.lt
  go_enter Try.func34, Try.ntmps34
  go_wp2_with fail
  refine below_get k ca cl cc 30 (by decide) _ hc ?_
  clear hc
  intro d w1 d0 d1 hc1 g1
  obtain ⟨W, hW⟩ : ∃ W, 10 + d = W := ⟨_, rfl⟩
  have e0 : IntKind.i64.wrap (10 + d) = W := by rw [hW, IntKind.wrap_i64]; omega
  have hW0 : 10 ≤ W := by omega
  have hW1 : W ≤ 39 := by omega
  have HS : Hid (Rd w k ca cl cc (.slice (some ⟨w1.heap.size, 0, none⟩) 0 0) [] (w1.alloc (.cells #[] 3))) :=
    Lib.hid ⟨hc1.alloc _, grownBy_trans g1 (World.grownBy_alloc w1 _ _), made_none w1 w.heap.size g1.size⟩
  clear hc1 g1 d0 d1 hW
  go_wp2_with fail
  clear e0
  generalize (w1.alloc (.cells #[] 3)) = w2 at *
  refine below_get k ca cl cc 12 (by decide) _ HS.out.cur ?_
  intro d w3 d0 d1 hc1 g1
  obtain ⟨N, rfl⟩ := Int.eq_ofNat_of_zero_le d0
  have hN : N ≤ 11 := by omega
  have HS := Lib.hid (HS.out.next hc1 g1 HK.out)
  clear hc1 g1 d0 d1
  go_wp2_with fail
  go_loopw [5, 7] (fun v i wr => ∃ (j : Nat) (l : List Int), j ≤ N ∧ i = .int .i64 (j : Int) ∧ Hid (l.length = j) ∧ Hid (∀ x ∈ l, 1 ≤ x ∧ x ≤ W) ∧ Hid (Rd w k ca cl cc v l wr)) (fun _ i _ => N - (intOf i).toNat)
  case atStart => exact ⟨0, [], Nat.zero_le _, rfl, Lib.hid rfl, Lib.hid (fun x hx => by simp at hx), HS⟩
  case round =>
    clear HS
    obtain ⟨j, l, hj, rfl, HL, HA, HS⟩ := hrel
    have j0 : (0 : Int) ≤ (j : Int) := Int.natCast_nonneg _
    by_cases hlt : j < N
    · have j1 : (j : Int) < (N : Int) := by omega
      go_wp2_with fail
      refine below_get k ca cl cc W (by omega) _ HS.out.cur ?_
      intro d w4 d0 d1 hc1 g1
      have HS := Lib.hid (HS.out.next hc1 g1 HK.out)
      obtain ⟨x, hx⟩ : ∃ x, 1 + d = x := ⟨_, rfl⟩
      have e0 : IntKind.i64.wrap (1 + d) = x := by rw [hx, IntKind.wrap_i64]; omega
      obtain ⟨g2, cap, w5, hrun, hs⟩ := HS.out.push x (by rw [HL.out]; omega) HK.out
      rw [HL.out] at hrun hs
      have HR5 := Lib.hid hrun
      have HS5 := Lib.hid hs
      have HL5 := Lib.hid (show (l ++ [x]).length = j + 1 by rw [List.length_append, HL.out]; rfl)
      have HA5 : Hid (∀ y ∈ l ++ [x], 1 ≤ y ∧ y ≤ W) := Lib.hid (fun y hy => by
        rcases List.mem_append.1 hy with h1 | h1
        · exact HA.out y h1
        · simp at h1; subst h1; omega)
      clear hrun hs hc1 g1 d0 d1 hx
      go_wp2_with (at_builtin; refine Lib.wpList_append_run _ rfl _ _ _ _ rfl _ _ rfl rfl _ _ (HR5.out _) ?_)
      go_roundw
      case rel => exact ⟨j + 1, l ++ [x], by omega, by go_num, HL5, HA5, HS5⟩
      case measure => simp [intOf]; omega
    · obtain rfl : j = N := by omega
      obtain ⟨a, c, e5, _, _⟩ := HS.out.own.row
      subst e5
      have HP := Lib.hid (H.out W a c l wr hW0 hW1 (by rw [HL.out]; omega) HA.out HS.out.own HS.out.grown)
      go_wp2
      exact HP.out

set_option maxRecDepth 100000 in
set_option maxHeartbeats 2000000 in
theorem drawBands_get (ca : Option Addr) (cl cc : Nat) (w : World) (hm : cl ≤ maxLen) (hr : RowIn w ca cl) {Q : Ending → World → Prop}
    (h : ∀ (W : Int) (a : Option Addr) (c : Nat) (l : List Int) (w' : World), 10 ≤ W → W ≤ 39 → l.length ≤ 11 → (∀ x ∈ l, 1 ≤ x ∧ x ≤ W) → Own w' w.heap.size (.slice a l.length c) l → Below w.heap.size w w' → Q (.returned (.tuple #[.int .i64 W, .slice a l.length c])) w') :
    Calls Try.prog 16 #[.slice ca cl cc] w Q := by
  have H := Lib.hid h
  clear h
  go_enter Try.func16, Try.ntmps16
  go_wp2_with fail
  refine new_get ca cl cc w hm hr ?_
  intro k w1 hk hk1 hc1 hb1
  clear hr
  have HB1 := Lib.hid hb1
  have HC := Lib.hid hc1
  clear hb1 hc1
  go_wp2_with fail
  refine rows_get k ca cl cc w1 HC.out ?_
  intro W a c l w2 h0 h1 h2 h3 h4 h5
  have HP := Lib.hid (H.out W a c l w2 h0 h1 h2 h3 (h4.mono HB1.out.size) (below_of_grown HB1.out h5 hk hk1))
  clear h3 h4 h5
  go_wp2
  exact HP.out
end Go.Proofs.Ytfhpbgmnekhfeaa.Sheet
