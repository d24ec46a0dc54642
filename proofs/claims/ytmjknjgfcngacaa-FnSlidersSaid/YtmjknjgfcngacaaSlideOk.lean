/- What SliderOk (of the program and of the model), isLink and Clamp return (printed by wip/gen_slide1.py). -/
import Derived.Test.YtmjknjgfcngacaaTri
import Derived.Test.YtmjknjgfcngacaaStrip
namespace Go.Proofs.Ytmjknjgfcngacaa.Slide
open Go.ChangeShapes Go.WideShapes Go.ChangeAt Go.RowKit
open Go.Proofs.Ytmjknjgfcngacaa.Tri
open Go.Proofs.Ytmjknjgfcngacaa.Strip (in_at)
open Go.Proofs.Ytmjknjgfcngacaa.Ints (grown_below grown_set grown_trans heap_set_at drewN_below)
set_option linter.unusedVariables false

/-- The block of a struct that is handed over. -/
theorem begin1 (T : TypeId) (w : World) (x y z : Int) : ∃ W, W = w.alloc (.cells #[.int .i64 x, .int .i64 y, .int .i64 z] T) ∧ VarT T W w.heap.size (x, y, z) ∧ Below w.heap.size w W ∧ W.heap.size = w.heap.size + 1 :=
  ⟨_, rfl, VarT.new w (x, y, z), alloc_below _ _, by simp⟩
theorem okS_f {s : T3} (h : ¬ (-100 ≤ s.1 ∧ s.1 ≤ s.2.2 ∧ s.2.2 ≤ s.2.1 ∧ s.2.1 ≤ 100)) : okS s = false := decide_eq_false h
theorem linkB_f {n : Int} {l : T3} (h : ¬ (0 ≤ l.1 ∧ l.1 < n ∧ 0 ≤ l.2.1 ∧ l.2.1 < n ∧ l.1 ≠ l.2.1 ∧ (l.2.2 = -1 ∨ l.2.2 = 1))) : linkB n l = false := decide_eq_false h

theorem clamp_impl (n a b : Int) (w : World) :
    Calls Try.prog 46 #[.int .i64 n, .int .i64 a, .int .i64 b] w fun e w' => e = .returned (.int .i64 (if (if b < n then b else n) < a then a else if b < n then b else n)) ∧ w = w' := by
  go_enter Try.func46, Try.ntmps46
  go_wp2
  all_goals
    go_ret
    exact ⟨congrArg (fun x => Ending.returned (.int .i64 x)) (by (repeat' split) <;> omega), rfl⟩

set_option maxRecDepth 100000 in
theorem ok_impl (x y z : Int) (w : World) :
    Calls Try.prog 14 #[.agg #[.int .i64 x, .int .i64 y, .int .i64 z]] w fun e w' => e = .returned (.bool (okS (x, y, z))) ∧ Below w.heap.size w w' := by
  obtain ⟨W, hW, hv, hb, hs⟩ := begin1 33 w x y z
  have HW := Lib.hid hW
  have HB := Lib.hid hb
  have k0 : W.cell? ⟨w.heap.size, 0, none⟩ = some (.int .i64 x) := hv.cells.1
  have k1 : W.cell? ⟨w.heap.size, 1, none⟩ = some (.int .i64 y) := hv.cells.2.1
  have k2 : W.cell? ⟨w.heap.size, 2, none⟩ = some (.int .i64 z) := hv.cells.2.2
  clear hW hv hb hs
  by_cases h0 : -100 ≤ x
  · have e0 : decide (-100 ≤ x) = true := decide_eq_true h0
    by_cases h1 : x ≤ z
    · have e1 : decide (x ≤ z) = true := decide_eq_true h1
      by_cases h2 : z ≤ y
      · have e2 : decide (z ≤ y) = true := decide_eq_true h2
        by_cases h3 : y ≤ 100
        · have e3 : decide (y ≤ 100) = true := decide_eq_true h3
          rw [show okS (x, y, z) = true from okS_iff.2 ⟨h0, h1, h2, h3⟩]
          go_enter Try.func14, Try.ntmps14
          go_wp2_with fail
          rw [← HW.out]
          go_wp2
          go_ret
          exact ⟨rfl, HB.out⟩
        · have e3 : decide (y ≤ 100) = false := decide_eq_false h3
          rw [show okS (x, y, z) = false from okS_f fun h => h3 h.2.2.2]
          go_enter Try.func14, Try.ntmps14
          go_wp2_with fail
          rw [← HW.out]
          go_wp2
          go_ret
          exact ⟨rfl, HB.out⟩
      · have e2 : decide (z ≤ y) = false := decide_eq_false h2
        rw [show okS (x, y, z) = false from okS_f fun h => h2 h.2.2.1]
        go_enter Try.func14, Try.ntmps14
        go_wp2_with fail
        rw [← HW.out]
        go_wp2
        go_ret
        exact ⟨rfl, HB.out⟩
    · have e1 : decide (x ≤ z) = false := decide_eq_false h1
      rw [show okS (x, y, z) = false from okS_f fun h => h1 h.2.1]
      go_enter Try.func14, Try.ntmps14
      go_wp2_with fail
      rw [← HW.out]
      go_wp2
      go_ret
      exact ⟨rfl, HB.out⟩
  · have e0 : decide (-100 ≤ x) = false := decide_eq_false h0
    rw [show okS (x, y, z) = false from okS_f fun h => h0 h.1]
    go_enter Try.func14, Try.ntmps14
    go_wp2_with fail
    rw [← HW.out]
    go_wp2
    go_ret
    exact ⟨rfl, HB.out⟩

set_option maxRecDepth 100000 in
theorem ok_spec (x y z : Int) (w : World) :
    Calls Try.prog 13 #[.agg #[.int .i64 x, .int .i64 y, .int .i64 z]] w fun e w' => e = .returned (.bool (okS (x, y, z))) ∧ Below w.heap.size w w' := by
  obtain ⟨W, hW, hv, hb, hs⟩ := begin1 33 w x y z
  have HW := Lib.hid hW
  have HB := Lib.hid hb
  have k0 : W.cell? ⟨w.heap.size, 0, none⟩ = some (.int .i64 x) := hv.cells.1
  have k1 : W.cell? ⟨w.heap.size, 1, none⟩ = some (.int .i64 y) := hv.cells.2.1
  have k2 : W.cell? ⟨w.heap.size, 2, none⟩ = some (.int .i64 z) := hv.cells.2.2
  clear hW hv hb hs
  by_cases h0 : -100 ≤ y ∧ y ≤ 100
  · have e0 : decide (-100 ≤ y ∧ y ≤ 100) = true := decide_eq_true h0
    by_cases h1 : -100 ≤ x ∧ x ≤ y
    · have e1 : decide (-100 ≤ x ∧ x ≤ y) = true := decide_eq_true h1
      by_cases h2 : x ≤ z ∧ z ≤ y
      · have e2 : decide (x ≤ z ∧ z ≤ y) = true := decide_eq_true h2
        rw [show okS (x, y, z) = true from okS_iff.2 ⟨h1.1, h2.1, h2.2, h0.2⟩]
        go_enter Try.func13, Try.ntmps13
        go_wp2_with fail
        rw [← HW.out]
        go_wp2_with fail
        refine (in_at y (-100) 100 _).mono ?_
        rintro e w2 ⟨rfl, rfl⟩
        rw [e0]
        go_wp2_with fail
        refine (in_at x (-100) y _).mono ?_
        rintro e w2 ⟨rfl, rfl⟩
        rw [e1]
        go_wp2_with fail
        refine (in_at z x y _).mono ?_
        rintro e w2 ⟨rfl, rfl⟩
        rw [e2]
        go_wp2
        go_ret
        exact ⟨rfl, HB.out⟩
      · have e2 : decide (x ≤ z ∧ z ≤ y) = false := decide_eq_false h2
        rw [show okS (x, y, z) = false from okS_f fun h => h2 ⟨by have := h; simp only at this; omega, by have := h; simp only at this; omega⟩]
        go_enter Try.func13, Try.ntmps13
        go_wp2_with fail
        rw [← HW.out]
        go_wp2_with fail
        refine (in_at y (-100) 100 _).mono ?_
        rintro e w2 ⟨rfl, rfl⟩
        rw [e0]
        go_wp2_with fail
        refine (in_at x (-100) y _).mono ?_
        rintro e w2 ⟨rfl, rfl⟩
        rw [e1]
        go_wp2_with fail
        refine (in_at z x y _).mono ?_
        rintro e w2 ⟨rfl, rfl⟩
        rw [e2]
        go_wp2
        go_ret
        exact ⟨rfl, HB.out⟩
    · have e1 : decide (-100 ≤ x ∧ x ≤ y) = false := decide_eq_false h1
      rw [show okS (x, y, z) = false from okS_f fun h => h1 ⟨by have := h; simp only at this; omega, by have := h; simp only at this; omega⟩]
      go_enter Try.func13, Try.ntmps13
      go_wp2_with fail
      rw [← HW.out]
      go_wp2_with fail
      refine (in_at y (-100) 100 _).mono ?_
      rintro e w2 ⟨rfl, rfl⟩
      rw [e0]
      go_wp2_with fail
      refine (in_at x (-100) y _).mono ?_
      rintro e w2 ⟨rfl, rfl⟩
      rw [e1]
      go_wp2
      go_ret
      exact ⟨rfl, HB.out⟩
  · have e0 : decide (-100 ≤ y ∧ y ≤ 100) = false := decide_eq_false h0
    rw [show okS (x, y, z) = false from okS_f fun h => h0 ⟨by have := h; simp only at this; omega, by have := h; simp only at this; omega⟩]
    go_enter Try.func13, Try.ntmps13
    go_wp2_with fail
    rw [← HW.out]
    go_wp2_with fail
    refine (in_at y (-100) 100 _).mono ?_
    rintro e w2 ⟨rfl, rfl⟩
    rw [e0]
    go_wp2
    go_ret
    exact ⟨rfl, HB.out⟩

set_option maxRecDepth 100000 in
theorem link_impl (n x y z : Int) (w : World) :
    Calls Try.prog 47 #[.int .i64 n, .agg #[.int .i64 x, .int .i64 y, .int .i64 z]] w fun e w' => e = .returned (.bool (linkB n (x, y, z))) ∧ Below w.heap.size w w' := by
  obtain ⟨W, hW, hv, hb, hs⟩ := begin1 35 w x y z
  have HW := Lib.hid hW
  have HB := Lib.hid hb
  have k0 : W.cell? ⟨w.heap.size, 0, none⟩ = some (.int .i64 x) := hv.cells.1
  have k1 : W.cell? ⟨w.heap.size, 1, none⟩ = some (.int .i64 y) := hv.cells.2.1
  have k2 : W.cell? ⟨w.heap.size, 2, none⟩ = some (.int .i64 z) := hv.cells.2.2
  clear hW hv hb hs
  by_cases h0 : 0 ≤ x
  · have e0 : decide (0 ≤ x) = true := decide_eq_true h0
    by_cases h1 : x < n
    · have e1 : decide (x < n) = true := decide_eq_true h1
      by_cases h2 : 0 ≤ y
      · have e2 : decide (0 ≤ y) = true := decide_eq_true h2
        by_cases h3 : y < n
        · have e3 : decide (y < n) = true := decide_eq_true h3
          by_cases h4 : x = y
          · have e4 : (x != y) = false := by simp [h4]
            have HH := Lib.hid h4
            clear h4
            rw [show linkB n (x, y, z) = false from linkB_f fun h => h.2.2.2.2.1 HH.out]
            go_enter Try.func47, Try.ntmps47
            go_wp2_with fail
            rw [← HW.out]
            go_wp2
            go_ret
            exact ⟨rfl, HB.out⟩
          · have e4 : (x != y) = true := by simp [h4]
            by_cases h5 : z = -1
            · subst h5
              rw [show linkB n (x, y, -1) = true from linkB_iff.2 ⟨h0, h1, h2, h3, h4, .inl rfl⟩]
              go_enter Try.func47, Try.ntmps47
              go_wp2_with fail
              rw [← HW.out]
              go_wp2
              go_ret
              exact ⟨rfl, HB.out⟩
            · have e5 : (z == -1) = false := by simp [h5]
              by_cases h6 : z = 1
              · subst h6
                rw [show linkB n (x, y, 1) = true from linkB_iff.2 ⟨h0, h1, h2, h3, h4, .inr rfl⟩]
                go_enter Try.func47, Try.ntmps47
                go_wp2_with fail
                rw [← HW.out]
                go_wp2
                go_ret
                exact ⟨rfl, HB.out⟩
              · have e6 : (z == 1) = false := by simp [h6]
                rw [show linkB n (x, y, z) = false from linkB_f fun h => h.2.2.2.2.2.elim h5 h6]
                go_enter Try.func47, Try.ntmps47
                go_wp2_with fail
                rw [← HW.out]
                go_wp2
                go_ret
                exact ⟨rfl, HB.out⟩
        · have e3 : decide (y < n) = false := decide_eq_false h3
          rw [show linkB n (x, y, z) = false from linkB_f fun h => h3 h.2.2.2.1]
          go_enter Try.func47, Try.ntmps47
          go_wp2_with fail
          rw [← HW.out]
          go_wp2
          go_ret
          exact ⟨rfl, HB.out⟩
      · have e2 : decide (0 ≤ y) = false := decide_eq_false h2
        rw [show linkB n (x, y, z) = false from linkB_f fun h => h2 h.2.2.1]
        go_enter Try.func47, Try.ntmps47
        go_wp2_with fail
        rw [← HW.out]
        go_wp2
        go_ret
        exact ⟨rfl, HB.out⟩
    · have e1 : decide (x < n) = false := decide_eq_false h1
      rw [show linkB n (x, y, z) = false from linkB_f fun h => h1 h.2.1]
      go_enter Try.func47, Try.ntmps47
      go_wp2_with fail
      rw [← HW.out]
      go_wp2
      go_ret
      exact ⟨rfl, HB.out⟩
  · have e0 : decide (0 ≤ x) = false := decide_eq_false h0
    rw [show linkB n (x, y, z) = false from linkB_f fun h => h0 h.1]
    go_enter Try.func47, Try.ntmps47
    go_wp2_with fail
    rw [← HW.out]
    go_wp2
    go_ret
    exact ⟨rfl, HB.out⟩
end Go.Proofs.Ytmjknjgfcngacaa.Slide
