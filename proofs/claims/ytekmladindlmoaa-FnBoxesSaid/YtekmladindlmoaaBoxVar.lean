/- BOXES in memory: a box's variable, the blocks with which a function of a card and a box begins; what spec.l11Range and hasStrips return. -/
import Derived.Test.YtekmladindlmoaaBoxMath
import Derived.Test.YtekmladindlmoaaCardCopy3
import Derived.Test.YtekmladindlmoaaCardEnd
import Derived.Lib.QuietBelow
import Derived.Deep.QuietTactic
import Derived.BigQuiet
namespace Go.Proofs.Ytekmladindlmoaa.Box
open Go.ChangeShapes Go.WideShapes Go.ChangeAt Go.RowKit Go.Sort
open Go.Proofs.Ytekmladindlmoaa.Strip Go.Proofs.Ytekmladindlmoaa.Strs Go.Proofs.Ytekmladindlmoaa.Card Go.Proofs.Ytekmladindlmoaa.Corner Go.Proofs.Ytekmladindlmoaa.Kerf Go.Proofs.Ytekmladindlmoaa.Order Go.Proofs.Ytekmladindlmoaa.Flip
set_option linter.unusedVariables false

/-- Block b is a variable that holds a box. -/
def BVar (w : World) (b : Nat) (x y z : Int) : Prop := w.heap[b]? = some (.cells #[.int .i64 x, .int .i64 y, .int .i64 z] 39 (0, 0))
theorem BVar.new (w : World) (x y z : Int) : BVar (w.alloc (.cells #[.int .i64 x, .int .i64 y, .int .i64 z] 39)) w.heap.size x y z := heap_alloc_new w _
theorem BVar.lt {w : World} {b : Nat} {x y z : Int} (h : BVar w b x y z) : b < w.heap.size := (Array.getElem?_eq_some_iff.1 h).1
theorem BVar.below {w w' : World} {b : Nat} {x y z : Int} (h : BVar w b x y z) (hb : Below w.heap.size w w') : BVar w' b x y z := (hb.block b h.lt).trans h
theorem BVar.grown {w w' : World} {row : Option Nat} {b : Nat} {x y z : Int} (h : BVar w b x y z) (hg : w.grownBy w' row) (hne : some b ≠ row) : BVar w' b x y z := (hg.block b h.lt hne).trans h
theorem BVar.cells {w : World} {b : Nat} {x y z : Int} (h : BVar w b x y z) : w.cell? ⟨b, 0, none⟩ = some (.int .i64 x) ∧ w.cell? ⟨b, 1, none⟩ = some (.int .i64 y) ∧ w.cell? ⟨b, 2, none⟩ = some (.int .i64 z) := by
  unfold BVar at h
  simp [World.cell?, h]
theorem BVar.free {w : World} {b : Nat} {x y z : Int} (h : BVar w b x y z) (j : Nat) : w.frozen? ⟨b, j, none⟩ = false := by
  unfold BVar at h
  simp [World.frozen?, h]
theorem ne_bvar {w : World} {base b : Nat} {v : Value} {x y z : Int} {l : List ByteArray} (ho : Own w base v l) (hv : BVar w b x y z) : v.ownBlock ≠ some b := by
  intro e
  obtain ⟨_, h1 | ⟨g, cap, cur, rfl, _, hh, _⟩⟩ := ho
  · obtain ⟨rfl, _⟩ := h1
    cases e
  · have e2 : g = b := by simpa [Value.ownBlock] using e
    subst e2
    unfold BVar at hv
    rw [hv] at hh
    simp at hh
theorem BVar.written {w w' : World} {base b : Nat} {v : Value} {x y z : Int} {l : List ByteArray} (hv : BVar w b x y z) (ho : Own w base v l) (hg : w.grownBy w' v.ownBlock) : BVar w' b x y z :=
  hv.grown hg (fun e => ne_bvar ho hv e.symm)
theorem BVar.other {w : World} {b c j : Nat} {x y z : Int} {u : Value} (h : BVar w b x y z) (hne : b ≠ c) : BVar (w.setCell ⟨c, j, none⟩ u) b x y z :=
  h.grown (grown_set w c j u) (by simpa using hne)
theorem BVar.other3 {w : World} {b c : Nat} {x y z d2 f2 : Int} {u : Value} (h : BVar w b x y z) (hne : b ≠ c) : BVar (Card.set3 w c d2 f2 u) b x y z := BVar.other (BVar.other (BVar.other h hne) hne) hne

/-- The two blocks of a card and a box that are handed over. -/
theorem beginCB (w : World) (d f : Int) (v : Value) (F L A : Int) : ∃ W, W = (w.alloc (.cells #[.int .i64 d, .int .i64 f, v] 26)).alloc (.cells #[.int .i64 F, .int .i64 L, .int .i64 A] 39) ∧ Var W w.heap.size d f v ∧ BVar W (w.heap.size + 1) F L A ∧ Below w.heap.size w W ∧ W.heap.size = w.heap.size + 2 := by
  refine ⟨_, rfl, (Var.new w d f v).below (alloc_below _ _), ?_, ((Below.refl _ _).alloc (Nat.le_refl _) _).alloc (by simp) _, by simp⟩
  have h := BVar.new (w.alloc (.cells #[.int .i64 d, .int .i64 f, v] 26)) F L A
  rwa [show (w.alloc (.cells #[.int .i64 d, .int .i64 f, v] 26)).heap.size = w.heap.size + 1 by simp] at h
/-- The same with the block of the card that is returned. -/
theorem beginCBR (w : World) (d f : Int) (v : Value) (F L A : Int) : ∃ W, W = ((w.alloc (.cells #[.int .i64 d, .int .i64 f, v] 26)).alloc (.cells #[.int .i64 F, .int .i64 L, .int .i64 A] 39)).alloc (.cells #[.int .i64 0, .int .i64 0, .slice none 0 0] 26) ∧ Var W w.heap.size d f v ∧ BVar W (w.heap.size + 1) F L A ∧ Var W (w.heap.size + 2) 0 0 (.slice none 0 0) ∧ Below w.heap.size w W ∧ W.heap.size = w.heap.size + 3 := by
  obtain ⟨W, rfl, h1, h2, hb, hs⟩ := beginCB w d f v F L A
  have hb2 := alloc_below ((w.alloc (.cells #[.int .i64 d, .int .i64 f, v] 26)).alloc (.cells #[.int .i64 F, .int .i64 L, .int .i64 A] 39)) (.cells #[.int .i64 0, .int .i64 0, .slice none 0 0] 26)
  refine ⟨_, rfl, h1.below hb2, h2.below hb2, ?_, hb.trans (hb2.mono hb.size), by simp⟩
  have h := Var.new ((w.alloc (.cells #[.int .i64 d, .int .i64 f, v] 26)).alloc (.cells #[.int .i64 F, .int .i64 L, .int .i64 A] 39)) 0 0 (.slice none 0 0)
  rw [hs] at h
  exact h

set_option maxRecDepth 100000 in
theorem has_impl (d f : Int) (a : Option Addr) (n c : Nat) (F L A : Int) (w : World) (hn : n ≤ 1048576) :
    Calls Try.prog 81 #[.agg #[.int .i64 d, .int .i64 f, .slice a n c], .agg #[.int .i64 F, .int .i64 L, .int .i64 A]] w fun e w' => e = .returned (.bool (decide (0 ≤ F ∧ F ≤ L ∧ L < (n : Int)))) ∧ Below w.heap.size w w' := by
  obtain ⟨W, hW, hv1, hv2, hb, hs⟩ := beginCB w d f (.slice a n c) F L A
  have HW := Lib.hid hW
  have HB := Lib.hid hb
  obtain ⟨k0, k1, k2⟩ := hv1.cells
  obtain ⟨m0, m1, m2⟩ := hv2.cells
  clear hW hv1 hv2 hb hs
  by_cases h0 : 0 ≤ F
  · by_cases h1 : F ≤ L
    · by_cases h2 : L < (n : Int)
      · rw [decide_eq_true (show 0 ≤ F ∧ F ≤ L ∧ L < (n : Int) from ⟨h0, h1, h2⟩)]
        have e0 : decide (0 ≤ F) = true := decide_eq_true h0
        have e1 : decide (F ≤ L) = true := decide_eq_true h1
        have e2 : decide (L < (n : Int)) = true := decide_eq_true h2
        go_enter Try.func81, Try.ntmps81
        go_wp2_with fail
        rw [← HW.out]
        go_wp2
        go_ret
        exact ⟨rfl, HB.out⟩
      · rw [decide_eq_false (show ¬ (0 ≤ F ∧ F ≤ L ∧ L < (n : Int)) from fun h => h2 h.2.2)]
        have e0 : decide (0 ≤ F) = true := decide_eq_true h0
        have e1 : decide (F ≤ L) = true := decide_eq_true h1
        have e2 : decide (L < (n : Int)) = false := decide_eq_false h2
        go_enter Try.func81, Try.ntmps81
        go_wp2_with fail
        rw [← HW.out]
        go_wp2
        go_ret
        exact ⟨rfl, HB.out⟩
    · rw [decide_eq_false (show ¬ (0 ≤ F ∧ F ≤ L ∧ L < (n : Int)) from fun h => h1 h.2.1)]
      have e0 : decide (0 ≤ F) = true := decide_eq_true h0
      have e1 : decide (F ≤ L) = false := decide_eq_false h1
      go_enter Try.func81, Try.ntmps81
      go_wp2_with fail
      rw [← HW.out]
      go_wp2
      go_ret
      exact ⟨rfl, HB.out⟩
  · rw [decide_eq_false (show ¬ (0 ≤ F ∧ F ≤ L ∧ L < (n : Int)) from fun h => h0 h.1)]
    have e0 : decide (0 ≤ F) = false := decide_eq_false h0
    go_enter Try.func81, Try.ntmps81
    go_wp2_with fail
    rw [← HW.out]
    go_wp2
    go_ret
    exact ⟨rfl, HB.out⟩

set_option maxRecDepth 100000 in
theorem range_spec (d f : Int) (a : Option Addr) (n c : Nat) (l : List ByteArray) (F L A : Int) (w : World) (hl : l.length = n) (hn : n ≤ 1048576) (hz : ∀ s ∈ l, s.size ≤ 1048576) (hr : Row w a l) :
    Calls Try.prog 57 #[.agg #[.int .i64 d, .int .i64 f, .slice a n c], .agg #[.int .i64 F, .int .i64 L, .int .i64 A]] w fun e w' => e = .returned (.bool (rangeB d f l F L)) ∧ Below w.heap.size w w' := by
  obtain ⟨W, hW, hv1, hv2, hb, hs⟩ := beginCB w d f (.slice a n c) F L A
  have HW := Lib.hid hW
  have HB := Lib.hid hb
  have HV1 := Lib.hid hv1
  have HV2 := Lib.hid hv2
  have HOK := Lib.hid (ok_spec d f a n c l W hl hn hz (hr.since (Nat.le_refl _) hb))
  obtain ⟨k0, k1, k2⟩ := hv1.cells
  clear hW hv1 hv2 hb hs hr hz
  have HN := Lib.hid hl
  cases hc : cardB d f l with
  | false =>
    have HRES := Lib.hid (show rangeB d f l F L = false by unfold rangeB; rw [hc]; rfl)
    rw [hc] at HOK
    clear hc hl
    go_enter Try.func57, Try.ntmps57
    go_wp2_with fail
    rw [← HW.out]
    go_wp2_with fail
    refine HOK.out.mono ?_
    rintro e w1 ⟨rfl, hb⟩
    have HB1 := Lib.hid (HB.out.trans (hb.mono HB.out.size))
    clear hb k0 k1 k2
    go_wp2
    go_ret
    rw [HRES.out]
    exact ⟨rfl, HB1.out⟩
  | true =>
    have hn1 : (1 : Int) ≤ (n : Int) := by have := (cardB_iff.1 hc).2.1; omega
    have HRES := Lib.hid (show rangeB d f l F L = decide (0 ≤ F ∧ F ≤ L ∧ L < (n : Int)) by unfold rangeB; rw [hc, hl]; rfl)
    rw [hc] at HOK
    clear hc hl
    by_cases hq : 0 ≤ L ∧ L ≤ (n : Int) - 1
    · have hd := decide_eq_true hq
      have HQ := Lib.hid hq
      clear hq
      go_enter Try.func57, Try.ntmps57
      go_wp2_with fail
      rw [← HW.out]
      go_wp2_with fail
      refine HOK.out.mono ?_
      rintro e w1 ⟨rfl, hb⟩
      have HB1 := Lib.hid (HB.out.trans (hb.mono HB.out.size))
      have HV1 := Lib.hid (HV1.out.below hb)
      have HV2 := Lib.hid (HV2.out.below hb)
      clear hb k0 k1 k2
      obtain ⟨k0, k1, k2⟩ := HV1.out.cells
      obtain ⟨m0, m1, m2⟩ := HV2.out.cells
      go_wp2_with fail
      refine (in_at L 0 ((n : Int) - 1) _).mono ?_
      rintro e w2 ⟨rfl, rfl⟩
      rw [hd]
      clear hd
      go_wp2_with fail
      refine (in_at F 0 L _).mono ?_
      rintro e w2 ⟨rfl, rfl⟩
      have HD := Lib.hid (show (decide (0 ≤ F) && decide (F ≤ L)) = decide (0 ≤ F ∧ F ≤ L ∧ L < (n : Int)) by
        have := HQ.out
        rw [Bool.eq_iff_iff, Bool.and_eq_true, decide_eq_true_eq, decide_eq_true_eq, decide_eq_true_eq]
        omega)
      go_wp2
      go_ret
      rw [HRES.out, ← HD.out]
      exact ⟨rfl, HB1.out⟩
    · have hd := decide_eq_false hq
      have HQ := Lib.hid hq
      clear hq
      go_enter Try.func57, Try.ntmps57
      go_wp2_with fail
      rw [← HW.out]
      go_wp2_with fail
      refine HOK.out.mono ?_
      rintro e w1 ⟨rfl, hb⟩
      have HB1 := Lib.hid (HB.out.trans (hb.mono HB.out.size))
      have HV1 := Lib.hid (HV1.out.below hb)
      have HV2 := Lib.hid (HV2.out.below hb)
      clear hb k0 k1 k2
      obtain ⟨k0, k1, k2⟩ := HV1.out.cells
      obtain ⟨m0, m1, m2⟩ := HV2.out.cells
      go_wp2_with fail
      refine (in_at L 0 ((n : Int) - 1) _).mono ?_
      rintro e w2 ⟨rfl, rfl⟩
      rw [hd]
      clear hd
      have HD := Lib.hid (show decide (0 ≤ F ∧ F ≤ L ∧ L < (n : Int)) = false by
        have := HQ.out
        exact decide_eq_false fun h => this ⟨by omega, by omega⟩)
      go_wp2
      go_ret
      rw [HRES.out, HD.out]
      exact ⟨rfl, HB1.out⟩
end Go.Proofs.Ytekmladindlmoaa.Box
