/- What the program's SameCard returns. -/
import Derived.Test.YtoampghmikamlaaCardSame
import Derived.Test.YtoampghmikamlaaCardImpl2
import Derived.Test.YtoampghmikamlaaCardLaw
import Derived.Test.YtoampghmikamlaaKit
import Derived.Deep.DeepCutAuto
namespace Go.Proofs.Ytoampghmikamlaa.Card
open Go.ChangeShapes Go.WideShapes Go.ChangeAt Go.RowKit
open Go.Proofs.Ytoampghmikamlaa.Strip Go.Proofs.Ytoampghmikamlaa.Strs
set_option linter.unusedVariables false

/-- Block b is a variable that holds a card with its frame embedded. -/
def FVar (w : World) (b : Nat) (d f : Int) (v : Value) : Prop := w.heap[b]? = some (.cells #[.int .i64 d, .int .i64 f, v] 56 (0, 0))

theorem embed_exact (d f : Int) (a : Option Addr) (n c : Nat) (w : World) :
    Calls Try.prog 49 #[.agg #[.int .i64 d, .int .i64 f, .slice a n c]] w fun e w' => e = .returned (.agg #[.int .i64 d, .int .i64 f, .slice a n c]) ∧ w' = (w.alloc (.cells #[.int .i64 d, .int .i64 f, .slice a n c] 26)).alloc (.cells #[.int .i64 d, .int .i64 f, .slice a n c] 56) := by
  go_enter Try.func49, Try.ntmps49
  go_wp2
  exact bodyPost_ret (v := .agg #[.int .i64 d, .int .i64 f, .slice a n c]) (by simp [results, Try.results49, go_sem]) rfl ⟨rfl, rfl⟩

theorem FVar.below {w w' : World} {b : Nat} {d f : Int} {v : Value} (h : FVar w b d f v) (hb : Below w.heap.size w w') : FVar w' b d f v := (hb.block b (Array.getElem?_eq_some_iff.1 h).1).trans h
theorem FVar.new (w : World) {g : Nat} {d f : Int} {v : Value} (hg : w.heap.size = g) : FVar (w.alloc (.cells #[.int .i64 d, .int .i64 f, v] 56)) g d f v := by
  subst hg
  exact heap_alloc_new w _
theorem FVar.drew {w : World} {b : Nat} {d f : Int} {v : Value} (h : FVar w b d f v) : FVar w.drew b d f v := h

section
variable {w0 w' : World} {p1 p2 p3 p4 p5 p6 : Addr} {u1 u2 u3 u4 u5 u6 : Value}
/-- What stood in a world stands in every world that leaves it alone. -/
theorem eqs_of (h : w0.cell? p1 = some u1 ∧ w0.cell? p2 = some u2 ∧ w0.cell? p3 = some u3 ∧ w0.cell? p4 = some u4 ∧ w0.cell? p5 = some u5 ∧ w0.cell? p6 = some u6 ∧ Below w0.heap.size w0 w0) (hb : Below w0.heap.size w0 w') :
    w'.cell? p1 = some u1 ∧ w'.cell? p2 = some u2 ∧ w'.cell? p3 = some u3 ∧ w'.cell? p4 = some u4 ∧ w'.cell? p5 = some u5 ∧ w'.cell? p6 = some u6 ∧ Below w0.heap.size w0 w' := by
  obtain ⟨h1, h2, h3, h4, h5, h6, h7⟩ := h
  have k : ∀ {p : Addr} {u : Value}, w0.cell? p = some u → w'.cell? p = some u := fun {p u} e => (hb.cell (p := p) (World.block_lt_of_cell? _ _ e)).trans e
  exact ⟨k h1, k h2, k h3, k h4, k h5, k h6, hb⟩
end

theorem row_getD {w : World} {g : Nat} {l : List ByteArray} (h : Row w (some ⟨g, 0, none⟩) l) : ∀ j, j < l.length → w.cell? ⟨g, 0 + j, none⟩ = some (.string (l.getD j ByteArray.empty)) := by
  intro j hj
  obtain ⟨g', e, _, hc⟩ := h j hj
  cases e
  rw [Nat.zero_add, hc]
  simp [List.getD, hj]

theorem equal_any (a b : Option Addr) (n n2 ca cb : Nat) (l m : List ByteArray) (w : World) (hl : l.length = n) (hm : m.length = n2) (hn : n ≤ 1048576) (hn2 : n2 ≤ 1048576) (ha : Row w a l) (hb : Row w b m) :
    Calls Try.prog 50 #[.slice a n ca, .slice b n2 cb] w fun e w' => e = .returned (.bool (decide (l = m))) ∧ Below w.heap.size w w' := by
  by_cases hne : n = n2
  · subst hne
    by_cases h0 : n = 0
    · subst h0
      have e1 := List.eq_nil_of_length_eq_zero hl
      have e2 := List.eq_nil_of_length_eq_zero hm
      subst e1 e2
      refine (Try.slices_Equal_string_empty a b ca 0 cb w (by omega)).mono ?_
      rintro e w' ⟨rfl, rfl⟩
      exact ⟨by simp, Below.refl _ _⟩
    · obtain ⟨g, rfl, _⟩ := ha 0 (by omega)
      obtain ⟨g2, rfl, _⟩ := hb 0 (by omega)
      refine (Try.slices_Equal_string g 0 n ca g2 0 n cb l m w (by omega) (by omega) (by omega) (by omega) (row_getD ha) (row_getD hb)).mono ?_
      rintro e w' ⟨rfl, q, rfl⟩
      rw [List.take_of_length_le (by omega), List.take_of_length_le (by omega)]
      exact ⟨rfl, drewN_below _ _⟩
  · refine (Try.slices_Equal_string_lens a b n ca n2 cb w hne).mono ?_
    rintro e w' ⟨rfl, rfl⟩
    refine ⟨?_, Below.refl _ _⟩
    rw [decide_eq_false (fun h => hne (by rw [← hl, ← hm, h]))]

set_option maxRecDepth 100000 in
set_option maxHeartbeats 1000000 in
theorem sameCard_impl (d f d2 f2 : Int) (a b : Option Addr) (n n2 ca cb : Nat) (l m : List ByteArray) (w : World) (hl : l.length = n) (hm : m.length = n2) (hn : n ≤ 1048576) (hn2 : n2 ≤ 1048576) (ha : Row w a l) (hb : Row w b m) :
    Calls Try.prog 21 #[.agg #[.int .i64 d, .int .i64 f, .slice a n ca], .agg #[.int .i64 d2, .int .i64 f2, .slice b n2 cb]] w fun e w' => e = .returned (.bool (sameC d f l d2 f2 m)) ∧ Below w.heap.size w w' := by
  obtain ⟨W, hW, hv1, hv2, hbw, hs⟩ := beginTwo w d f d2 f2 (.slice a n ca) (.slice b n2 cb)
  have HB := Lib.hid hbw
  have HL := Lib.hid hl
  have HM := Lib.hid hm
  have HA := Lib.hid ha
  have HBR := Lib.hid hb
  have HW := Lib.hid hW
  have S0 : W.cell? ⟨w.heap.size, 0, none⟩ = some (.int .i64 d) ∧ W.cell? ⟨w.heap.size, 1, none⟩ = some (.int .i64 f) ∧ W.cell? ⟨w.heap.size, 2, none⟩ = some (.slice a n ca) ∧ W.cell? ⟨w.heap.size + 1, 0, none⟩ = some (.int .i64 d2) ∧ W.cell? ⟨w.heap.size + 1, 1, none⟩ = some (.int .i64 f2) ∧ W.cell? ⟨w.heap.size + 1, 2, none⟩ = some (.slice b n2 cb) ∧ Below W.heap.size W W :=
    ⟨hv1.cells.1, hv1.cells.2.1, hv1.cells.2.2, hv2.cells.1, hv2.cells.2.1, hv2.cells.2.2, Below.refl _ _⟩
  clear hv1 hv2 hbw hs hl hm ha hb hW
  go_enter Try.func21, Try.ntmps21
  go_upto_region 1 with (fail)
  rw [← HW.out]
  clear HW
  go_cut [5, 6] (fun s5 s6 wx => ∃ g h : Nat, s5 = .pointer (some ⟨g, 0, none⟩) ∧ s6 = .pointer (some ⟨h, 0, none⟩) ∧ FVar wx g d f (.slice a n ca) ∧ FVar wx h d2 f2 (.slice b n2 cb) ∧ Below w.heap.size w wx)
  case first =>
    go_region_held3 (fun w' => w'.cell? ⟨w.heap.size, 0, none⟩ = some (.int .i64 d) ∧ w'.cell? ⟨w.heap.size, 1, none⟩ = some (.int .i64 f) ∧ w'.cell? ⟨w.heap.size, 2, none⟩ = some (.slice a n ca) ∧ w'.cell? ⟨w.heap.size + 1, 0, none⟩ = some (.int .i64 d2) ∧ w'.cell? ⟨w.heap.size + 1, 1, none⟩ = some (.int .i64 f2) ∧ w'.cell? ⟨w.heap.size + 1, 2, none⟩ = some (.slice b n2 cb) ∧ Below W.heap.size W w')
      (first | exact S0 | exact eqs_drew S0 | assumption | (refine eqs_of S0 ?_; repeat (first | exact Below.refl _ _ | exact (Below.refl _ _).drew | (refine Below.alloc ?_ (by first | (simp; done) | (simp; omega)) _) | (refine Below.setCell ?_ (by first | (simp; done) | (simp; omega)) _) | refine Below.drew ?_)))
      ((go_at_call 49; refine (embed_exact _ _ _ _ _ _).mono ?_; rintro e w1 ⟨rfl, rfl⟩))
    all_goals
      go_wp2_with fail
      go_meet
      refine ⟨_, _, rfl, rfl, ?_, ?_, HB.out.trans (Below.mono (eqs_below (w0 := W) (by assumption)) HB.out.size)⟩
      · (repeat (first | exact FVar.new _ (by first | (simp; done) | (simp; omega)) | refine FVar.drew ?_ | refine FVar.below ?_ (alloc_below _ _)))
      · (repeat (first | exact FVar.new _ (by first | (simp; done) | (simp; omega)) | refine FVar.drew ?_ | refine FVar.below ?_ (alloc_below _ _)))
  case rest =>
    obtain ⟨g, h, rfl, rfl, F1, F2, XB⟩ := hcut
    obtain ⟨k0, k1, k2⟩ := framed_cells F1
    obtain ⟨m0, m1, m2⟩ := framed_cells F2
    have HXB := Lib.hid XB
    clear F1 F2 XB S0
    go_wp2_with fail
    · have HEQ := Lib.hid (show d = d2 by assumption)
      have HEF := Lib.hid (show f = f2 by assumption)
      have e1 : sameC d f l d2 f2 m = decide (l = m) := by rw [HEQ.out, HEF.out]; unfold sameC; simp
      refine (equal_any a b n n2 ca cb l m _ HL.out HM.out hn hn2 (HA.out.since (Nat.le_refl _) HXB.out) (HBR.out.since (Nat.le_refl _) HXB.out)).mono ?_
      rintro e w9 ⟨rfl, hb9⟩
      have HB9 := Lib.hid (HXB.out.trans (hb9.mono HXB.out.size))
      clear hb9
      go_wp2
      go_ret
      exact ⟨by rw [e1]; rfl, HB9.out⟩
    · have HNE := Lib.hid (show sameC d f l d2 f2 m = false from same_no (fun h => absurd h.2.1 (by assumption)))
      go_ret
      exact ⟨by rw [HNE.out]; rfl, HXB.out⟩
    · have HNE := Lib.hid (show sameC d f l d2 f2 m = false from same_no (fun h => absurd h.1 (by assumption)))
      go_ret
      exact ⟨by rw [HNE.out]; rfl, HXB.out⟩
end Go.Proofs.Ytoampghmikamlaa.Card
