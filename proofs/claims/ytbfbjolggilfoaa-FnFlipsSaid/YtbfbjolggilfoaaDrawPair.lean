/- What spec.DrawWayUp draws: two texts that are not long. -/
import Derived.Test.YtbfbjolggilfoaaDrawStrip
import Derived.Test.YtbfbjolggilfoaaDrawSplit
import Derived.Test.YtbfbjolggilfoaaStripSpec2
import Derived.Test.YtbfbjolggilfoaaOrderSpec
namespace Go.Proofs.Ytbfbjolggilfoaa.Draw
open Go.ChangeShapes Go.WideShapes Go.ChangeAt Go.RowKit
open Go.Proofs.Ytbfbjolggilfoaa.Strip Go.Proofs.Ytbfbjolggilfoaa.Order
set_option linter.unusedVariables false

def Short (s : ByteArray) : Prop := s.size ≤ 64
theorem grown_alloc (w : World) (o : Obj) (row : Option Nat) : w.grownBy (w.alloc o) row := World.grownBy_alloc w o row

set_option maxRecDepth 100000 in
theorem any_get (k : Nat) (ca : Option Addr) (cl cc : Nat) (w : World) (hc : Cur w k ca cl cc) {Q : Ending → World → Prop}
    (h : ∀ (s : ByteArray) (w' : World), s.size ≤ 64 → Cur w' k ca cl cc → w.grownBy w' (some k) → Q (.returned (.string s)) w') :
    Calls Try.prog 67 #[.pointer (some ⟨k, 0, none⟩)] w Q := by
  have H := Lib.hid h; clear h
  go_enter Try.func67, Try.ntmps67
  go_wp2_with fail
  refine strip_get k ca cl cc _ hc ?_
  intro l w1 h1 h2 h3 h4 h5 hc1 g1
  have HG := Lib.hid g1; clear g1
  have hl : l.length ≤ 16 := by
    have := cnt_sum l h1
    omega
  obtain ⟨s, hs⟩ : ∃ s : ByteArray, (⟨l.toArray⟩ : ByteArray) = s := ⟨_, rfl⟩
  have hsz : s.size ≤ 16 := by rw [← hs]; simpa [ByteArray.size] using hl
  rw [hs]
  clear h1 h2 h3 h4 h5 hl hs
  go_wp2_with fail
  refine below_get k ca cl cc 10 (by omega) _ hc1 ?_
  intro x w2 x0 x1 hc2 g2
  have HG2 := Lib.hid (grownBy_trans HG.out g2); clear g2
  by_cases e0 : x = 0
  · subst e0
    have hc3 := hc2.alloc (.cells #[.string ⟨#[120]⟩, .string ⟨#[68]⟩, .string ⟨#[32]⟩, .string ⟨#[100, 100, 100, 100, 100, 100, 100, 100]⟩, .string ⟨#[102, 102, 102, 102, 102, 102, 102, 102]⟩] 9)
    have hne : w2.heap.size ≠ k := by have := hc2.lt; omega
    have HG3 := Lib.hid (grownBy_trans HG2.out (grown_alloc w2 (.cells #[.string ⟨#[120]⟩, .string ⟨#[68]⟩, .string ⟨#[32]⟩, .string ⟨#[100, 100, 100, 100, 100, 100, 100, 100]⟩, .string ⟨#[102, 102, 102, 102, 102, 102, 102, 102]⟩] 9) (some k)))
    go_wp2_with fail
    refine pick_get k ca cl cc w2.heap.size 5 [⟨#[120]⟩, ⟨#[68]⟩, ⟨#[32]⟩, ⟨#[100, 100, 100, 100, 100, 100, 100, 100]⟩, ⟨#[102, 102, 102, 102, 102, 102, 102, 102]⟩] 9 (0, 0) (fun x => x.size ≤ 8) (by intro x hx; simp only [List.mem_cons, List.not_mem_nil, or_false] at hx; rcases hx with rfl | rfl | rfl | rfl | rfl <;> decide) rfl (by omega) (by omega) _ hc3 (heap_alloc_new _ _) hne ?_
    intro y w3 hy hc4 g3
    have HG4 := Lib.hid (grownBy_trans HG3.out g3)
    have HC4 := Lib.hid hc4
    have hsy : (s ++ y).size ≤ 64 := by rw [ByteArray.size_append]; omega
    have HSY := Lib.hid hsy
    clear g3 hc4 hsy hc3
    go_wp2
    exact H.out _ _ HSY.out HC4.out HG4.out
  · by_cases e1 : x = 1
    · subst e1
      have hc3 := hc2.alloc (.cells #[.string ⟨#[]⟩, .string ⟨#[100]⟩, .string ⟨#[102]⟩, .string ⟨#[100, 100, 100, 100, 100, 100, 100, 100]⟩, .string ⟨#[100, 100, 100, 100, 100, 100, 100, 100, 102, 102, 102, 102, 102, 102, 102, 102]⟩, .string ⟨#[100, 100, 100, 100, 100, 100, 100, 100, 100, 102]⟩] 9)
      have hne : w2.heap.size ≠ k := by have := hc2.lt; omega
      have HG3 := Lib.hid (grownBy_trans HG2.out (grown_alloc w2 (.cells #[.string ⟨#[]⟩, .string ⟨#[100]⟩, .string ⟨#[102]⟩, .string ⟨#[100, 100, 100, 100, 100, 100, 100, 100]⟩, .string ⟨#[100, 100, 100, 100, 100, 100, 100, 100, 102, 102, 102, 102, 102, 102, 102, 102]⟩, .string ⟨#[100, 100, 100, 100, 100, 100, 100, 100, 100, 102]⟩] 9) (some k)))
      go_wp2_with fail
      refine pick_get k ca cl cc w2.heap.size 6 [⟨#[]⟩, ⟨#[100]⟩, ⟨#[102]⟩, ⟨#[100, 100, 100, 100, 100, 100, 100, 100]⟩, ⟨#[100, 100, 100, 100, 100, 100, 100, 100, 102, 102, 102, 102, 102, 102, 102, 102]⟩, ⟨#[100, 100, 100, 100, 100, 100, 100, 100, 100, 102]⟩] 9 (0, 0) (fun x => x.size ≤ 16) (by intro x hx; simp only [List.mem_cons, List.not_mem_nil, or_false] at hx; rcases hx with rfl | rfl | rfl | rfl | rfl | rfl <;> decide) rfl (by omega) (by omega) _ hc3 (heap_alloc_new _ _) hne ?_
      intro y w3 hy hc4 g3
      have HG4 := Lib.hid (grownBy_trans HG3.out g3)
      have HC4 := Lib.hid hc4
      clear g3 hc4 hc3
      go_wp2
      exact H.out y _ (by omega) HC4.out HG4.out
    · have t0 : (x == 0) = false := by simpa using e0
      have t1 : (x == 1) = false := by simpa using e1
      go_wp2
      exact H.out s _ (by omega) hc2 HG2.out

set_option maxRecDepth 100000 in
theorem pair_get (k : Nat) (ca : Option Addr) (cl cc : Nat) (w : World) (hc : Cur w k ca cl cc) {Q : Ending → World → Prop}
    (h : ∀ (s t : ByteArray) (w' : World), s.size ≤ 64 → t.size ≤ 64 → Cur w' k ca cl cc → w.grownBy w' (some k) → Q (.returned (.tuple #[.string s, .string t])) w') :
    Calls Try.prog 51 #[.pointer (some ⟨k, 0, none⟩)] w Q := by
  have H := Lib.hid h; clear h
  go_enter Try.func51, Try.ntmps51
  go_wp2_with fail
  refine any_get k ca cl cc _ hc ?_
  intro s w1 hs hc1 g1
  have HG := Lib.hid g1; clear g1
  cases hst : stripB s.data.toList with
  | false =>
    go_wp2_with fail
    refine (is_spec s _ (by omega)).mono ?_
    rintro e w' ⟨rfl, rfl⟩
    rw [hst]
    go_wp2_with fail
    refine any_get k ca cl cc _ hc1 ?_
    intro t w2 ht hc2 g2
    have HG2 := Lib.hid (grownBy_trans HG.out g2); clear g2
    go_wp2
    exact H.out s t _ hs ht hc2 HG2.out
  | true =>
    have hf := stripB_frame hst
    unfold frameB at hf
    simp only [decide_eq_true_eq] at hf
    have hn1 : numV 100 s.data.toList = (cnt 100 s.data.toList : Int) := by unfold numV; rw [hst]; rfl
    have hn2 : numV 102 s.data.toList = (cnt 102 s.data.toList : Int) := by unfold numV; rw [hst]; rfl
    have HD := Lib.hid (fun w => down_spec s w (by omega))
    have HF := Lib.hid (fun w => forward_spec s w (by omega))
    rw [hn1] at HD
    rw [hn2] at HF
    generalize (cnt 100 s.data.toList : Int) = d at *
    generalize (cnt 102 s.data.toList : Int) = f at *
    clear hn1 hn2
    go_wp2_with fail
    refine (is_spec s _ (by omega)).mono ?_
    rintro e w' ⟨rfl, rfl⟩
    rw [hst]
    go_wp2_with fail
    refine below_get k ca cl cc 5 (by omega) _ hc1 ?_
    intro x w2 x0 x1 hc2 g2
    have HG2 := Lib.hid (grownBy_trans HG.out g2); clear g2
    by_cases hx : 0 < x
    · go_wp2_with fail
      refine (HD.out _).mono ?_
      rintro e w' ⟨rfl, rfl⟩
      go_wp2_with fail
      refine (HF.out _).mono ?_
      rintro e w' ⟨rfl, rfl⟩
      go_wp2_with fail
      refine draw_int k ca cl cc _ _ (by omega) (by omega) (by omega) (by omega) _ hc2 ?_
      intro l w3 h1 h2 h3 hc3 g3
      have HG3 := Lib.hid (grownBy_trans HG2.out g3)
      have HC3 := Lib.hid hc3
      clear g3 hc3
      have hl : (⟨l.toArray⟩ : ByteArray).size ≤ 64 := by
        have h4 := cnt_sum l h1
        have h5 : (⟨l.toArray⟩ : ByteArray).size = l.length := by simp [ByteArray.size]
        omega
      have HL := Lib.hid hl
      clear hl h1 h2 h3
      go_wp2
      exact H.out s _ _ hs HL.out HC3.out HG3.out
    · have hx0 : decide (0 < x) = false := by simpa using hx
      go_wp2_with fail
      refine any_get k ca cl cc _ hc2 ?_
      intro t w3 ht hc3 g3
      have HG3 := Lib.hid (grownBy_trans HG2.out g3); clear g3
      go_wp2
      exact H.out s t _ hs ht hc3 HG3.out

set_option maxRecDepth 100000 in
theorem up_pair_get (k : Nat) (ca : Option Addr) (cl cc : Nat) (w : World) (hc : Cur w k ca cl cc) {Q : Ending → World → Prop}
    (h : ∀ (s t : ByteArray) (w' : World), s.size ≤ 64 → t.size ≤ 64 → Cur w' k ca cl cc → w.grownBy w' (some k) → Q (.returned (.tuple #[.string s, .string t])) w') :
    Calls Try.prog 34 #[.pointer (some ⟨k, 0, none⟩)] w Q := by
  have H := Lib.hid h; clear h
  go_enter Try.func34, Try.ntmps34
  go_wp2_with fail
  refine pair_get k ca cl cc _ hc ?_
  intro s t w1 hs ht hc1 g1
  have HG := Lib.hid g1; clear g1
  go_wp2_with fail
  refine below_get k ca cl cc 5 (by omega) _ hc1 ?_
  intro x w2 x0 x1 hc2 g2
  have HG2 := Lib.hid (grownBy_trans HG.out g2); clear g2
  by_cases hx : 0 < x
  · cases hsm : sameB s.data.toList t.data.toList with
    | false =>
      go_wp2_with fail
      refine (same_spec s t _ (by omega) (by omega)).mono ?_
      rintro e w' ⟨rfl, rfl⟩
      rw [hsm]
      go_wp2
      exact H.out s t _ hs ht hc2 HG2.out
    | true =>
      have hm1 := mixS_size false s t
      have hm2 := mixS_size true s t
      go_wp2_with fail
      refine (same_spec s t _ (by omega) (by omega)).mono ?_
      rintro e w' ⟨rfl, rfl⟩
      rw [hsm]
      go_wp2_with fail
      refine (lower_spec s t _ (by omega) (by omega)).mono ?_
      rintro e w' ⟨rfl, rfl⟩
      go_wp2_with fail
      refine (upper_spec s t _ (by omega) (by omega)).mono ?_
      rintro e w' ⟨rfl, rfl⟩
      generalize mixS false s t = a at *
      generalize mixS true s t = b at *
      go_wp2
      exact H.out a b _ (by omega) (by omega) hc2 HG2.out
  · have hx0 : decide (0 < x) = false := by simpa using hx
    go_wp2
    exact H.out s t _ hs ht hc2 HG2.out

theorem drawWayUp_get (ca : Option Addr) (cl cc : Nat) (w : World) (hm : cl ≤ maxLen) (hr : RowIn w ca cl) {Q : Ending → World → Prop}
    (h : ∀ (s t : ByteArray) (w' : World), s.size ≤ 64 → t.size ≤ 64 → Below w.heap.size w w' → Q (.returned (.tuple #[.string s, .string t])) w') :
    Calls Try.prog 11 #[.slice ca cl cc] w Q := by
  have H := Lib.hid h; clear h
  go_enter Try.func11, Try.ntmps11
  go_wp2_with fail
  refine new_get ca cl cc w hm hr ?_
  intro k w1 hk hk1 hc1 hb1
  have HB := Lib.hid hb1; clear hb1
  go_wp2_with fail
  refine up_pair_get k ca cl cc _ hc1 ?_
  intro s t w2 hs ht hc2 g2
  have HG := Lib.hid g2; clear g2
  go_wp2
  exact H.out s t _ hs ht (below_of_grown HB.out HG.out hk hk1)
end Go.Proofs.Ytbfbjolggilfoaa.Draw
