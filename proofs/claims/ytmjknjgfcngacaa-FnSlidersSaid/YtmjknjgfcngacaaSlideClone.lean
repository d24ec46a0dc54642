/- slices.Clone at sliders, and append([]impl.Slider{}, list...): a row of one's own with the same sliders. -/
import Derived.Test.YtmjknjgfcngacaaSliderRow
import Derived.Lib.AppendZeros
import Derived.Deep.AppendLies
import Derived.Deep.Upon
namespace Go.Proofs.Ytmjknjgfcngacaa.Slide
open Go.ChangeShapes Go.WideShapes Go.ChangeAt Go.RowKit Go.Sort
open Go.Proofs.Ytmjknjgfcngacaa.Tri
open Go.Proofs.Ytmjknjgfcngacaa.SlR (info_box)
open Go.Proofs.Ytmjknjgfcngacaa.Ints (grown_below grown_set grown_trans heap_set_at drewN_below)
set_option linter.unusedVariables false

/-- The cells of a row, one by one. -/
theorem row_flat {w : World} {ad : Addr} {l : List T3} (h : Row3 w (some ad) l) : ∀ j u, (bcells l)[j]? = some u → w.cell? (ad.add j) = some u := by
  intro j u hj
  have hjl : j < l.length * 3 := by rw [← bcells_length]; exact (List.getElem?_eq_some_iff.1 hj).1
  have hq : j / 3 < l.length := by omega
  obtain ⟨g, e, _, c0, c1, c2⟩ := h (j / 3) hq
  obtain ⟨d0, d1, d2⟩ := bcells_get l (j / 3) hq
  cases e
  have ea : ∀ k, (⟨g, 0, none⟩ : Addr).add k = ⟨g, k, none⟩ := fun k => by unfold Addr.add; split <;> simp_all
  rw [ea]
  have hr : j % 3 = 0 ∨ j % 3 = 1 ∨ j % 3 = 2 := by omega
  rcases hr with hr | hr | hr
  · rw [show j = j / 3 * 3 from by omega] at hj ⊢
    rw [d0] at hj; rw [c0, hj]
  · rw [show j = j / 3 * 3 + 1 from by omega] at hj ⊢
    rw [d1] at hj; rw [c1, hj]
  · rw [show j = j / 3 * 3 + 2 from by omega] at hj ⊢
    rw [d2] at hj; rw [c2, hj]

/-- append onto the empty row that was made last. -/
theorem append_new (w : World) (sp : Addr) (c : Nat) (l : List T3) (hr : Row3 w (some sp) l) (hl : l.length ≤ 2097152) :
    ∃ (g cap : Nat) (w' : World), (∀ ty, (Builtin.append_ #[24, 24] ty #[.slice (some ⟨w.heap.size, 0, none⟩) 0 0, .slice (some sp) l.length c]).run Try.prog (w.alloc (.cells #[] 33)) = .ok (.slice (some ⟨g, 0, none⟩) l.length cap) w') ∧ OwnT 33 w' w.heap.size (.slice (some ⟨g, 0, none⟩) l.length cap) l ∧ Below w.heap.size w w' := by
  obtain ⟨i0, hi, hz0, hz1, hz2⟩ := info_parts info_box
  have hb := alloc_below w (.cells #[] 33)
  have ho : OwnT 33 (w.alloc (.cells #[] 33)) w.heap.size (.slice (some ⟨w.heap.size, 0, none⟩) 0 0) [] :=
    ⟨by simp [bcells], .inr ⟨w.heap.size, 0, #[], rfl, Nat.le_refl _, heap_alloc_new w _, Nat.le_refl _, Nat.zero_le _, rfl, rfl⟩⟩
  have hr2 : Row3 (w.alloc (.cells #[] 33)) (some sp) l := hr.below hb
  by_cases h0 : l.length = 0
  · have hl0 := List.eq_nil_of_length_eq_zero h0
    subst hl0
    refine ⟨w.heap.size, 0, _, fun ty => ?_, ho, hb⟩
    refine run_append_nothing _ _ _ ty 33 i0 Try.underlying24 hi (some ⟨w.heap.size, 0, none⟩) 0 0 (Nat.le_refl _) (.slice (some sp) 0 c) ?_
    exact Src.ofSlice _ Try.underlying24 sp 0 c [] (by simp) (fun j u hj => by simp at hj) (fun u hu => by simp at hu)
  · have h1 := fun ty => run_append_lies (P := Try.prog) (w.alloc (.cells #[] 33)) 24 ty w.heap.size 33 i0 _ 3 24 Try.underlying24 hi hz0 hz1 hz2 rfl (by decide) _ 0 (bcells []) ho sp l.length c (bcells l) (bcells_length l) (row_flat hr2) (bcells_cell l) (by omega) (by unfold maxLen; omega) (by omega) (by simp) _ rfl
    obtain ⟨g, cap, w', hrun, hown, hg, _, _⟩ := h1 0
    rw [Nat.zero_add] at hrun hown
    refine ⟨g, cap, w', fun ty => ?_, hown, ?_⟩
    · rw [← hrun]; rfl
    · exact hb.grown hg (by simp) (fun t e => by simp [Value.ownBlock] at e; omega)

theorem run_nil_sliders (W : World) (a : Option Addr) (n c n' c' : Nat) : (binOp .eql 24 (.slice a n c) (.slice none n' c')).run Try.prog W = .ok (.bool a.isNone) W := Lib.run_eql_slice_nil W _ _ a n c n' c' Try.underlying24

set_option maxRecDepth 100000 in
theorem clone_impl (ad : Addr) (n c : Nat) (l : List T3) (w : World) (hl : l.length = n) (hn : n ≤ 1048576) (hr : Row3 w (some ad) l) :
    Calls Try.prog 41 #[.slice (some ad) n c] w fun e w' => ∃ g cap, e = .returned (.slice (some ⟨g, 0, none⟩) n cap) ∧ Below w.heap.size w w' ∧ OwnT 33 w' w.heap.size (.slice (some ⟨g, 0, none⟩) n cap) l := by
  obtain ⟨g, cap, w1, hrun, ho, hb⟩ := append_new w ad c l hr (by omega)
  rw [hl] at hrun ho
  have HO := Lib.hid ho
  have HB := Lib.hid hb
  have HRUN := Lib.hid hrun
  have hq := run_nil_sliders
  clear ho hb hrun hr hl
  go_enter Try.func41, Try.ntmps41
  go_wp2_with (at_builtin; refine Lib.wpList_append_run _ rfl _ _ _ _ rfl _ _ rfl rfl _ _ (HRUN.out _) ?_)
  go_ret
  exact ⟨g, cap, rfl, HB.out, HO.out⟩
end Go.Proofs.Ytmjknjgfcngacaa.Slide
