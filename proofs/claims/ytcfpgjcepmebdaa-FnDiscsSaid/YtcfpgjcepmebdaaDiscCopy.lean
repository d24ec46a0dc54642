/- What spec.l18Copy and slices.Clone return: a disc, a row of one's own (printed by wip/gen_disc4.py). -/
import Derived.Test.YtcfpgjcepmebdaaDiscLaw
import Derived.Test.YtcfpgjcepmebdaaKit
import Derived.Lib.AppendZeros
import Derived.Deep.AppendLies
import Derived.Deep.Upon
import Derived.Deep.RegionLaw
namespace Go.Proofs.Ytcfpgjcepmebdaa.Disc
open Go.ChangeShapes Go.WideShapes Go.ChangeAt Go.RowKit Go.Sort
open Go.Proofs.Ytcfpgjcepmebdaa.Ints
set_option linter.unusedVariables false

/-- append onto the empty row that was made last. -/
theorem append_new (W : World) (sp : Addr) (c N : Nat) (l : List Int) (hl : l.length = N) (hN : N ≤ 2097152) (hr : IRow W (some sp) l) :
    ∃ (g cap : Nat) (w' : World), (∀ ty, (Builtin.append_ #[24, 24] ty #[.slice (some ⟨W.heap.size, 0, none⟩) 0 0, .slice (some sp) N c]).run Try.prog (W.alloc (.cells #[] 3)).drew = .ok (.slice (some ⟨g, 0, none⟩) N cap) w') ∧ Own w' W.heap.size (.slice (some ⟨g, 0, none⟩) N cap) l ∧ Below W.heap.size W w' := by
  obtain ⟨i0, hi, hz0, hz1, hz2⟩ := info_parts info_int8
  have hb : Below W.heap.size W (W.alloc (.cells #[] 3)).drew := (alloc_below W (.cells #[] 3)).drew
  have ho : Own (W.alloc (.cells #[] 3)).drew W.heap.size (.slice (some ⟨W.heap.size, 0, none⟩) 0 0) [] :=
    ⟨by simp [icells], .inr ⟨W.heap.size, 0, #[], rfl, Nat.le_refl _, heap_alloc_new W _, Nat.le_refl _, Nat.zero_le _, rfl, rfl⟩⟩
  have hr2 : IRow (W.alloc (.cells #[] 3)).drew (some sp) l := hr.below hb
  have hflat : ∀ j u, (icells l)[j]? = some u → (W.alloc (.cells #[] 3)).drew.cell? (sp.add j) = some u := by
    intro j u hj
    have hjl : j < l.length := by rw [← icells_length]; exact (List.getElem?_eq_some_iff.1 hj).1
    obtain ⟨g, e, _, hc⟩ := hr2 j hjl
    cases e
    rw [show (⟨g, 0, none⟩ : Addr).add j = ⟨g, j, none⟩ from by unfold Addr.add; split <;> simp_all, hc, ← icells_get l j hjl, hj]
  have hone : ∀ u ∈ icells l, u.oneCell' = true := by
    intro u hu
    unfold icells at hu
    simp only [List.mem_map] at hu
    obtain ⟨x, _, rfl⟩ := hu
    rfl
  subst hl
  by_cases h0 : l.length = 0
  · have hl0 := List.eq_nil_of_length_eq_zero h0
    subst hl0
    refine ⟨W.heap.size, 0, _, fun ty => ?_, ho, hb⟩
    refine run_append_nothing _ _ _ ty 3 i0 Try.underlying24 hi (some ⟨W.heap.size, 0, none⟩) 0 0 (Nat.le_refl _) (.slice (some sp) 0 c) ?_
    exact Src.ofSlice _ Try.underlying24 sp 0 c [] (by simp) (fun j u hj => by simp at hj) (fun u hu => by simp at hu)
  · have h1 := fun ty => run_append_lies (P := Try.prog) (W.alloc (.cells #[] 3)).drew 24 ty W.heap.size 3 i0 _ 1 8 Try.underlying24 hi hz0 hz1 hz2 rfl (by decide) _ 0 (icells []) ho sp l.length c (icells l) (by rw [icells_length, Nat.mul_one]) hflat hone (by omega) (by unfold maxLen; omega) (by omega) (by simp [World.drew]) _ rfl
    obtain ⟨g, cap, w', hrun, hown, hg, _, _⟩ := h1 0
    rw [Nat.zero_add] at hrun hown
    refine ⟨g, cap, w', fun ty => ?_, hown, ?_⟩
    · rw [← hrun]; rfl
    · exact hb.grown hg (by simp [World.drew]) (fun t e => by simp [Value.ownBlock] at e; omega)
/-- A step of a region that draws: an append whose run is known. -/
theorem append_step {P : Program} {ops : Array Oper} {o : Oper} {a : Act} {w : World} {K : Act → World → Prop} {Q : Exit → Act → World → Prop} {E : Prop}
    (hg : o.guard = none) (s x : Operand) (t tn : TypeId) (hop : o.op = .call { callee := .builtin .append, args := #[s, x], argTypes := #[t, tn] })
    (vs vx : Value) (hs : a.eval s = vs) (hx : a.eval x = vx) {v' : Value} {w' : World} (hr : ∀ ty, (Builtin.append_ #[t, tn] ty #[vs, vx]).run P w = .ok v' w') (hK : K (a.put o.dst v') w') :
    if Region.wanted o (yielded ops a.tmps) = true then Oper.wp P o a w K Q else E := by
  have hw : Region.wanted o (yielded ops a.tmps) = true := by simp [Region.wanted, hg]
  rw [if_pos hw]
  exact Lib.wp_append_run w s x t tn hop vs vx hs hx v' w' (hr _) hK
/-- The blocks with which a function of one disc that returns a disc begins. -/
theorem beginR (w : World) (n m : Int) (a : Option Addr) (N c : Nat) (l : List Int) (hr : IRow w a l) :
    ∃ W, (w.alloc (.cells #[.int .i64 n, .int .i64 m, .slice a N c] 26)).alloc (.cells #[.int .i64 0, .int .i64 0, .slice none 0 0] 26) = W ∧ At W w.heap.size n m a N c l ∧ DVar W (w.heap.size + 1) 0 0 (.slice none 0 0) ∧ Below w.heap.size w W ∧ w.heap.size + 1 < W.heap.size := by
  obtain ⟨W1, h1, ha, hb, hs⟩ := beginA w n m a N c l hr
  have h2 := DVar.new W1 0 0 (.slice none 0 0)
  have hb2 := alloc_below W1 (.cells #[.int .i64 0, .int .i64 0, .slice none 0 0] 26)
  refine ⟨_, by rw [h1], ha.below hb2, ?_, hb.trans (hb2.mono hb.size), ?_⟩
  · rw [show w.heap.size + 1 = W1.heap.size by rw [← h1]; simp]
    exact h2
  · rw [← h1]; simp
theorem clone_ints (g0 N c : Nat) (l : List Int) (w : World) (hl : l.length = N) (hn : N ≤ 1048576) (hr : IRow w (some ⟨g0, 0, none⟩) l) :
    Calls Try.prog 33 #[.slice (some ⟨g0, 0, none⟩) N c] w fun e w' => ∃ g c', e = .returned (.slice (some ⟨g, 0, none⟩) N c') ∧ Below w.heap.size w w' ∧ Own w' w.heap.size (.slice (some ⟨g, 0, none⟩) N c') l := by
  subst hl
  refine (Try.slices_Clone_int g0 0 l.length c l w (Nat.le_refl _) (by omega) (fun j hj => ?_)).mono ?_
  · obtain ⟨g, e, _, hc⟩ := hr j hj
    cases e
    rw [Nat.zero_add, hc]
    simp [List.getD, hj]
  · rintro e w' ⟨v, rfl, ho, hnil, hb⟩
    rw [List.take_length] at ho
    have ho2 : Own w' w.heap.size v l := ho
    obtain ⟨_, ⟨e, _⟩ | ⟨g, cap, cur, e, _⟩⟩ := ho2
    · exact absurd (by first | exact e | exact e.1) hnil
    · subst e
      exact ⟨g, cap, rfl, hb, ho⟩

set_option maxRecDepth 100000 in
set_option maxHeartbeats 2000000 in
theorem copy_spec (n m : Int) (g0 N c : Nat) (l : List Int) (w : World) (hl : l.length = N) (hn : N ≤ 1048576) (hr : IRow w (some ⟨g0, 0, none⟩) l) :
    Calls Try.prog 40 #[.agg #[.int .i64 n, .int .i64 m, .slice (some ⟨g0, 0, none⟩) N c]] w (Gave w n m N l) := by
  obtain ⟨W, hW, hA, hv2, hb, hs⟩ := beginR w n m (some ⟨g0, 0, none⟩) N c l hr
  obtain ⟨g, cap, w1, hrun, ho1, hb1⟩ := append_new W ⟨g0, 0, none⟩ c N l hl (by omega) hA.row
  have HW := Lib.hid hW
  have HB1 := Lib.hid (hb.trans (hb1.mono hb.size))
  have HO1 := Lib.hid ho1
  have HRUN := Lib.hid hrun
  have hx := hv2.below hb1
  have HX := Lib.hid hx
  have hq := (hA.below hb1).var
  have HQ := Lib.hid hq
  obtain ⟨k0, k1, k2⟩ := hA.var.cells
  obtain ⟨q0, q1, q2⟩ := hq.cells
  obtain ⟨p0, p1, p2⟩ := hx.cells
  have f0 := hv2.free 0
  have f1 := hv2.free 1
  have f2 := hv2.free 2
  obtain ⟨m0, m1, m2⟩ := hv2.cells
  have z0 := hx.free 0
  have z1 := hx.free 1
  have z2 := hx.free 2
  have HNE := Lib.hid (show w.heap.size ≠ w.heap.size + 1 ∧ w.heap.size + 1 < W.heap.size ∧ w.heap.size ≤ W.heap.size by omega)
  clear hW hA hv2 hb ho1 hb1 hrun hx hq hs hl hr
  go_enter Try.func40, Try.ntmps40
  go_wp2_with fail
  rw [HW.out]
  clear HW
  generalize hB1 : w.heap.size + 1 = B1 at *
  generalize hB0 : w.heap.size = B0 at *
  go_region_held3 (fun w' => w'.cell? ⟨B0, 0, none⟩ = some (.int .i64 n) ∧ w'.cell? ⟨B0, 1, none⟩ = some (.int .i64 m) ∧ w'.cell? ⟨B0, 2, none⟩ = some (.slice (some ⟨g0, 0, none⟩) N c))
    (first | exact ⟨k0, k1, k2⟩ | exact ⟨q0, q1, q2⟩ | go_keep | exact (((HQ.out.other HNE.out.1).other HNE.out.1).other HNE.out.1).cells)
    ((refine append_step rfl (.tmp 7) (.tmp 9) _ _ rfl _ _ (by rfl) (by rfl) HRUN.out ?_))
  obtain ⟨hz, hbz, hoz⟩ := gave_end (n := n) (m := m) HB1.out HX.out (by omega) HO1.out HNE.out.2.1 HNE.out.2.2
  unfold set3 at hz hbz hoz
  go_wp2
  clear q0 q1 q2 p0 p1 p2 z0 z1 z2 f0 f1 f2 k0 k1 k2 m0 m1 m2
  generalize (((w1.setCell ⟨B1, 0, none⟩ (.int .i64 n)).setCell ⟨B1, 1, none⟩ (.int .i64 m)).setCell ⟨B1, 2, none⟩ (.slice (some ⟨g, 0, none⟩) N cap)) = Z at *
  obtain ⟨z0, z1, z2⟩ := hz.cells
  refine bodyPost_ret (v := .agg #[.int .i64 n, .int .i64 m, .slice (some ⟨g, 0, none⟩) N cap]) (by simp [results, Try.results40, go_sem, z0, z1, z2]) rfl ?_
  unfold Gave
  rw [hB0]
  exact ⟨_, cap, rfl, hbz, hoz⟩
end Go.Proofs.Ytcfpgjcepmebdaa.Disc
