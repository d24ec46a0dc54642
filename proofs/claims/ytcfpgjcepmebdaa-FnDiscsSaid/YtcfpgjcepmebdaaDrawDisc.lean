/- What spec.l18Disc and spec.DrawDiscs draw. -/
import Derived.Test.YtcfpgjcepmebdaaDiscTurn
import Derived.Test.YtcfpgjcepmebdaaDraw
import Derived.Lib.AppendZeros
import Derived.Deep.AppendLies
import Derived.Deep.RegionLaw
namespace Go.Proofs.Ytcfpgjcepmebdaa.Disc
open Go.ChangeShapes Go.WideShapes Go.ChangeAt Go.RowKit Go.Sort
open Go.Proofs.Ytcfpgjcepmebdaa.Draw (Cur below_get new_get heap_new RowIn grownBy_setCell grownBy_trans below_of_grown)
open Go.Proofs.Ytcfpgjcepmebdaa.Ints
set_option linter.unusedVariables false

/-- One more int, onto a row of one's own. -/
theorem push_int {w : World} {base : Nat} {v : Value} {l : List Int} {x : Int} (ho : Own w base v l) (hl : l.length ≤ 1000) (hb : base ≤ w.heap.size) :
    ∃ (g2 cap : Nat) (w' : World), (∀ ty, (Builtin.append_ #[24, 24] ty #[v, .slice (some ⟨w.heap.size, 0, none⟩) 1 1]).run Try.prog (w.alloc (.cells #[.int .i64 x] 3)) = .ok (.slice (some ⟨g2, 0, none⟩) (l.length + 1) cap) w') ∧
      Own w' base (.slice (some ⟨g2, 0, none⟩) (l.length + 1) cap) (l ++ [x]) ∧ (w.alloc (.cells #[.int .i64 x] 3)).grownBy w' v.ownBlock := by
  obtain ⟨i0, hi, hz0, hz1, hz2⟩ := info_parts info_int8
  have ho2 := ho.below (alloc_below w (.cells #[.int .i64 x] 3))
  have h1 := fun ty => run_append_lies (P := Try.prog) (w.alloc (.cells #[.int .i64 x] 3)) 24 ty base 3 i0 _ 1 8 Try.underlying24 hi hz0 hz1 hz2 rfl (by decide) _ l.length (icells l) ho2 ⟨w.heap.size, 0, none⟩ 1 1 [.int .i64 x] rfl (World.news_of_block (cs := #[.int .i64 x]) (t := 3) (fr := (0, 0)) (heap_alloc_new _ _)) (by simp [Value.oneCell']) (by omega) (by unfold maxLen; omega) (by omega) (by simp; omega) _ rfl
  obtain ⟨g2, cap, w', hr, hown, hg, _, _⟩ := h1 0
  refine ⟨g2, cap, w', fun ty => ?_, ?_, hg⟩
  · rw [← hr]; rfl
  · show World.ownsRow _ _ _ _ _ _ _
    rw [icells_snoc, List.length_append]; exact hown
theorem ownv_var {w : World} {base b : Nat} {n m : Int} {v u : Value} {l : List Int} (h : Own w base v l) (hv : DVar w b n m u) : v.ownBlock ≠ some b := by
  intro e
  have hh := h
  obtain ⟨hl, h1 | ⟨g', cap', cur, e2, hg, _⟩⟩ := h
  · obtain ⟨rfl, _⟩ := h1
    cases e
  · subst e2
    have e3 : g' = b := by simpa [Value.ownBlock] using e
    exact own_var hh hv e3
theorem ownv_set {w : World} {base b j : Nat} {n m : Int} {v u x : Value} {l : List Int} (h : Own w base v l) (hv : DVar w b n m u) : Own (w.setCell ⟨b, j, none⟩ x) base v l :=
  World.ownsRow.kept h (grown_set w b j x) (by
    right
    exact ownv_var h hv)
theorem own_form {w : World} {base : Nat} {v : Value} {l : List Int} (h : Own w base v l) (h0 : 0 < l.length) : ∃ g c, v = .slice (some ⟨g, 0, none⟩) l.length c := by
  obtain ⟨_, ⟨e, h1⟩ | ⟨g, c, cur, e, _⟩⟩ := h
  · have : l = [] := List.eq_nil_of_length_eq_zero h1
    subst this; simp at h0
  · exact ⟨g, c, e⟩
/-- A block that is new since w is written. -/
theorem grown_new {w a b : World} {row row2 : Option Nat} (h : w.grownBy a row) (g : a.grownBy b row2) (hR : ∀ r, row2 = some r → w.heap.size ≤ r) : w.grownBy b row :=
  ⟨g.os.trans h.os, g.tape.trans h.tape, g.output.trans h.output, Nat.le_trans h.size g.size,
    fun k hk hne => (g.block k (Nat.lt_of_lt_of_le hk h.size) (fun e => by have := hR k e.symm; omega)).trans (h.block k hk hne)⟩

/-- The cursor, the world since the beginning, the result's block. -/
structure Dh (w0 : World) (k : Nat) (ca : Option Addr) (cl cc R : Nat) (w : World) : Prop where
  cur : Cur w k ca cl cc
  grown : w0.grownBy w (some k)
  res : DVar w R 0 0 (.slice none 0 0)
/-- And the disc in work. -/
structure Ds (w0 : World) (k : Nat) (ca : Option Addr) (cl cc R B : Nat) (n m : Int) (v : Value) (l : List Int) (w : World) : Prop where
  h : Dh w0 k ca cl cc R w
  var : DVar w B n m v
  own : Own w w0.heap.size v l
section
variable {w0 w w' : World} {k cl cc R B : Nat} {ca : Option Addr} {n m : Int} {v : Value} {l : List Int}
theorem Dh.next (h : Dh w0 k ca cl cc R w) (hc : Cur w' k ca cl cc) (g : w.grownBy w' (some k)) (hne : R ≠ k) : Dh w0 k ca cl cc R w' :=
  ⟨hc, grownBy_trans h.grown g, h.res.grown g (by simpa using hne)⟩
theorem Dh.alloc (h : Dh w0 k ca cl cc R w) (o : Obj) : Dh w0 k ca cl cc R (w.alloc o) :=
  ⟨h.cur.alloc o, grownBy_trans h.grown (World.grownBy_alloc w o _), h.res.below (alloc_below w o)⟩
theorem Dh.drew (h : Dh w0 k ca cl cc R w) : Dh w0 k ca cl cc R w.drew := ⟨h.cur, grownBy_trans h.grown (grown_below ((Below.refl _ _).drew) _), h.res⟩
theorem Dh.over (h : Dh w0 k ca cl cc R w) {row : Option Nat} (g : w.grownBy w' row) (hk : k < w0.heap.size) (hr : ∀ r, row = some r → w0.heap.size ≤ r) (hR : some R ≠ row) : Dh w0 k ca cl cc R w' :=
  ⟨h.cur.kept g (fun e => by have := hr k e.symm; omega) (fun b hb e => by have := hr b e.symm; omega), grown_new h.grown g hr, h.res.grown g hR⟩
theorem Ds.next (h : Ds w0 k ca cl cc R B n m v l w) (hc : Cur w' k ca cl cc) (g : w.grownBy w' (some k)) (hR : R ≠ k) (hB : B ≠ k) (hk : k < w0.heap.size) : Ds w0 k ca cl cc R B n m v l w' :=
  ⟨h.h.next hc g hR, h.var.grown g (by simpa using hB), World.ownsRow.kept h.own g (by
    cases e : v.ownBlock with
    | none => exact .inl rfl
    | some b =>
      right; intro e2
      have := (h.own.lt b e).1
      cases e2; omega)⟩
theorem Ds.drew (h : Ds w0 k ca cl cc R B n m v l w) : Ds w0 k ca cl cc R B n m v l w.drew := ⟨h.h.drew, h.var, h.own.below (drewN_below w 1)⟩
/-- One more picture: the row is written, then the field. -/
theorem Ds.push {g2 cap : Nat} {x : Int} (h : Ds w0 k ca cl cc R B n m v l w) (ho : Own w' w0.heap.size (.slice (some ⟨g2, 0, none⟩) (l.length + 1) cap) (l ++ [x])) (hg : (w.alloc (.cells #[.int .i64 x] 3)).grownBy w' v.ownBlock) (hk : k < w0.heap.size) (hB : w0.heap.size ≤ B) (hRB : R ≠ B) :
    Ds w0 k ca cl cc R B n m (.slice (some ⟨g2, 0, none⟩) (l.length + 1) cap) (l ++ [x]) (w'.setCell ⟨B, 2, none⟩ (.slice (some ⟨g2, 0, none⟩) (l.length + 1) cap)) := by
  have ha := alloc_below w (.cells #[.int .i64 x] 3)
  have h1 := h.h.alloc (.cells #[.int .i64 x] 3)
  have o1 := h.own.below ha
  have v1 := h.var.below ha
  have h2 := h1.over hg hk (fun r e => (h.own.lt r e).1) (fun e => ownv_var o1 h1.res e.symm)
  have v2 := v1.grown hg (fun e => ownv_var o1 v1 e.symm)
  exact ⟨h2.over (grown_set w' B 2 _) hk (fun r e => by cases e; exact hB) (by simpa using hRB), v2.set2 _, own_set ho v2⟩
end

set_option maxRecDepth 100000 in
set_option maxHeartbeats 4000000 in
theorem disc_get (k : Nat) (ca : Option Addr) (cl cc : Nat) (w : World) (hc : Cur w k ca cl cc) {Q : Ending → World → Prop}
    (h : ∀ (N M : Nat) (l : List Int) (g c : Nat) (w' : World), 2 ≤ N → N ≤ 11 → M < N → l.length = N → (∀ x ∈ l, 0 ≤ x ∧ x ≤ 5) → Own w' w.heap.size (.slice (some ⟨g, 0, none⟩) N c) l → Cur w' k ca cl cc → w.grownBy w' (some k) → Q (.returned (.agg #[.int .i64 (N : Int), .int .i64 (M : Int), .slice (some ⟨g, 0, none⟩) N c])) w') :
    Calls Try.prog 31 #[.pointer (some ⟨k, 0, none⟩)] w Q := by
  have H := Lib.hid h
  clear h
  have hk := hc.lt
  have HK := Lib.hid hk
  have HRK := Lib.hid (show w.heap.size ≠ k by omega)
  have HH := Lib.hid (show Dh w k ca cl cc w.heap.size (w.alloc (.cells #[.int .i64 0, .int .i64 0, .slice none 0 0] 26)) from ⟨hc.alloc _, World.grownBy_alloc w _ _, DVar.new w 0 0 _⟩)
  clear hc hk
  go_enter Try.func31, Try.ntmps31
  go_wp2_with fail
  refine below_get k ca cl cc 10 (by decide) _ HH.out.cur ?_
  intro d w1 d0 d1 hc1 g1
  have HH := Lib.hid (HH.out.next hc1 g1 HRK.out)
  clear hc1 g1
  obtain ⟨N, hN⟩ : ∃ N : Nat, 2 + d = (N : Int) := ⟨(2 + d).toNat, by omega⟩
  have e0 : IntKind.i64.wrap (2 + d) = (N : Int) := by rw [hN, IntKind.wrap_i64]; omega
  have hN2 : 2 ≤ N := by omega
  have hN11 : N ≤ 11 := by omega
  have HV := Lib.hid (DVar.new w1 (N : Int) 0 (.slice none 0 0))
  have HBK := Lib.hid (show w1.heap.size ≠ k from by have := HH.out.cur.lt; omega)
  have HBR := Lib.hid (show w.heap.size ≠ w1.heap.size from by have := HH.out.res.lt; omega)
  have HBW := Lib.hid (show w.heap.size ≤ w1.heap.size from HH.out.grown.size)
  have HH := Lib.hid (HH.out.alloc (.cells #[.int .i64 (N : Int), .int .i64 0, .slice none 0 0] 26))
  clear hN d0 d1
  obtain ⟨k0, k1, k2⟩ := HV.out.cells
  go_wp2_with fail
  obtain ⟨B, hB⟩ : ∃ B, w1.heap.size = B := ⟨_, rfl⟩
  rw [hB] at HV HBK HBR HBW ⊢
  clear hB k0 k1 k2
  generalize (w1.alloc (.cells #[.int .i64 (N : Int), .int .i64 0, .slice none 0 0] 26)) = w2 at *
  refine below_get k ca cl cc (N : Int) (by omega) _ HH.out.cur ?_
  intro d w3 d0 d1 hc1 g1
  obtain ⟨M, rfl⟩ := Int.eq_ofNat_of_zero_le d0
  have hMN : M < N := by omega
  have HH := Lib.hid (HH.out.next hc1 g1 HRK.out)
  have HV := Lib.hid (HV.out.grown g1 (by have := HBK.out; simpa using this))
  clear hc1 g1 d0 d1 e0
  obtain ⟨k0, k1, k2⟩ := HV.out.cells
  have f1 := HV.out.free 1
  have HV2 := Lib.hid (HV.out.set1 (M : Int))
  have HH2 := Lib.hid (HH.out.over (grown_set w3 B 1 (.int .i64 (M : Int))) HK.out (fun r e => by cases e; exact HBW.out) (by simpa using HBR.out))
  obtain ⟨q0, q1, q2⟩ := HV2.out.cells
  go_wp2_with fail
  clear k0 k1 k2 f1 HV HH q0 q1 q2
  generalize (w3.setCell ⟨B, 1, none⟩ (.int .i64 (M : Int))) = w4 at *
  refine below_get k ca cl cc 4 (by decide) _ HH2.out.cur ?_
  intro d w5 d0 d1 hc1 g1
  obtain ⟨P, hP⟩ : ∃ P : Nat, 1 + d = (P : Int) := ⟨(1 + d).toNat, by omega⟩
  have e0 : IntKind.i64.wrap (1 + d) = (P : Int) := by rw [hP, IntKind.wrap_i64]; omega
  have hP1 : 1 ≤ P := by omega
  have hP4 : P ≤ 4 := by omega
  have HS : Hid (Ds w k ca cl cc w.heap.size B (N : Int) (M : Int) (.slice none 0 0) [] w5) := Lib.hid ⟨HH2.out.next hc1 g1 HRK.out, HV2.out.grown g1 (by have := HBK.out; simpa using this), Own.nil _ _⟩
  clear hc1 g1 d0 d1 hP HH2 HV2
  go_wp2_with fail
  obtain ⟨Z, hZ⟩ : ∃ Z, N % P = Z := ⟨_, rfl⟩
  have hZ2 : Z < P := by rw [← hZ]; exact Nat.mod_lt _ hP1
  have ht0 : Int.tmod (N : Int) (P : Int) = (Z : Int) := by rw [Int.tmod_eq_emod_of_nonneg (by omega), ← hZ]; omega
  have hw0 : IntKind.i64.wrap (Z : Int) = (Z : Int) := by rw [IntKind.wrap_i64]; omega
  have hy0 : ((P : Int) == 0) = false := by simp; omega
  have hy2 : ((P : Int) != 0) = true := by simp; omega
  have hy3 : ¬ (P : Int) = 0 := by omega
  have hy4 : ¬ P = 0 := by omega
  clear hZ e0
  go_loopw [5, 6] (fun i _ wr => ∃ (j : Nat) (v : Value) (l : List Int), j ≤ N ∧ i = .int .i64 (j : Int) ∧ Hid (l.length = j) ∧ Hid (∀ x ∈ l, 0 ≤ x ∧ x ≤ 5) ∧ Hid (Ds w k ca cl cc w.heap.size B (N : Int) (M : Int) v l wr)) (fun i _ _ => N - (intOf i).toNat)
  case atStart => exact ⟨0, _, [], Nat.zero_le _, rfl, Lib.hid rfl, Lib.hid (fun x hx => by simp at hx), HS⟩
  case round =>
    clear HS
    obtain ⟨j, v, l, hj, rfl, HL, HA, HS⟩ := hrel
    obtain ⟨k0, k1, k2⟩ := HS.out.var.cells
    have f2 := HS.out.var.free 2
    by_cases hlt : j < N
    · have q0 : (0 : Int) ≤ (j : Int) := Int.natCast_nonneg _
      have q1 : (j : Int) < (N : Int) := by omega
      by_cases hboth : P ≤ j ∧ Z = 0
      · obtain ⟨hpj, hz0⟩ := hboth
        have r0 : decide ((P : Int) ≤ (j : Int)) = true := decide_eq_true (by omega)
        have r1 : ((Z : Int) == 0) = true := by simp [hz0]
        have r0b : decide (P ≤ j) = true := decide_eq_true hpj
        have r1b : (Z == 0) = true := by simp [hz0]
        have r1c : decide (Z = 0) = true := decide_eq_true hz0
        obtain ⟨q, hq⟩ : ∃ q, j = P + q := ⟨j - P, by omega⟩
        have e5 : IntKind.i64.wrap ((j : Int) - (P : Int)) = (q : Int) := by rw [IntKind.wrap_i64]; omega
        have hql : q < l.length := by rw [HL.out]; omega
        obtain ⟨gv, cv, rfl⟩ := own_form HS.out.own (by omega)
        have hcell := HS.out.own.cell hql
        obtain ⟨x, hx⟩ : ∃ x, l[q] = x := ⟨_, rfl⟩
        have hxr := HA.out _ (List.getElem_mem hql)
        rw [hx] at hcell hxr
        have q3 : (0 : Int) ≤ (q : Int) := Int.natCast_nonneg _
        have q4 : (q : Int) < (j : Int) := by omega
        obtain ⟨g2, cap, w6, hrun, ho, hg⟩ := push_int (w := wr.drew) (x := x) HS.out.drew.own (by rw [HL.out]; omega) HS.out.drew.h.grown.size
        have hs2 := HS.out.drew.push ho hg HK.out HBW.out HBR.out
        have hv1 := ((HS.out.drew.var.below (alloc_below wr.drew (.cells #[.int .i64 x] 3))).grown hg (fun e => ownv_var (HS.out.drew.own.below (alloc_below wr.drew (.cells #[.int .i64 x] 3))) (HS.out.drew.var.below (alloc_below wr.drew (.cells #[.int .i64 x] 3))) e.symm))
        have fr := hv1.free 2
        obtain ⟨r2, r3, r4⟩ := hv1.cells
        rw [HL.out] at hrun hs2
        have HR6 := Lib.hid (show ∀ ty, (Builtin.append_ #[24, 24] ty #[.slice (some ⟨gv, 0, none⟩) j cv, .slice (some ⟨wr.heap.size, 0, none⟩) 1 1]).run Try.prog (wr.alloc (.cells #[.int .i64 x] 3)).drew = .ok (.slice (some ⟨g2, 0, none⟩) (j + 1) cap) w6 from hrun)
        have HS2 := Lib.hid hs2
        have HL2 := Lib.hid (show (l ++ [x]).length = j + 1 by rw [List.length_append, HL.out]; rfl)
        have HA2 : Hid (∀ y ∈ l ++ [x], 0 ≤ y ∧ y ≤ 5) := Lib.hid (fun y hy => by
          rcases List.mem_append.1 hy with h1 | h1
          · exact HA.out y h1
          · simp at h1; subst h1; exact hxr)
        obtain ⟨qa0, qa1, qa2⟩ := (HS.out.var.below (alloc_below wr (.cells #[.int .i64 x] 3))).cells
        rw [HL.out] at k2 qa2 r4
        clear hrun hs2 ho hg hv1 hx hxr hql hq
        go_wp2_with fail
        go_region_law (refine append_step rfl (.tmp 36) (.tmp 44) _ _ rfl _ _ (by rfl) (by rfl) HR6.out ?_)
        all_goals
          go_wp2
          go_roundw
          case rel => exact ⟨j + 1, _, l ++ [x], by omega, by go_num, HL2, HA2, HS2⟩
          case measure => simp [intOf]; omega
      · by_cases hpj : P ≤ j
        · have hz0 : ¬ Z = 0 := fun e => hboth ⟨hpj, e⟩
          have r0 : decide ((P : Int) ≤ (j : Int)) = true := decide_eq_true (by omega)
          have r0b : decide (P ≤ j) = true := decide_eq_true hpj
          have r1 : ((Z : Int) == 0) = false := by simpa using hz0
          have r1b : (Z == 0) = false := by simpa using hz0
          have r1c : decide (Z = 0) = false := decide_eq_false hz0
          clear hboth
          go_wp2_with fail
          clear k0 k1 k2 f2
          refine below_get k ca cl cc 6 (by decide) _ HS.out.h.cur ?_
          intro x w5' d0 d1 hc1 g1
          have HS := Lib.hid (HS.out.next hc1 g1 HRK.out HBK.out HK.out)
          clear hc1 g1
          obtain ⟨k0, k1, k2⟩ := HS.out.var.cells
          obtain ⟨g2, cap, w6, hrun, ho, hg⟩ := push_int (w := w5') (x := x) HS.out.own (by rw [HL.out]; omega) HS.out.h.grown.size
          have hs2 := HS.out.push ho hg HK.out HBW.out HBR.out
          have ha := alloc_below w5' (.cells #[.int .i64 x] 3)
          have hv1 := ((HS.out.var.below ha).grown hg (fun e => ownv_var (HS.out.own.below ha) (HS.out.var.below ha) e.symm))
          have fr := hv1.free 2
          obtain ⟨r2, r3, r4⟩ := hv1.cells
          rw [HL.out] at hrun hs2
          have HR6 := Lib.hid hrun
          have HS2 := Lib.hid hs2
          have HL2 := Lib.hid (show (l ++ [x]).length = j + 1 by rw [List.length_append, HL.out]; rfl)
          have HA2 : Hid (∀ y ∈ l ++ [x], 0 ≤ y ∧ y ≤ 5) := Lib.hid (fun y hy => by
            rcases List.mem_append.1 hy with h1 | h1
            · exact HA.out y h1
            · simp at h1; subst h1; omega)
          clear hrun hs2 ho hg hv1 d0 d1 ha
          go_wp2_with (at_builtin; refine Lib.wpList_append_run _ rfl _ _ _ _ rfl _ _ rfl rfl _ _ (HR6.out _) ?_)
          go_roundw
          case rel => exact ⟨j + 1, _, l ++ [x], by omega, by go_num, HL2, HA2, HS2⟩
          case measure => simp [intOf]; omega
        · have r0 : decide ((P : Int) ≤ (j : Int)) = false := decide_eq_false (by omega)
          have r0b : decide (P ≤ j) = false := decide_eq_false hpj
          clear hboth
          go_wp2_with fail
          clear k0 k1 k2 f2
          refine below_get k ca cl cc 6 (by decide) _ HS.out.h.cur ?_
          intro x w5' d0 d1 hc1 g1
          have HS := Lib.hid (HS.out.next hc1 g1 HRK.out HBK.out HK.out)
          clear hc1 g1
          obtain ⟨k0, k1, k2⟩ := HS.out.var.cells
          obtain ⟨g2, cap, w6, hrun, ho, hg⟩ := push_int (w := w5') (x := x) HS.out.own (by rw [HL.out]; omega) HS.out.h.grown.size
          have hs2 := HS.out.push ho hg HK.out HBW.out HBR.out
          have ha := alloc_below w5' (.cells #[.int .i64 x] 3)
          have hv1 := ((HS.out.var.below ha).grown hg (fun e => ownv_var (HS.out.own.below ha) (HS.out.var.below ha) e.symm))
          have fr := hv1.free 2
          obtain ⟨r2, r3, r4⟩ := hv1.cells
          rw [HL.out] at hrun hs2
          have HR6 := Lib.hid hrun
          have HS2 := Lib.hid hs2
          have HL2 := Lib.hid (show (l ++ [x]).length = j + 1 by rw [List.length_append, HL.out]; rfl)
          have HA2 : Hid (∀ y ∈ l ++ [x], 0 ≤ y ∧ y ≤ 5) := Lib.hid (fun y hy => by
            rcases List.mem_append.1 hy with h1 | h1
            · exact HA.out y h1
            · simp at h1; subst h1; omega)
          clear hrun hs2 ho hg hv1 d0 d1 ha
          go_wp2_with (at_builtin; refine Lib.wpList_append_run _ rfl _ _ _ _ rfl _ _ rfl rfl _ _ (HR6.out _) ?_)
          go_roundw
          case rel => exact ⟨j + 1, _, l ++ [x], by omega, by go_num, HL2, HA2, HS2⟩
          case measure => simp [intOf]; omega
    · obtain rfl : j = N := by omega
      obtain ⟨gv, cv, rfl⟩ := own_form HS.out.own (by rw [HL.out]; omega)
      have hvar := HS.out.var
      have hown := HS.out.own
      rw [HL.out] at k2 hvar hown
      have hres := HS.out.h.res
      obtain ⟨p0, p1, p2⟩ := hres.cells
      have g0 := hres.free 0
      have g1 := hres.free 1
      have g2 := hres.free 2
      obtain ⟨Y, hY⟩ : ∃ Y, set3 wr w.heap.size (j : Int) (M : Int) (.slice (some ⟨gv, 0, none⟩) j cv) = Y := ⟨_, rfl⟩
      have hvy : DVar Y w.heap.size (j : Int) (M : Int) (.slice (some ⟨gv, 0, none⟩) j cv) := by rw [← hY]; exact hres.set3 _ _ _
      have hoy : Own Y w.heap.size (.slice (some ⟨gv, 0, none⟩) j cv) l := by
        rw [← hY]
        exact own_set (own_set (own_set hown hres) (hres.set0 _)) ((hres.set0 _).set1 _)
      have hcy : Dh w k ca cl cc w.heap.size wr ∧ Cur Y k ca cl cc ∧ w.grownBy Y (some k) := by
        rw [← hY]
        have hc0 : ∀ {x : World} {i : Nat} {u : Value}, Cur x k ca cl cc → Cur (x.setCell ⟨w.heap.size, i, none⟩ u) k ca cl cc := fun {x i u} c => c.kept (grownBy_setCell x w.heap.size i u) (by simp; have := HK.out; omega) (fun b hb => by simp; have := HK.out; omega)
        have hg0 : ∀ {x : World} {i : Nat} {u : Value}, w.grownBy x (some k) → w.grownBy (x.setCell ⟨w.heap.size, i, none⟩ u) (some k) := fun {x i u} c => grown_new c (grownBy_setCell x w.heap.size i u) (fun r e => by cases e; exact Nat.le_refl _)
        exact ⟨HS.out.h, hc0 (hc0 (hc0 HS.out.h.cur)), hg0 (hg0 (hg0 HS.out.h.grown))⟩
      have HPOST := Lib.hid (H.out j M l gv cv Y hN2 hN11 hMN HL.out HA.out hoy hcy.2.1 hcy.2.2)
      have HY := Lib.hid hY
      have HVY := Lib.hid hvy
      unfold set3 at HY
      clear hY hvy hoy hcy hres hvar hown
      go_wp2_with fail
      rw [HY.out]
      clear HY p0 p1 p2 g0 g1 g2 k0 k1 k2 f2
      obtain ⟨z0, z1, z2⟩ := HVY.out.cells
      refine bodyPost_ret (v := .agg #[.int .i64 (j : Int), .int .i64 (M : Int), .slice (some ⟨gv, 0, none⟩) j cv]) (by simp [results, Try.results31, go_sem, z0, z1, z2]) rfl ?_
      exact HPOST.out
end Go.Proofs.Ytcfpgjcepmebdaa.Disc
