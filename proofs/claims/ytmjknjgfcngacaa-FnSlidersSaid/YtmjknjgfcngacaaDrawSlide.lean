/- What spec.l17Slider and spec.l17Any draw (printed by wip/gen_slidedraw.py). -/
import Derived.Test.YtmjknjgfcngacaaSlidePull
import Derived.Test.YtmjknjgfcngacaaDrawInt
import Derived.OrdersHeld
import Derived.Deep.RegionHeld
namespace Go.Proofs.Ytmjknjgfcngacaa.Slide
open Go.ChangeShapes Go.WideShapes Go.ChangeAt Go.RowKit Go.Sort
open Go.Proofs.Ytmjknjgfcngacaa.Tri
open Go.Proofs.Ytmjknjgfcngacaa.Draw (Cur below_get once_get pickInt_get new_get heap_new RowIn grownBy_setCell grownBy_trans)
open Go.Proofs.Ytmjknjgfcngacaa.Ints (grown_below grown_set grown_trans heap_set_at drewN_below)
set_option linter.unusedVariables false

theorem var_put0 {T : TypeId} {w : World} {b : Nat} {x y z : Int} (h : VarT T w b (x, y, z)) (u : Int) : VarT T (w.setCell ⟨b, 0, none⟩ (.int .i64 u)) b (u, y, z) := by
  unfold VarT at *
  rw [heap_set_at _ _ _ _ _ _ _ h]; rfl
theorem var_put1 {T : TypeId} {w : World} {b : Nat} {x y z : Int} (h : VarT T w b (x, y, z)) (u : Int) : VarT T (w.setCell ⟨b, 1, none⟩ (.int .i64 u)) b (x, u, z) := by
  unfold VarT at *
  rw [heap_set_at _ _ _ _ _ _ _ h]; rfl
theorem var_put2 {T : TypeId} {w : World} {b : Nat} {x y z : Int} (h : VarT T w b (x, y, z)) (u : Int) : VarT T (w.setCell ⟨b, 2, none⟩ (.int .i64 u)) b (x, y, u) := h.set2 u
theorem var_at {T : TypeId} {w : World} {b : Nat} {x y z : Int} (h : VarT T w b (x, y, z)) : w.cell? ⟨b, 0, none⟩ = some (.int .i64 x) ∧ w.cell? ⟨b, 1, none⟩ = some (.int .i64 y) ∧ w.cell? ⟨b, 2, none⟩ = some (.int .i64 z) := h.cells
/-- A block that is new since w is written. -/
theorem grown_new {w a b : World} {row : Option Nat} {R : Nat} (h : w.grownBy a row) (g : a.grownBy b (some R)) (hR : w.heap.size ≤ R) : w.grownBy b row :=
  ⟨g.os.trans h.os, g.tape.trans h.tape, g.output.trans h.output, Nat.le_trans h.size g.size,
    fun k hk hne => (g.block k (Nat.lt_of_lt_of_le hk h.size) (by simp; omega)).trans (h.block k hk hne)⟩
/-- The cursor, the world since the beginning, the result's block, a block in work. -/
structure HeldT (w0 : World) (k : Nat) (ca : Option Addr) (cl cc R : Nat) (w : World) : Prop where
  cur : Cur w k ca cl cc
  grown : w0.grownBy w (some k)
  res : VarT 33 w R (0, 0, 0)
section
variable {T : TypeId} {w0 w w' : World} {k cl cc R B j : Nat} {ca : Option Addr}
theorem HeldT.next (h : HeldT w0 k ca cl cc R w) (hc : Cur w' k ca cl cc) (g : w.grownBy w' (some k)) (hne : R ≠ k) : HeldT w0 k ca cl cc R w' :=
  ⟨hc, grownBy_trans h.grown g, h.res.grown g (by simpa using hne)⟩
theorem HeldT.alloc (h : HeldT w0 k ca cl cc R w) (o : Obj) : HeldT w0 k ca cl cc R (w.alloc o) :=
  ⟨h.cur.alloc o, grownBy_trans h.grown (World.grownBy_alloc w o _), h.res.below (alloc_below w o)⟩
theorem HeldT.drew (h : HeldT w0 k ca cl cc R w) : HeldT w0 k ca cl cc R w.drew := ⟨h.cur, grownBy_trans h.grown (grown_below ((Below.refl _ _).drew) _), h.res⟩
theorem HeldT.put (h : HeldT w0 k ca cl cc R w) (v : Value) (hk : k < w0.heap.size) (hB : w0.heap.size ≤ B) (hR : R ≠ B) : HeldT w0 k ca cl cc R (w.setCell ⟨B, j, none⟩ v) :=
  ⟨h.cur.kept (grownBy_setCell w B j v) (by simp; omega) (fun b hb => by simp; omega), grown_new h.grown (grownBy_setCell w B j v) hB, h.res.other hR⟩
/-- The slider is laid into the result's block. -/
theorem HeldT.done (h : HeldT w0 k ca cl cc R w) (x y z : Int) (hk : k < w0.heap.size) (hR : w0.heap.size ≤ R) :
    ∃ Z, ((w.setCell ⟨R, 0, none⟩ (.int .i64 x)).setCell ⟨R, 1, none⟩ (.int .i64 y)).setCell ⟨R, 2, none⟩ (.int .i64 z) = Z ∧ Cur Z k ca cl cc ∧ w0.grownBy Z (some k) ∧ VarT 33 Z R (x, y, z) := by
  have hc : ∀ {x : World} {j : Nat} {v : Value}, Cur x k ca cl cc → Cur (x.setCell ⟨R, j, none⟩ v) k ca cl cc := fun {x j v} c => c.kept (grownBy_setCell x R j v) (by simp; omega) (fun b hb => by simp; omega)
  have hg : ∀ {x : World} {j : Nat} {v : Value}, w0.grownBy x (some k) → w0.grownBy (x.setCell ⟨R, j, none⟩ v) (some k) := fun {x j v} c => grown_new c (grownBy_setCell x R j v) hR
  exact ⟨_, rfl, hc (hc (hc h.cur)), hg (hg (hg h.grown)), var_put2 (var_put1 (var_put0 h.res x) y) z⟩
end

set_option maxRecDepth 100000 in
set_option maxHeartbeats 4000000 in
theorem sl_get (k : Nat) (ca : Option Addr) (cl cc : Nat) (w : World) (hc : Cur w k ca cl cc) {Q : Ending → World → Prop}
    (h : ∀ (x y z : Int) (w' : World), okS (x, y, z) = true → Cur w' k ca cl cc → w.grownBy w' (some k) → Q (.returned (.agg #[.int .i64 x, .int .i64 y, .int .i64 z])) w') :
    Calls Try.prog 51 #[.pointer (some ⟨k, 0, none⟩)] w Q := by
  have H := Lib.hid h
  clear h
  have hk := hc.lt
  have HK := Lib.hid hk
  have HRK := Lib.hid (show w.heap.size ≠ k by omega)
  have HH := Lib.hid (show HeldT w k ca cl cc w.heap.size (w.alloc (.cells #[.int .i64 0, .int .i64 0, .int .i64 0] 33)) from ⟨hc.alloc _, World.grownBy_alloc w _ _, VarT.new w (0, 0, 0)⟩)
  clear hc hk
  go_enter Try.func51, Try.ntmps51
  go_wp2_with fail
  refine below_get k ca cl cc 10 (by decide) _ HH.out.cur ?_
  intro d w1 d0 d1 hc1 g1
  have HH := Lib.hid (HH.out.next hc1 g1 HRK.out)
  clear hc1 g1
  obtain ⟨x, hx⟩ : ∃ x, d - 8 = x := ⟨_, rfl⟩
  have e0 : IntKind.i64.wrap (d - 8) = x := by rw [hx, IntKind.wrap_i64]; omega
  have hx0 : -8 ≤ x := by omega
  have hx1 : x ≤ 1 := by omega
  have HV := Lib.hid (VarT.new (T := 33) w1 (x, 0, 0))
  have HBK := Lib.hid (show w1.heap.size ≠ k from by have := HH.out.cur.lt; omega)
  have HBR := Lib.hid (show w.heap.size ≠ w1.heap.size from by have := HH.out.res.lt; omega)
  have HBW := Lib.hid (show w.heap.size ≤ w1.heap.size from HH.out.grown.size)
  have HH := Lib.hid (HH.out.alloc (.cells #[.int .i64 x, .int .i64 0, .int .i64 0] 33))
  clear hx d0 d1
  go_wp2_with fail
  obtain ⟨B, hB⟩ : ∃ B, w1.heap.size = B := ⟨_, rfl⟩
  have HH := Lib.hid HH.out.drew
  have HV := Lib.hid (show VarT 33 (w1.alloc (.cells #[.int .i64 x, .int .i64 0, .int .i64 0] 33)).drew w1.heap.size (x, 0, 0) from HV.out)
  rw [hB] at HV HBK HBR HBW ⊢
  clear hB
  refine wp_region_held_drew (S := fun w' => w'.cell? ⟨B, 0, none⟩ = some (.int .i64 x)) (by kernel_rfl) (var_at HV.out).1 (fun hHeld => ?_)
  refine wpAnyH_take (i := 0) (v := ?_) rfl (by kernel_rfl) (by kernel_rfl) (by kernel_rfl) (fun _ _ _ h => h) (Or.inl ⟨by rfl, ?_⟩) (by assumption) ?_
  rotate_left
  · intro w hSw
    (try dsimp only at hSw)
    go_simp
    all_goals (with_reducible rfl)
  try simp only [Act.put, List.setIfInBounds_toArray, List.set_cons_zero, List.set_cons_succ, List.getElem_toArray, List.getElem_cons_zero]
  refine wpAnyH_take (i := 1) (v := ?_) rfl (by kernel_rfl) (by kernel_rfl) (by kernel_rfl) (fun _ _ _ h => h) (Or.inl ⟨by rfl, ?_⟩) (by assumption) ?_
  rotate_left
  · intro w hSw
    (try dsimp only at hSw)
    go_simp
    all_goals (with_reducible rfl)
  try simp only [Act.put, List.setIfInBounds_toArray, List.set_cons_zero, List.set_cons_succ, List.getElem_toArray, List.getElem_cons_succ, List.getElem_cons_zero]
  refine wpAnyH_take (i := 2) (v := ?_) rfl (by kernel_rfl) (by kernel_rfl) (by kernel_rfl) (fun _ _ _ h => h) (Or.inl ⟨by rfl, ?_⟩) (by assumption) ?_
  rotate_left
  · intro w hSw
    (try dsimp only at hSw)
    go_simp
    all_goals (with_reducible rfl)
  try simp only [Act.put, List.setIfInBounds_toArray, List.set_cons_zero, List.set_cons_succ, List.getElem_toArray, List.getElem_cons_succ, List.getElem_cons_zero]
  refine wpAnyH_ready (rs := [3]) (by kernel_rfl) (by simp) ?_
  refine AllReadyH.cons rfl (fun K hK => ?_) AllReadyH.nil
  try simp only [Act.put, List.setIfInBounds_toArray, List.set_cons_zero, List.set_cons_succ, List.getElem_toArray, List.getElem_cons_succ, List.getElem_cons_zero]
  go_simp
  go_at_call 39
  refine below_get k ca cl cc 20 (by decide) _ HH.out.cur ?_
  intro d w2 d0 d1 hc2 g2
  have HH := Lib.hid (HH.out.next hc2 g2 HRK.out)
  have HV := Lib.hid (HV.out.grown g2 (by have := HBK.out; simpa using this))
  refine hK.out _ _ ((var_at HV.out).1) (fun hHeld => ?_)
  clear hK K hc2 g2
  try simp only [Act.put, List.setIfInBounds_toArray, List.set_cons_zero, List.set_cons_succ, List.getElem_toArray, List.getElem_cons_succ, List.getElem_cons_zero]
  obtain ⟨y, hy⟩ : ∃ y, x + d = y := ⟨_, rfl⟩
  have e1 : IntKind.i64.wrap (x + d) = y := by rw [hy, IntKind.wrap_i64]; omega
  have hy0 : x ≤ y := by omega
  have hy1 : y ≤ 20 := by omega
  have hy2 : y ≤ x + 19 := by omega
  clear hy d0 d1
  refine wpAnyH_take (i := 4) (v := ?_) rfl (by kernel_rfl) (by kernel_rfl) (by kernel_rfl) (fun _ _ _ h => h) (Or.inl ⟨by rfl, ?_⟩) (by assumption) ?_
  rotate_left
  · intro w hSw
    (try dsimp only at hSw)
    go_simp
    all_goals (with_reducible rfl)
  try simp only [Act.put, List.setIfInBounds_toArray, List.set_cons_zero, List.set_cons_succ, List.getElem_toArray, List.getElem_cons_succ, List.getElem_cons_zero]
  refine wpAnyH_take (i := 5) (v := ?_) rfl (by kernel_rfl) (by kernel_rfl) (by kernel_rfl) (fun _ _ _ h => h) (Or.inl ⟨by rfl, ?_⟩) (by assumption) ?_
  rotate_left
  · intro w hSw
    (try dsimp only at hSw)
    go_simp
    all_goals (with_reducible rfl)
  try simp only [Act.put, List.setIfInBounds_toArray, List.set_cons_zero, List.set_cons_succ, List.getElem_toArray, List.getElem_cons_succ, List.getElem_cons_zero]
  refine wpAnyH_ready (rs := [6]) (by kernel_rfl) (by simp) ?_
  refine AllReadyH.cons rfl (fun K hK => ?_) AllReadyH.nil
  try simp only [Act.put, List.getElem_toArray, List.getElem_cons_succ, List.getElem_cons_zero]
  have q1 := (var_at HV.out).2.1
  have f1 := HV.out.free 1
  go_simp
  have HV2 := Lib.hid (var_put1 HV.out y)
  have HH2 := Lib.hid (HH.out.put (j := 1) (.int .i64 y) HK.out HBW.out HBR.out)
  refine hK.out _ _ (var_at HV2.out).1 (fun hHeld => ?_)
  clear hK K q1 f1 HV HH
  refine wpAnyH_done (by kernel_rfl) ?_ _
  generalize (w2.setCell ⟨B, 1, none⟩ (.int .i64 y)) = w3 at *
  clear e1 hHeld
  obtain ⟨a, ha⟩ : ∃ a, y - x = a := ⟨_, rfl⟩
  have e2 : IntKind.i64.wrap (y - x) = a := by rw [ha, IntKind.wrap_i64]; omega
  obtain ⟨b, hb⟩ : ∃ b, a + 1 = b := ⟨_, rfl⟩
  have e3 : IntKind.i64.wrap (a + 1) = b := by rw [hb, IntKind.wrap_i64]; omega
  have hb0 : 0 < b := by omega
  have hb1 : b = y - x + 1 := by omega
  have HBB := Lib.hid hb1
  clear ha hb hb1
  go_wp2_with fail
  have HH := Lib.hid HH2.out.drew
  have HV := Lib.hid (show VarT 33 w3.drew B (x, y, 0) from HV2.out)
  clear HH2 HV2
  refine wp_region_held_drew (S := fun w' => w'.cell? ⟨B, 0, none⟩ = some (.int .i64 x) ∧ w'.cell? ⟨B, 1, none⟩ = some (.int .i64 y)) (by kernel_rfl) ⟨(var_at HV.out).1, (var_at HV.out).2.1⟩ (fun hHeld => ?_)
  refine wpAnyH_take (i := 0) (v := ?_) rfl (by kernel_rfl) (by kernel_rfl) (by kernel_rfl) (fun _ _ _ h => h) (Or.inl ⟨by rfl, ?_⟩) (by assumption) ?_
  rotate_left
  · intro w hSw
    (try dsimp only at hSw)
    go_simp
    all_goals (with_reducible rfl)
  try simp only [Act.put, List.setIfInBounds_toArray, List.set_cons_zero, List.set_cons_succ, List.getElem_toArray, List.getElem_cons_zero]
  refine wpAnyH_take (i := 1) (v := ?_) rfl (by kernel_rfl) (by kernel_rfl) (by kernel_rfl) (fun _ _ _ h => h) (Or.inl ⟨by rfl, ?_⟩) (by assumption) ?_
  rotate_left
  · intro w hSw
    (try dsimp only at hSw)
    go_simp
    all_goals (with_reducible rfl)
  try simp only [Act.put, List.setIfInBounds_toArray, List.set_cons_zero, List.set_cons_succ, List.getElem_toArray, List.getElem_cons_succ, List.getElem_cons_zero]
  refine wpAnyH_take (i := 2) (v := ?_) rfl (by kernel_rfl) (by kernel_rfl) (by kernel_rfl) (fun _ _ _ h => h) (Or.inl ⟨by rfl, ?_⟩) (by assumption) ?_
  rotate_left
  · intro w hSw
    (try dsimp only at hSw)
    go_simp
    all_goals (with_reducible rfl)
  try simp only [Act.put, List.setIfInBounds_toArray, List.set_cons_zero, List.set_cons_succ, List.getElem_toArray, List.getElem_cons_succ, List.getElem_cons_zero]
  refine wpAnyH_take (i := 3) (v := ?_) rfl (by kernel_rfl) (by kernel_rfl) (by kernel_rfl) (fun _ _ _ h => h) (Or.inl ⟨by rfl, ?_⟩) (by assumption) ?_
  rotate_left
  · intro w hSw
    (try dsimp only at hSw)
    go_simp
    all_goals (with_reducible rfl)
  try simp only [Act.put, List.setIfInBounds_toArray, List.set_cons_zero, List.set_cons_succ, List.getElem_toArray, List.getElem_cons_succ, List.getElem_cons_zero]
  refine wpAnyH_take (i := 4) (v := ?_) rfl (by kernel_rfl) (by kernel_rfl) (by kernel_rfl) (fun _ _ _ h => h) (Or.inl ⟨by rfl, ?_⟩) (by assumption) ?_
  rotate_left
  · intro w hSw
    (try dsimp only at hSw)
    go_simp
    all_goals (with_reducible rfl)
  try simp only [Act.put, List.setIfInBounds_toArray, List.set_cons_zero, List.set_cons_succ, List.getElem_toArray, List.getElem_cons_succ, List.getElem_cons_zero]
  refine wpAnyH_take (i := 5) (v := ?_) rfl (by kernel_rfl) (by kernel_rfl) (by kernel_rfl) (fun _ _ _ h => h) (Or.inl ⟨by rfl, ?_⟩) (by assumption) ?_
  rotate_left
  · intro w hSw
    (try dsimp only at hSw)
    go_simp
    all_goals (with_reducible rfl)
  try simp only [Act.put, List.setIfInBounds_toArray, List.set_cons_zero, List.set_cons_succ, List.getElem_toArray, List.getElem_cons_succ, List.getElem_cons_zero]
  refine wpAnyH_take (i := 6) (v := ?_) rfl (by kernel_rfl) (by kernel_rfl) (by kernel_rfl) (fun _ _ _ h => h) (Or.inl ⟨by rfl, ?_⟩) (by assumption) ?_
  rotate_left
  · intro w hSw
    (try dsimp only at hSw)
    go_simp
    all_goals (with_reducible rfl)
  try simp only [Act.put, List.setIfInBounds_toArray, List.set_cons_zero, List.set_cons_succ, List.getElem_toArray, List.getElem_cons_succ, List.getElem_cons_zero]
  refine wpAnyH_take (i := 7) (v := ?_) rfl (by kernel_rfl) (by kernel_rfl) (by kernel_rfl) (fun _ _ _ h => h) (Or.inl ⟨by rfl, ?_⟩) (by assumption) ?_
  rotate_left
  · intro w hSw
    (try dsimp only at hSw)
    go_simp
    all_goals (with_reducible rfl)
  try simp only [Act.put, List.setIfInBounds_toArray, List.set_cons_zero, List.set_cons_succ, List.getElem_toArray, List.getElem_cons_succ, List.getElem_cons_zero]
  refine wpAnyH_take (i := 8) (v := ?_) rfl (by kernel_rfl) (by kernel_rfl) (by kernel_rfl) (fun _ _ _ h => h) (Or.inl ⟨by rfl, ?_⟩) (by assumption) ?_
  rotate_left
  · intro w hSw
    (try dsimp only at hSw)
    go_simp
    all_goals (with_reducible rfl)
  try simp only [Act.put, List.setIfInBounds_toArray, List.set_cons_zero, List.set_cons_succ, List.getElem_toArray, List.getElem_cons_succ, List.getElem_cons_zero]
  refine wpAnyH_ready (rs := [9]) (by kernel_rfl) (by simp) ?_
  refine AllReadyH.cons rfl (fun K hK => ?_) AllReadyH.nil
  try simp only [Act.put, List.setIfInBounds_toArray, List.set_cons_zero, List.set_cons_succ, List.getElem_toArray, List.getElem_cons_succ, List.getElem_cons_zero]
  go_simp
  go_at_call 39
  refine below_get k ca cl cc b (by assumption) _ HH.out.cur ?_
  intro d w2 d0 d1 hc2 g2
  have HH := Lib.hid (HH.out.next hc2 g2 HRK.out)
  have HV := Lib.hid (HV.out.grown g2 (by have := HBK.out; simpa using this))
  refine hK.out _ _ (⟨(var_at HV.out).1, (var_at HV.out).2.1⟩) (fun hHeld => ?_)
  clear hK K hc2 g2
  try simp only [Act.put, List.setIfInBounds_toArray, List.set_cons_zero, List.set_cons_succ, List.getElem_toArray, List.getElem_cons_succ, List.getElem_cons_zero]
  obtain ⟨z, hz⟩ : ∃ z, x + d = z := ⟨_, rfl⟩
  have e4 : IntKind.i64.wrap (x + d) = z := by rw [hz, IntKind.wrap_i64]; have := HBB.out; omega
  have hz0 : x ≤ z := by omega
  have hz1 : z ≤ y := by have := HBB.out; omega
  clear hz d0 d1
  refine wpAnyH_take (i := 10) (v := ?_) rfl (by kernel_rfl) (by kernel_rfl) (by kernel_rfl) (fun _ _ _ h => h) (Or.inl ⟨by rfl, ?_⟩) (by assumption) ?_
  rotate_left
  · intro w hSw
    (try dsimp only at hSw)
    go_simp
    all_goals (with_reducible rfl)
  try simp only [Act.put, List.setIfInBounds_toArray, List.set_cons_zero, List.set_cons_succ, List.getElem_toArray, List.getElem_cons_succ, List.getElem_cons_zero]
  refine wpAnyH_take (i := 11) (v := ?_) rfl (by kernel_rfl) (by kernel_rfl) (by kernel_rfl) (fun _ _ _ h => h) (Or.inl ⟨by rfl, ?_⟩) (by assumption) ?_
  rotate_left
  · intro w hSw
    (try dsimp only at hSw)
    go_simp
    all_goals (with_reducible rfl)
  try simp only [Act.put, List.setIfInBounds_toArray, List.set_cons_zero, List.set_cons_succ, List.getElem_toArray, List.getElem_cons_succ, List.getElem_cons_zero]
  refine wpAnyH_ready (rs := [12]) (by kernel_rfl) (by simp) ?_
  refine AllReadyH.cons rfl (fun K hK => ?_) AllReadyH.nil
  try simp only [Act.put, List.getElem_toArray, List.getElem_cons_succ, List.getElem_cons_zero]
  have q1 := (var_at HV.out).2.2
  have f1 := HV.out.free 2
  go_simp
  have HV2 := Lib.hid (var_put2 HV.out z)
  have HH2 := Lib.hid (HH.out.put (j := 2) (.int .i64 z) HK.out HBW.out HBR.out)
  refine hK.out _ _ ⟨(var_at HV2.out).1, (var_at HV2.out).2.1⟩ (fun hHeld => ?_)
  clear hK K q1 f1 HV HH
  refine wpAnyH_done (by kernel_rfl) ?_ _
  generalize (w2.setCell ⟨B, 2, none⟩ (.int .i64 z)) = w4 at *
  clear e2 e3 e4 hHeld
  obtain ⟨Z, hZ, hz1', hz2, hz3⟩ := HH2.out.done x y z HK.out (Nat.le_refl _)
  obtain ⟨p0, p1, p2⟩ := var_at HH2.out.res
  have f0 := HH2.out.res.free 0
  have f1 := HH2.out.res.free 1
  have f2 := HH2.out.res.free 2
  obtain ⟨q0, q1, q2⟩ := var_at HV2.out
  have HC := Lib.hid hz1'
  have HG := Lib.hid hz2
  have HZ := Lib.hid hZ
  obtain ⟨c0, c1, c2⟩ := var_at hz3
  clear hZ hz1' hz2 hz3
  have HOK := Lib.hid (show okS (x, y, z) = true from okS_iff.2 ⟨by simp only; omega, by simp only; omega, by simp only; omega, by simp only; omega⟩)
  go_wp2_with fail
  rw [HZ.out]
  refine bodyPost_ret (v := .agg #[.int .i64 x, .int .i64 y, .int .i64 z]) (by simp [results, Try.results51, go_sem, c0, c1, c2]) rfl (H.out x y z Z HOK.out HC.out HG.out)


set_option maxRecDepth 100000 in
set_option maxHeartbeats 4000000 in
theorem sa_get (k : Nat) (ca : Option Addr) (cl cc : Nat) (w : World) (hc : Cur w k ca cl cc) {Q : Ending → World → Prop}
    (h : ∀ (x y z : Int) (w' : World), Cur w' k ca cl cc → w.grownBy w' (some k) → Q (.returned (.agg #[.int .i64 x, .int .i64 y, .int .i64 z])) w') :
    Calls Try.prog 38 #[.pointer (some ⟨k, 0, none⟩)] w Q := by
  have H := Lib.hid h
  clear h
  have hk := hc.lt
  have HK := Lib.hid hk
  have HRK := Lib.hid (show w.heap.size ≠ k by omega)
  have HH := Lib.hid (show HeldT w k ca cl cc w.heap.size (w.alloc (.cells #[.int .i64 0, .int .i64 0, .int .i64 0] 33)) from ⟨hc.alloc _, World.grownBy_alloc w _ _, VarT.new w (0, 0, 0)⟩)
  clear hc hk
  go_enter Try.func38, Try.ntmps38
  go_wp2_with fail
  refine sl_get k ca cl cc _ HH.out.cur ?_
  intro x y z w1 hok hc1 g1
  have ho := okS_iff.1 hok
  simp only at ho
  obtain ⟨o1, o2, o3, o4⟩ := ho
  have HH := Lib.hid (HH.out.next hc1 g1 HRK.out)
  clear hc1 g1 hok
  have HV := Lib.hid (VarT.new (T := 33) w1 (x, y, z))
  have HBK := Lib.hid (show w1.heap.size ≠ k from by have := HH.out.cur.lt; omega)
  have HBR := Lib.hid (show w.heap.size ≠ w1.heap.size from by have := HH.out.res.lt; omega)
  have HBW := Lib.hid (show w.heap.size ≤ w1.heap.size from HH.out.grown.size)
  have HH := Lib.hid (HH.out.alloc (.cells #[.int .i64 x, .int .i64 y, .int .i64 z] 33))
  go_wp2_with fail
  refine below_get k ca cl cc 12 (by decide) _ HH.out.cur ?_
  intro d w2 d0 d1 hc2 g2
  have HH := Lib.hid (HH.out.next hc2 g2 HRK.out)
  have HV := Lib.hid (HV.out.grown g2 (by have := HBK.out; simpa using this))
  clear hc2 g2
  have hk2 := HH.out.cur.lt
  obtain ⟨y1, hy1⟩ : ∃ y1, y + 1 = y1 := ⟨_, rfl⟩
  have e1 : IntKind.i64.wrap (y + 1) = y1 := by rw [hy1, IntKind.wrap_i64]; omega
  obtain ⟨xm, hxm⟩ : ∃ xm, x - 1 = xm := ⟨_, rfl⟩
  have e2 : IntKind.i64.wrap (x - 1) = xm := by rw [hxm, IntKind.wrap_i64]; omega
  clear hy1 hxm
  by_cases b0 : d = 0
  · subst b0
    obtain ⟨q0, q1, q2⟩ := var_at HV.out
    go_wp2_with fail
    have HH := Lib.hid (HH.out.alloc (.cells #[.int .i64 (-101), .int .i64 (-100), .int .i64 y, .int .i64 y1] 3))
    have HV := Lib.hid (HV.out.below (alloc_below w2 (.cells #[.int .i64 (-101), .int .i64 (-100), .int .i64 y, .int .i64 y1] 3)))
    refine pickInt_get k ca cl cc _ 4 [(-101), (-100), y, y1] _ _ (fun _ => True) (fun _ _ => trivial) rfl (by decide) (by decide) _ HH.out.cur (heap_new _ _) (by have := hk2; omega) ?_
    intro v w3 _ hc3 g3
    clear q0 q1 q2
    have HH := Lib.hid (HH.out.next hc3 g3 HRK.out)
    have HV := Lib.hid (HV.out.grown g3 (by have := HBK.out; simpa using this))
    clear hc3 g3
    have q := (var_at HV.out).1
    have fq := HV.out.free 0
    have HV2 := Lib.hid (var_put0 HV.out v)
    have HH2 := Lib.hid (HH.out.put (j := 0) (.int .i64 v) HK.out HBW.out HBR.out)
    have HV := HV2
    have HH := HH2
    obtain ⟨Z, hZ, hz1', hz2, hz3⟩ := HH.out.done v y z HK.out (Nat.le_refl _)
    obtain ⟨p0, p1, p2⟩ := var_at HH.out.res
    have f0 := HH.out.res.free 0
    have f1 := HH.out.res.free 1
    have f2 := HH.out.res.free 2
    obtain ⟨q0, q1, q2⟩ := var_at HV.out
    have HC := Lib.hid hz1'
    have HG := Lib.hid hz2
    have HZ := Lib.hid hZ
    obtain ⟨c0, c1, c2⟩ := var_at hz3
    clear hZ hz1' hz2 hz3
    go_wp2_with fail
    rw [HZ.out]
    refine bodyPost_ret (v := .agg #[.int .i64 v, .int .i64 y, .int .i64 z]) (by simp [results, Try.results38, go_sem, c0, c1, c2]) rfl (H.out v y z Z HC.out HG.out)
  · have a0 : (d == 0) = false := by simpa using b0
    by_cases b1 : d = 1
    · subst b1
      obtain ⟨q0, q1, q2⟩ := var_at HV.out
      go_wp2_with fail
      have HH := Lib.hid (HH.out.alloc (.cells #[.int .i64 100, .int .i64 101, .int .i64 x] 3))
      have HV := Lib.hid (HV.out.below (alloc_below w2 (.cells #[.int .i64 100, .int .i64 101, .int .i64 x] 3)))
      refine pickInt_get k ca cl cc _ 3 [100, 101, x] _ _ (fun _ => True) (fun _ _ => trivial) rfl (by decide) (by decide) _ HH.out.cur (heap_new _ _) (by have := hk2; omega) ?_
      intro v w3 _ hc3 g3
      clear q0 q1 q2
      have HH := Lib.hid (HH.out.next hc3 g3 HRK.out)
      have HV := Lib.hid (HV.out.grown g3 (by have := HBK.out; simpa using this))
      clear hc3 g3
      have q := (var_at HV.out).2.1
      have fq := HV.out.free 1
      have HV2 := Lib.hid (var_put1 HV.out v)
      have HH2 := Lib.hid (HH.out.put (j := 1) (.int .i64 v) HK.out HBW.out HBR.out)
      have HV := HV2
      have HH := HH2
      obtain ⟨Z, hZ, hz1', hz2, hz3⟩ := HH.out.done x v z HK.out (Nat.le_refl _)
      obtain ⟨p0, p1, p2⟩ := var_at HH.out.res
      have f0 := HH.out.res.free 0
      have f1 := HH.out.res.free 1
      have f2 := HH.out.res.free 2
      obtain ⟨q0, q1, q2⟩ := var_at HV.out
      have HC := Lib.hid hz1'
      have HG := Lib.hid hz2
      have HZ := Lib.hid hZ
      obtain ⟨c0, c1, c2⟩ := var_at hz3
      clear hZ hz1' hz2 hz3
      go_wp2_with fail
      rw [HZ.out]
      refine bodyPost_ret (v := .agg #[.int .i64 x, .int .i64 v, .int .i64 z]) (by simp [results, Try.results38, go_sem, c0, c1, c2]) rfl (H.out x v z Z HC.out HG.out)
    · have a1 : (d == 1) = false := by simpa using b1
      by_cases b2 : d = 2
      · subst b2
        obtain ⟨q0, q1, q2⟩ := var_at HV.out
        go_wp2_with fail
        have HH := Lib.hid (HH.out.alloc (.cells #[.int .i64 xm, .int .i64 y1, .int .i64 y] 3))
        have HV := Lib.hid (HV.out.below (alloc_below w2 (.cells #[.int .i64 xm, .int .i64 y1, .int .i64 y] 3)))
        refine pickInt_get k ca cl cc _ 3 [xm, y1, y] _ _ (fun _ => True) (fun _ _ => trivial) rfl (by decide) (by decide) _ HH.out.cur (heap_new _ _) (by have := hk2; omega) ?_
        intro v w3 _ hc3 g3
        clear q0 q1 q2
        have HH := Lib.hid (HH.out.next hc3 g3 HRK.out)
        have HV := Lib.hid (HV.out.grown g3 (by have := HBK.out; simpa using this))
        clear hc3 g3
        have q := (var_at HV.out).2.2
        have fq := HV.out.free 2
        have HV2 := Lib.hid (var_put2 HV.out v)
        have HH2 := Lib.hid (HH.out.put (j := 2) (.int .i64 v) HK.out HBW.out HBR.out)
        have HV := HV2
        have HH := HH2
        obtain ⟨Z, hZ, hz1', hz2, hz3⟩ := HH.out.done x y v HK.out (Nat.le_refl _)
        obtain ⟨p0, p1, p2⟩ := var_at HH.out.res
        have f0 := HH.out.res.free 0
        have f1 := HH.out.res.free 1
        have f2 := HH.out.res.free 2
        obtain ⟨q0, q1, q2⟩ := var_at HV.out
        have HC := Lib.hid hz1'
        have HG := Lib.hid hz2
        have HZ := Lib.hid hZ
        obtain ⟨c0, c1, c2⟩ := var_at hz3
        clear hZ hz1' hz2 hz3
        go_wp2_with fail
        rw [HZ.out]
        refine bodyPost_ret (v := .agg #[.int .i64 x, .int .i64 y, .int .i64 v]) (by simp [results, Try.results38, go_sem, c0, c1, c2]) rfl (H.out x y v Z HC.out HG.out)
      · have a2 : (d == 2) = false := by simpa using b2
        clear b0 b1 b2
        obtain ⟨Z, hZ, hz1', hz2, hz3⟩ := HH.out.done x y z HK.out (Nat.le_refl _)
        obtain ⟨p0, p1, p2⟩ := var_at HH.out.res
        have f0 := HH.out.res.free 0
        have f1 := HH.out.res.free 1
        have f2 := HH.out.res.free 2
        obtain ⟨q0, q1, q2⟩ := var_at HV.out
        have HC := Lib.hid hz1'
        have HG := Lib.hid hz2
        have HZ := Lib.hid hZ
        obtain ⟨c0, c1, c2⟩ := var_at hz3
        clear hZ hz1' hz2 hz3
        go_wp2_with fail
        rw [HZ.out]
        refine bodyPost_ret (v := .agg #[.int .i64 x, .int .i64 y, .int .i64 z]) (by simp [results, Try.results38, go_sem, c0, c1, c2]) rfl (H.out x y z Z HC.out HG.out)
end Go.Proofs.Ytmjknjgfcngacaa.Slide
