/- What spec.DrawDiscs draws (the walk of its drawn region printed by wip/gen_discdraw.py). -/
import Derived.Test.YtcfpgjcepmebdaaDrawDisc
import Derived.OrdersHeld
import Derived.Deep.RegionHeld
namespace Go.Proofs.Ytcfpgjcepmebdaa.Disc
open Go.ChangeShapes Go.WideShapes Go.ChangeAt Go.RowKit Go.Sort
open Go.Proofs.Ytcfpgjcepmebdaa.Draw (Cur below_get new_get heap_new RowIn grownBy_setCell grownBy_trans below_of_grown)
open Go.Proofs.Ytcfpgjcepmebdaa.Ints
set_option linter.unusedVariables false

/-- What is known of a disc that was drawn. -/
structure Drawn (w : World) (base N M : Nat) (l : List Int) (g c : Nat) : Prop where
  two : 2 ≤ N
  most : N ≤ 11
  now : M < N
  len : l.length = N
  small : ∀ x ∈ l, 0 ≤ x ∧ x ≤ 5
  own : Own w base (.slice (some ⟨g, 0, none⟩) N c) l
theorem Drawn.kept {w w' : World} {base N M : Nat} {l : List Int} {g c : Nat} (h : Drawn w base N M l g c) (ho : Own w' base (.slice (some ⟨g, 0, none⟩) N c) l) : Drawn w' base N M l g c :=
  ⟨h.two, h.most, h.now, h.len, h.small, ho⟩
theorem own_cur {w w' : World} {base k : Nat} {v : Value} {l : List Int} (h : Own w base v l) (g : w.grownBy w' (some k)) (hk : k < base) : Own w' base v l :=
  World.ownsRow.kept h g (by
    cases e : v.ownBlock with
    | none => exact .inl rfl
    | some b =>
      right; intro e2
      have := (h.lt b e).1
      cases e2; omega)

set_option maxRecDepth 100000 in
set_option maxHeartbeats 4000000 in
theorem drawDiscs_get (ca : Option Addr) (cl cc : Nat) (w : World) (hm : cl ≤ maxLen) (hr : RowIn w ca cl) {Q : Ending → World → Prop}
    (h : ∀ (N M : Nat) (l : List Int) (g c N2 M2 : Nat) (l2 : List Int) (g2 c2 : Nat) (w' : World), Drawn w' w.heap.size N M l g c → Drawn w' w.heap.size N2 M2 l2 g2 c2 → Below w.heap.size w w' → Q (.returned (.tuple #[.agg #[.int .i64 (N : Int), .int .i64 (M : Int), .slice (some ⟨g, 0, none⟩) N c], .agg #[.int .i64 (N2 : Int), .int .i64 (M2 : Int), .slice (some ⟨g2, 0, none⟩) N2 c2]])) w') :
    Calls Try.prog 11 #[.slice ca cl cc] w Q := by
  have H := Lib.hid h; clear h
  have hb1 := alloc_below w (.cells #[.int .i64 0, .int .i64 0, .slice none 0 0] 26)
  have hb2 := alloc_below (w.alloc (.cells #[.int .i64 0, .int .i64 0, .slice none 0 0] 26)) (.cells #[.int .i64 0, .int .i64 0, .slice none 0 0] 26)
  have hv1 := (DVar.new w 0 0 (.slice none 0 0)).below hb2
  have hv2 := DVar.new (w.alloc (.cells #[.int .i64 0, .int .i64 0, .slice none 0 0] 26)) 0 0 (.slice none 0 0)
  have hs1 : (w.alloc (.cells #[.int .i64 0, .int .i64 0, .slice none 0 0] 26)).heap.size = w.heap.size + 1 := by simp
  rw [hs1] at hv2
  obtain ⟨W, hW⟩ : ∃ W, (w.alloc (.cells #[.int .i64 0, .int .i64 0, .slice none 0 0] 26)).alloc (.cells #[.int .i64 0, .int .i64 0, .slice none 0 0] 26) = W := ⟨_, rfl⟩
  have hbW : Below w.heap.size w W := by rw [← hW]; exact hb1.trans (hb2.mono (by simp))
  have hsW : W.heap.size = w.heap.size + 2 := by rw [← hW]; simp
  rw [hW] at hv1 hv2
  have hr0 : RowIn W ca cl := by
    intro j hj
    obtain ⟨b, off, e, hlt, x, h0, h1, hx⟩ := hr j hj
    exact ⟨b, off, e, by omega, x, h0, h1, by rw [hbW.cell (p := ⟨b, off + j, none⟩) hlt]; exact hx⟩
  have HR := Lib.hid hr0
  have HW := Lib.hid hW
  have HV1 := Lib.hid hv1
  have HV2 := Lib.hid hv2
  have HB := Lib.hid hbW
  clear hr hr0 hb1 hb2 hv1 hv2 hs1 hW hbW
  go_enter Try.func11, Try.ntmps11
  go_wp2_with fail
  rw [HW.out]
  clear HW
  refine new_get ca cl cc _ hm HR.out ?_
  intro k w1 hk hk1 hc1 hbb
  have hkk : w.heap.size + 2 ≤ k := by omega
  have HV1 := Lib.hid (HV1.out.below hbb)
  have HV2 := Lib.hid (HV2.out.below hbb)
  have HB := Lib.hid (HB.out.trans (hbb.mono HB.out.size))
  have HC := Lib.hid hc1
  clear hbb hc1 hk HR
  go_wp2_with fail
  refine disc_get k ca cl cc _ HC.out ?_
  intro N M l g c w2 n2 n11 nM nl nx ho hc2 g2
  have HD := Lib.hid (show Drawn w2 w1.heap.size N M l g c from ⟨n2, n11, nM, nl, nx, ho⟩)
  have HV1 := Lib.hid (HV1.out.grown g2 (by simp; omega))
  have HV2 := Lib.hid (HV2.out.grown g2 (by simp; omega))
  have HB := Lib.hid (HB.out.grown g2 HB.out.size (fun j e => by cases e; omega))
  have hs2 : w1.heap.size ≤ w2.heap.size := g2.size
  have HC := Lib.hid hc2
  clear g2 hc2 ho n2 n11 nM nl nx
  have hb := alloc_below w2 (.cells #[.int .i64 (N : Int), .int .i64 (M : Int), .slice (some ⟨g, 0, none⟩) N c] 26)
  have HX := Lib.hid (DVar.new w2 (N : Int) (M : Int) (.slice (some ⟨g, 0, none⟩) N c))
  have HV1 := Lib.hid (HV1.out.below hb)
  have HV2 := Lib.hid (HV2.out.below hb)
  have HD := Lib.hid (HD.out.kept (HD.out.own.below hb))
  have HB := Lib.hid (HB.out.trans (hb.mono HB.out.size))
  have HC := Lib.hid (HC.out.alloc (.cells #[.int .i64 (N : Int), .int .i64 (M : Int), .slice (some ⟨g, 0, none⟩) N c] 26))
  have hs3 : w2.heap.size < (w2.alloc (.cells #[.int .i64 (N : Int), .int .i64 (M : Int), .slice (some ⟨g, 0, none⟩) N c] 26)).heap.size := HX.out.lt
  clear hb
  go_wp2_with fail
  generalize (w2.alloc (.cells #[.int .i64 (N : Int), .int .i64 (M : Int), .slice (some ⟨g, 0, none⟩) N c] 26)) = w3 at *
  obtain ⟨B, hB⟩ : ∃ B, w2.heap.size = B := ⟨_, rfl⟩
  rw [hB] at HX ⊢
  have hBk : k < B := by omega
  obtain ⟨k0, k1, k2⟩ := HX.out.cells
  have hBR : B ≠ w.heap.size ∧ B ≠ w.heap.size + 1 := by omega
  have HBR := Lib.hid hBR
  have HNE := Lib.hid (show some B ≠ some k ∧ some w.heap.size ≠ some k ∧ some (w.heap.size + 1) ≠ some k from ⟨by simp; omega, by simp; omega, by simp; omega⟩)
  have HXD := Lib.hid (HX.out.below ((Below.refl _ _).drew))
  have HV1D := Lib.hid (HV1.out.below ((Below.refl _ _).drew))
  have HV2D := Lib.hid (HV2.out.below ((Below.refl _ _).drew))
  have HCD := Lib.hid (show Cur w3.drew k ca cl cc from HC.out)
  clear hB hBR HX HV1 HV2 HC
  refine wp_region_held_drew (S := fun w' => w'.cell? ⟨B, 0, none⟩ = some (.int .i64 (N : Int)) ∧ w'.cell? ⟨B, 1, none⟩ = some (.int .i64 (M : Int)) ∧ w'.cell? ⟨B, 2, none⟩ = some (.slice (some ⟨g, 0, none⟩) N c)) (by kernel_rfl) HXD.out.cells (fun hHeld => ?_)
  refine wpAnyH_take (i := 0) (v := ?_) rfl (by kernel_rfl) (by kernel_rfl) (by kernel_rfl) (fun _ _ _ h => h) (Or.inl ⟨by rfl, ?_⟩) (by assumption) ?_
  rotate_left
  · intro w hSw
    (try dsimp only at hSw)
    go_simp
    all_goals (with_reducible rfl)
  try simp only [Act.put, List.setIfInBounds_toArray, List.set_cons_zero, List.set_cons_succ, List.getElem_toArray, List.getElem_cons_zero]
  refine wpAnyH_take (i := 1) (v := ?_) rfl (by kernel_rfl) (by kernel_rfl) (by kernel_rfl) (fun _ _ _ h => h) (Or.inl ⟨by rfl, ?_⟩) (by assumption) ?_
  rotate_left
  · intro w hSw
    (try dsimp only at hSw)
    go_simp
    all_goals (with_reducible rfl)
  try simp only [Act.put, List.setIfInBounds_toArray, List.set_cons_zero, List.set_cons_succ, List.getElem_toArray, List.getElem_cons_succ, List.getElem_cons_zero]
  refine wpAnyH_ready (rs := [2]) (by kernel_rfl) (by simp) ?_
  refine AllReadyH.cons rfl (fun K hK => ?_) AllReadyH.nil
  try simp only [Act.put, List.setIfInBounds_toArray, List.set_cons_zero, List.set_cons_succ, List.getElem_toArray, List.getElem_cons_succ, List.getElem_cons_zero]
  go_simp
  go_at_call 31
  refine disc_get k ca cl cc _ HCD.out ?_
  intro N2 M2 l2 g2 c2 w4 n2 n11 nM nl nx ho hc4 gw
  have HX4 := Lib.hid (HXD.out.grown gw HNE.out.1)
  have HV1 := Lib.hid (HV1D.out.grown gw HNE.out.2.1)
  have HV2 := Lib.hid (HV2D.out.grown gw HNE.out.2.2)
  have HD2 := Lib.hid (show Drawn w4 w3.heap.size N2 M2 l2 g2 c2 from ⟨n2, n11, nM, nl, nx, ho⟩)
  have HO1 := Lib.hid (own_cur (w := w3.drew) HD.out.own gw hk1)
  have HB4 := Lib.hid (HB.out.drew.grown gw HB.out.drew.size (fun j e => by cases e; omega))
  clear HXD HV1D HV2D HCD n2 n11 nM nl nx ho hc4 gw
  refine hK.out _ _ HX4.out.cells (fun hHeld => ?_)
  clear hK K
  try simp only [Act.put, List.setIfInBounds_toArray, List.set_cons_zero, List.set_cons_succ, List.getElem_toArray, List.getElem_cons_succ, List.getElem_cons_zero]
  refine wpAnyH_ready (rs := [3]) (by kernel_rfl) (by simp) ?_
  refine AllReadyH.cons rfl (fun K hK => ?_) AllReadyH.nil
  try simp only [Act.put, List.getElem_toArray, List.getElem_cons_succ, List.getElem_cons_zero]
  obtain ⟨p0, p1, p2⟩ := HV1.out.cells
  have f0 := HV1.out.free 0
  have f1 := HV1.out.free 1
  have f2 := HV1.out.free 2
  go_simp
  have HST : ∃ w5, set3 w4 w.heap.size (N : Int) (M : Int) (.slice (some ⟨g, 0, none⟩) N c) = w5 ∧ DVar w5 B (N : Int) (M : Int) (.slice (some ⟨g, 0, none⟩) N c) ∧ DVar w5 w.heap.size (N : Int) (M : Int) (.slice (some ⟨g, 0, none⟩) N c) ∧ DVar w5 (w.heap.size + 1) 0 0 (.slice none 0 0) ∧ Own w5 w1.heap.size (.slice (some ⟨g, 0, none⟩) N c) l ∧ Drawn w5 w3.heap.size N2 M2 l2 g2 c2 ∧ Below w.heap.size w w5 :=
    ⟨_, rfl, ((HX4.out.other HBR.out.1).other HBR.out.1).other HBR.out.1, HV1.out.set3 _ _ _, ((HV2.out.other (by omega)).other (by omega)).other (by omega), own_set (own_set (own_set HO1.out HV1.out) (HV1.out.set0 _)) ((HV1.out.set0 _).set1 _), HD2.out.kept (own_set (own_set (own_set HD2.out.own HV1.out) (HV1.out.set0 _)) ((HV1.out.set0 _).set1 _)), below_set3 HB4.out (Nat.le_refl _)⟩
  obtain ⟨w5, hw5, hx5, hv1, hv2, ho1, hd2, hb5⟩ := HST
  unfold set3 at hw5
  rw [hw5]
  refine hK.out _ _ hx5.cells (fun hHeld => ?_)
  clear hK K p0 p1 p2 f0 f1 f2 HX4 HV1 HV2 HO1 HD2 HB4 hw5
  have HX4 := Lib.hid hx5
  have HV1 := Lib.hid hv1
  have HV2 := Lib.hid hv2
  have HO1 := Lib.hid ho1
  have HD2 := Lib.hid hd2
  have HB4 := Lib.hid hb5
  clear hx5 hv1 hv2 ho1 hd2 hb5
  try simp only [Act.put, List.getElem_toArray, List.getElem_cons_succ, List.getElem_cons_zero]
  refine wpAnyH_ready (rs := [4]) (by kernel_rfl) (by simp) ?_
  refine AllReadyH.cons rfl (fun K hK => ?_) AllReadyH.nil
  try simp only [Act.put, List.getElem_toArray, List.getElem_cons_succ, List.getElem_cons_zero]
  obtain ⟨p0, p1, p2⟩ := HV2.out.cells
  have f0 := HV2.out.free 0
  have f1 := HV2.out.free 1
  have f2 := HV2.out.free 2
  go_simp
  have HST : ∃ w6, set3 w5 (w.heap.size + 1) (N2 : Int) (M2 : Int) (.slice (some ⟨g2, 0, none⟩) N2 c2) = w6 ∧ DVar w6 B (N : Int) (M : Int) (.slice (some ⟨g, 0, none⟩) N c) ∧ DVar w6 w.heap.size (N : Int) (M : Int) (.slice (some ⟨g, 0, none⟩) N c) ∧ DVar w6 (w.heap.size + 1) (N2 : Int) (M2 : Int) (.slice (some ⟨g2, 0, none⟩) N2 c2) ∧ Own w6 w1.heap.size (.slice (some ⟨g, 0, none⟩) N c) l ∧ Drawn w6 w3.heap.size N2 M2 l2 g2 c2 ∧ Below w.heap.size w w6 :=
    ⟨_, rfl, ((HX4.out.other HBR.out.2).other HBR.out.2).other HBR.out.2, ((HV1.out.other (by omega)).other (by omega)).other (by omega), HV2.out.set3 _ _ _, own_set (own_set (own_set HO1.out HV2.out) (HV2.out.set0 _)) ((HV2.out.set0 _).set1 _), HD2.out.kept (own_set (own_set (own_set HD2.out.own HV2.out) (HV2.out.set0 _)) ((HV2.out.set0 _).set1 _)), below_set3 HB4.out (by omega)⟩
  obtain ⟨w6, hw6, hx6, hv1, hv2, ho1, hd2, hb6⟩ := HST
  unfold set3 at hw6
  rw [hw6]
  refine hK.out _ _ hx6.cells (fun hHeld => ?_)
  clear hK K p0 p1 p2 f0 f1 f2 HX4 HV1 HV2 HO1 HD2 HB4 hw6
  refine wpAnyH_done (by kernel_rfl) ?_ _
  have hs1 : w.heap.size ≤ w1.heap.size := by omega
  have hs4 : w.heap.size ≤ w3.heap.size := by omega
  have HP := Lib.hid (H.out N M l g c N2 M2 l2 g2 c2 w6 ⟨HD.out.two, HD.out.most, HD.out.now, HD.out.len, HD.out.small, ho1.mono hs1⟩ ⟨hd2.two, hd2.most, hd2.now, hd2.len, hd2.small, hd2.own.mono hs4⟩ hb6)
  obtain ⟨x0, x1, x2⟩ := hv1.cells
  obtain ⟨y0, y1, y2⟩ := hv2.cells
  clear hx6 ho1 hd2 hb6 hv1 hv2 hHeld
  go_wp2_with fail
  refine bodyPost_ret (v := .tuple #[.agg #[.int .i64 (N : Int), .int .i64 (M : Int), .slice (some ⟨g, 0, none⟩) N c], .agg #[.int .i64 (N2 : Int), .int .i64 (M2 : Int), .slice (some ⟨g2, 0, none⟩) N2 c2]]) (by simp [results, Try.results11, go_sem, x0, x1, x2, y0, y1, y2]) rfl ?_
  exact HP.out
end Go.Proofs.Ytcfpgjcepmebdaa.Disc
