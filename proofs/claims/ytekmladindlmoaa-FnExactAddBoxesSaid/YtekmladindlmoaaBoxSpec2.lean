/- What the model of chapter 11 returns: AddBox, TakeBox (printed by wip/gen_boxspec.py). -/
import Derived.Test.YtekmladindlmoaaBoxSpec
import Derived.Deep.RegionHeld3
namespace Go.Proofs.Ytekmladindlmoaa.Box
open Go.ChangeShapes Go.WideShapes Go.ChangeAt Go.RowKit Go.Sort
open Go.Proofs.Ytekmladindlmoaa.Strip Go.Proofs.Ytekmladindlmoaa.Strs Go.Proofs.Ytekmladindlmoaa.Card Go.Proofs.Ytekmladindlmoaa.Corner Go.Proofs.Ytekmladindlmoaa.Kerf Go.Proofs.Ytekmladindlmoaa.Order Go.Proofs.Ytekmladindlmoaa.Flip
set_option linter.unusedVariables false

theorem swap_at (x : UInt8) (hx : x = 100 ∨ x = 102) (s : ByteArray) (A : Int) (w : World) (hm : s.size ≤ 1048576) (hc : cornerB x s.data.toList A = true) :
    Calls Try.prog 61 #[.string s, .int .i64 A] w fun e w' => e = .returned (.string (chS x s A)) ∧ Below w.heap.size w w' := by
  obtain ⟨j, rfl⟩ : ∃ j : Nat, A = (j : Int) := ⟨A.toNat, by have := corner_in hc; omega⟩
  have hxy : x = 100 ∧ (if x = 100 then (102 : UInt8) else 100) = 102 ∨ x = 102 ∧ (if x = 100 then (102 : UInt8) else 100) = 100 := by rcases hx with rfl | rfl <;> simp
  obtain ⟨hs, k1, k2, _⟩ := corner_parts hxy hc
  have hv : chS x s (j : Int) = ⟨(swapL (s.data.toList.getD j 0) (s.data.toList.getD (j - 1) 0) s.data.toList j).toArray⟩ := by
    rw [swap_corner hxy hc]
    rcases hx with rfl | rfl
    · unfold chS raiseS; rw [if_pos rfl, if_pos hc]; rfl
    · unfold chS lowerS; rw [if_neg (by decide), if_pos hc]; rfl
  rw [hv]
  exact swap_spec s (j - 1) j (j + 1) w hm (by omega) rfl (by simpa using k2)
theorem four_far {w : World} {g k : Nat} {u u1 u2 u3 u4 : Value} {p1 p2 p3 p4 : Addr} (h : w.cell? p1 = some u1 ∧ w.cell? p2 = some u2 ∧ w.cell? p3 = some u3 ∧ w.cell? p4 = some u4) (n1 : g ≠ p1.block) (n2 : g ≠ p2.block) (n3 : g ≠ p3.block) (n4 : g ≠ p4.block) :
    (w.setCell ⟨g, k, none⟩ u).cell? p1 = some u1 ∧ (w.setCell ⟨g, k, none⟩ u).cell? p2 = some u2 ∧ (w.setCell ⟨g, k, none⟩ u).cell? p3 = some u3 ∧ (w.setCell ⟨g, k, none⟩ u).cell? p4 = some u4 :=
  ⟨(World.cell?_setCell_far w ⟨g, k, none⟩ p1 u n1).trans h.1, (World.cell?_setCell_far w ⟨g, k, none⟩ p2 u n2).trans h.2.1, (World.cell?_setCell_far w ⟨g, k, none⟩ p3 u n3).trans h.2.2.1, (World.cell?_setCell_far w ⟨g, k, none⟩ p4 u n4).trans h.2.2.2⟩
theorem ne_own {w : World} {base g n c b : Nat} {l : List ByteArray} {d f : Int} {v : Value} (ho : Own w base (.slice (some ⟨g, 0, none⟩) n c) l) (hv : Var w b d f v) : g ≠ b := fun e => ne_var ho hv (by simp [Value.ownBlock, e])
theorem ne_ownB {w : World} {base g n c b : Nat} {l : List ByteArray} {x y z : Int} (ho : Own w base (.slice (some ⟨g, 0, none⟩) n c) l) (hv : BVar w b x y z) : g ≠ b := fun e => ne_bvar ho hv (by simp [Value.ownBlock, e])
theorem lt_own {w : World} {base g n c : Nat} {l : List ByteArray} (ho : Own w base (.slice (some ⟨g, 0, none⟩) n c) l) : base ≤ g := (ho.lt g (by simp [Value.ownBlock])).1

set_option maxRecDepth 100000 in
set_option maxHeartbeats 2000000 in
theorem addSpec_no (d f : Int) (F L A : Int) (base n c : Nat) (a : Option Addr) (l : List ByteArray) (w : World) (hn : n ≤ 1048576) (h : Own w base (.slice a n c) l) (hz : ∀ s ∈ l, s.size ≤ 1048576) (hA0 : -9223372036854775808 ≤ A) (hA1 : A ≤ 9223372036854775807) (hbad : boxB 100 d f l F L A = false) :
    Calls Try.prog 28 #[.agg #[.int .i64 d, .int .i64 f, .slice a n c], .agg #[.int .i64 F, .int .i64 L, .int .i64 A]] w (Gave2 w d f l false) := by
  obtain ⟨W, hW, hv1, hv2, hv3, hb, hs0⟩ := beginCBR w d f (.slice a n c) F L A
  have hoW : Own W base (.slice a n c) l := by rw [hW]; exact ((h.below (alloc_below _ _)).below (alloc_below _ _)).below (alloc_below _ _)
  have HN := Lib.hid h.row2.1
  have HOW := Lib.hid hoW
  have HV1 := Lib.hid hv1
  have HV2 := Lib.hid hv2
  have HV3 := Lib.hid hv3
  have HB := Lib.hid hb
  have HS := Lib.hid hs0
  have HZ := Lib.hid hz
  have HW := Lib.hid hW
  have HLT := Lib.hid (fun b e => (h.lt b e).2)
  clear hv1 hv2 hv3 hb hs0 hz hW hoW h
  go_enter Try.func28, Try.ntmps28
  go_wp2_with fail
  rw [← HW.out]
  clear HW
  obtain ⟨k0, k1, k2⟩ := HV1.out.cells
  go_wp2_with fail
  refine (copy_spec d f base n c a l _ hn HOW.out).mono ?_
  rintro e w1 ⟨a2, c2, rfl, hb1, ho1⟩
  have HV1 := Lib.hid (HV1.out.below hb1)
  have HV2 := Lib.hid (HV2.out.below hb1)
  have HV3 := Lib.hid (HV3.out.below hb1)
  have HOW := Lib.hid (HOW.out.below hb1)
  have HB1 := Lib.hid (HB.out.trans (hb1.mono HB.out.size))
  have HO1 := Lib.hid (ho1.mono (base2 := w.heap.size) HB.out.size)
  have hs1 : w.heap.size + 3 ≤ w1.heap.size := by have := hb1.size; have := HS.out; omega
  clear hb1 k0 k1 k2 HB ho1
  have hv0 := Var.new w1 d f (.slice a2 l.length c2)
  have hb := alloc_below w1 (.cells #[.int .i64 d, .int .i64 f, .slice a2 l.length c2] 26)
  have HV1 := Lib.hid (HV1.out.below hb)
  have HV2 := Lib.hid (HV2.out.below hb)
  have HV3 := Lib.hid (HV3.out.below hb)
  have HO1 := Lib.hid (HO1.out.below hb)
  have HOW := Lib.hid (HOW.out.below hb)
  have HB1 := Lib.hid (HB1.out.trans (hb.mono HB1.out.size))
  have HV4 := Lib.hid hv0
  clear hv0 hb
  obtain ⟨k0, k1, k2⟩ := HV1.out.cells
  obtain ⟨m0, m1, m2⟩ := HV2.out.cells
  go_wp2_with fail
  clear k0 k1 k2 m0 m1 m2
  generalize (w1.alloc (.cells #[.int .i64 d, .int .i64 f, .slice a2 l.length c2] 26)) = w2 at *
  generalize w1.heap.size = B4 at *
  refine (canAdd_spec d f F L A base n c a l _ hn HOW.out HZ.out hA0 hA1).mono ?_
  rintro e w3 ⟨rfl, hb3⟩
  have HV1 := Lib.hid (HV1.out.below hb3)
  have HV2 := Lib.hid (HV2.out.below hb3)
  have HV3 := Lib.hid (HV3.out.below hb3)
  have HV4 := Lib.hid (HV4.out.below hb3)
  have HO3 := Lib.hid (HO1.out.below hb3)
  have HOW := Lib.hid (HOW.out.below hb3)
  have HB3 := Lib.hid (HB1.out.trans (hb3.mono HB1.out.size))
  clear hb3 HO1 HB1
  rw [hbad]
  obtain ⟨g0, g1, g2⟩ := HV4.out.cells
  have hx : ∃ Z, Z = Card.set3 w3 (w.heap.size + 2) d f (.slice a2 l.length c2) ∧ Var Z (w.heap.size + 2) d f (.slice a2 l.length c2) ∧ Below w.heap.size w Z ∧ Own Z w.heap.size (.slice a2 l.length c2) l := ⟨_, rfl, gave_last HB3.out HV3.out (by omega) HO3.out (Nat.le_refl _)⟩
  obtain ⟨Z, hZ, hz1, hz2, hz3⟩ := hx
  unfold set3 at hZ
  obtain ⟨p0, p1, p2⟩ := HV3.out.cells
  have f0 := HV3.out.free 0
  have f1 := HV3.out.free 1
  have f2 := HV3.out.free 2
  have HZZ := Lib.hid hZ
  have HZ1 := Lib.hid hz1
  have HZ2 := Lib.hid hz2
  have HZ3 := Lib.hid hz3
  clear hZ hz1 hz2 hz3
  go_wp2_with fail
  clear g0 g1 g2
  rw [← HZZ.out]
  clear HZZ p0 p1 p2 f0 f1 f2
  obtain ⟨z0, z1, z2⟩ := HZ1.out.cells
  refine bodyPost_ret (v := .tuple #[.agg #[.int .i64 d, .int .i64 f, .slice a2 l.length c2], .bool false]) (by simp [results, Try.results28, go_sem, z0, z1, z2]) rfl ?_
  exact ⟨_, c2, rfl, HZ2.out, HZ3.out⟩

set_option maxRecDepth 100000 in
set_option maxHeartbeats 2000000 in
theorem addSpec_in (d f : Int) (i0 j0 : Nat) (A : Int) (base n c : Nat) (a : Option Addr) (l : List ByteArray) (w : World) (hn : n ≤ 1048576) (h : Own w base (.slice a n c) l) (hz : ∀ s ∈ l, s.size ≤ 1048576) (hA0 : -9223372036854775808 ≤ A) (hA1 : A ≤ 9223372036854775807) (hr : rangeB d f l (i0 : Int) (j0 : Int) = true) (hbox : boxB 100 d f l (i0 : Int) (j0 : Int) A = true) (hij : i0 ≤ j0) (hj : j0 < n) :
    Calls Try.prog 28 #[.agg #[.int .i64 d, .int .i64 f, .slice a n c], .agg #[.int .i64 (i0 : Int), .int .i64 (j0 : Int), .int .i64 A]] w (Gave2 w d f (boxL 100 d f l (i0 : Int) (j0 : Int) A) (boxB 100 d f l (i0 : Int) (j0 : Int) A)) := by
  obtain ⟨W, hW, hv1, hv2, hv3, hb, hs0⟩ := beginCBR w d f (.slice a n c) i0 j0 A
  have hoW : Own W base (.slice a n c) l := by rw [hW]; exact ((h.below (alloc_below _ _)).below (alloc_below _ _)).below (alloc_below _ _)
  have HN := Lib.hid h.row2.1
  have HOW := Lib.hid hoW
  have HV1 := Lib.hid hv1
  have HV2 := Lib.hid hv2
  have HV3 := Lib.hid hv3
  have HB := Lib.hid hb
  have HS := Lib.hid hs0
  have HZ := Lib.hid hz
  have HW := Lib.hid hW
  have HLT := Lib.hid (fun b e => (h.lt b e).2)
  clear hv1 hv2 hv3 hb hs0 hz hW hoW h
  have HR := Lib.hid hr
  go_enter Try.func28, Try.ntmps28
  go_wp2_with fail
  rw [← HW.out]
  clear HW
  obtain ⟨k0, k1, k2⟩ := HV1.out.cells
  go_wp2_with fail
  refine (copy_spec d f base n c a l _ hn HOW.out).mono ?_
  rintro e w1 ⟨a2, c2, rfl, hb1, ho1⟩
  have HV1 := Lib.hid (HV1.out.below hb1)
  have HV2 := Lib.hid (HV2.out.below hb1)
  have HV3 := Lib.hid (HV3.out.below hb1)
  have HOW := Lib.hid (HOW.out.below hb1)
  have HB1 := Lib.hid (HB.out.trans (hb1.mono HB.out.size))
  have HO1 := Lib.hid (ho1.mono (base2 := w.heap.size) HB.out.size)
  have hs1 : w.heap.size + 3 ≤ w1.heap.size := by have := hb1.size; have := HS.out; omega
  clear hb1 k0 k1 k2 HB ho1
  have hv0 := Var.new w1 d f (.slice a2 l.length c2)
  have hb := alloc_below w1 (.cells #[.int .i64 d, .int .i64 f, .slice a2 l.length c2] 26)
  have HV1 := Lib.hid (HV1.out.below hb)
  have HV2 := Lib.hid (HV2.out.below hb)
  have HV3 := Lib.hid (HV3.out.below hb)
  have HO1 := Lib.hid (HO1.out.below hb)
  have HOW := Lib.hid (HOW.out.below hb)
  have HB1 := Lib.hid (HB1.out.trans (hb.mono HB1.out.size))
  have HV4 := Lib.hid hv0
  clear hv0 hb
  obtain ⟨k0, k1, k2⟩ := HV1.out.cells
  obtain ⟨m0, m1, m2⟩ := HV2.out.cells
  go_wp2_with fail
  clear k0 k1 k2 m0 m1 m2
  generalize (w1.alloc (.cells #[.int .i64 d, .int .i64 f, .slice a2 l.length c2] 26)) = w2 at *
  generalize w1.heap.size = B4 at *
  refine (canAdd_spec d f (i0 : Int) (j0 : Int) A base n c a l _ hn HOW.out HZ.out hA0 hA1).mono ?_
  rintro e w3 ⟨rfl, hb3⟩
  have HV1 := Lib.hid (HV1.out.below hb3)
  have HV2 := Lib.hid (HV2.out.below hb3)
  have HV3 := Lib.hid (HV3.out.below hb3)
  have HV4 := Lib.hid (HV4.out.below hb3)
  have HO3 := Lib.hid (HO1.out.below hb3)
  have HOW := Lib.hid (HOW.out.below hb3)
  have HB3 := Lib.hid (HB1.out.trans (hb3.mono HB1.out.size))
  clear hb3 HO1 HB1
  have HBX := Lib.hid (show ∀ m (hm : m < l.length), i0 ≤ m → m < j0 + 1 → cornerB 100 l[m].data.toList A = true from fun m hm h1 h2 => (boxB_iff.1 hbox).2 m hm (by rw [Int.toNat_natCast]; exact h1) (by rw [Int.toNat_natCast]; exact h2))
  rw [hbox]
  clear hbox hr
  obtain ⟨m0, m1, m2⟩ := HV2.out.cells
  go_wp2_with fail
  clear m0 m1 m2
  have HP0 := Lib.hid (show Own w3 w.heap.size (.slice a2 l.length c2) (partL 100 A l i0 i0) by rw [partL_none _ _ _ _ _ (Nat.le_refl _)]; exact HO3.out)
  have HB4B := Lib.hid (show w.heap.size + 3 ≤ B4 by omega)
  clear hs1
  go_loopw [7] (fun i wr => ∃ k : Nat, i0 ≤ k ∧ k ≤ j0 + 1 ∧ i = .int .i64 (k : Int) ∧ Hid (Var wr w.heap.size d f (.slice a n c)) ∧ Hid (BVar wr (w.heap.size + 1) i0 j0 A) ∧ Hid (Var wr (w.heap.size + 2) 0 0 (.slice none 0 0)) ∧ Hid (Var wr B4 d f (.slice a2 l.length c2)) ∧ Hid (Own wr base (.slice a n c) l) ∧ Hid (Own wr w.heap.size (.slice a2 l.length c2) (partL 100 A l i0 k)) ∧ Hid (Below w.heap.size w wr) ∧ Hid (∀ m (hm : m < l.length), i0 ≤ m → m < k → cornerB 100 l[m].data.toList A = true)) (fun i _ => j0 + 1 - (intOf i).toNat)
  case atStart => exact ⟨i0, Nat.le_refl _, by omega, rfl, HV1, HV2, HV3, HV4, HOW, HP0, HB3, fun m _ h1 h2 => by omega⟩
  case round =>
    clear HO3 HP0 HB3
    obtain ⟨k, hk0, hk, rfl, HV1, HV2, HV3, HV4, HOW, HO, HB, HG⟩ := hrel
    obtain ⟨m0, m1, m2⟩ := HV2.out.cells
    by_cases hlt : k < j0 + 1
    · have hk1 : k ≤ j0 := by omega
      have hk2 : (0 : Int) ≤ (k : Int) := Int.natCast_nonneg _
      have hk3 : (k : Int) < (n : Int) := by omega
      have hk4 : k < n := by omega
      have hkl : k < l.length := by have := HN.out; omega
      have hkp : k < (partL 100 A l i0 k).length := by rw [partL_length]; exact hkl
      have hkl2 : (k : Int) < (l.length : Int) := by omega
      obtain ⟨g, hg⟩ : ∃ g, a = some ⟨g, 0, none⟩ := by
        rcases HOW.out.shape with ⟨_, _, e⟩ | h
        · rw [e] at hkl; simp at hkl
        · exact h
      subst hg
      obtain ⟨g2, hg⟩ : ∃ g2, a2 = some ⟨g2, 0, none⟩ := by
        rcases HO.out.shape with ⟨_, _, e⟩ | h
        · rw [e] at hkp; simp at hkp
        · exact h
      subst hg
      have hsz := HZ.out _ (List.getElem_mem hkl)
      have hcell := HOW.out.cell hkl
      have HSET := Lib.hid (partL_set 100 A l i0 k hkl hk0)
      have hnext := (fun (hc : cornerB 100 l[k].data.toList A = true) => show ∀ m (hm : m < l.length), i0 ≤ m → m < k + 1 → cornerB 100 l[m].data.toList A = true from fun m hm h1 h2 => by
        by_cases e : m = k
        · subst e; exact hc
        · exact HG.out m hm h1 (by omega))
      have HC := Lib.hid (HBX.out k hkl hk0 hlt)
      have HNEXT := Lib.hid (hnext HC.out)
      clear hnext
      have HCELL := Lib.hid (fun (w' : World) (hb : Below wr.heap.size wr w') => (HOW.out.below hb).cell hkl)
      generalize l[k] = s at *
      have HX := Lib.hid (fun (w' : World) => swap_at 100 (by decide) s A w' hsz HC.out)
      obtain ⟨c0, c1, c2', c3⟩ := And.intro HV1.out.cells.2.2 (And.intro HV2.out.cells.2.2 (And.intro HV4.out.cells.2.2 hcell))
      have n1 := ne_own HO.out HV1.out
      have n2 := ne_ownB HO.out HV2.out
      have n3 := ne_own HO.out HV4.out
      have n4 : g2 ≠ g := by have h1 := lt_own HO.out; have h2 := HLT.out g (by simp [Value.ownBlock]); omega
      have hfree := fun (w' : World) (hb : Below wr.heap.size wr w') => (HO.out.below hb).free k
      have hold := fun (w' : World) (hb : Below wr.heap.size wr w') => (HO.out.below hb).cell hkp
      generalize (partL 100 A l i0 k)[k]'_ = old at hold
      have HF := Lib.hid hfree
      have HOLD := Lib.hid hold
      clear hfree hold hcell
      go_wp2_with fail
      clear m0 m1 m2
      go_region_held3 (fun w' => w'.cell? ⟨w.heap.size, 2, none⟩ = some (.slice (some ⟨g, 0, none⟩) n c) ∧ w'.cell? ⟨w.heap.size + 1, 2, none⟩ = some (.int .i64 A) ∧ w'.cell? ⟨B4, 2, none⟩ = some (.slice (some ⟨g2, 0, none⟩) l.length c2) ∧ w'.cell? ⟨g, k, none⟩ = some (.string s))
        (first | with_reducible exact ⟨c0, c1, c2', c3⟩ | with_reducible exact ⟨d0, d1, d2, d3⟩ | with_reducible exact four_far ⟨d0, d1, d2, d3⟩ n1 n2 n3 n4 | exact ⟨c0, c1, c2', c3⟩)
        ((go_at_call 61; refine (HX.out _).mono ?_; rintro e wx ⟨rfl, hb⟩; have hbx : Below wr.heap.size wr wx := ((Below.refl _ _).drew).trans hb; have HBX2 := Lib.hid hbx; have d0 := (HV1.out.below hbx).cells.2.2; have d1 := (HV2.out.below hbx).cells.2.2; have d2 := (HV4.out.below hbx).cells.2.2; have d3 := HCELL.out _ hbx; have e0 := HF.out _ hbx; have e1 := HOLD.out _ hbx; clear hbx hb))
      have hbx := HBX2.out
      have HV1 := Lib.hid (HV1.out.below hbx)
      have HV2 := Lib.hid (HV2.out.below hbx)
      have HV3 := Lib.hid (HV3.out.below hbx)
      have HV4 := Lib.hid (HV4.out.below hbx)
      have HOW := Lib.hid (HOW.out.below hbx)
      have HO := Lib.hid (HO.out.below hbx)
      have HB := Lib.hid (HB.out.trans (hbx.mono HB.out.size))
      have hkp : k < (partL 100 A l i0 k).length := by rw [partL_length]; exact hkl
      have ho2 := HO.out.set (chS 100 s A) hkp
      rw [HSET.out] at ho2
      have HO2 := Lib.hid ho2
      have hg := grown_set wx g2 k (.string (chS 100 s A))
      have HV1 := Lib.hid (HV1.out.written HO.out hg)
      have HV2 := Lib.hid (HV2.out.written HO.out hg)
      have HV3 := Lib.hid (HV3.out.written HO.out hg)
      have HV4 := Lib.hid (HV4.out.written HO.out hg)
      have HOW := Lib.hid (HOW.out.apart HO.out HLT.out hg)
      have HB := Lib.hid (HO.out.write_below HB.out (Nat.le_refl _) HB.out.size hg)
      clear hg ho2 hbx c0 c1 c2' c3 d0 d1 d2 d3 e0 e1 HSET HF HOLD HCELL HX HBX2 HO
      generalize (wx.setCell ⟨g2, k, none⟩ (.string (chS 100 s A))) = w6 at *
      go_wp2_with fail
      go_roundw
      case rel => exact ⟨k + 1, by omega, by omega, by go_num, HV1, HV2, HV3, HV4, HOW, HO2, HB, HNEXT⟩
      case measure => simp [intOf]; omega
    · obtain rfl : k = j0 + 1 := by omega
      have HE := Lib.hid (box_good HR.out HG.out)
      have HLN := Lib.hid (partL_length 100 A l i0 (j0 + 1))
      have HOZ := Lib.hid (show Own wr w.heap.size (.slice a2 (partL 100 A l i0 (j0 + 1)).length c2) (partL 100 A l i0 (j0 + 1)) by rw [HLN.out]; exact HO.out)
      have hv4 := HV4.out
      rw [← HLN.out] at hv4
      have hk1 : ¬ (j0 + 1 ≤ j0) := by omega
      clear HO HG HV4
      generalize (partL 100 A l i0 (j0 + 1)) = l5 at *
      have HV4 := Lib.hid hv4
      clear hv4
      obtain ⟨g0, g1, g2⟩ := HV4.out.cells
      have hx : ∃ Z, Z = Card.set3 wr (w.heap.size + 2) d f (.slice a2 l5.length c2) ∧ Var Z (w.heap.size + 2) d f (.slice a2 l5.length c2) ∧ Below w.heap.size w Z ∧ Own Z w.heap.size (.slice a2 l5.length c2) l5 := ⟨_, rfl, gave_last HB.out HV3.out (by omega) HOZ.out (Nat.le_refl _)⟩
      obtain ⟨Z, hZ, hz1, hz2, hz3⟩ := hx
      unfold set3 at hZ
      obtain ⟨p0, p1, p2⟩ := HV3.out.cells
      have f0 := HV3.out.free 0
      have f1 := HV3.out.free 1
      have f2 := HV3.out.free 2
      have HZZ := Lib.hid hZ
      have HZ1 := Lib.hid hz1
      have HZ2 := Lib.hid hz2
      have HZ3 := Lib.hid hz3
      clear hZ hz1 hz2 hz3
      go_wp2_with fail
      clear g0 g1 g2
      rw [← HZZ.out]
      clear HZZ p0 p1 p2 f0 f1 f2
      obtain ⟨z0, z1, z2⟩ := HZ1.out.cells
      refine bodyPost_ret (v := .tuple #[.agg #[.int .i64 d, .int .i64 f, .slice a2 l5.length c2], .bool true]) (by simp [results, Try.results28, go_sem, z0, z1, z2]) rfl ?_
      rw [HE.out.1, HE.out.2]; exact ⟨_, c2, rfl, HZ2.out, HZ3.out⟩

set_option maxRecDepth 100000 in
set_option maxHeartbeats 2000000 in
theorem add_spec (d f : Int) (F L A : Int) (base n c : Nat) (a : Option Addr) (l : List ByteArray) (w : World) (hn : n ≤ 1048576) (h : Own w base (.slice a n c) l) (hz : ∀ s ∈ l, s.size ≤ 1048576) (hA0 : -9223372036854775808 ≤ A) (hA1 : A ≤ 9223372036854775807) :
    Calls Try.prog 28 #[.agg #[.int .i64 d, .int .i64 f, .slice a n c], .agg #[.int .i64 F, .int .i64 L, .int .i64 A]] w (Gave2 w d f (boxL 100 d f l F L A) (boxB 100 d f l F L A)) := by
  have hl := h.row2.1
  cases hb : boxB 100 d f l F L A with
  | true =>
    have hr := (boxB_iff.1 hb).1
    obtain ⟨i, j, rfl, rfl, hij, hj, hc⟩ := range_nats hr
    rw [← hb]
    exact addSpec_in d f i j A base n c a l w hn h hz hA0 hA1 hr hb hij (by omega)
  | false =>
    have e : boxL 100 d f l F L A = l := by unfold boxL; rw [if_neg (by rw [hb]; simp)]
    rw [e]
    exact addSpec_no d f F L A base n c a l w hn h hz hA0 hA1 hb

set_option maxRecDepth 100000 in
set_option maxHeartbeats 2000000 in
theorem takeSpec_no (d f : Int) (F L A : Int) (base n c : Nat) (a : Option Addr) (l : List ByteArray) (w : World) (hn : n ≤ 1048576) (h : Own w base (.slice a n c) l) (hz : ∀ s ∈ l, s.size ≤ 1048576) (hA0 : -9223372036854775808 ≤ A) (hA1 : A ≤ 9223372036854775807) (hbad : rangeB d f l F L = false) :
    Calls Try.prog 31 #[.agg #[.int .i64 d, .int .i64 f, .slice a n c], .agg #[.int .i64 F, .int .i64 L, .int .i64 A]] w (Gave2 w d f l false) := by
  obtain ⟨W, hW, hv1, hv2, hv3, hb, hs0⟩ := beginCBR w d f (.slice a n c) F L A
  have hoW : Own W base (.slice a n c) l := by rw [hW]; exact ((h.below (alloc_below _ _)).below (alloc_below _ _)).below (alloc_below _ _)
  have HN := Lib.hid h.row2.1
  have HOW := Lib.hid hoW
  have HV1 := Lib.hid hv1
  have HV2 := Lib.hid hv2
  have HV3 := Lib.hid hv3
  have HB := Lib.hid hb
  have HS := Lib.hid hs0
  have HZ := Lib.hid hz
  have HW := Lib.hid hW
  have HLT := Lib.hid (fun b e => (h.lt b e).2)
  clear hv1 hv2 hv3 hb hs0 hz hW hoW h
  go_enter Try.func31, Try.ntmps31
  go_wp2_with fail
  rw [← HW.out]
  clear HW
  obtain ⟨k0, k1, k2⟩ := HV1.out.cells
  go_wp2_with fail
  refine (copy_spec d f base n c a l _ hn HOW.out).mono ?_
  rintro e w1 ⟨a2, c2, rfl, hb1, ho1⟩
  have HV1 := Lib.hid (HV1.out.below hb1)
  have HV2 := Lib.hid (HV2.out.below hb1)
  have HV3 := Lib.hid (HV3.out.below hb1)
  have HOW := Lib.hid (HOW.out.below hb1)
  have HB1 := Lib.hid (HB.out.trans (hb1.mono HB.out.size))
  have HO1 := Lib.hid (ho1.mono (base2 := w.heap.size) HB.out.size)
  have hs1 : w.heap.size + 3 ≤ w1.heap.size := by have := hb1.size; have := HS.out; omega
  clear hb1 k0 k1 k2 HB ho1
  have hv0 := Var.new w1 d f (.slice a2 l.length c2)
  have hb := alloc_below w1 (.cells #[.int .i64 d, .int .i64 f, .slice a2 l.length c2] 26)
  have HV1 := Lib.hid (HV1.out.below hb)
  have HV2 := Lib.hid (HV2.out.below hb)
  have HV3 := Lib.hid (HV3.out.below hb)
  have HO1 := Lib.hid (HO1.out.below hb)
  have HOW := Lib.hid (HOW.out.below hb)
  have HB1 := Lib.hid (HB1.out.trans (hb.mono HB1.out.size))
  have HV4 := Lib.hid hv0
  clear hv0 hb
  obtain ⟨k0, k1, k2⟩ := HV1.out.cells
  obtain ⟨m0, m1, m2⟩ := HV2.out.cells
  go_wp2_with fail
  clear k0 k1 k2 m0 m1 m2
  generalize (w1.alloc (.cells #[.int .i64 d, .int .i64 f, .slice a2 l.length c2] 26)) = w2 at *
  generalize w1.heap.size = B4 at *
  refine (range_spec d f a n c l F L A _ HN.out.symm hn HZ.out HOW.out.row2.2).mono ?_
  rintro e w3 ⟨rfl, hb3⟩
  have HV1 := Lib.hid (HV1.out.below hb3)
  have HV2 := Lib.hid (HV2.out.below hb3)
  have HV3 := Lib.hid (HV3.out.below hb3)
  have HV4 := Lib.hid (HV4.out.below hb3)
  have HO3 := Lib.hid (HO1.out.below hb3)
  have HOW := Lib.hid (HOW.out.below hb3)
  have HB3 := Lib.hid (HB1.out.trans (hb3.mono HB1.out.size))
  clear hb3 HO1 HB1
  rw [hbad]
  obtain ⟨g0, g1, g2⟩ := HV4.out.cells
  have hx : ∃ Z, Z = Card.set3 w3 (w.heap.size + 2) d f (.slice a2 l.length c2) ∧ Var Z (w.heap.size + 2) d f (.slice a2 l.length c2) ∧ Below w.heap.size w Z ∧ Own Z w.heap.size (.slice a2 l.length c2) l := ⟨_, rfl, gave_last HB3.out HV3.out (by omega) HO3.out (Nat.le_refl _)⟩
  obtain ⟨Z, hZ, hz1, hz2, hz3⟩ := hx
  unfold set3 at hZ
  obtain ⟨p0, p1, p2⟩ := HV3.out.cells
  have f0 := HV3.out.free 0
  have f1 := HV3.out.free 1
  have f2 := HV3.out.free 2
  have HZZ := Lib.hid hZ
  have HZ1 := Lib.hid hz1
  have HZ2 := Lib.hid hz2
  have HZ3 := Lib.hid hz3
  clear hZ hz1 hz2 hz3
  go_wp2_with fail
  clear g0 g1 g2
  rw [← HZZ.out]
  clear HZZ p0 p1 p2 f0 f1 f2
  obtain ⟨z0, z1, z2⟩ := HZ1.out.cells
  refine bodyPost_ret (v := .tuple #[.agg #[.int .i64 d, .int .i64 f, .slice a2 l.length c2], .bool false]) (by simp [results, Try.results31, go_sem, z0, z1, z2]) rfl ?_
  exact ⟨_, c2, rfl, HZ2.out, HZ3.out⟩

set_option maxRecDepth 100000 in
set_option maxHeartbeats 2000000 in
theorem takeSpec_in (d f : Int) (i0 j0 : Nat) (A : Int) (base n c : Nat) (a : Option Addr) (l : List ByteArray) (w : World) (hn : n ≤ 1048576) (h : Own w base (.slice a n c) l) (hz : ∀ s ∈ l, s.size ≤ 1048576) (hA0 : -9223372036854775808 ≤ A) (hA1 : A ≤ 9223372036854775807) (hr : rangeB d f l (i0 : Int) (j0 : Int) = true) (hij : i0 ≤ j0) (hj : j0 < n) :
    Calls Try.prog 31 #[.agg #[.int .i64 d, .int .i64 f, .slice a n c], .agg #[.int .i64 (i0 : Int), .int .i64 (j0 : Int), .int .i64 A]] w (Gave2 w d f (boxL 102 d f l (i0 : Int) (j0 : Int) A) (boxB 102 d f l (i0 : Int) (j0 : Int) A)) := by
  obtain ⟨W, hW, hv1, hv2, hv3, hb, hs0⟩ := beginCBR w d f (.slice a n c) i0 j0 A
  have hoW : Own W base (.slice a n c) l := by rw [hW]; exact ((h.below (alloc_below _ _)).below (alloc_below _ _)).below (alloc_below _ _)
  have HN := Lib.hid h.row2.1
  have HOW := Lib.hid hoW
  have HV1 := Lib.hid hv1
  have HV2 := Lib.hid hv2
  have HV3 := Lib.hid hv3
  have HB := Lib.hid hb
  have HS := Lib.hid hs0
  have HZ := Lib.hid hz
  have HW := Lib.hid hW
  have HLT := Lib.hid (fun b e => (h.lt b e).2)
  clear hv1 hv2 hv3 hb hs0 hz hW hoW h
  have HR := Lib.hid hr
  go_enter Try.func31, Try.ntmps31
  go_wp2_with fail
  rw [← HW.out]
  clear HW
  obtain ⟨k0, k1, k2⟩ := HV1.out.cells
  go_wp2_with fail
  refine (copy_spec d f base n c a l _ hn HOW.out).mono ?_
  rintro e w1 ⟨a2, c2, rfl, hb1, ho1⟩
  have HV1 := Lib.hid (HV1.out.below hb1)
  have HV2 := Lib.hid (HV2.out.below hb1)
  have HV3 := Lib.hid (HV3.out.below hb1)
  have HOW := Lib.hid (HOW.out.below hb1)
  have HB1 := Lib.hid (HB.out.trans (hb1.mono HB.out.size))
  have HO1 := Lib.hid (ho1.mono (base2 := w.heap.size) HB.out.size)
  have hs1 : w.heap.size + 3 ≤ w1.heap.size := by have := hb1.size; have := HS.out; omega
  clear hb1 k0 k1 k2 HB ho1
  have hv0 := Var.new w1 d f (.slice a2 l.length c2)
  have hb := alloc_below w1 (.cells #[.int .i64 d, .int .i64 f, .slice a2 l.length c2] 26)
  have HV1 := Lib.hid (HV1.out.below hb)
  have HV2 := Lib.hid (HV2.out.below hb)
  have HV3 := Lib.hid (HV3.out.below hb)
  have HO1 := Lib.hid (HO1.out.below hb)
  have HOW := Lib.hid (HOW.out.below hb)
  have HB1 := Lib.hid (HB1.out.trans (hb.mono HB1.out.size))
  have HV4 := Lib.hid hv0
  clear hv0 hb
  obtain ⟨k0, k1, k2⟩ := HV1.out.cells
  obtain ⟨m0, m1, m2⟩ := HV2.out.cells
  go_wp2_with fail
  clear k0 k1 k2 m0 m1 m2
  generalize (w1.alloc (.cells #[.int .i64 d, .int .i64 f, .slice a2 l.length c2] 26)) = w2 at *
  generalize w1.heap.size = B4 at *
  refine (range_spec d f a n c l (i0 : Int) (j0 : Int) A _ HN.out.symm hn HZ.out HOW.out.row2.2).mono ?_
  rintro e w3 ⟨rfl, hb3⟩
  have HV1 := Lib.hid (HV1.out.below hb3)
  have HV2 := Lib.hid (HV2.out.below hb3)
  have HV3 := Lib.hid (HV3.out.below hb3)
  have HV4 := Lib.hid (HV4.out.below hb3)
  have HO3 := Lib.hid (HO1.out.below hb3)
  have HOW := Lib.hid (HOW.out.below hb3)
  have HB3 := Lib.hid (HB1.out.trans (hb3.mono HB1.out.size))
  clear hb3 HO1 HB1
  rw [hr]
  clear hr
  obtain ⟨m0, m1, m2⟩ := HV2.out.cells
  go_wp2_with fail
  clear m0 m1 m2
  have HP0 := Lib.hid (show Own w3 w.heap.size (.slice a2 l.length c2) (partL 102 A l i0 i0) by rw [partL_none _ _ _ _ _ (Nat.le_refl _)]; exact HO3.out)
  have HB4B := Lib.hid (show w.heap.size + 3 ≤ B4 by omega)
  clear hs1
  go_loopw [7] (fun i wr => ∃ k : Nat, i0 ≤ k ∧ k ≤ j0 + 1 ∧ i = .int .i64 (k : Int) ∧ Hid (Var wr w.heap.size d f (.slice a n c)) ∧ Hid (BVar wr (w.heap.size + 1) i0 j0 A) ∧ Hid (Var wr (w.heap.size + 2) 0 0 (.slice none 0 0)) ∧ Hid (Var wr B4 d f (.slice a2 l.length c2)) ∧ Hid (Own wr base (.slice a n c) l) ∧ Hid (Own wr w.heap.size (.slice a2 l.length c2) (partL 102 A l i0 k)) ∧ Hid (Below w.heap.size w wr) ∧ Hid (∀ m (hm : m < l.length), i0 ≤ m → m < k → cornerB 102 l[m].data.toList A = true)) (fun i _ => j0 + 1 - (intOf i).toNat)
  case atStart => exact ⟨i0, Nat.le_refl _, by omega, rfl, HV1, HV2, HV3, HV4, HOW, HP0, HB3, fun m _ h1 h2 => by omega⟩
  case round =>
    clear HO3 HP0 HB3
    obtain ⟨k, hk0, hk, rfl, HV1, HV2, HV3, HV4, HOW, HO, HB, HG⟩ := hrel
    obtain ⟨m0, m1, m2⟩ := HV2.out.cells
    by_cases hlt : k < j0 + 1
    · have hk1 : k ≤ j0 := by omega
      have hk2 : (0 : Int) ≤ (k : Int) := Int.natCast_nonneg _
      have hk3 : (k : Int) < (n : Int) := by omega
      have hk4 : k < n := by omega
      have hkl : k < l.length := by have := HN.out; omega
      have hkp : k < (partL 102 A l i0 k).length := by rw [partL_length]; exact hkl
      have hkl2 : (k : Int) < (l.length : Int) := by omega
      obtain ⟨g, hg⟩ : ∃ g, a = some ⟨g, 0, none⟩ := by
        rcases HOW.out.shape with ⟨_, _, e⟩ | h
        · rw [e] at hkl; simp at hkl
        · exact h
      subst hg
      obtain ⟨g2, hg⟩ : ∃ g2, a2 = some ⟨g2, 0, none⟩ := by
        rcases HO.out.shape with ⟨_, _, e⟩ | h
        · rw [e] at hkp; simp at hkp
        · exact h
      subst hg
      have hsz := HZ.out _ (List.getElem_mem hkl)
      have hcell := HOW.out.cell hkl
      have HSET := Lib.hid (partL_set 102 A l i0 k hkl hk0)
      have hnext := (fun (hc : cornerB 102 l[k].data.toList A = true) => show ∀ m (hm : m < l.length), i0 ≤ m → m < k + 1 → cornerB 102 l[m].data.toList A = true from fun m hm h1 h2 => by
        by_cases e : m = k
        · subst e; exact hc
        · exact HG.out m hm h1 (by omega))
      have HX0 := Lib.hid (fun (dd : Nat) (os : Array Obj) => Calls.regrown_of (mountain_spec l[k] A (grow (redrawn wr dd) os) hsz hA0 hA1))
      have HCELL := Lib.hid (fun (w' : World) (hb : Below wr.heap.size wr w') => (HOW.out.below hb).cell hkl)
      have HBAD := Lib.hid (fun hc => box_bad (x := 102) (d := d) (f := f) (i := i0) (j := j0) (A := A) k hkl hk0 hlt hc)
      have HNEXT0 := Lib.hid hnext
      clear hnext
      have hcell := cell_regrown hcell
      obtain ⟨k0, k1, k2⟩ := HV1.out.cells
      have k2 := cell_regrown k2
      have q2 := cell_regrown m2
      generalize l[k] = s at *
      go_wp2_with fail
      refine wp_region_quiet_below (by kernel_rfl) (by kernel_rfl) ?_
      repeat (go_big_quiet_step ((go_at_call 64; exact HX0.out _ _)))
      refine wpQuiet_nil ?_
      intro _ hw'
      obtain ⟨⟨dq, osq⟩, hw''⟩ := hw'
      subst hw''
      have hbr := below_regrown wr dq osq
      have hcell := HCELL.out _ hbr
      have HCELL := Lib.hid (fun (w' : World) (hb : Below (grow (redrawn wr dq) osq).heap.size (grow (redrawn wr dq) osq) w') => HCELL.out w' (hbr.trans (hb.mono hbr.size)))
      have HV1 := Lib.hid (HV1.out.below hbr)
      have HV2 := Lib.hid (HV2.out.below hbr)
      have HV3 := Lib.hid (HV3.out.below hbr)
      have HV4 := Lib.hid (HV4.out.below hbr)
      have HOW := Lib.hid (HOW.out.below hbr)
      have HO := Lib.hid (HO.out.below hbr)
      have HB := Lib.hid (HB.out.trans (hbr.mono HB.out.size))
      clear hbr k0 k1 k2 q2 m0 m1 m2 HX0
      generalize (grow (redrawn wr dq) osq) = w5 at *
      cases hc : cornerB 102 s.data.toList A with
      | false =>
        have HE := Lib.hid (HBAD.out hc)
        clear HBAD HNEXT0 HSET HO HV4 hc hcell HCELL
        obtain ⟨k0, k1, k2⟩ := HV1.out.cells
        go_wp2_with fail
        clear k0 k1 k2
        refine (copy_spec d f base n c (some ⟨g, 0, none⟩) l _ hn HOW.out).mono ?_
        rintro e w7 ⟨a7, c7, rfl, hb7, ho7⟩
        have HV3 := Lib.hid (HV3.out.below hb7)
        have HB7 := Lib.hid (HB.out.trans (hb7.mono HB.out.size))
        have HO7 := Lib.hid (ho7.mono (base2 := w.heap.size) HB.out.size)
        clear hb7 ho7
        have hx : ∃ Z, Z = Card.set3 w7 (w.heap.size + 2) d f (.slice a7 l.length c7) ∧ Var Z (w.heap.size + 2) d f (.slice a7 l.length c7) ∧ Below w.heap.size w Z ∧ Own Z w.heap.size (.slice a7 l.length c7) l := ⟨_, rfl, gave_last HB7.out HV3.out (by omega) HO7.out (Nat.le_refl _)⟩
        obtain ⟨Z, hZ, hz1, hz2, hz3⟩ := hx
        unfold set3 at hZ
        obtain ⟨p0, p1, p2⟩ := HV3.out.cells
        have f0 := HV3.out.free 0
        have f1 := HV3.out.free 1
        have f2 := HV3.out.free 2
        have HZZ := Lib.hid hZ
        have HZ1 := Lib.hid hz1
        have HZ2 := Lib.hid hz2
        have HZ3 := Lib.hid hz3
        clear hZ hz1 hz2 hz3
        go_wp2_with fail
        skip
        rw [← HZZ.out]
        clear HZZ p0 p1 p2 f0 f1 f2
        obtain ⟨z0, z1, z2⟩ := HZ1.out.cells
        refine bodyPost_ret (v := .tuple #[.agg #[.int .i64 d, .int .i64 f, .slice a7 l.length c7], .bool false]) (by simp [results, Try.results31, go_sem, z0, z1, z2]) rfl ?_
        rw [HE.out.1, HE.out.2]; exact ⟨_, c7, rfl, HZ2.out, HZ3.out⟩
      | true =>
        have HC := Lib.hid hc
        have HNEXT := Lib.hid (HNEXT0.out hc)
        clear hc HBAD HNEXT0
        obtain ⟨m0, m1, m2⟩ := HV2.out.cells
        have HX := Lib.hid (fun (w' : World) => swap_at 102 (by decide) s A w' hsz HC.out)
        obtain ⟨c0, c1, c2', c3⟩ := And.intro HV1.out.cells.2.2 (And.intro HV2.out.cells.2.2 (And.intro HV4.out.cells.2.2 hcell))
        have n1 := ne_own HO.out HV1.out
        have n2 := ne_ownB HO.out HV2.out
        have n3 := ne_own HO.out HV4.out
        have n4 : g2 ≠ g := by have h1 := lt_own HO.out; have h2 := HLT.out g (by simp [Value.ownBlock]); omega
        have hfree := fun (w' : World) (hb : Below w5.heap.size w5 w') => (HO.out.below hb).free k
        have hold := fun (w' : World) (hb : Below w5.heap.size w5 w') => (HO.out.below hb).cell hkp
        generalize (partL 102 A l i0 k)[k]'_ = old at hold
        have HF := Lib.hid hfree
        have HOLD := Lib.hid hold
        clear hfree hold hcell
        go_wp2_with fail
        clear m0 m1 m2
        go_region_held3 (fun w' => w'.cell? ⟨w.heap.size, 2, none⟩ = some (.slice (some ⟨g, 0, none⟩) n c) ∧ w'.cell? ⟨w.heap.size + 1, 2, none⟩ = some (.int .i64 A) ∧ w'.cell? ⟨B4, 2, none⟩ = some (.slice (some ⟨g2, 0, none⟩) l.length c2) ∧ w'.cell? ⟨g, k, none⟩ = some (.string s))
          (first | with_reducible exact ⟨c0, c1, c2', c3⟩ | with_reducible exact ⟨d0, d1, d2, d3⟩ | with_reducible exact four_far ⟨d0, d1, d2, d3⟩ n1 n2 n3 n4 | exact ⟨c0, c1, c2', c3⟩)
          ((go_at_call 61; refine (HX.out _).mono ?_; rintro e wx ⟨rfl, hb⟩; have hbx : Below w5.heap.size w5 wx := ((Below.refl _ _).drew).trans hb; have HBX2 := Lib.hid hbx; have d0 := (HV1.out.below hbx).cells.2.2; have d1 := (HV2.out.below hbx).cells.2.2; have d2 := (HV4.out.below hbx).cells.2.2; have d3 := HCELL.out _ hbx; have e0 := HF.out _ hbx; have e1 := HOLD.out _ hbx; clear hbx hb))
        have hbx := HBX2.out
        have HV1 := Lib.hid (HV1.out.below hbx)
        have HV2 := Lib.hid (HV2.out.below hbx)
        have HV3 := Lib.hid (HV3.out.below hbx)
        have HV4 := Lib.hid (HV4.out.below hbx)
        have HOW := Lib.hid (HOW.out.below hbx)
        have HO := Lib.hid (HO.out.below hbx)
        have HB := Lib.hid (HB.out.trans (hbx.mono HB.out.size))
        have hkp : k < (partL 102 A l i0 k).length := by rw [partL_length]; exact hkl
        have ho2 := HO.out.set (chS 102 s A) hkp
        rw [HSET.out] at ho2
        have HO2 := Lib.hid ho2
        have hg := grown_set wx g2 k (.string (chS 102 s A))
        have HV1 := Lib.hid (HV1.out.written HO.out hg)
        have HV2 := Lib.hid (HV2.out.written HO.out hg)
        have HV3 := Lib.hid (HV3.out.written HO.out hg)
        have HV4 := Lib.hid (HV4.out.written HO.out hg)
        have HOW := Lib.hid (HOW.out.apart HO.out HLT.out hg)
        have HB := Lib.hid (HO.out.write_below HB.out (Nat.le_refl _) HB.out.size hg)
        clear hg ho2 hbx c0 c1 c2' c3 d0 d1 d2 d3 e0 e1 HSET HF HOLD HCELL HX HBX2 HO
        generalize (wx.setCell ⟨g2, k, none⟩ (.string (chS 102 s A))) = w6 at *
        go_wp2_with fail
        go_roundw
        case rel => exact ⟨k + 1, by omega, by omega, by go_num, HV1, HV2, HV3, HV4, HOW, HO2, HB, HNEXT⟩
        case measure => simp [intOf]; omega
    · obtain rfl : k = j0 + 1 := by omega
      have HE := Lib.hid (box_good HR.out HG.out)
      have HLN := Lib.hid (partL_length 102 A l i0 (j0 + 1))
      have HOZ := Lib.hid (show Own wr w.heap.size (.slice a2 (partL 102 A l i0 (j0 + 1)).length c2) (partL 102 A l i0 (j0 + 1)) by rw [HLN.out]; exact HO.out)
      have hv4 := HV4.out
      rw [← HLN.out] at hv4
      have hk1 : ¬ (j0 + 1 ≤ j0) := by omega
      clear HO HG HV4
      generalize (partL 102 A l i0 (j0 + 1)) = l5 at *
      have HV4 := Lib.hid hv4
      clear hv4
      obtain ⟨g0, g1, g2⟩ := HV4.out.cells
      have hx : ∃ Z, Z = Card.set3 wr (w.heap.size + 2) d f (.slice a2 l5.length c2) ∧ Var Z (w.heap.size + 2) d f (.slice a2 l5.length c2) ∧ Below w.heap.size w Z ∧ Own Z w.heap.size (.slice a2 l5.length c2) l5 := ⟨_, rfl, gave_last HB.out HV3.out (by omega) HOZ.out (Nat.le_refl _)⟩
      obtain ⟨Z, hZ, hz1, hz2, hz3⟩ := hx
      unfold set3 at hZ
      obtain ⟨p0, p1, p2⟩ := HV3.out.cells
      have f0 := HV3.out.free 0
      have f1 := HV3.out.free 1
      have f2 := HV3.out.free 2
      have HZZ := Lib.hid hZ
      have HZ1 := Lib.hid hz1
      have HZ2 := Lib.hid hz2
      have HZ3 := Lib.hid hz3
      clear hZ hz1 hz2 hz3
      go_wp2_with fail
      clear g0 g1 g2
      rw [← HZZ.out]
      clear HZZ p0 p1 p2 f0 f1 f2
      obtain ⟨z0, z1, z2⟩ := HZ1.out.cells
      refine bodyPost_ret (v := .tuple #[.agg #[.int .i64 d, .int .i64 f, .slice a2 l5.length c2], .bool true]) (by simp [results, Try.results31, go_sem, z0, z1, z2]) rfl ?_
      rw [HE.out.1, HE.out.2]; exact ⟨_, c2, rfl, HZ2.out, HZ3.out⟩

set_option maxRecDepth 100000 in
set_option maxHeartbeats 2000000 in
theorem take_spec (d f : Int) (F L A : Int) (base n c : Nat) (a : Option Addr) (l : List ByteArray) (w : World) (hn : n ≤ 1048576) (h : Own w base (.slice a n c) l) (hz : ∀ s ∈ l, s.size ≤ 1048576) (hA0 : -9223372036854775808 ≤ A) (hA1 : A ≤ 9223372036854775807) :
    Calls Try.prog 31 #[.agg #[.int .i64 d, .int .i64 f, .slice a n c], .agg #[.int .i64 F, .int .i64 L, .int .i64 A]] w (Gave2 w d f (boxL 102 d f l F L A) (boxB 102 d f l F L A)) := by
  have hl := h.row2.1
  cases hr : rangeB d f l F L with
  | true =>
    obtain ⟨i, j, rfl, rfl, hij, hj, hc⟩ := range_nats hr
    exact takeSpec_in d f i j A base n c a l w hn h hz hA0 hA1 hr hij (by omega)
  | false =>
    obtain ⟨e1, e2⟩ := box_out (x := 102) (A := A) hr
    rw [e1, e2]
    exact takeSpec_no d f F L A base n c a l w hn h hz hA0 hA1 hr
end Go.Proofs.Ytekmladindlmoaa.Box
