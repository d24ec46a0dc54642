/- What the model's WidestBox returns (printed by wip/gen_boxwide.py). -/
import Derived.Test.YtekmladindlmoaaBoxWideImpl
import Derived.Test.YtekmladindlmoaaBoxSpec
namespace Go.Proofs.Ytekmladindlmoaa.Box
open Go.ChangeShapes Go.WideShapes Go.ChangeAt Go.RowKit Go.Sort
open Go.Proofs.Ytekmladindlmoaa.Strip Go.Proofs.Ytekmladindlmoaa.Strs Go.Proofs.Ytekmladindlmoaa.Card Go.Proofs.Ytekmladindlmoaa.Corner Go.Proofs.Ytekmladindlmoaa.Kerf Go.Proofs.Ytekmladindlmoaa.Order Go.Proofs.Ytekmladindlmoaa.Flip
set_option linter.unusedVariables false

set_option maxRecDepth 100000 in
set_option maxHeartbeats 2000000 in
theorem wide_spec (d f : Int) (k A : Int) (base n c : Nat) (a : Option Addr) (l : List ByteArray) (w : World) (hn : n ≤ 1048576) (h : Own w base (.slice a n c) l) (hz : ∀ s ∈ l, s.size ≤ 1048576) (hA0 : -9223372036854775808 ≤ A) (hA1 : A ≤ 9223372036854775807) :
    Calls Try.prog 39 #[.agg #[.int .i64 d, .int .i64 f, .slice a n c], .int .i64 k, .int .i64 A] w (GaveBox w (wideB d f l k A) (boxB 100 d f l k k A)) := by
  obtain ⟨W, hW, hv1, hv2, hb, hs0⟩ := beginCR w d f (.slice a n c)
  have hoW : Own W base (.slice a n c) l := by rw [hW]; exact (h.below (alloc_below _ _)).below (alloc_below _ _)
  have HN := Lib.hid h.row2.1
  have HS := Lib.hid hs0
  have HW := Lib.hid hW
  have HZ := Lib.hid hz
  have HCA := Lib.hid (canAdd_spec d f k k A base n c a l W hn hoW hz hA0 hA1)
  have HA1 := Lib.hid hv1
  have HA2 := Lib.hid hv2
  have HAO := Lib.hid hoW
  have HAB := Lib.hid hb
  obtain ⟨k0, k1, k2⟩ := HA1.out.cells
  clear hv1 hv2 hb hs0 hz hW hoW h
  go_enter Try.func39, Try.ntmps39
  go_wp2_with fail
  rw [← HW.out]
  clear HW
  go_wp2_with fail
  refine HCA.out.mono ?_
  rintro e w1 ⟨rfl, hb1⟩
  have HC1 := Lib.hid (HA1.out.below hb1)
  have HC2 := Lib.hid (HA2.out.below hb1)
  have HCO := Lib.hid (HAO.out.below hb1)
  have HCB := Lib.hid (HAB.out.trans (hb1.mono HAB.out.size))
  have hs1 : w.heap.size + 2 ≤ w1.heap.size := by have := hb1.size; have := HS.out; omega
  clear hb1 k0 k1 k2 HA1 HA2 HAO HAB HCA
  cases hbx : boxB 100 d f l k k A with
  | false =>
    have HBX := Lib.hid hbx
    have HE := Lib.hid (show wideB d f l k A = (0, 0, 0) by unfold wideB; rw [hbx]; rfl)
    have hx : ∃ Z, Z = setV w1 (w.heap.size + 1) 0 0 0 ∧ BVar Z (w.heap.size + 1) 0 0 0 ∧ Below w.heap.size w Z := ⟨_, rfl, HC2.out.setV _ _ _, below_setV HCB.out (by omega)⟩
    obtain ⟨Z, hZ, hz1, hz2⟩ := hx
    unfold setV at hZ
    obtain ⟨p0, p1, p2⟩ := HC2.out.cells
    have f0 := HC2.out.free 0
    have f1 := HC2.out.free 1
    have f2 := HC2.out.free 2
    have HZZ := Lib.hid hZ
    have HZ1 := Lib.hid hz1
    have HZ2 := Lib.hid hz2
    clear hZ hz1 hz2 hbx
    go_wp2_with fail
    rw [← HZZ.out]
    clear HZZ p0 p1 p2 f0 f1 f2
    obtain ⟨z0, z1, z2⟩ := HZ1.out.cells
    refine bodyPost_ret (v := .tuple #[.agg #[.int .i64 0, .int .i64 0, .int .i64 0], .bool false]) (by simp [results, Try.results39, go_sem, z0, z1, z2]) rfl ?_
    unfold GaveBox
    rw [HE.out, HBX.out]
    exact ⟨rfl, HZ2.out⟩
  | true =>
    have he : wideB d f l k A = ((wideF l A k.toNat : Int), (wideL l A k.toNat : Int), A) := by unfold wideB; rw [if_pos hbx]
    obtain ⟨j, rfl, hj, hc, hup⟩ := box_single hbx
    rw [Int.toNat_natCast] at he
    have HE := Lib.hid he
    have hjn : j ≤ 1048576 := by have := HN.out; omega
    have HJ := Lib.hid hj
    have HBX := Lib.hid hbx
    have hv3 := BVar.new w1 (j : Int) (j : Int) A
    have hb2 := alloc_below w1 (.cells #[.int .i64 (j : Int), .int .i64 (j : Int), .int .i64 A] 39)
    have HV1 := Lib.hid (HC1.out.below hb2)
    have HV2 := Lib.hid (HC2.out.below hb2)
    have HOW := Lib.hid (HCO.out.below hb2)
    have HB := Lib.hid (HCB.out.trans (hb2.mono HCB.out.size))
    have HV3 := Lib.hid hv3
    clear he hbx hj hc hup hv3 hb2 HC1 HC2 HCO HCB
    obtain ⟨g, hg⟩ : ∃ g, a = some ⟨g, 0, none⟩ := by
      rcases HOW.out.shape with ⟨_, _, e⟩ | h
      · have := HJ.out; rw [e] at this; simp at this
      · exact h
    subst hg
    go_wp2_with fail
    generalize (w1.alloc (.cells #[.int .i64 (j : Int), .int .i64 (j : Int), .int .i64 A] 39)) = w2 at *
    generalize w1.heap.size = B8 at *
    have HB8 := Lib.hid hs1
    clear hs1
    go_loopw [] (fun wr => ∃ i : Nat, i ≤ j ∧ Hid (downTo (upB l A) i = wideF l A j) ∧ Hid (Var wr w.heap.size d f (.slice (some ⟨g, 0, none⟩) n c)) ∧ Hid (BVar wr (w.heap.size + 1) 0 0 0) ∧ Hid (BVar wr B8 (i : Int) (j : Int) A) ∧ Hid (Own wr base (.slice (some ⟨g, 0, none⟩) n c) l) ∧ Hid (Below w.heap.size w wr)) (fun wr => cellN wr B8 0)
    case atStart => exact ⟨j, Nat.le_refl _, rfl, HV1, HV2, HV3, HOW, HB⟩
    case round =>
      clear HV1 HV2 HV3 HOW HB
      obtain ⟨i, hij, HD, HV1, HV2, HV3, HOW, HB⟩ := hrel
      have hi0 : (0 : Int) ≤ (i : Int) := Int.natCast_nonneg _
      have hi1 : (i : Int) ≤ 1048576 := by omega
      obtain ⟨k0, k1, k2⟩ := HV1.out.cells
      obtain ⟨m0, m1, m2⟩ := HV3.out.cells
      by_cases hlt : 0 < i
      · have hil : i - 1 < l.length := by have := HJ.out; omega
        have hd : decide (0 < (i : Int)) = true := decide_eq_true (by omega)
        have hd2 : ((i - 1 : Nat) : Int) < (n : Int) := by have := HN.out; omega
        have hd3 : (0 : Int) ≤ ((i - 1 : Nat) : Int) := Int.natCast_nonneg _
        have hcell := HOW.out.cell hil
        have hgq := upB_get (A := A) hil
        have HVA := Lib.hid (fun (w' : World) => valley_spec l[i - 1] A w' (HZ.out _ (List.getElem_mem hil)) hA0 hA1)
        have e1 : ((i : Int) - 1) = ((i - 1 : Nat) : Int) := by omega
        have HME := Lib.hid HV3.out.firstN
        generalize l[i - 1] = s at *
        go_wp2_with fail
        refine (HVA.out _).mono ?_
        rintro e w3 ⟨rfl, hb2⟩
        have HV1 := Lib.hid (HV1.out.below hb2)
        have HV2 := Lib.hid (HV2.out.below hb2)
        have HV3 := Lib.hid (HV3.out.below hb2)
        have HOW := Lib.hid (HOW.out.below hb2)
        have HB := Lib.hid (HB.out.trans (hb2.mono HB.out.size))
        clear hb2
        clear k0 k1 k2 m0 m1 m2 hcell HVA hd hd2 hd3
        rw [← hgq]
        cases hq : upB l A (i - 1) with
        | true =>
          have hb3 := HV3.out.first (((i - 1 : Nat) : Int))
          have HV3' := Lib.hid hb3
          obtain ⟨m0, m1, m2⟩ := HV3.out.cells
          have f0 := HV3.out.free 0
          have HV1 := Lib.hid (var_asideB (j := 0) (x := ((i - 1 : Nat) : Int)) HV1.out (show w.heap.size ≠ B8 by have := HB8.out; omega))
          have HV2 := Lib.hid (HV2.out.other (j := 0) (u := .int .i64 (((i - 1 : Nat) : Int))) (show w.heap.size + 1 ≠ B8 by have := HB8.out; omega))
          have HOW := Lib.hid (own_asideB (j := 0) (q := ((i - 1 : Nat) : Int)) HOW.out HV3.out)
          have HB := Lib.hid (HB.out.setCell (p := ⟨B8, 0, none⟩) (by have := HB8.out; show w.heap.size ≤ B8; omega) (.int .i64 (((i - 1 : Nat) : Int))))
          have HMN := Lib.hid hb3.firstN
          clear hb3
          have HD2 := Lib.hid (show downTo (upB l A) (i - 1) = wideF l A j by rw [← HD.out, downTo_step hlt hq])
          clear hq hgq
          go_wp2_with fail
          exact ⟨⟨i - 1, by omega, HD2, HV1, HV2, HV3', HOW, HB⟩, lt_via HMN.out HME.out (show (((i - 1 : Nat) : Int)).toNat < ((i : Nat) : Int).toNat by omega)⟩
        | false =>
          have hst : i = 0 ∨ upB l A (i - 1) = false := .inr hq
          clear hq hgq
          have HFI := Lib.hid (show i = wideF l A j by rw [← HD.out, downTo_stop hst])
          clear hst HD
          go_wp2_with fail
          try clear hd hd1
          go_loopw [] (fun wr => ∃ j2 : Nat, j ≤ j2 ∧ j2 < l.length ∧ Hid (wideL l A j2 = wideL l A j) ∧ Hid (Var wr w.heap.size d f (.slice (some ⟨g, 0, none⟩) n c)) ∧ Hid (BVar wr (w.heap.size + 1) 0 0 0) ∧ Hid (BVar wr B8 (i : Int) (j2 : Int) A) ∧ Hid (Own wr base (.slice (some ⟨g, 0, none⟩) n c) l) ∧ Hid (Below w.heap.size w wr)) (fun wr => l.length - cellN wr B8 1)
          case atStart => exact ⟨j, Nat.le_refl _, HJ.out, rfl, HV1, HV2, HV3, HOW, HB⟩
          case round =>
            clear HV1 HV2 HV3 HOW HB
            obtain ⟨j2, hjj, hjl, HD, HV1, HV2, HV3, HOW, HB⟩ := hrel
            have hi0 : (0 : Int) ≤ (j2 : Int) := Int.natCast_nonneg _
            have hi1 : (j2 : Int) ≤ 1048576 := by have := HN.out; omega
            obtain ⟨k0, k1, k2⟩ := HV1.out.cells
            obtain ⟨m0, m1, m2⟩ := HV3.out.cells
            obtain ⟨j3, hj3⟩ : ∃ j3, j3 = j2 + 1 := ⟨_, rfl⟩
            have HJ3 := Lib.hid hj3
            by_cases hlt : j3 < l.length
            · have hd2 : (j3 : Int) < (n : Int) := by have := HN.out; omega
              have hd : decide ((j3 : Int) < (n : Int)) = true := decide_eq_true hd2
              have hd3 : (0 : Int) ≤ (j3 : Int) := Int.natCast_nonneg _
              have hd4 : (j3 : Int) ≤ 1048576 := by have := HN.out; omega
              have hd5 : decide (j3 < n) = true := decide_eq_true (by omega)
              have hcell := HOW.out.cell hlt
              have hgq := upB_get (A := A) hlt
              have HVA := Lib.hid (fun (w' : World) => valley_spec l[j3] A w' (HZ.out _ (List.getElem_mem hlt)) hA0 hA1)
              have e1 : ((j2 : Int) + 1) = (j3 : Int) := by omega
              have HME := Lib.hid HV3.out.lastN
              clear hj3
              generalize l[j3] = s at *
              go_wp2_with fail
              refine (HVA.out _).mono ?_
              rintro e w3 ⟨rfl, hb2⟩
              have HV1 := Lib.hid (HV1.out.below hb2)
              have HV2 := Lib.hid (HV2.out.below hb2)
              have HV3 := Lib.hid (HV3.out.below hb2)
              have HOW := Lib.hid (HOW.out.below hb2)
              have HB := Lib.hid (HB.out.trans (hb2.mono HB.out.size))
              clear hb2
              clear k0 k1 k2 m0 m1 m2 hcell HVA hd hd2 hd3 hd5
              rw [← hgq]
              have hj3 := HJ3.out
              cases hq : upB l A j3 with
              | true =>
                obtain ⟨hq1, hq2⟩ := wideL_step hjl (by rw [← hj3]; exact hq)
                have hb3 := HV3.out.last ((j3 : Int))
                have HV3' := Lib.hid hb3
                obtain ⟨m0, m1, m2⟩ := HV3.out.cells
                have f0 := HV3.out.free 1
                have HV1 := Lib.hid (var_asideB (j := 1) (x := (j3 : Int)) HV1.out (show w.heap.size ≠ B8 by have := HB8.out; omega))
                have HV2 := Lib.hid (HV2.out.other (j := 1) (u := .int .i64 ((j3 : Int))) (show w.heap.size + 1 ≠ B8 by have := HB8.out; omega))
                have HOW := Lib.hid (own_asideB (j := 1) (q := (j3 : Int)) HOW.out HV3.out)
                have HB := Lib.hid (HB.out.setCell (p := ⟨B8, 1, none⟩) (by have := HB8.out; show w.heap.size ≤ B8; omega) (.int .i64 ((j3 : Int))))
                have HMN := Lib.hid hb3.lastN
                clear hb3
                have HD2 := Lib.hid (show wideL l A j3 = wideL l A j by rw [hj3, ← hq1]; exact HD.out)
                clear hq hq1 hgq hj3
                go_wp2_with fail
                refine ⟨⟨j3, by have := HJ3.out; omega, hlt, HD2, HV1, HV2, HV3', HOW, HB⟩, ?_⟩
                refine lt_via (congrArg (fun x => l.length - x) HMN.out) (congrArg (fun x => l.length - x) HME.out) ?_
                have := HJ3.out
                show l.length - (j3 : Int).toNat < l.length - (j2 : Int).toNat
                omega
              | false =>
                have HLI := Lib.hid (show j2 = wideL l A j by rw [← HD.out, wideL_stop (by rw [← hj3]; exact hq)])
                clear hq hgq hj3
                have hx : ∃ Z, Z = setV w3 (w.heap.size + 1) (i : Int) (j2 : Int) A ∧ BVar Z (w.heap.size + 1) (i : Int) (j2 : Int) A ∧ Below w.heap.size w Z := ⟨_, rfl, HV2.out.setV _ _ _, below_setV HB.out (by omega)⟩
                obtain ⟨Z, hZ, hz1, hz2⟩ := hx
                unfold setV at hZ
                obtain ⟨m0, m1, m2⟩ := HV3.out.cells
                obtain ⟨p0, p1, p2⟩ := HV2.out.cells
                have f0 := HV2.out.free 0
                have f1 := HV2.out.free 1
                have f2 := HV2.out.free 2
                have HZZ := Lib.hid hZ
                have HZ1 := Lib.hid hz1
                have HZ2 := Lib.hid hz2
                clear hZ hz1 hz2
                go_wp2_with fail
                rw [← HZZ.out]
                clear HZZ p0 p1 p2 f0 f1 f2
                obtain ⟨z0, z1, z2⟩ := HZ1.out.cells
                refine bodyPost_ret (v := .tuple #[.agg #[.int .i64 (i : Int), .int .i64 (j2 : Int), .int .i64 A], .bool true]) (by simp [results, Try.results39, go_sem, z0, z1, z2]) rfl ?_
                unfold GaveBox
                rw [HE.out, HBX.out, ← HFI.out, ← HLI.out]
                exact ⟨rfl, HZ2.out⟩
            · have hd : decide ((j2 : Int) + 1 < (n : Int)) = false := decide_eq_false (by have := HN.out; omega)
              have hd1 : decide (j2 + 1 < n) = false := decide_eq_false (by have := HN.out; omega)
              have HLI := Lib.hid (show j2 = wideL l A j by rw [← HD.out, wideL_stop (upB_out (by omega))])
              clear hlt hj3 HJ3
              have hx : ∃ Z, Z = setV wr (w.heap.size + 1) (i : Int) (j2 : Int) A ∧ BVar Z (w.heap.size + 1) (i : Int) (j2 : Int) A ∧ Below w.heap.size w Z := ⟨_, rfl, HV2.out.setV _ _ _, below_setV HB.out (by omega)⟩
              obtain ⟨Z, hZ, hz1, hz2⟩ := hx
              unfold setV at hZ
              obtain ⟨m0, m1, m2⟩ := HV3.out.cells
              obtain ⟨p0, p1, p2⟩ := HV2.out.cells
              have f0 := HV2.out.free 0
              have f1 := HV2.out.free 1
              have f2 := HV2.out.free 2
              have HZZ := Lib.hid hZ
              have HZ1 := Lib.hid hz1
              have HZ2 := Lib.hid hz2
              clear hZ hz1 hz2
              go_wp2_with fail
              rw [← HZZ.out]
              clear HZZ p0 p1 p2 f0 f1 f2
              obtain ⟨z0, z1, z2⟩ := HZ1.out.cells
              refine bodyPost_ret (v := .tuple #[.agg #[.int .i64 (i : Int), .int .i64 (j2 : Int), .int .i64 A], .bool true]) (by simp [results, Try.results39, go_sem, z0, z1, z2]) rfl ?_
              unfold GaveBox
              rw [HE.out, HBX.out, ← HFI.out, ← HLI.out]
              exact ⟨rfl, HZ2.out⟩
      · have hst : i = 0 ∨ upB l A (i - 1) = false := .inl (by omega)
        have hd : decide (0 < (i : Int)) = false := decide_eq_false (by omega)
        have hd1 : decide (0 < i) = false := decide_eq_false (by omega)
        clear k0 k1 k2 hlt hi0 hi1
        have HFI := Lib.hid (show i = wideF l A j by rw [← HD.out, downTo_stop hst])
        clear hst HD
        go_wp2_with fail
        try clear hd hd1
        go_loopw [] (fun wr => ∃ j2 : Nat, j ≤ j2 ∧ j2 < l.length ∧ Hid (wideL l A j2 = wideL l A j) ∧ Hid (Var wr w.heap.size d f (.slice (some ⟨g, 0, none⟩) n c)) ∧ Hid (BVar wr (w.heap.size + 1) 0 0 0) ∧ Hid (BVar wr B8 (i : Int) (j2 : Int) A) ∧ Hid (Own wr base (.slice (some ⟨g, 0, none⟩) n c) l) ∧ Hid (Below w.heap.size w wr)) (fun wr => l.length - cellN wr B8 1)
        case atStart => exact ⟨j, Nat.le_refl _, HJ.out, rfl, HV1, HV2, HV3, HOW, HB⟩
        case round =>
          clear HV1 HV2 HV3 HOW HB
          obtain ⟨j2, hjj, hjl, HD, HV1, HV2, HV3, HOW, HB⟩ := hrel
          have hi0 : (0 : Int) ≤ (j2 : Int) := Int.natCast_nonneg _
          have hi1 : (j2 : Int) ≤ 1048576 := by have := HN.out; omega
          obtain ⟨k0, k1, k2⟩ := HV1.out.cells
          obtain ⟨m0, m1, m2⟩ := HV3.out.cells
          obtain ⟨j3, hj3⟩ : ∃ j3, j3 = j2 + 1 := ⟨_, rfl⟩
          have HJ3 := Lib.hid hj3
          by_cases hlt : j3 < l.length
          · have hd2 : (j3 : Int) < (n : Int) := by have := HN.out; omega
            have hd : decide ((j3 : Int) < (n : Int)) = true := decide_eq_true hd2
            have hd3 : (0 : Int) ≤ (j3 : Int) := Int.natCast_nonneg _
            have hd4 : (j3 : Int) ≤ 1048576 := by have := HN.out; omega
            have hd5 : decide (j3 < n) = true := decide_eq_true (by omega)
            have hcell := HOW.out.cell hlt
            have hgq := upB_get (A := A) hlt
            have HVA := Lib.hid (fun (w' : World) => valley_spec l[j3] A w' (HZ.out _ (List.getElem_mem hlt)) hA0 hA1)
            have e1 : ((j2 : Int) + 1) = (j3 : Int) := by omega
            have HME := Lib.hid HV3.out.lastN
            clear hj3
            generalize l[j3] = s at *
            go_wp2_with fail
            refine (HVA.out _).mono ?_
            rintro e w3 ⟨rfl, hb2⟩
            have HV1 := Lib.hid (HV1.out.below hb2)
            have HV2 := Lib.hid (HV2.out.below hb2)
            have HV3 := Lib.hid (HV3.out.below hb2)
            have HOW := Lib.hid (HOW.out.below hb2)
            have HB := Lib.hid (HB.out.trans (hb2.mono HB.out.size))
            clear hb2
            clear k0 k1 k2 m0 m1 m2 hcell HVA hd hd2 hd3 hd5
            rw [← hgq]
            have hj3 := HJ3.out
            cases hq : upB l A j3 with
            | true =>
              obtain ⟨hq1, hq2⟩ := wideL_step hjl (by rw [← hj3]; exact hq)
              have hb3 := HV3.out.last ((j3 : Int))
              have HV3' := Lib.hid hb3
              obtain ⟨m0, m1, m2⟩ := HV3.out.cells
              have f0 := HV3.out.free 1
              have HV1 := Lib.hid (var_asideB (j := 1) (x := (j3 : Int)) HV1.out (show w.heap.size ≠ B8 by have := HB8.out; omega))
              have HV2 := Lib.hid (HV2.out.other (j := 1) (u := .int .i64 ((j3 : Int))) (show w.heap.size + 1 ≠ B8 by have := HB8.out; omega))
              have HOW := Lib.hid (own_asideB (j := 1) (q := (j3 : Int)) HOW.out HV3.out)
              have HB := Lib.hid (HB.out.setCell (p := ⟨B8, 1, none⟩) (by have := HB8.out; show w.heap.size ≤ B8; omega) (.int .i64 ((j3 : Int))))
              have HMN := Lib.hid hb3.lastN
              clear hb3
              have HD2 := Lib.hid (show wideL l A j3 = wideL l A j by rw [hj3, ← hq1]; exact HD.out)
              clear hq hq1 hgq hj3
              go_wp2_with fail
              refine ⟨⟨j3, by have := HJ3.out; omega, hlt, HD2, HV1, HV2, HV3', HOW, HB⟩, ?_⟩
              refine lt_via (congrArg (fun x => l.length - x) HMN.out) (congrArg (fun x => l.length - x) HME.out) ?_
              have := HJ3.out
              show l.length - (j3 : Int).toNat < l.length - (j2 : Int).toNat
              omega
            | false =>
              have HLI := Lib.hid (show j2 = wideL l A j by rw [← HD.out, wideL_stop (by rw [← hj3]; exact hq)])
              clear hq hgq hj3
              have hx : ∃ Z, Z = setV w3 (w.heap.size + 1) (i : Int) (j2 : Int) A ∧ BVar Z (w.heap.size + 1) (i : Int) (j2 : Int) A ∧ Below w.heap.size w Z := ⟨_, rfl, HV2.out.setV _ _ _, below_setV HB.out (by omega)⟩
              obtain ⟨Z, hZ, hz1, hz2⟩ := hx
              unfold setV at hZ
              obtain ⟨m0, m1, m2⟩ := HV3.out.cells
              obtain ⟨p0, p1, p2⟩ := HV2.out.cells
              have f0 := HV2.out.free 0
              have f1 := HV2.out.free 1
              have f2 := HV2.out.free 2
              have HZZ := Lib.hid hZ
              have HZ1 := Lib.hid hz1
              have HZ2 := Lib.hid hz2
              clear hZ hz1 hz2
              go_wp2_with fail
              rw [← HZZ.out]
              clear HZZ p0 p1 p2 f0 f1 f2
              obtain ⟨z0, z1, z2⟩ := HZ1.out.cells
              refine bodyPost_ret (v := .tuple #[.agg #[.int .i64 (i : Int), .int .i64 (j2 : Int), .int .i64 A], .bool true]) (by simp [results, Try.results39, go_sem, z0, z1, z2]) rfl ?_
              unfold GaveBox
              rw [HE.out, HBX.out, ← HFI.out, ← HLI.out]
              exact ⟨rfl, HZ2.out⟩
          · have hd : decide ((j2 : Int) + 1 < (n : Int)) = false := decide_eq_false (by have := HN.out; omega)
            have hd1 : decide (j2 + 1 < n) = false := decide_eq_false (by have := HN.out; omega)
            have HLI := Lib.hid (show j2 = wideL l A j by rw [← HD.out, wideL_stop (upB_out (by omega))])
            clear hlt hj3 HJ3
            have hx : ∃ Z, Z = setV wr (w.heap.size + 1) (i : Int) (j2 : Int) A ∧ BVar Z (w.heap.size + 1) (i : Int) (j2 : Int) A ∧ Below w.heap.size w Z := ⟨_, rfl, HV2.out.setV _ _ _, below_setV HB.out (by omega)⟩
            obtain ⟨Z, hZ, hz1, hz2⟩ := hx
            unfold setV at hZ
            obtain ⟨m0, m1, m2⟩ := HV3.out.cells
            obtain ⟨p0, p1, p2⟩ := HV2.out.cells
            have f0 := HV2.out.free 0
            have f1 := HV2.out.free 1
            have f2 := HV2.out.free 2
            have HZZ := Lib.hid hZ
            have HZ1 := Lib.hid hz1
            have HZ2 := Lib.hid hz2
            clear hZ hz1 hz2
            go_wp2_with fail
            rw [← HZZ.out]
            clear HZZ p0 p1 p2 f0 f1 f2
            obtain ⟨z0, z1, z2⟩ := HZ1.out.cells
            refine bodyPost_ret (v := .tuple #[.agg #[.int .i64 (i : Int), .int .i64 (j2 : Int), .int .i64 A], .bool true]) (by simp [results, Try.results39, go_sem, z0, z1, z2]) rfl ?_
            unfold GaveBox
            rw [HE.out, HBX.out, ← HFI.out, ← HLI.out]
            exact ⟨rfl, HZ2.out⟩
end Go.Proofs.Ytekmladindlmoaa.Box
