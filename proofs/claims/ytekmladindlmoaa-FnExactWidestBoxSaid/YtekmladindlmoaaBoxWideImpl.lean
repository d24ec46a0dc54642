/- What the program's WidestBox returns. -/
import Derived.Test.YtekmladindlmoaaBoxWide
import Derived.Test.YtekmladindlmoaaBoxWith
namespace Go.Proofs.Ytekmladindlmoaa.Box
open Go.ChangeShapes Go.WideShapes Go.ChangeAt Go.RowKit Go.Sort
open Go.Proofs.Ytekmladindlmoaa.Strip Go.Proofs.Ytekmladindlmoaa.Strs Go.Proofs.Ytekmladindlmoaa.Card Go.Proofs.Ytekmladindlmoaa.Corner Go.Proofs.Ytekmladindlmoaa.Kerf Go.Proofs.Ytekmladindlmoaa.Order Go.Proofs.Ytekmladindlmoaa.Flip
set_option linter.unusedVariables false

/-- The two blocks of a card that is handed over and of the box that is returned. -/
theorem beginCR (w : World) (d f : Int) (v : Value) : ∃ W, W = (w.alloc (.cells #[.int .i64 d, .int .i64 f, v] 26)).alloc (.cells #[.int .i64 0, .int .i64 0, .int .i64 0] 39) ∧ Var W w.heap.size d f v ∧ BVar W (w.heap.size + 1) 0 0 0 ∧ Below w.heap.size w W ∧ W.heap.size = w.heap.size + 2 := beginCB w d f v 0 0 0

def GaveBox (w : World) (r : Int × Int × Int) (ok : Bool) (e : Ending) (w' : World) : Prop :=
  e = .returned (.tuple #[.agg #[.int .i64 r.1, .int .i64 r.2.1, .int .i64 r.2.2], .bool ok]) ∧ Below w.heap.size w w'
/-- The three cells of a box's variable are written. -/
def setV (w : World) (b : Nat) (x y z : Int) : World := ((w.setCell ⟨b, 0, none⟩ (.int .i64 x)).setCell ⟨b, 1, none⟩ (.int .i64 y)).setCell ⟨b, 2, none⟩ (.int .i64 z)
theorem BVar.setV {w : World} {b : Nat} {x0 y0 z0 : Int} (h : BVar w b x0 y0 z0) (x y z : Int) : BVar (setV w b x y z) b x y z := by
  have h1 := heap_set_at _ _ 0 _ _ _ (.int .i64 x) h
  have h2 := heap_set_at _ _ 1 _ _ _ (.int .i64 y) h1
  have h3 := heap_set_at _ _ 2 _ _ _ (.int .i64 z) h2
  exact h3.trans (by simp)
theorem below_setV {B b : Nat} {w0 w : World} {x y z : Int} (h : Below B w0 w) (hb : B ≤ b) : Below B w0 (setV w b x y z) := ((h.setCell (p := ⟨b, 0, none⟩) hb _).setCell (p := ⟨b, 1, none⟩) hb _).setCell (p := ⟨b, 2, none⟩) hb _
theorem BVar.first {w : World} {b : Nat} {x0 y z : Int} (h : BVar w b x0 y z) (x : Int) : BVar (w.setCell ⟨b, 0, none⟩ (.int .i64 x)) b x y z := (heap_set_at _ _ 0 _ _ _ (.int .i64 x) h).trans (by simp)
theorem BVar.last {w : World} {b : Nat} {x y0 z : Int} (h : BVar w b x y0 z) (y : Int) : BVar (w.setCell ⟨b, 1, none⟩ (.int .i64 y)) b x y z := (heap_set_at _ _ 1 _ _ _ (.int .i64 y) h).trans (by simp)
theorem var_asideB {w : World} {b c j : Nat} {d f x : Int} {v : Value} (h : Var w b d f v) (hne : b ≠ c) : Var (w.setCell ⟨c, j, none⟩ (.int .i64 x)) b d f v := h.grown (grown_set w c j _) (by simpa using hne)
theorem own_asideB {w : World} {base b j : Nat} {v : Value} {x y z q : Int} {l : List ByteArray} (h : Own w base v l) (hv : BVar w b x y z) : Own (w.setCell ⟨b, j, none⟩ (.int .i64 q)) base v l :=
  World.ownsRow.kept h (grown_set w b j _) (.inr (ne_bvar h hv))

/-- What the loops lead down and up. -/
def cellN (w : World) (b j : Nat) : Nat := match w.cell? ⟨b, j, none⟩ with
  | some (.int _ x) => x.toNat
  | _ => 0
theorem lt_via {a b c d : Nat} (h1 : a = b) (h2 : c = d) (h : b < d) : a < c := by omega
theorem BVar.firstN {w : World} {b : Nat} {x y z : Int} (h : BVar w b x y z) : cellN w b 0 = x.toNat := by unfold cellN; rw [h.cells.1]
theorem BVar.lastN {w : World} {b : Nat} {x y z : Int} (h : BVar w b x y z) : cellN w b 1 = y.toNat := by unfold cellN; rw [h.cells.2.1]

set_option maxRecDepth 100000 in
set_option maxHeartbeats 2000000 in
theorem wide_impl (d f : Int) (k A : Int) (base n c : Nat) (a : Option Addr) (l : List ByteArray) (w : World) (hn : n ≤ 1048576) (h : Own w base (.slice a n c) l) (hz : ∀ s ∈ l, s.size ≤ 1048576) (hA0 : -9223372036854775808 ≤ A) (hA1 : A ≤ 9223372036854775807) :
    Calls Try.prog 18 #[.agg #[.int .i64 d, .int .i64 f, .slice a n c], .int .i64 k, .int .i64 A] w (GaveBox w (wideB d f l k A) (boxB 100 d f l k k A)) := by
  obtain ⟨W, hW, hv1, hv2, hb, hs0⟩ := beginCR w d f (.slice a n c)
  have hoW : Own W base (.slice a n c) l := by rw [hW]; exact (h.below (alloc_below _ _)).below (alloc_below _ _)
  have HN := Lib.hid h.row2.1
  have HS := Lib.hid hs0
  have HW := Lib.hid hW
  have HCA := Lib.hid (fun (F L : Int) (w' : World) (h : Own w' base (.slice a n c) l) => canAdd_impl d f F L A base n c a l w' hn h hz hA0 hA1)
  have hb2 := alloc_below W (.cells #[.int .i64 k, .int .i64 k, .int .i64 A] 39)
  have hv3 := BVar.new W k k A
  have HA1 := Lib.hid (hv1.below hb2)
  have HA2 := Lib.hid (hv2.below hb2)
  have HAO := Lib.hid (hoW.below hb2)
  have HAB := Lib.hid (hb.trans (hb2.mono hb.size))
  obtain ⟨k0, k1, k2⟩ := HA1.out.cells
  obtain ⟨m0, m1, m2⟩ := hv3.cells
  rw [hs0] at hv3
  have HA3 := Lib.hid hv3
  clear hv1 hv2 hb hs0 hz hW hoW h hb2 hv3
  go_enter Try.func18, Try.ntmps18
  go_wp2_with fail
  rw [← HW.out]
  clear HW
  go_wp2_with fail
  refine (HCA.out k k _ HAO.out).mono ?_
  rintro e w1 ⟨rfl, hb1⟩
  have HV1 := Lib.hid (HA1.out.below hb1)
  have HV2 := Lib.hid (HA2.out.below hb1)
  have HV3 := Lib.hid (HA3.out.below hb1)
  have HOW := Lib.hid (HAO.out.below hb1)
  have HB := Lib.hid (HAB.out.trans (hb1.mono HAB.out.size))
  clear hb1 k0 k1 k2 m0 m1 m2 HA1 HA2 HA3 HAO HAB
  cases hbx : boxB 100 d f l k k A with
  | false =>
    have HBX := Lib.hid hbx
    have HE := Lib.hid (show wideB d f l k A = (0, 0, 0) by unfold wideB; rw [hbx]; rfl)
    have hx : ∃ Z, Z = setV w1 (w.heap.size + 1) 0 0 0 ∧ BVar Z (w.heap.size + 1) 0 0 0 ∧ Below w.heap.size w Z := ⟨_, rfl, HV2.out.setV _ _ _, below_setV HB.out (by omega)⟩
    obtain ⟨Z, hZ, hz1, hz2⟩ := hx
    unfold setV at hZ
    obtain ⟨p0, p1, p2⟩ := HV2.out.cells
    have f0 := HV2.out.free 0
    have f1 := HV2.out.free 1
    have f2 := HV2.out.free 2
    have HZZ := Lib.hid hZ
    have HZ1 := Lib.hid hz1
    have HZ2 := Lib.hid hz2
    clear hZ hz1 hz2 hbx
    go_wp2_with fail
    rw [← HZZ.out]
    clear HZZ p0 p1 p2 f0 f1 f2
    obtain ⟨z0, z1, z2⟩ := HZ1.out.cells
    refine bodyPost_ret (v := .tuple #[.agg #[.int .i64 0, .int .i64 0, .int .i64 0], .bool false]) (by simp [results, Try.results18, go_sem, z0, z1, z2]) rfl ?_
    unfold GaveBox
    rw [HE.out, HBX.out]
    exact ⟨rfl, HZ2.out⟩
  | true =>
    have he : wideB d f l k A = ((wideF l A k.toNat : Int), (wideL l A k.toNat : Int), A) := by unfold wideB; rw [if_pos hbx]
    obtain ⟨j, rfl, hj, hc, hup⟩ := box_single hbx
    rw [Int.toNat_natCast] at he
    have HE := Lib.hid he
    have hjn : j ≤ 1048576 := by have := HN.out; omega
    have HJ := Lib.hid hj
    have HFR := Lib.hid (fun (i j : Nat) (h1 : i ≤ j) h2 => box_front (d := d) (f := f) (l := l) (i := i) (j := j) (A := A) hc h1 h2)
    have HBE := Lib.hid (fun (i j : Nat) (h1 : i ≤ j) h2 => box_behind (d := d) (f := f) (l := l) (i := i) (j := j) (A := A) hc h1 h2)
    have HUP := Lib.hid hup
    have HC := Lib.hid hc
    have HBX := Lib.hid hbx
    clear he hbx hj hc hup
    have HALL0 := Lib.hid (show ∀ m, j ≤ m → m ≤ j → upB l A m = true from fun m h1 h2 => by
      have e : m = j := by omega
      rw [e]; exact HUP.out)
    go_wp2_with fail
    go_loopw [] (fun wr => ∃ i : Nat, i ≤ j ∧ Hid (downTo (upB l A) i = wideF l A j) ∧ Hid (∀ m, i ≤ m → m ≤ j → upB l A m = true) ∧ Hid (Var wr w.heap.size d f (.slice a n c)) ∧ Hid (BVar wr (w.heap.size + 1) 0 0 0) ∧ Hid (BVar wr (w.heap.size + 2) (i : Int) (j : Int) A) ∧ Hid (Own wr base (.slice a n c) l) ∧ Hid (Below w.heap.size w wr)) (fun wr => cellN wr (w.heap.size + 2) 0)
    case atStart => exact ⟨j, Nat.le_refl _, rfl, HALL0, HV1, HV2, HV3, HOW, HB⟩
    case round =>
      clear HV1 HV2 HV3 HOW HB
      obtain ⟨i, hij, HD, HALL, HV1, HV2, HV3, HOW, HB⟩ := hrel
      have hi0 : (0 : Int) ≤ (i : Int) := Int.natCast_nonneg _
      have hi1 : (i : Int) ≤ 1048576 := by omega
      have hfr := HFR.out i j hij HALL.out
      obtain ⟨k0, k1, k2⟩ := HV1.out.cells
      obtain ⟨m0, m1, m2⟩ := HV3.out.cells
      go_wp2_with fail
      refine (HCA.out _ _ _ HOW.out).mono ?_
      rintro e w2 ⟨rfl, hb2⟩
      have hme := HV3.out.firstN
      have HV1 := Lib.hid (HV1.out.below hb2)
      have HV2 := Lib.hid (HV2.out.below hb2)
      have HV3 := Lib.hid (HV3.out.below hb2)
      have HOW := Lib.hid (HOW.out.below hb2)
      have HB := Lib.hid (HB.out.trans (hb2.mono HB.out.size))
      clear hb2 k0 k1 k2 m0 m1 m2
      rw [hfr]
      cases hq : (decide (0 < i) && upB l A (i - 1)) with
      | true =>
        rw [Bool.and_eq_true, decide_eq_true_eq] at hq
        obtain ⟨hq1, hq2⟩ := hq
        have e1 : ((i : Int) - 1) = ((i - 1 : Nat) : Int) := by omega
        have hb3 := HV3.out.first ((i - 1 : Nat) : Int)
        have HV3' := Lib.hid hb3
        obtain ⟨m0, m1, m2⟩ := HV3.out.cells
        have f0 := HV3.out.free 0
        have HV1 := Lib.hid (var_asideB (j := 0) (x := ((i - 1 : Nat) : Int)) HV1.out (show w.heap.size ≠ w.heap.size + 2 by omega))
        have HV2 := Lib.hid (HV2.out.other (j := 0) (u := .int .i64 ((i - 1 : Nat) : Int)) (show w.heap.size + 1 ≠ w.heap.size + 2 by omega))
        have HOW := Lib.hid (own_asideB (j := 0) (q := ((i - 1 : Nat) : Int)) HOW.out HV3.out)
        have HB := Lib.hid (HB.out.setCell (p := ⟨w.heap.size + 2, 0, none⟩) (by simp) (.int .i64 ((i - 1 : Nat) : Int)))
        have HMN := Lib.hid hb3.firstN
        have HD2 := Lib.hid (show downTo (upB l A) (i - 1) = wideF l A j by rw [← HD.out, downTo_step hq1 hq2])
        have HALL2 := Lib.hid (show ∀ m, i - 1 ≤ m → m ≤ j → upB l A m = true from fun m h1 h2 => by
          by_cases e : m = i - 1
          · rw [e]; exact hq2
          · exact HALL.out m (by omega) h2)
        have HME := Lib.hid hme
        clear hb3 hfr hme hq2
        go_wp2_with fail
        exact ⟨⟨i - 1, by omega, HD2, HALL2, HV1, HV2, HV3', HOW, HB⟩, lt_via HMN.out HME.out (show (((i - 1 : Nat) : Int)).toNat < ((i : Nat) : Int).toNat by omega)⟩
      | false =>
        clear hfr
        have hst : i = 0 ∨ upB l A (i - 1) = false := by
          rcases Nat.eq_zero_or_pos i with e | e
          · exact .inl e
          · right; rw [decide_eq_true e] at hq; simpa using hq
        have HFI := Lib.hid (show i = wideF l A j by rw [← HD.out, downTo_stop hst])
        clear hq hst hme HD
        go_wp2_with fail
        go_loopw [] (fun wr => ∃ j2 : Nat, j ≤ j2 ∧ j2 < l.length ∧ Hid (wideL l A j2 = wideL l A j) ∧ Hid (∀ m, i ≤ m → m ≤ j2 → upB l A m = true) ∧ Hid (Var wr w.heap.size d f (.slice a n c)) ∧ Hid (BVar wr (w.heap.size + 1) 0 0 0) ∧ Hid (BVar wr (w.heap.size + 2) (i : Int) (j2 : Int) A) ∧ Hid (Own wr base (.slice a n c) l) ∧ Hid (Below w.heap.size w wr)) (fun wr => l.length - cellN wr (w.heap.size + 2) 1)
        case atStart => exact ⟨j, Nat.le_refl _, HJ.out, rfl, HALL, HV1, HV2, HV3, HOW, HB⟩
        case round =>
          clear HV1 HV2 HV3 HOW HB HALL
          obtain ⟨j2, hjj, hjl, HD, HALL, HV1, HV2, HV3, HOW, HB⟩ := hrel
          have hi0 : (0 : Int) ≤ (j2 : Int) := Int.natCast_nonneg _
          have hi1 : (j2 : Int) ≤ 1048576 := by have := HN.out; omega
          have hfr := HBE.out i j2 (by omega) HALL.out
          obtain ⟨k0, k1, k2⟩ := HV1.out.cells
          obtain ⟨m0, m1, m2⟩ := HV3.out.cells
          go_wp2_with fail
          refine (HCA.out _ _ _ HOW.out).mono ?_
          rintro e w3 ⟨rfl, hb2⟩
          have hme := HV3.out.lastN
          have HV1 := Lib.hid (HV1.out.below hb2)
          have HV2 := Lib.hid (HV2.out.below hb2)
          have HV3 := Lib.hid (HV3.out.below hb2)
          have HOW := Lib.hid (HOW.out.below hb2)
          have HB := Lib.hid (HB.out.trans (hb2.mono HB.out.size))
          clear hb2 k0 k1 k2 m0 m1 m2
          rw [hfr]
          cases hq : upB l A (j2 + 1) with
          | true =>
            obtain ⟨hq1, hq2⟩ := wideL_step hjl hq
            have hb3 := HV3.out.last ((j2 : Int) + 1)
            have HV3' := Lib.hid hb3
            obtain ⟨m0, m1, m2⟩ := HV3.out.cells
            have f0 := HV3.out.free 1
            have HV1 := Lib.hid (var_asideB (j := 1) (x := (j2 : Int) + 1) HV1.out (show w.heap.size ≠ w.heap.size + 2 by omega))
            have HV2 := Lib.hid (HV2.out.other (j := 1) (u := .int .i64 ((j2 : Int) + 1)) (show w.heap.size + 1 ≠ w.heap.size + 2 by omega))
            have HOW := Lib.hid (own_asideB (j := 1) (q := (j2 : Int) + 1) HOW.out HV3.out)
            have HB := Lib.hid (HB.out.setCell (p := ⟨w.heap.size + 2, 1, none⟩) (by simp) (.int .i64 ((j2 : Int) + 1)))
            have HMN := Lib.hid hb3.lastN
            have HD2 := Lib.hid (show wideL l A (j2 + 1) = wideL l A j by rw [← hq1]; exact HD.out)
            have HALL2 := Lib.hid (show ∀ m, i ≤ m → m ≤ j2 + 1 → upB l A m = true from fun m h1 h2 => by
              by_cases e : m = j2 + 1
              · rw [e]; exact hq
              · exact HALL.out m h1 (by omega))
            have HME := Lib.hid hme
            clear hb3 hfr hme hq hq1
            go_wp2_with fail
            refine ⟨⟨j2 + 1, by omega, hq2, HD2, HALL2, HV1, HV2, HV3', HOW, HB⟩, ?_⟩
            refine lt_via (congrArg (fun x => l.length - x) HMN.out) (congrArg (fun x => l.length - x) HME.out) ?_
            show l.length - ((j2 : Int) + 1).toNat < l.length - (j2 : Int).toNat
            omega
          | false =>
            have HLI := Lib.hid (show j2 = wideL l A j by rw [← HD.out, wideL_stop hq])
            clear hfr hq hme
            have hx : ∃ Z, Z = setV w3 (w.heap.size + 1) (i : Int) (j2 : Int) A ∧ BVar Z (w.heap.size + 1) (i : Int) (j2 : Int) A ∧ Below w.heap.size w Z := ⟨_, rfl, HV2.out.setV _ _ _, below_setV HB.out (by omega)⟩
            obtain ⟨Z, hZ, hz1, hz2⟩ := hx
            unfold setV at hZ
            obtain ⟨m0, m1, m2⟩ := HV3.out.cells
            obtain ⟨p0, p1, p2⟩ := HV2.out.cells
            have f0 := HV2.out.free 0
            have f1 := HV2.out.free 1
            have f2 := HV2.out.free 2
            have HZZ := Lib.hid hZ
            have HZ1 := Lib.hid hz1
            have HZ2 := Lib.hid hz2
            clear hZ hz1 hz2
            go_wp2_with fail
            rw [← HZZ.out]
            clear HZZ p0 p1 p2 f0 f1 f2
            obtain ⟨z0, z1, z2⟩ := HZ1.out.cells
            refine bodyPost_ret (v := .tuple #[.agg #[.int .i64 (i : Int), .int .i64 (j2 : Int), .int .i64 A], .bool true]) (by simp [results, Try.results18, go_sem, z0, z1, z2]) rfl ?_
            unfold GaveBox
            rw [HE.out, HBX.out, ← HFI.out, ← HLI.out]
            exact ⟨rfl, HZ2.out⟩
end Go.Proofs.Ytekmladindlmoaa.Box
