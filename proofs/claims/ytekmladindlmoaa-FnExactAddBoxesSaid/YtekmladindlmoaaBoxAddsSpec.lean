/- What the model's AddBoxes returns (printed by wip/gen_boxadds.py out of the program's). -/
import Derived.Test.YtekmladindlmoaaBoxAdds
import Derived.Test.YtekmladindlmoaaBoxSpec2
import Derived.Deep.DeepCutAuto
namespace Go.Proofs.Ytekmladindlmoaa.Box
open Go.ChangeShapes Go.WideShapes Go.ChangeAt Go.RowKit Go.Sort
open Go.Proofs.Ytekmladindlmoaa.Strip Go.Proofs.Ytekmladindlmoaa.Strs Go.Proofs.Ytekmladindlmoaa.Card Go.Proofs.Ytekmladindlmoaa.Corner Go.Proofs.Ytekmladindlmoaa.Kerf Go.Proofs.Ytekmladindlmoaa.Order Go.Proofs.Ytekmladindlmoaa.Flip
set_option linter.unusedVariables false

section
variable {w0 w' : World} {p1 p2 p3 p4 p5 p6 : Addr} {u1 u2 u3 u4 u5 u6 : Value}
/-- What stood in a world stands in every world that leaves it alone. -/
theorem six_of (h : w0.cell? p1 = some u1 ∧ w0.cell? p2 = some u2 ∧ w0.cell? p3 = some u3 ∧ w0.cell? p4 = some u4 ∧ w0.cell? p5 = some u5 ∧ w0.cell? p6 = some u6 ∧ Below w0.heap.size w0 w0) (hb : Below w0.heap.size w0 w') :
    w'.cell? p1 = some u1 ∧ w'.cell? p2 = some u2 ∧ w'.cell? p3 = some u3 ∧ w'.cell? p4 = some u4 ∧ w'.cell? p5 = some u5 ∧ w'.cell? p6 = some u6 ∧ Below w0.heap.size w0 w' := by
  obtain ⟨h1, h2, h3, h4, h5, h6, h7⟩ := h
  have k : ∀ {p : Addr} {u : Value}, w0.cell? p = some u → w'.cell? p = some u := fun {p u} e => (hb.cell (p := p) (World.block_lt_of_cell? _ _ e)).trans e
  exact ⟨k h1, k h2, k h3, k h4, k h5, k h6, hb⟩
end

set_option maxRecDepth 100000 in
set_option maxHeartbeats 8000000 in
theorem adds_spec (d f : Int) (base n c : Nat) (a : Option Addr) (l : List ByteArray) (ab : Option Addr) (nb cb : Nat) (bs : List B3) (w : World) (hn : n ≤ 1048576) (h : Own w base (.slice a n c) l) (hz : ∀ s ∈ l, s.size ≤ 1048576) (hnb : bs.length = nb) (hnb1 : nb ≤ 1048576) (hbr : BRow w ab bs) (hfit : ∀ b ∈ bs, Fits b) :
    Calls Try.prog 33 #[.agg #[.int .i64 d, .int .i64 f, .slice a n c], .slice ab nb cb] w (Gave3 w d f (addsL d f l bs) (addsN d f l bs)) := by
  obtain ⟨W, hW, hv1, hv2, hb, hs0⟩ := begin2 w d f (.slice a n c)
  have hoW : Own W base (.slice a n c) l := by rw [hW]; exact (h.below (alloc_below _ _)).below (alloc_below _ _)
  have HN := Lib.hid h.row2.1
  have HOW := Lib.hid hoW
  have HV1 := Lib.hid hv1
  have HV2 := Lib.hid hv2
  have HB := Lib.hid hb
  have HS := Lib.hid hs0
  have HZ := Lib.hid hz
  have HW := Lib.hid hW
  have HBR := Lib.hid hbr
  have HFIT := Lib.hid hfit
  have HNB := Lib.hid hnb
  clear hv1 hv2 hb hs0 hz hW hoW h hbr hfit hnb
  go_enter Try.func33, Try.ntmps33
  go_wp2_with fail
  rw [← HW.out]
  clear HW
  obtain ⟨k0, k1, k2⟩ := HV1.out.cells
  go_wp2_with fail
  refine (copy_spec d f base n c a l _ hn HOW.out).mono ?_
  rintro e w1 ⟨a2, c2, rfl, hb1, ho1⟩
  have HV1 := Lib.hid (HV1.out.below hb1)
  have HV2 := Lib.hid (HV2.out.below hb1)
  have HOW := Lib.hid (HOW.out.below hb1)
  have HB1 := Lib.hid (HB.out.trans (hb1.mono HB.out.size))
  have HO1 := Lib.hid (ho1.mono (base2 := w.heap.size) HB.out.size)
  have hs1 : w.heap.size + 2 ≤ w1.heap.size := by have := hb1.size; have := HS.out; omega
  clear hb1 k0 k1 k2 HB ho1
  have hv0 := Var.new w1 d f (.slice a2 l.length c2)
  have hb := alloc_below w1 (.cells #[.int .i64 d, .int .i64 f, .slice a2 l.length c2] 26)
  have HV1 := Lib.hid (HV1.out.below hb)
  have HV2 := Lib.hid (HV2.out.below hb)
  have HO1 := Lib.hid (HO1.out.below hb)
  have HOW := Lib.hid (HOW.out.below hb)
  have HB1 := Lib.hid (HB1.out.trans (hb.mono HB1.out.size))
  have HV4 := Lib.hid hv0
  clear hv0 hb
  obtain ⟨k0, k1, k2⟩ := HV1.out.cells
  go_wp2_with fail
  clear k0 k1 k2
  generalize (w1.alloc (.cells #[.int .i64 d, .int .i64 f, .slice a2 l.length c2] 26)) = w2 at *
  generalize w1.heap.size = B4 at *
  refine (ok_spec d f a n c l _ HN.out.symm hn HZ.out HOW.out.row2.2).mono ?_
  rintro e w3 ⟨rfl, hb3⟩
  have HV2 := Lib.hid (HV2.out.below hb3)
  have HV4 := Lib.hid (HV4.out.below hb3)
  have HO3 := Lib.hid (HO1.out.below hb3)
  have HB3 := Lib.hid (HB1.out.trans (hb3.mono HB1.out.size))
  clear hb3 HO1 HB1 HV1 HOW
  cases hcard : cardB d f l with
  | false =>
    have HEL := Lib.hid (show addsL d f l bs = l by unfold addsL; rw [hcard]; rfl)
    have HEN := Lib.hid (show addsN d f l bs = -1 by unfold addsN; rw [hcard]; rfl)
    obtain ⟨g0, g1, g2⟩ := HV4.out.cells
    have hx : ∃ Z, Z = Card.set3 w3 (w.heap.size + 1) d f (.slice a2 l.length c2) ∧ Var Z (w.heap.size + 1) d f (.slice a2 l.length c2) ∧ Below w.heap.size w Z ∧ Own Z w.heap.size (.slice a2 l.length c2) l := ⟨_, rfl, gave_last HB3.out HV2.out (by omega) HO3.out (Nat.le_refl _)⟩
    obtain ⟨Z, hZ, hz1, hz2, hz3⟩ := hx
    unfold set3 at hZ
    obtain ⟨p0, p1, p2⟩ := HV2.out.cells
    have f0 := HV2.out.free 0
    have f1 := HV2.out.free 1
    have f2 := HV2.out.free 2
    have HZZ := Lib.hid hZ
    have HZ1 := Lib.hid hz1
    have HZ2 := Lib.hid hz2
    have HZ3 := Lib.hid hz3
    clear hZ hz1 hz2 hz3 hcard
    go_wp2_with fail
    clear g0 g1 g2
    rw [← HZZ.out]
    clear HZZ p0 p1 p2 f0 f1 f2
    obtain ⟨z0, z1, z2⟩ := HZ1.out.cells
    refine bodyPost_ret (v := .tuple #[.agg #[.int .i64 d, .int .i64 f, .slice a2 l.length c2], .int .i64 (-1)]) (by simp [results, Try.results33, go_sem, z0, z1, z2]) rfl ?_
    rw [HEL.out, HEN.out]
    exact ⟨_, c2, rfl, HZ2.out, HZ3.out⟩
  | true =>
    have HEL := Lib.hid (show addsL d f l bs = (adds d f l bs).1 by unfold addsL; rw [hcard]; rfl)
    have HEN := Lib.hid (show addsN d f l bs = ((adds d f l bs).2 : Int) by unfold addsN; rw [hcard]; rfl)
    clear hcard
    have HLEN := Lib.hid (adds_length d f l bs)
    have HSZ := Lib.hid (adds_sizes d f l bs 1048576 HZ.out)
    have HCNT := Lib.hid (adds_count d f l bs)
    have hln : l.length ≤ 1048576 := by rw [← HN.out]; exact hn
    have HB4 := Lib.hid (show w.heap.size + 2 ≤ B4 by omega)
    clear hs1
    go_wp2_with fail
    go_loopw [7, 8] (fun q i wr => ∃ (k : Nat) (a2 : Option Addr) (c2 : Nat), k ≤ nb ∧ i = .int .i64 (k : Int) ∧ q = .int .i64 ((adds d f l (bs.take k)).2 : Int) ∧ Hid (Var wr (w.heap.size + 1) 0 0 (.slice none 0 0)) ∧ Hid (Var wr B4 d f (.slice a2 l.length c2)) ∧ Hid (Own wr w.heap.size (.slice a2 l.length c2) (adds d f l (bs.take k)).1) ∧ Hid (Below w.heap.size w wr)) (fun _ i _ => nb - (intOf i).toNat)
    case atStart => exact ⟨0, a2, c2, Nat.zero_le _, rfl, by rw [List.take_zero, adds_nil]; rfl, HV2, HV4, by rw [List.take_zero, adds_nil]; exact HO3, HB3⟩
    case round =>
      clear HV2 HV4 HO3 HB3
      obtain ⟨k, a2, c2, hk, rfl, rfl, HV2, HV4, HO, HB⟩ := hrel
      by_cases hlt : k < nb
      · have hkb : k < bs.length := by rw [HNB.out]; exact hlt
        have hk0 : (0 : Int) ≤ (k : Int) := Int.natCast_nonneg _
        have hk1 : (k : Int) < (nb : Int) := by omega
        have HTK := Lib.hid (adds_take d f l bs k hkb)
        have hle := HLEN.out k (by omega)
        have hsz := HSZ.out k (by omega)
        have hcnt := HCNT.out k (by omega)
        have hfit := HFIT.out _ (List.getElem_mem hkb)
        obtain ⟨gb, rfl, hgb, c0, c1, c2'⟩ := (HBR.out.below HB.out) k hkb
        generalize bs[k] = b at *
        obtain ⟨b0, b1, b2⟩ := b
        generalize adds d f l (bs.take k) = s at *
        obtain ⟨l2, q⟩ := s
        have HYES := Lib.hid (addStep_yes (d := d) (f := f) (s := (l2, q)) (b := (b0, b1, b2)))
        have HNO := Lib.hid (addStep_no (d := d) (f := f) (s := (l2, q)) (b := (b0, b1, b2)))
        simp only at hle hsz hcnt c0 c1 c2' HO
        have HADD := Lib.hid (fun (w' : World) (h : Own w' w.heap.size (.slice a2 l.length c2) l2) => add_spec d f b0 b1 b2 w.heap.size l.length c2 a2 l2 w' hln h hsz hfit.1 hfit.2)
        have hbl := boxL_length 100 d f l2 b0 b1 b2
        rw [hle] at hbl
        obtain ⟨k0, k1, k2⟩ := HV4.out.cells
        have S0 : wr.cell? ⟨B4, 0, none⟩ = some (.int .i64 d) ∧ wr.cell? ⟨B4, 1, none⟩ = some (.int .i64 f) ∧ wr.cell? ⟨B4, 2, none⟩ = some (.slice a2 l.length c2) ∧ wr.cell? ⟨gb, k * 3, none⟩ = some (.int .i64 b0) ∧ wr.cell? ⟨gb, k * 3 + 1, none⟩ = some (.int .i64 b1) ∧ wr.cell? ⟨gb, k * 3 + 2, none⟩ = some (.int .i64 b2) ∧ Below wr.heap.size wr wr := ⟨k0, k1, k2, c0, c1, c2', Below.refl _ _⟩
        have HOX := Lib.hid (fun (w' : World) (hb : Below wr.heap.size wr w') => HO.out.below hb)
        generalize boxL 100 d f l2 b0 b1 b2 = l3 at *
        generalize boxB 100 d f l2 b0 b1 b2 = ok at *
        have HML := Lib.hid (show l3.length = l.length from hbl)
        clear hbl
        go_upto_region 8 with (fail)
        go_cut [9, 10] from 17 to 35 (fun s9 s10 wx => ∃ (b9 : Nat) (aw : Option Addr) (cw : Nat), s9 = .pointer (some ⟨b9, 0, none⟩) ∧ s10 = .bool ok ∧ Hid (Var wx b9 d f (.slice aw l3.length cw)) ∧ Hid (Own wx wr.heap.size (.slice aw l3.length cw) l3) ∧ Hid (Below wr.heap.size wr wx))
        case first =>
          go_region_held3 (fun w' => w'.cell? ⟨B4, 0, none⟩ = some (.int .i64 d) ∧ w'.cell? ⟨B4, 1, none⟩ = some (.int .i64 f) ∧ w'.cell? ⟨B4, 2, none⟩ = some (.slice a2 l.length c2) ∧ w'.cell? ⟨gb, k * 3, none⟩ = some (.int .i64 b0) ∧ w'.cell? ⟨gb, k * 3 + 1, none⟩ = some (.int .i64 b1) ∧ w'.cell? ⟨gb, k * 3 + 2, none⟩ = some (.int .i64 b2) ∧ Below wr.heap.size wr w')
            (first | with_reducible exact S0 | with_reducible exact eqs_drew S0 | with_reducible exact eqs_next (by assumption) hb | with_reducible exact eqs_drew (by assumption) | with_reducible assumption | with_reducible exact eqs_next (by assumption) (alloc_below _ _) | with_reducible exact six_of S0 (HWZ.out.alloc HWZ.out.size _) | with_reducible exact six_of S0 (((HWZ.out.setCell (by first | exact HWZ.out.size | exact Nat.le_refl _ | (simp; done) | omega) _).setCell (by first | exact HWZ.out.size | exact Nat.le_refl _ | (simp; done) | omega) _).setCell (by first | exact HWZ.out.size | exact Nat.le_refl _ | (simp; done) | omega) _))
            ((go_at_call 28; refine (HADD.out _ (HOX.out _ (eqs_below (by assumption)))).mono ?_; rintro e wz ⟨aw, cw, rfl, hb, how⟩; have hbz : Below wr.heap.size wr wz := Below.trans (eqs_below (by assumption)) (hb.mono (Below.size (eqs_below (by assumption)))); have HWZ := Lib.hid hbz; have OW := Lib.hid (how.mono (base2 := wr.heap.size) (Below.size (eqs_below (by assumption)))); clear how; (first | (have HV := Lib.hid (HV.out.below hb)) | (have hv0 := Var.below (Var.new _ 0 0 (.slice none 0 0)) hb; have HV := Lib.hid hv0; clear hv0) | (have hv0 := Var.below (w := (wr.alloc (.cells #[.int .i64 0, .int .i64 0, .slice none 0 0] 26)).drew) (b := wr.heap.size) (Var.new wr 0 0 (.slice none 0 0)) hb; have HV := Lib.hid hv0; clear hv0) | skip); (first | (have hv_0 := HV.out.cells.1; have hv_1 := HV.out.cells.2.1; have hv_2 := HV.out.cells.2.2; have fv_0 := HV.out.free 0; have fv_1 := HV.out.free 1; have fv_2 := HV.out.free 2) | skip)))
          all_goals
            go_wp2_with fail
            go_meet
            refine ⟨_, aw, cw, rfl, rfl, ?_, ?_, ?_⟩
            · first | exact Lib.hid (Var.new wz d f (.slice aw l3.length cw)) | exact Lib.hid (HV.out.set3 d f (.slice aw l3.length cw))
            · first | exact Lib.hid (OW.out.below (alloc_below _ _)) | exact Lib.hid (Own.aside3 OW.out HV.out)
            · first | exact Lib.hid (HWZ.out.alloc HWZ.out.size _) | exact Lib.hid (below_set3 HWZ.out (by first | exact Nat.le_refl _ | (simp; done) | omega))
        case rest =>
          obtain ⟨b9, a3, c3, rfl, rfl, HV5, HO5, HWX⟩ := hcut
          have hb6 := HWX.out
          clear S0 k0 k1 k2 c0 c1 c2' HOX HADD
          generalize wc = w6 at *
          have HV2 := Lib.hid (HV2.out.below hb6)
          have HV4 := Lib.hid (HV4.out.below hb6)
          have HO := Lib.hid (HO.out.below hb6)
          have HO5 := Lib.hid (HO5.out.mono (base2 := w.heap.size) HB.out.size)
          have HB := Lib.hid (HB.out.trans (hb6.mono HB.out.size))
          clear hb6 HWX
          rw [HML.out] at HV5 HO5
          cases ok with
          | false =>
            have hno := HNO.out rfl
            rw [hno] at HTK
            clear HNO HYES hno HO5 HV5 HML
            go_wp2_with fail
            go_roundw
            case rel => exact ⟨k + 1, a2, c2, by omega, by go_num, by rw [HTK.out], HV2, HV4, by rw [HTK.out]; exact HO, HB⟩
            case measure => simp [intOf]; omega
          | true =>
            have hno := HYES.out rfl
            rw [hno] at HTK
            clear HNO HYES hno HO HML
            obtain ⟨k0, k1, k2⟩ := HV5.out.cells
            obtain ⟨p0, p1, p2⟩ := HV4.out.cells
            have f0 := HV4.out.free 0
            have f1 := HV4.out.free 1
            have f2 := HV4.out.free 2
            have hx : ∃ Z, Z = Card.set3 w6 B4 d f (.slice a3 l.length c3) ∧ Var Z B4 d f (.slice a3 l.length c3) ∧ Var Z (w.heap.size + 1) 0 0 (.slice none 0 0) ∧ Below w.heap.size w Z ∧ Own Z w.heap.size (.slice a3 l.length c3) l3 :=
              ⟨_, rfl, HV4.out.set3 _ _ _, HV2.out.other3 (by have := HB4.out; omega), below_set3 HB.out (by have := HB4.out; omega), Own.aside3 HO5.out HV4.out⟩
            obtain ⟨Z, hZ, hz1, hz2, hz3, hz4⟩ := hx
            unfold set3 at hZ
            have HZZ := Lib.hid hZ
            have HZ1 := Lib.hid hz1
            have HZ2 := Lib.hid hz2
            have HZ3 := Lib.hid hz3
            have HZ4 := Lib.hid hz4
            clear hZ hz1 hz2 hz3 hz4 HV2 HV4 HV5 HB
            go_wp2_with fail
            rw [← HZZ.out]
            clear HZZ k0 k1 k2 p0 p1 p2 f0 f1 f2 HO5
            go_roundw
            case rel => exact ⟨k + 1, a3, c3, by omega, by go_num, by rw [HTK.out]; simp, HZ2, HZ1, by rw [HTK.out]; exact HZ4, HZ3⟩
            case measure => simp [intOf]; omega
      · obtain rfl : k = nb := by omega
        have hfin : bs.take k = bs := by rw [← HNB.out]; exact List.take_length
        rw [hfin] at HO ⊢
        have hle : (adds d f l bs).1.length = l.length := by have := HLEN.out bs.length (Nat.le_refl _); rwa [List.take_length] at this
        clear hfin
        generalize adds d f l bs = s at *
        obtain ⟨l2, q⟩ := s
        simp only at HO hle HEL HEN ⊢
        have ho := HO.out
        have hv4 := HV4.out
        rw [← hle] at ho hv4
        have HO := Lib.hid ho
        have HV4 := Lib.hid hv4
        clear ho hv4 hle
        obtain ⟨g0, g1, g2⟩ := HV4.out.cells
        have hx : ∃ Z, Z = Card.set3 wr (w.heap.size + 1) d f (.slice a2 l2.length c2) ∧ Var Z (w.heap.size + 1) d f (.slice a2 l2.length c2) ∧ Below w.heap.size w Z ∧ Own Z w.heap.size (.slice a2 l2.length c2) l2 := ⟨_, rfl, gave_last HB.out HV2.out (by omega) HO.out (Nat.le_refl _)⟩
        obtain ⟨Z, hZ, hz1, hz2, hz3⟩ := hx
        unfold set3 at hZ
        obtain ⟨p0, p1, p2⟩ := HV2.out.cells
        have f0 := HV2.out.free 0
        have f1 := HV2.out.free 1
        have f2 := HV2.out.free 2
        have HZZ := Lib.hid hZ
        have HZ1 := Lib.hid hz1
        have HZ2 := Lib.hid hz2
        have HZ3 := Lib.hid hz3
        clear hZ hz1 hz2 hz3
        go_wp2_with fail
        clear g0 g1 g2
        rw [← HZZ.out]
        clear HZZ p0 p1 p2 f0 f1 f2
        obtain ⟨z0, z1, z2⟩ := HZ1.out.cells
        refine bodyPost_ret (v := .tuple #[.agg #[.int .i64 d, .int .i64 f, .slice a2 l2.length c2], .int .i64 (q : Int)]) (by simp [results, Try.results33, go_sem, z0, z1, z2]) rfl ?_
        rw [HEL.out, HEN.out]
        exact ⟨_, c2, rfl, HZ2.out, HZ3.out⟩
end Go.Proofs.Ytekmladindlmoaa.Box
