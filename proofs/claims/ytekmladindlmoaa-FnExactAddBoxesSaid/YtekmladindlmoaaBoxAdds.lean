/- Boxes that are added one after another: the mathematics; what the program's AddBoxes returns. -/
import Derived.Test.YtekmladindlmoaaBoxWith
import Derived.Test.YtekmladindlmoaaBoxRow
namespace Go.Proofs.Ytekmladindlmoaa.Box
open Go.ChangeShapes Go.WideShapes Go.ChangeAt Go.RowKit Go.Sort
open Go.Proofs.Ytekmladindlmoaa.Strip Go.Proofs.Ytekmladindlmoaa.Strs Go.Proofs.Ytekmladindlmoaa.Card Go.Proofs.Ytekmladindlmoaa.Corner Go.Proofs.Ytekmladindlmoaa.Kerf Go.Proofs.Ytekmladindlmoaa.Order Go.Proofs.Ytekmladindlmoaa.Flip
set_option linter.unusedVariables false

/-- One box more: the strips behind it, and how many were added. -/
def addStep (d f : Int) (s : List ByteArray × Nat) (b : B3) : List ByteArray × Nat := (boxL 100 d f s.1 b.1 b.2.1 b.2.2, if boxB 100 d f s.1 b.1 b.2.1 b.2.2 = true then s.2 + 1 else s.2)
def adds (d f : Int) (l : List ByteArray) (bs : List B3) : List ByteArray × Nat := bs.foldl (addStep d f) (l, 0)
theorem adds_nil (d f : Int) (l : List ByteArray) : adds d f l [] = (l, 0) := rfl
theorem adds_take (d f : Int) (l : List ByteArray) (bs : List B3) (k : Nat) (h : k < bs.length) : adds d f l (bs.take (k + 1)) = addStep d f (adds d f l (bs.take k)) bs[k] := by
  unfold adds
  rw [List.take_succ_eq_append_getElem h, List.foldl_append]; rfl
theorem addStep_len (d f : Int) (s : List ByteArray × Nat) (b : B3) : (addStep d f s b).1.length = s.1.length := boxL_length _ _ _ _ _ _ _
theorem adds_length (d f : Int) (l : List ByteArray) (bs : List B3) : ∀ k, k ≤ bs.length → (adds d f l (bs.take k)).1.length = l.length
  | 0, _ => by rw [List.take_zero, adds_nil]
  | k + 1, h => by rw [adds_take d f l bs k (by omega), addStep_len]; exact adds_length d f l bs k (by omega)
theorem adds_sizes (d f : Int) (l : List ByteArray) (bs : List B3) (M : Nat) (hz : ∀ s ∈ l, s.size ≤ M) : ∀ k, k ≤ bs.length → ∀ s ∈ (adds d f l (bs.take k)).1, s.size ≤ M
  | 0, _ => by rw [List.take_zero, adds_nil]; exact hz
  | k + 1, h => by
    rw [adds_take d f l bs k (by omega)]
    exact boxL_sizes _ _ _ _ _ _ _ _ (adds_sizes d f l bs M hz k (by omega))
theorem adds_count (d f : Int) (l : List ByteArray) (bs : List B3) : ∀ k, k ≤ bs.length → (adds d f l (bs.take k)).2 ≤ k
  | 0, _ => by rw [List.take_zero, adds_nil]; exact Nat.le_refl _
  | k + 1, h => by
    rw [adds_take d f l bs k (by omega)]
    have := adds_count d f l bs k (by omega)
    unfold addStep
    simp only
    split <;> omega
theorem addStep_yes {d f : Int} {s : List ByteArray × Nat} {b : B3} (h : boxB 100 d f s.1 b.1 b.2.1 b.2.2 = true) : addStep d f s b = (boxL 100 d f s.1 b.1 b.2.1 b.2.2, s.2 + 1) := by unfold addStep; rw [if_pos h]
theorem addStep_no {d f : Int} {s : List ByteArray × Nat} {b : B3} (h : boxB 100 d f s.1 b.1 b.2.1 b.2.2 = false) : addStep d f s b = s := by
  have e : boxL 100 d f s.1 b.1 b.2.1 b.2.2 = s.1 := by unfold boxL; rw [if_neg (by rw [h]; simp)]
  unfold addStep; rw [if_neg (by rw [h]; simp), e]
/-- What AddBoxes returns. -/
def addsL (d f : Int) (l : List ByteArray) (bs : List B3) : List ByteArray := if cardB d f l = true then (adds d f l bs).1 else l
def addsN (d f : Int) (l : List ByteArray) (bs : List B3) : Int := if cardB d f l = true then ((adds d f l bs).2 : Int) else -1
theorem addsL_length (d f : Int) (l : List ByteArray) (bs : List B3) : (addsL d f l bs).length = l.length := by
  unfold addsL; split
  · have := adds_length d f l bs bs.length (Nat.le_refl _)
    rwa [List.take_length] at this
  · rfl

/-- A box's numbers fit. -/
def Fits (b : B3) : Prop := -9223372036854775808 ≤ b.2.2 ∧ b.2.2 ≤ 9223372036854775807

/-- A card of memory of its own and a number. -/
def Gave3 (w : World) (d f : Int) (l : List ByteArray) (n : Int) (e : Ending) (w' : World) : Prop :=
  ∃ a c, e = .returned (.tuple #[.agg #[.int .i64 d, .int .i64 f, .slice a l.length c], .int .i64 n]) ∧ Below w.heap.size w w' ∧ Own w' w.heap.size (.slice a l.length c) l

set_option maxRecDepth 100000 in
set_option maxHeartbeats 2000000 in
theorem adds_impl (d f : Int) (base n c : Nat) (a : Option Addr) (l : List ByteArray) (ab : Option Addr) (nb cb : Nat) (bs : List B3) (w : World) (hn : n ≤ 1048576) (h : Own w base (.slice a n c) l) (hz : ∀ s ∈ l, s.size ≤ 1048576) (hnb : bs.length = nb) (hnb1 : nb ≤ 1048576) (hbr : BRow w ab bs) (hfit : ∀ b ∈ bs, Fits b) :
    Calls Try.prog 14 #[.agg #[.int .i64 d, .int .i64 f, .slice a n c], .slice ab nb cb] w (Gave3 w d f (addsL d f l bs) (addsN d f l bs)) := by
  obtain ⟨W, hW, hv1, hv2, hb, hs0⟩ := begin2 w d f (.slice a n c)
  have hoW : Own W base (.slice a n c) l := by rw [hW]; exact (h.below (alloc_below _ _)).below (alloc_below _ _)
  have HN := Lib.hid h.row2.1
  have HOW := Lib.hid hoW
  have HV1 := Lib.hid hv1
  have HV2 := Lib.hid hv2
  have HB := Lib.hid hb
  have HS := Lib.hid hs0
  have HZ := Lib.hid hz
  have HW := Lib.hid hW
  have HBR := Lib.hid hbr
  have HFIT := Lib.hid hfit
  have HNB := Lib.hid hnb
  clear hv1 hv2 hb hs0 hz hW hoW h hbr hfit hnb
  go_enter Try.func14, Try.ntmps14
  go_wp2_with fail
  rw [← HW.out]
  clear HW
  obtain ⟨k0, k1, k2⟩ := HV1.out.cells
  go_wp2_with fail
  refine (copy_impl d f base n c a l _ hn HOW.out).mono ?_
  rintro e w1 ⟨a2, c2, rfl, hb1, ho1⟩
  have HV1 := Lib.hid (HV1.out.below hb1)
  have HV2 := Lib.hid (HV2.out.below hb1)
  have HOW := Lib.hid (HOW.out.below hb1)
  have HB1 := Lib.hid (HB.out.trans (hb1.mono HB.out.size))
  have HO1 := Lib.hid (ho1.mono (base2 := w.heap.size) HB.out.size)
  have hs1 : w.heap.size + 2 ≤ w1.heap.size := by have := hb1.size; have := HS.out; omega
  clear hb1 k0 k1 k2 HB ho1
  have hv0 := Var.new w1 d f (.slice a2 l.length c2)
  have hb := alloc_below w1 (.cells #[.int .i64 d, .int .i64 f, .slice a2 l.length c2] 26)
  have HV1 := Lib.hid (HV1.out.below hb)
  have HV2 := Lib.hid (HV2.out.below hb)
  have HO1 := Lib.hid (HO1.out.below hb)
  have HOW := Lib.hid (HOW.out.below hb)
  have HB1 := Lib.hid (HB1.out.trans (hb.mono HB1.out.size))
  have HV4 := Lib.hid hv0
  clear hv0 hb
  obtain ⟨k0, k1, k2⟩ := HV1.out.cells
  go_wp2_with fail
  clear k0 k1 k2
  generalize (w1.alloc (.cells #[.int .i64 d, .int .i64 f, .slice a2 l.length c2] 26)) = w2 at *
  generalize w1.heap.size = B4 at *
  refine (ok_impl d f a n c l _ HN.out.symm hn HZ.out HOW.out.row2.2).mono ?_
  rintro e w3 ⟨rfl, hb3⟩
  have HV2 := Lib.hid (HV2.out.below hb3)
  have HV4 := Lib.hid (HV4.out.below hb3)
  have HO3 := Lib.hid (HO1.out.below hb3)
  have HB3 := Lib.hid (HB1.out.trans (hb3.mono HB1.out.size))
  clear hb3 HO1 HB1 HV1 HOW
  cases hcard : cardB d f l with
  | false =>
    have HEL := Lib.hid (show addsL d f l bs = l by unfold addsL; rw [hcard]; rfl)
    have HEN := Lib.hid (show addsN d f l bs = -1 by unfold addsN; rw [hcard]; rfl)
    obtain ⟨g0, g1, g2⟩ := HV4.out.cells
    have hx : ∃ Z, Z = Card.set3 w3 (w.heap.size + 1) d f (.slice a2 l.length c2) ∧ Var Z (w.heap.size + 1) d f (.slice a2 l.length c2) ∧ Below w.heap.size w Z ∧ Own Z w.heap.size (.slice a2 l.length c2) l := ⟨_, rfl, gave_last HB3.out HV2.out (by omega) HO3.out (Nat.le_refl _)⟩
    obtain ⟨Z, hZ, hz1, hz2, hz3⟩ := hx
    unfold set3 at hZ
    obtain ⟨p0, p1, p2⟩ := HV2.out.cells
    have f0 := HV2.out.free 0
    have f1 := HV2.out.free 1
    have f2 := HV2.out.free 2
    have HZZ := Lib.hid hZ
    have HZ1 := Lib.hid hz1
    have HZ2 := Lib.hid hz2
    have HZ3 := Lib.hid hz3
    clear hZ hz1 hz2 hz3 hcard
    go_wp2_with fail
    clear g0 g1 g2
    rw [← HZZ.out]
    clear HZZ p0 p1 p2 f0 f1 f2
    obtain ⟨z0, z1, z2⟩ := HZ1.out.cells
    refine bodyPost_ret (v := .tuple #[.agg #[.int .i64 d, .int .i64 f, .slice a2 l.length c2], .int .i64 (-1)]) (by simp [results, Try.results14, go_sem, z0, z1, z2]) rfl ?_
    rw [HEL.out, HEN.out]
    exact ⟨_, c2, rfl, HZ2.out, HZ3.out⟩
  | true =>
    have HEL := Lib.hid (show addsL d f l bs = (adds d f l bs).1 by unfold addsL; rw [hcard]; rfl)
    have HEN := Lib.hid (show addsN d f l bs = ((adds d f l bs).2 : Int) by unfold addsN; rw [hcard]; rfl)
    clear hcard
    have HLEN := Lib.hid (adds_length d f l bs)
    have HSZ := Lib.hid (adds_sizes d f l bs 1048576 HZ.out)
    have HCNT := Lib.hid (adds_count d f l bs)
    have hln : l.length ≤ 1048576 := by rw [← HN.out]; exact hn
    have HB4 := Lib.hid (show w.heap.size + 2 ≤ B4 by omega)
    clear hs1
    go_wp2_with fail
    go_loopw [7, 20] (fun q i wr => ∃ (k : Nat) (a2 : Option Addr) (c2 : Nat), k ≤ nb ∧ i = .int .i64 (k : Int) ∧ q = .int .i64 ((adds d f l (bs.take k)).2 : Int) ∧ Hid (Var wr (w.heap.size + 1) 0 0 (.slice none 0 0)) ∧ Hid (Var wr B4 d f (.slice a2 l.length c2)) ∧ Hid (Own wr w.heap.size (.slice a2 l.length c2) (adds d f l (bs.take k)).1) ∧ Hid (Below w.heap.size w wr)) (fun _ i _ => nb - (intOf i).toNat)
    case atStart => exact ⟨0, a2, c2, Nat.zero_le _, rfl, by rw [List.take_zero, adds_nil]; rfl, HV2, HV4, by rw [List.take_zero, adds_nil]; exact HO3, HB3⟩
    case round =>
      clear HV2 HV4 HO3 HB3
      obtain ⟨k, a2, c2, hk, rfl, rfl, HV2, HV4, HO, HB⟩ := hrel
      by_cases hlt : k < nb
      · have hkb : k < bs.length := by rw [HNB.out]; exact hlt
        have hk0 : (0 : Int) ≤ (k : Int) := Int.natCast_nonneg _
        have hk1 : (k : Int) < (nb : Int) := by omega
        have HTK := Lib.hid (adds_take d f l bs k hkb)
        have hle := HLEN.out k (by omega)
        have hsz := HSZ.out k (by omega)
        have hcnt := HCNT.out k (by omega)
        have hfit := HFIT.out _ (List.getElem_mem hkb)
        obtain ⟨gb, rfl, hgb, c0, c1, c2'⟩ := (HBR.out.below HB.out) k hkb
        generalize bs[k] = b at *
        obtain ⟨b0, b1, b2⟩ := b
        generalize adds d f l (bs.take k) = s at *
        obtain ⟨l2, q⟩ := s
        have HYES := Lib.hid (addStep_yes (d := d) (f := f) (s := (l2, q)) (b := (b0, b1, b2)))
        have HNO := Lib.hid (addStep_no (d := d) (f := f) (s := (l2, q)) (b := (b0, b1, b2)))
        simp only at hle hsz hcnt c0 c1 c2' HO
        have HADD := Lib.hid (fun (w' : World) (h : Own w' w.heap.size (.slice a2 l.length c2) l2) => add_impl d f b0 b1 b2 w.heap.size l.length c2 a2 l2 w' hln h hsz hfit.1 hfit.2)
        have hbl := boxL_length 100 d f l2 b0 b1 b2
        rw [hle] at hbl
        have hvb := BVar.new wr b0 b1 b2
        have hb := alloc_below wr (.cells #[.int .i64 b0, .int .i64 b1, .int .i64 b2] 39)
        have HV2 := Lib.hid (HV2.out.below hb)
        have HV4 := Lib.hid (HV4.out.below hb)
        have HO := Lib.hid (HO.out.below hb)
        have HB := Lib.hid (HB.out.trans (hb.mono HB.out.size))
        obtain ⟨k0, k1, k2⟩ := HV4.out.cells
        obtain ⟨m0, m1, m2⟩ := hvb.cells
        clear hb hvb
        go_wp2_with fail
        clear k0 k1 k2 m0 m1 m2 c0 c1 c2'
        generalize (wr.alloc (.cells #[.int .i64 b0, .int .i64 b1, .int .i64 b2] 39)) = w4 at *
        generalize wr.heap.size = B9 at *
        refine (HADD.out _ HO.out).mono ?_
        clear HADD
        generalize boxL 100 d f l2 b0 b1 b2 = l3 at *
        generalize boxB 100 d f l2 b0 b1 b2 = ok at *
        rintro e w5 ⟨a3, c3, rfl, hb5, ho5⟩
        rw [hbl] at ho5 ⊢
        have hv0 := Var.new w5 d f (.slice a3 l.length c3)
        have hbb := alloc_below w5 (.cells #[.int .i64 d, .int .i64 f, .slice a3 l.length c3] 26)
        have hb6 := hb5.trans (hbb.mono hb5.size)
        have HV2 := Lib.hid (HV2.out.below hb6)
        have HV4 := Lib.hid (HV4.out.below hb6)
        have HO := Lib.hid (HO.out.below hb6)
        have ho5 := (ho5.mono (base2 := w.heap.size) HB.out.size).below hbb
        have HB := Lib.hid (HB.out.trans (hb6.mono HB.out.size))
        cases ok with
        | false =>
          have hno := HNO.out rfl
          rw [hno] at HTK
          clear HNO HYES hno ho5 hb5 hb6 hbb hv0 hbl
          go_wp2_with fail
          generalize (w5.alloc (.cells #[.int .i64 d, .int .i64 f, .slice a3 l.length c3] 26)) = w6 at *
          exact ⟨⟨k + 1, a2, c2, by omega, by go_num, by rw [HTK.out], HV2, HV4, by rw [HTK.out]; exact HO, HB⟩, by simp [intOf]; omega⟩
        | true =>
          have hno := HYES.out rfl
          rw [hno] at HTK
          have HO5 := Lib.hid ho5
          have HV5 := Lib.hid hv0
          clear HNO HYES hno ho5 hb5 hb6 hbb hv0 hbl HO
          obtain ⟨k0, k1, k2⟩ := HV5.out.cells
          obtain ⟨p0, p1, p2⟩ := HV4.out.cells
          have f0 := HV4.out.free 0
          have f1 := HV4.out.free 1
          have f2 := HV4.out.free 2
          have hx : ∃ Z, Z = Card.set3 (w5.alloc (.cells #[.int .i64 d, .int .i64 f, .slice a3 l.length c3] 26)) B4 d f (.slice a3 l.length c3) ∧ Var Z B4 d f (.slice a3 l.length c3) ∧ Var Z (w.heap.size + 1) 0 0 (.slice none 0 0) ∧ Below w.heap.size w Z ∧ Own Z w.heap.size (.slice a3 l.length c3) l3 :=
            ⟨_, rfl, HV4.out.set3 _ _ _, HV2.out.other3 (by have := HB4.out; omega), below_set3 HB.out (by have := HB4.out; omega), Own.aside3 HO5.out HV4.out⟩
          obtain ⟨Z, hZ, hz1, hz2, hz3, hz4⟩ := hx
          unfold set3 at hZ
          have HZZ := Lib.hid hZ
          have HZ1 := Lib.hid hz1
          have HZ2 := Lib.hid hz2
          have HZ3 := Lib.hid hz3
          have HZ4 := Lib.hid hz4
          clear hZ hz1 hz2 hz3 hz4 HV2 HV4 HV5 HB
          go_wp2_with fail
          rw [← HZZ.out]
          clear HZZ k0 k1 k2 p0 p1 p2 f0 f1 f2 HO5
          exact ⟨⟨k + 1, a3, c3, by omega, by go_num, by rw [HTK.out]; simp, HZ2, HZ1, by rw [HTK.out]; exact HZ4, HZ3⟩, by simp [intOf]; omega⟩
      · obtain rfl : k = nb := by omega
        have hfin : bs.take k = bs := by rw [← HNB.out]; exact List.take_length
        rw [hfin] at HO ⊢
        have hle : (adds d f l bs).1.length = l.length := by have := HLEN.out bs.length (Nat.le_refl _); rwa [List.take_length] at this
        clear hfin
        generalize adds d f l bs = s at *
        obtain ⟨l2, q⟩ := s
        simp only at HO hle HEL HEN ⊢
        have ho := HO.out
        have hv4 := HV4.out
        rw [← hle] at ho hv4
        have HO := Lib.hid ho
        have HV4 := Lib.hid hv4
        clear ho hv4 hle
        obtain ⟨g0, g1, g2⟩ := HV4.out.cells
        have hx : ∃ Z, Z = Card.set3 wr (w.heap.size + 1) d f (.slice a2 l2.length c2) ∧ Var Z (w.heap.size + 1) d f (.slice a2 l2.length c2) ∧ Below w.heap.size w Z ∧ Own Z w.heap.size (.slice a2 l2.length c2) l2 := ⟨_, rfl, gave_last HB.out HV2.out (by omega) HO.out (Nat.le_refl _)⟩
        obtain ⟨Z, hZ, hz1, hz2, hz3⟩ := hx
        unfold set3 at hZ
        obtain ⟨p0, p1, p2⟩ := HV2.out.cells
        have f0 := HV2.out.free 0
        have f1 := HV2.out.free 1
        have f2 := HV2.out.free 2
        have HZZ := Lib.hid hZ
        have HZ1 := Lib.hid hz1
        have HZ2 := Lib.hid hz2
        have HZ3 := Lib.hid hz3
        clear hZ hz1 hz2 hz3
        go_wp2_with fail
        clear g0 g1 g2
        rw [← HZZ.out]
        clear HZZ p0 p1 p2 f0 f1 f2
        obtain ⟨z0, z1, z2⟩ := HZ1.out.cells
        refine bodyPost_ret (v := .tuple #[.agg #[.int .i64 d, .int .i64 f, .slice a2 l2.length c2], .int .i64 (q : Int)]) (by simp [results, Try.results14, go_sem, z0, z1, z2]) rfl ?_
        rw [HEL.out, HEN.out]
        exact ⟨_, c2, rfl, HZ2.out, HZ3.out⟩
end Go.Proofs.Ytekmladindlmoaa.Box
