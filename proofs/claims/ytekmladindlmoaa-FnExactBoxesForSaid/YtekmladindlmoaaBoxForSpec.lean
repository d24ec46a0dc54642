/- What the model's BoxesFor returns (printed by wip/gen_boxfor.py out of the program's). -/
import Derived.Test.YtekmladindlmoaaBoxFor
import Derived.Test.YtekmladindlmoaaFlipWay
import Derived.Deep.RegionHeld3
namespace Go.Proofs.Ytekmladindlmoaa.Box
open Go.ChangeShapes Go.WideShapes Go.ChangeAt Go.RowKit Go.Sort
open Go.Proofs.Ytekmladindlmoaa.Strip Go.Proofs.Ytekmladindlmoaa.Strs Go.Proofs.Ytekmladindlmoaa.Card Go.Proofs.Ytekmladindlmoaa.Corner Go.Proofs.Ytekmladindlmoaa.Kerf Go.Proofs.Ytekmladindlmoaa.Order Go.Proofs.Ytekmladindlmoaa.Flip
set_option linter.unusedVariables false

section
variable {w0 w' w'' : World} {p1 p2 p3 p4 : Addr} {u1 u2 u3 u4 : Value}
theorem f4_next (h : w'.cell? p1 = some u1 ∧ w'.cell? p2 = some u2 ∧ w'.cell? p3 = some u3 ∧ w'.cell? p4 = some u4 ∧ Below w0.heap.size w0 w') (hb : Below w'.heap.size w' w'') :
    w''.cell? p1 = some u1 ∧ w''.cell? p2 = some u2 ∧ w''.cell? p3 = some u3 ∧ w''.cell? p4 = some u4 ∧ Below w0.heap.size w0 w'' := by
  obtain ⟨h1, h2, h3, h4, h7⟩ := h
  have k : ∀ {p : Addr} {u : Value}, w'.cell? p = some u → w''.cell? p = some u := fun {p u} e => (hb.cell (p := p) (World.block_lt_of_cell? _ _ e)).trans e
  exact ⟨k h1, k h2, k h3, k h4, h7.trans (hb.mono h7.size)⟩
theorem f4_drew (h : w'.cell? p1 = some u1 ∧ w'.cell? p2 = some u2 ∧ w'.cell? p3 = some u3 ∧ w'.cell? p4 = some u4 ∧ Below w0.heap.size w0 w') :
    w'.drew.cell? p1 = some u1 ∧ w'.drew.cell? p2 = some u2 ∧ w'.drew.cell? p3 = some u3 ∧ w'.drew.cell? p4 = some u4 ∧ Below w0.heap.size w0 w'.drew :=
  ⟨h.1, h.2.1, h.2.2.1, h.2.2.2.1, h.2.2.2.2.drew⟩
theorem f4_below (h : w'.cell? p1 = some u1 ∧ w'.cell? p2 = some u2 ∧ w'.cell? p3 = some u3 ∧ w'.cell? p4 = some u4 ∧ Below w0.heap.size w0 w') : Below w0.heap.size w0 w' := h.2.2.2.2
end

set_option maxRecDepth 100000 in
set_option maxHeartbeats 4000000 in
theorem for_spec (d f : Int) (base n c : Nat) (a : Option Addr) (l : List ByteArray) (w : World) (hn : n ≤ 1048576) (h : Own w base (.slice a n c) l) (hz : ∀ s ∈ l, s.size ≤ 1048576) :
    Calls Try.prog 37 #[.agg #[.int .i64 d, .int .i64 f, .slice a n c]] w (GaveBs w (boxesL d f l) (cardB d f l)) := by
  obtain ⟨i0, hi, hz0, hz1, hz2⟩ := info_parts info_box
  have hv0 := Var.new w d f (.slice a n c)
  have hb0 := alloc_below w (.cells #[.int .i64 d, .int .i64 f, .slice a n c] 26)
  have hb1 := alloc_below (w.alloc (.cells #[.int .i64 d, .int .i64 f, .slice a n c] 26)) (.cells #[] 39)
  have hb2 := hb0.trans (hb1.mono hb0.size)
  have HN := Lib.hid h.row2.1
  have HZ := Lib.hid hz
  have HRW := Lib.hid (h.below hb2)
  have HOK := Lib.hid (ok_spec d f a n c l _ h.row2.1.symm hn hz (h.below hb2).row2.2)
  have HV1 := Lib.hid (hv0.below hb1)
  have HB := Lib.hid hb2
  have HE0 := Lib.hid (show OwnB ((w.alloc (.cells #[.int .i64 d, .int .i64 f, .slice a n c] 26)).alloc (.cells #[] 39)) w.heap.size (.slice (some ⟨(w.alloc (.cells #[.int .i64 d, .int .i64 f, .slice a n c] 26)).heap.size, 0, none⟩) 0 0) [] from World.ownsRow_made _ #[] 0 (by simp) (by unfold maxLen; omega) rfl)
  rw [show (w.alloc (.cells #[.int .i64 d, .int .i64 f, .slice a n c] 26)).heap.size = w.heap.size + 1 by simp] at HE0
  obtain ⟨k0, k1, k2⟩ := HV1.out.cells
  clear hv0 hb0 hb1 hb2 hz h
  cases hcard : cardB d f l with
  | false =>
    have HE := Lib.hid (show boxesL d f l = [] by unfold boxesL; rw [hcard]; rfl)
    rw [hcard] at HOK
    clear hcard
    go_enter Try.func37, Try.ntmps37
    go_wp2_with fail
    refine HOK.out.mono ?_
    rintro e w1 ⟨rfl, hb1⟩
    have HB := Lib.hid (HB.out.trans (hb1.mono HB.out.size))
    have HE0 := Lib.hid (HE0.out.below hb1)
    clear hb1 k0 k1 k2
    go_wp2
    go_ret2
    rw [HE.out]
    exact ⟨_, rfl, HB.out, HE0.out⟩
  | true =>
    have HE := Lib.hid (show boxesL d f l = boxesN d f l l.length by unfold boxesL; rw [hcard]; rfl)
    obtain ⟨g, hg⟩ : ∃ g, a = some ⟨g, 0, none⟩ := by
      rcases HRW.out.shape with ⟨_, _, e⟩ | h
      · have := (cardB_iff.1 hcard).2.1; rw [e] at this; simp at this
      · exact h
    subst hg
    have hn10 : n ≤ 10 := by have := (cardB_iff.1 hcard).2.2.1; have := HN.out; omega
    rw [hcard] at HOK
    clear hcard
    have HFL := Lib.hid (fun w' => flat_spec d f w')
    go_enter Try.func37, Try.ntmps37
    go_wp2_with fail
    refine HOK.out.mono ?_
    rintro e w1 ⟨rfl, hb1⟩
    have HV1 := Lib.hid (HV1.out.below hb1)
    have HRW := Lib.hid (HRW.out.below hb1)
    have HB := Lib.hid (HB.out.trans (hb1.mono HB.out.size))
    have HE0 := Lib.hid (HE0.out.below hb1)
    clear hb1 k0 k1 k2 HOK
    go_wp2_with fail
    go_loopw [4, 5] (fun v i wr => ∃ k : Nat, k ≤ n ∧ i = .int .i64 (k : Int) ∧ Hid (Var wr w.heap.size d f (.slice (some ⟨g, 0, none⟩) n c)) ∧ Hid (Own wr base (.slice (some ⟨g, 0, none⟩) n c) l) ∧ Hid (OwnB wr w.heap.size v (boxesN d f l k)) ∧ Hid (Below w.heap.size w wr)) (fun _ i _ => n - (intOf i).toNat)
    case atStart => exact ⟨0, Nat.zero_le _, rfl, HV1, HRW, HE0, HB⟩
    case round =>
      clear HV1 HRW HB HE0
      obtain ⟨k, hk, rfl, HV1, HRW, HO, HB⟩ := hrel
      have hk0 : (0 : Int) ≤ (k : Int) := Int.natCast_nonneg _
      obtain ⟨av, cv, rfl, _, _⟩ := HO.out.row
      by_cases hlt : k < n
      · have hk1 : (k : Int) < (n : Int) := by omega
        have hkl : k < l.length := by have := HN.out; omega
        have hcell := HRW.out.cell hkl
        have hsz := HZ.out _ (List.getElem_mem hkl)
        have HST := Lib.hid (show boxesN d f l (k + 1) = boxesN d f l k ++ along k (wayL (flatL d f) l[k].data.toList) by
          show boxesN d f l k ++ along k (wayL (flatL d f) (l.getD k ByteArray.empty).data.toList) = _
          rw [show l.getD k ByteArray.empty = l[k] by simp [List.getD, hkl]])
        generalize l[k] = s at *
        obtain ⟨k0, k1, k2⟩ := HV1.out.cells
        have hfs : (⟨(flatL d f).toArray⟩ : ByteArray).size ≤ 1048576 := Nat.le_trans (flat_small d f) (by omega)
        have HWAY := Lib.hid (fun w' => way_spec ⟨(flatL d f).toArray⟩ s w' hfs hsz)
        have S0 : wr.cell? ⟨w.heap.size, 0, none⟩ = some (.int .i64 d) ∧ wr.cell? ⟨w.heap.size, 1, none⟩ = some (.int .i64 f) ∧ wr.cell? ⟨w.heap.size, 2, none⟩ = some (.slice (some ⟨g, 0, none⟩) n c) ∧ wr.cell? ⟨g, k, none⟩ = some (.string s) ∧ Below wr.heap.size wr wr := ⟨k0, k1, k2, hcell, Below.refl _ _⟩
        go_wp2_with fail
        go_region_held3 (fun w' => w'.cell? ⟨w.heap.size, 0, none⟩ = some (.int .i64 d) ∧ w'.cell? ⟨w.heap.size, 1, none⟩ = some (.int .i64 f) ∧ w'.cell? ⟨w.heap.size, 2, none⟩ = some (.slice (some ⟨g, 0, none⟩) n c) ∧ w'.cell? ⟨g, k, none⟩ = some (.string s) ∧ Below wr.heap.size wr w')
          (first | with_reducible exact S0 | with_reducible exact f4_drew S0 | with_reducible exact f4_next (by assumption) hb | with_reducible exact f4_next (by assumption) hb2 | with_reducible exact f4_drew (by assumption) | with_reducible assumption)
          ((first | (go_at_call 46; refine (HFL.out _).mono ?_; rintro e wx ⟨rfl, hb⟩) | (go_at_call 65; refine (HWAY.out _).mono ?_; rintro e w3 ⟨vr, rfl, hb2, ho3⟩; have ho3 := ho3.mono (base2 := wr.heap.size) (Below.size (f4_below (by assumption))))))
        have hb3 : Below wr.heap.size wr w3 := f4_below (w' := w3) (by assumption)
        have HO3 := Lib.hid (ho3.mono (base2 := wr.heap.size) (Nat.le_refl _))
        clear S0 k0 k1 k2 hcell hfs hb hb2 ho3
        have ho3 := HO3.out
        have hl256 := way_256 (flatL d f) s.data.toList
        have hbl := boxesN_len d f l k
        have HV1 := Lib.hid (HV1.out.below hb3)
        have HRW := Lib.hid (HRW.out.below hb3)
        have HO := Lib.hid (HO.out.below hb3)
        have HI := Lib.hid (ho3.mono (base2 := w.heap.size) HB.out.size)
        have HB := Lib.hid (HB.out.trans (hb3.mono HB.out.size))
        have HST2 := HST.out
        generalize wayL (flatL d f) s.data.toList = L at *
        clear hb3 ho3 HWAY HST
        have HST := Lib.hid HST2
        clear HST2
        generalize boxesN d f l k = Bk at *
        obtain ⟨ar, cr, rfl, hir, _⟩ := HI.out.row
        clear HO3
        go_wp2_with fail
        go_loopw [4, 7] (fun v i wr => ∃ q : Nat, q ≤ L.length ∧ i = .int .i64 (q : Int) ∧ Hid (Var wr w.heap.size d f (.slice (some ⟨g, 0, none⟩) n c)) ∧ Hid (Own wr base (.slice (some ⟨g, 0, none⟩) n c) l) ∧ Hid (Ints.Own wr w.heap.size (.slice ar L.length cr) L) ∧ Hid (OwnB wr w.heap.size v (Bk ++ along k (L.take q))) ∧ Hid (Below w.heap.size w wr)) (fun _ i _ => L.length - (intOf i).toNat)
        case atStart => exact ⟨0, Nat.zero_le _, rfl, HV1, HRW, HI, by rw [List.take_zero]; simpa [along] using HO, HB⟩
        case round =>
          clear HV1 HRW HI HO HB hir
          obtain ⟨q, hq, rfl, HV1, HRW, HI, HO, HB⟩ := hrel
          have hq0 : (0 : Int) ≤ (q : Int) := Int.natCast_nonneg _
          by_cases hlq : q < L.length
          · have hq1 : (q : Int) < (L.length : Int) := by omega
            obtain ⟨gi, rfl, hgi, hci⟩ := (irow2 HI.out).2 q hlq
            have HAL := Lib.hid (along_snoc k L q hlq)
            have hle : (Bk ++ along k (L.take q)).length ≤ 2560 := by rw [List.length_append, along_length, List.length_take]; omega
            have HAP := Lib.hid (show Bk ++ along k (L.take (q + 1)) = (Bk ++ along k (L.take q)) ++ [((k : Int), (k : Int), L[q])] by rw [HAL.out, List.append_assoc])
            clear HAL
            generalize L[q] = at_ at *
            generalize Bk ++ along k (L.take q) = cur at *
            have HS := Lib.hid HB.out.size
            go_wp2_with (at_builtin; refine wpList_append_own _ rfl _ _ 28 rfl w.heap.size 39 i0 _ 3 24 Try.underlying28 hi hz0 hz1 hz2 rfl (by decide) u4 cur.length (bcells cur) rfl (World.ownsRow.alloc HO.out _) ⟨wr.heap.size, 0, none⟩ 1 1 (bcell ((k : Int), (k : Int), at_)) rfl rfl (World.news_of_block (cs := #[.int .i64 (k : Int), .int .i64 (k : Int), .int .i64 at_]) (t := 39) (fr := (0, 0)) (heap_alloc_new _ _)) (by simp [bcell, Value.oneCell']) (by unfold maxLen; omega) (by omega) (by have := HS.out; simp; omega) ?_)
            intro v1 w4 hown1 hgrow _
            have hba := alloc_below wr (.cells #[.int .i64 (k : Int), .int .i64 (k : Int), .int .i64 at_] 39)
            have hoa := HO.out.below hba
            have HV1 := Lib.hid (var_kept (HV1.out.below hba) hoa hgrow)
            have HRW := Lib.hid (show Own w4 base (.slice (some ⟨g, 0, none⟩) n c) l from row_kept (HRW.out.below hba) hoa (by decide) hgrow)
            have HI := Lib.hid (show Ints.Own w4 w.heap.size (.slice (some ⟨gi, 0, none⟩) L.length cr) L from row_kept (HI.out.below hba) hoa (by decide) hgrow)
            have HB := Lib.hid ((HB.out.trans (hba.mono HS.out)).grown hgrow (by have := HS.out; simp; omega) (fun t e => (hoa.lt t e).1))
            have HO := Lib.hid (show OwnB w4 w.heap.size v1 (cur ++ [((k : Int), (k : Int), at_)]) by
              show World.ownsRow _ _ _ _ _ _ _
              rw [bcells_append, bcells_one, List.length_append]; exact hown1)
            rw [← HAP.out] at HO
            clear hown1 hgrow hba hoa hci
            go_wp2
            go_roundw
            case rel => exact ⟨q + 1, by omega, by go_num, HV1, HRW, HI, HO, HB⟩
            case measure => simp [intOf]; omega
          · obtain rfl : q = L.length := by omega
            rw [List.take_length, ← HST.out] at HO
            go_wp2
            go_roundw
            case rel => exact ⟨k + 1, by omega, by go_num, HV1, HRW, HO, HB⟩
            case measure => simp [intOf]; omega
      · have HKN := Lib.hid (show k = n by omega)
        have HO := Lib.hid (show OwnB wr w.heap.size (.slice av (boxesN d f l k).length cv) (boxesL d f l) by rw [HE.out, ← HN.out, ← HKN.out]; exact HO.out)
        obtain ⟨k0, k1, k2⟩ := HV1.out.cells
        go_wp2
        go_ret2
        exact ⟨_, rfl, HB.out, HO.out⟩
end Go.Proofs.Ytekmladindlmoaa.Box
