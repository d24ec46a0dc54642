/- The property of chapter 11: the walk (printed by wip/gen_boxeslaw.py). -/
import Derived.Test.YtekmladindlmoaaBoxesB
import Derived.Test.YtekmladindlmoaaBoxesA
import Derived.Deep.DeepCutAuto
namespace Go.Proofs.Ytekmladindlmoaa.Box
open Go.ChangeShapes Go.WideShapes Go.ChangeAt Go.RowKit Go.Sort
open Go.Proofs.Ytekmladindlmoaa.Strip Go.Proofs.Ytekmladindlmoaa.Strs Go.Proofs.Ytekmladindlmoaa.Card Go.Proofs.Ytekmladindlmoaa.Corner Go.Proofs.Ytekmladindlmoaa.Kerf Go.Proofs.Ytekmladindlmoaa.Order Go.Proofs.Ytekmladindlmoaa.Flip Go.Proofs.Ytekmladindlmoaa.Draw
set_option linter.unusedVariables false

theorem plain_made {w w' : World} {d f : Int} {l : List ByteArray} {e : Ending} (hc : cardB d f l = true) (h : PlainPost w d f (l.length : Int) e w') : Gave2 w d f (List.replicate l.length ⟨(flatL d f).toArray⟩) true e w' := by
  have hl := cardB_iff.1 hc
  have hb : plainB d f (l.length : Int) = true := by
    unfold plainB
    rw [decide_eq_true (by omega), Int.toNat_natCast]
    exact plain_card hc
  unfold PlainPost plainD plainF plainL at h
  rw [if_pos hb, if_pos hb, if_pos hb, hb, Int.toNat_natCast] at h
  exact h
theorem small_of {d f : Int} {l : List ByteArray} (hc : cardB d f l = true) : ∀ s ∈ l, s.size ≤ 1048576 := by
  obtain ⟨hf, _, _, hg⟩ := cardB_iff.1 hc
  intro s hs
  have h1 := (strip_size (good_strip hf (hg s hs))).2
  have : s.data.toList.length = s.size := by simp
  omega

set_option maxRecDepth 100000 in
set_option maxHeartbeats 16000000 in
theorem boxes (ca : Option Addr) (cl cc : Nat) (w : World) (hm : cl ≤ maxLen) (hr : RowIn w ca cl) :
    Calls Try.prog 3 #[.slice ca cl cc] w fun e w' => e = .returned (.bool true) ∧ Below w.heap.size w w' := by
  by_cases hbig : 1048576 < cl
  · have hd : decide (1048576 < (cl : Int)) = true := by simp; omega
    go_enter Try.func3, Try.ntmps3
    go_wp2_with fail
    refine (big_at ca cl cc w hm).mono ?_
    rintro e w' ⟨rfl, rfl⟩
    rw [hd]
    go_wp2
    go_ret
    exact ⟨rfl, Below.refl _ _⟩
  · have hd : decide (1048576 < (cl : Int)) = false := by simp; omega
    have HR := Lib.hid hr; clear hr
    go_enter Try.func3, Try.ntmps3
    go_wp2_with fail
    refine (big_at ca cl cc w hm).mono ?_
    rintro e w' ⟨rfl, rfl⟩
    rw [hd]
    go_wp2_with fail
    refine drawCard_get ca cl cc w hm HR.out ?_
    intro d f a c l w1 hd4 hf4 hl6 hcb hb1 ho1
    have HC := Lib.hid hcb
    have HZ := Lib.hid (small_of hcb)
    have hframe := frameB_iff.1 (cardB_iff.1 hcb).1
    have hl1 : 1 ≤ l.length := (cardB_iff.1 hcb).2.1
    have hln : l.length ≤ 1048576 := by omega
    have HB := Lib.hid hb1
    have HVOL := Lib.hid (boxes_vol hcb)
    have HBU := Lib.hid (built hcb)
    have HLB := Lib.hid (boxesL_len d f l)
    have HFIT := Lib.hid (boxes_fit d f l)
    obtain ⟨g, hg⟩ : ∃ g, a = some ⟨g, 0, none⟩ := by
      rcases ho1.shape with ⟨_, _, e⟩ | h
      · rw [e] at hl1; simp at hl1
      · exact h
    subst hg
    have OC := Lib.hid ho1
    clear hb1 ho1 hd hcb
    go_wp2_with fail
    have hv0 := Var.new w1 d f (.slice (some ⟨g, 0, none⟩) l.length c)
    have hb := alloc_below w1 (.cells #[.int .i64 d, .int .i64 f, .slice (some ⟨g, 0, none⟩) l.length c] 26)
    have OC := Lib.hid (OC.out.below hb)
    have HB := Lib.hid (HB.out.trans (hb.mono HB.out.size))
    have VC := Lib.hid hv0
    clear hv0 hb
    generalize (w1.alloc (.cells #[.int .i64 d, .int .i64 f, .slice (some ⟨g, 0, none⟩) l.length c] 26)) = w2 at *
    generalize w1.heap.size = bVC at *
    refine (for_impl d f w.heap.size l.length c (some ⟨g, 0, none⟩) l _ hln OC.out HZ.out).mono ?_
    rintro e w3 ⟨vb, rfl, hb, hob⟩
    have hob := hob.mono (base2 := w.heap.size) HB.out.size
    obtain ⟨bb, db, rfl, _, _⟩ := hob.row
    have OC := Lib.hid (OC.out.below hb)
    have VC := Lib.hid (VC.out.below hb)
    have HB := Lib.hid (HB.out.trans (hb.mono HB.out.size))
    clear hb
    have BB := Lib.hid hob
    clear hob
    rw [HC.out]
    generalize boxesL d f l = bs at *
    have hbl : bs.length ≤ 2560 := HLB.out
    obtain ⟨vc_0, vc_1, vc_2⟩ := VC.out.cells
    go_wp2_with fail
    clear vc_0 vc_1 vc_2
    refine Calls.mono (plain_spec d f (l.length : Int) _) ?_
    intro e w4 hpl
    obtain ⟨ap, cp, rfl, hb, ho⟩ := plain_made HC.out hpl
    have ho := ho.mono (base2 := w.heap.size) HB.out.size
    clear hpl
    have OC := Lib.hid (OC.out.below hb)
    have VC := Lib.hid (VC.out.below hb)
    have BB := Lib.hid (BB.out.below hb)
    have HB := Lib.hid (HB.out.trans (hb.mono HB.out.size))
    clear hb
    have HPL := Lib.hid (show (List.replicate l.length (⟨(flatL d f).toArray⟩ : ByteArray)).length = l.length from List.length_replicate ..)
    have HPZ := Lib.hid (small_of (plain_card HC.out))
    generalize List.replicate l.length (⟨(flatL d f).toArray⟩ : ByteArray) = pl at *
    rw [HPL.out] at ho ⊢
    have OP := Lib.hid ho
    clear ho
    obtain ⟨vc_0, vc_1, vc_2⟩ := (VC.out.below (alloc_below w4 (.cells #[.int .i64 d, .int .i64 f, .slice ap l.length cp] 26))).cells
    go_wp2_with fail
    clear vc_0 vc_1 vc_2
    have hv0 := Var.new w4 d f (.slice ap l.length cp)
    have hb := alloc_below w4 (.cells #[.int .i64 d, .int .i64 f, .slice ap l.length cp] 26)
    have OC := Lib.hid (OC.out.below hb)
    have VC := Lib.hid (VC.out.below hb)
    have BB := Lib.hid (BB.out.below hb)
    have OP := Lib.hid (OP.out.below hb)
    have HB := Lib.hid (HB.out.trans (hb.mono HB.out.size))
    have VP := Lib.hid hv0
    clear hv0 hb
    generalize (w4.alloc (.cells #[.int .i64 d, .int .i64 f, .slice ap l.length cp] 26)) = w5 at *
    generalize w4.heap.size = bVP at *
    refine (adds_impl d f w.heap.size l.length cp ap pl bb bs.length db bs _ hln OP.out HPZ.out rfl (by omega) BB.out.row2.2 HFIT.out).mono ?_
    rw [HBU.out.1, HBU.out.2]
    rintro e w6 ⟨ax, cx, rfl, hb, ho⟩
    have ho := ho.mono (base2 := w.heap.size) HB.out.size
    have OC := Lib.hid (OC.out.below hb)
    have VC := Lib.hid (VC.out.below hb)
    have BB := Lib.hid (BB.out.below hb)
    have OP := Lib.hid (OP.out.below hb)
    have VP := Lib.hid (VP.out.below hb)
    have HB := Lib.hid (HB.out.trans (hb.mono HB.out.size))
    clear hb
    have OX := Lib.hid ho
    clear ho
    obtain ⟨vc_0, vc_1, vc_2⟩ := (VC.out.below (alloc_below w6 (.cells #[.int .i64 d, .int .i64 f, .slice ax l.length cx] 26))).cells
    have hqq : ((bs.length : Int) != (bs.length : Int)) = false := by simp
    go_wp2_with fail
    clear vc_0 vc_1 vc_2
    have hv0 := Var.new w6 d f (.slice ax l.length cx)
    have hb := alloc_below w6 (.cells #[.int .i64 d, .int .i64 f, .slice ax l.length cx] 26)
    have OC := Lib.hid (OC.out.below hb)
    have VC := Lib.hid (VC.out.below hb)
    have BB := Lib.hid (BB.out.below hb)
    have OP := Lib.hid (OP.out.below hb)
    have VP := Lib.hid (VP.out.below hb)
    have OX := Lib.hid (OX.out.below hb)
    have HB := Lib.hid (HB.out.trans (hb.mono HB.out.size))
    have VX := Lib.hid hv0
    clear hv0 hb
    generalize (w6.alloc (.cells #[.int .i64 d, .int .i64 f, .slice ax l.length cx] 26)) = w7 at *
    generalize w6.heap.size = bVX at *
    refine (vol_spec d f (some ⟨g, 0, none⟩) l.length c l _ rfl hln HZ.out OC.out.row2.2).mono ?_
    rintro e w8 ⟨rfl, hb⟩
    have OC := Lib.hid (OC.out.below hb)
    have VC := Lib.hid (VC.out.below hb)
    have BB := Lib.hid (BB.out.below hb)
    have OP := Lib.hid (OP.out.below hb)
    have VP := Lib.hid (VP.out.below hb)
    have OX := Lib.hid (OX.out.below hb)
    have VX := Lib.hid (VX.out.below hb)
    have HB := Lib.hid (HB.out.trans (hb.mono HB.out.size))
    clear hb
    rw [← HVOL.out]
    obtain ⟨vc_0, vc_1, vc_2⟩ := VC.out.cells
    obtain ⟨vx_0, vx_1, vx_2⟩ := VX.out.cells
    go_wp2_with fail
    clear vc_0 vc_1 vc_2 vx_0 vx_1 vx_2
    refine (sameCard_impl d f d f ax (some ⟨g, 0, none⟩) l.length l.length cx c l l _ rfl rfl hln hln OX.out.row2.2 OC.out.row2.2).mono ?_
    rintro e w9 ⟨rfl, hb⟩
    have OC := Lib.hid (OC.out.below hb)
    have VC := Lib.hid (VC.out.below hb)
    have BB := Lib.hid (BB.out.below hb)
    have OP := Lib.hid (OP.out.below hb)
    have VP := Lib.hid (VP.out.below hb)
    have OX := Lib.hid (OX.out.below hb)
    have VX := Lib.hid (VX.out.below hb)
    have HB := Lib.hid (HB.out.trans (hb.mono HB.out.size))
    clear hb
    rw [Card.same_self]
    go_wp2_with fail
    obtain ⟨n0, hn0, hat⟩ := at_fix ca cl cc 0 (by omega) w9 hm (HR.out.below HB.out (Nat.le_refl _))
    have HAT := Lib.hid hat; clear hat
    obtain ⟨vc_0, vc_1, vc_2⟩ := VC.out.cells
    obtain ⟨k, hk⟩ : ∃ k : Nat, k = n0 % l.length := ⟨_, rfl⟩
    have hlt_k : k < l.length := by have := Nat.mod_lt n0 (show 0 < l.length by omega); omega
    have hmn : ((l.length : Nat) : Int) = (l.length : Int) := by omega
    have ht : Int.tmod (n0 : Int) ((l.length : Int)) = (k : Int) := by rw [hk, ← hmn, Int.tmod_eq_emod_of_nonneg (by omega)]; exact (Int.natCast_emod _ _).symm
    have hne : (((l.length : Int)) != 0) = true := bne_iff_ne.2 (by omega)
    have heq : (((l.length : Int)) == 0) = false := beq_eq_false_iff_ne.2 (by omega)
    clear hk hmn
    go_quiet ((go_at_call 17; refine qsame (HAT.out _)))
    have hb := drewN_below w9 nq
    have OC := Lib.hid (OC.out.below hb)
    have VC := Lib.hid (VC.out.below hb)
    have BB := Lib.hid (BB.out.below hb)
    have OP := Lib.hid (OP.out.below hb)
    have VP := Lib.hid (VP.out.below hb)
    have OX := Lib.hid (OX.out.below hb)
    have VX := Lib.hid (VX.out.below hb)
    have HB := Lib.hid (HB.out.trans (hb.mono HB.out.size))
    clear hb
    clear HAT ht hne heq
    clear vc_0 vc_1 vc_2
    generalize w9.drewN nq = w10 at *
    go_wp2_with fail
    obtain ⟨n1, hn1, hat⟩ := at_fix ca cl cc 1 (by omega) w10 hm (HR.out.below HB.out (Nat.le_refl _))
    have HAT := Lib.hid hat; clear hat
    obtain ⟨vc_0, vc_1, vc_2⟩ := VC.out.cells
    obtain ⟨r, hr⟩ : ∃ r : Nat, r = n1 % (d + f).toNat := ⟨_, rfl⟩
    have hlt_r : r < (d + f).toNat := by have := Nat.mod_lt n1 (show 0 < (d + f).toNat by omega); omega
    have hmn : (((d + f).toNat : Nat) : Int) = d + f := by omega
    have ht : Int.tmod (n1 : Int) (d + f) = (r : Int) := by rw [hr, ← hmn, Int.tmod_eq_emod_of_nonneg (by omega)]; exact (Int.natCast_emod _ _).symm
    have hne : ((d + f) != 0) = true := bne_iff_ne.2 (by omega)
    have heq : ((d + f) == 0) = false := beq_eq_false_iff_ne.2 (by omega)
    clear hr hmn
    go_quiet ((go_at_call 17; refine qsame (HAT.out _)))
    have hb := drewN_below w10 nq
    have OC := Lib.hid (OC.out.below hb)
    have VC := Lib.hid (VC.out.below hb)
    have BB := Lib.hid (BB.out.below hb)
    have OP := Lib.hid (OP.out.below hb)
    have VP := Lib.hid (VP.out.below hb)
    have OX := Lib.hid (OX.out.below hb)
    have VX := Lib.hid (VX.out.below hb)
    have HB := Lib.hid (HB.out.trans (hb.mono HB.out.size))
    clear hb
    clear HAT ht hne heq
    clear vc_0 vc_1 vc_2
    generalize w10.drewN nq = w11 at *
    obtain ⟨A, hA⟩ : ∃ A : Int, 1 + (r : Int) = A := ⟨_, rfl⟩
    have hA0 : 1 ≤ A := by omega
    have hA1 : A ≤ 9 := by omega
    rw [hA]
    clear hA hlt_r hn0 hn1
    have HWI := Lib.hid (fun (w' : World) (h : Own w' w.heap.size (.slice (some ⟨g, 0, none⟩) l.length c) l) => wide_impl d f (k : Int) A w.heap.size l.length c (some ⟨g, 0, none⟩) l w' hln h HZ.out (by omega) (by omega))
    have HCS := Lib.hid (fun (w' : World) => can_spec l[k] A w' (HZ.out _ (List.getElem_mem hlt_k)) (by omega) (by omega))
    have hk0 : (0 : Int) ≤ (k : Int) := Int.natCast_nonneg _
    have hk1 : (k : Int) < (l.length : Int) := by omega
    cases hx : cornerB 100 l[k].data.toList A with
    | false =>
      obtain ⟨e1, e2⟩ := wide_not (d := d) (f := f) hlt_k hx
      rw [e1, e2] at HWI
      rw [hx] at HCS
      clear e1 e2 hx
      obtain ⟨vc_0, vc_1, vc_2⟩ := VC.out.cells
      go_wp2_with fail
      clear vc_0 vc_1 vc_2
      refine (HWI.out _ OC.out).mono ?_
      unfold GaveBox
      rintro e w12 ⟨rfl, hb⟩
      have OC := Lib.hid (OC.out.below hb)
      have VC := Lib.hid (VC.out.below hb)
      have BB := Lib.hid (BB.out.below hb)
      have OP := Lib.hid (OP.out.below hb)
      have VP := Lib.hid (VP.out.below hb)
      have OX := Lib.hid (OX.out.below hb)
      have VX := Lib.hid (VX.out.below hb)
      have HB := Lib.hid (HB.out.trans (hb.mono HB.out.size))
      clear hb
      clear HWI
      obtain ⟨vc_0, vc_1, vc_2⟩ := (VC.out.below (alloc_below w12 (.cells #[.int .i64 0, .int .i64 0, .int .i64 0] 39))).cells
      have hcell := (OC.out.below (alloc_below w12 (.cells #[.int .i64 0, .int .i64 0, .int .i64 0] 39))).cell hlt_k
      generalize l[k]'_ = s at *
      go_wp2_with fail
      clear vc_0 vc_1 vc_2
      clear hcell
      have hv0 := BVar.new w12 0 0 0
      have hb := alloc_below w12 (.cells #[.int .i64 0, .int .i64 0, .int .i64 0] 39)
      have OC := Lib.hid (OC.out.below hb)
      have VC := Lib.hid (VC.out.below hb)
      have BB := Lib.hid (BB.out.below hb)
      have OP := Lib.hid (OP.out.below hb)
      have VP := Lib.hid (VP.out.below hb)
      have OX := Lib.hid (OX.out.below hb)
      have VX := Lib.hid (VX.out.below hb)
      have HB := Lib.hid (HB.out.trans (hb.mono HB.out.size))
      have VB := Lib.hid hv0
      clear hv0 hb
      generalize (w12.alloc (.cells #[.int .i64 0, .int .i64 0, .int .i64 0] 39)) = w13 at *
      generalize w12.heap.size = bVB at *
      refine (HCS.out _).mono ?_
      rintro e w14 ⟨rfl, hb⟩
      have OC := Lib.hid (OC.out.below hb)
      have VC := Lib.hid (VC.out.below hb)
      have BB := Lib.hid (BB.out.below hb)
      have OP := Lib.hid (OP.out.below hb)
      have VP := Lib.hid (VP.out.below hb)
      have OX := Lib.hid (OX.out.below hb)
      have VX := Lib.hid (VX.out.below hb)
      have VB := Lib.hid (VB.out.below hb)
      have HB := Lib.hid (HB.out.trans (hb.mono HB.out.size))
      clear hb
      clear HCS
      go_wp2_with fail
      refine (adds_impl 0 0 w14.heap.size 0 0 none [] bb bs.length db bs _ (by omega) (Own.nil _ _) (by simp) rfl (by omega) BB.out.row2.2 HFIT.out).mono ?_
      rw [no_card]
      rintro e wz ⟨az, cz, rfl, hb, ho⟩
      have HB := Lib.hid (HB.out.trans (hb.mono HB.out.size))
      clear hb ho
      go_wp2
      go_ret
      exact ⟨rfl, HB.out.alloc HB.out.size _⟩
    | true =>
      obtain ⟨F, L, y, hw⟩ := wide_is HC.out hlt_k hx
      have HWD := Lib.hid hw
      rw [hw.wide, wide_yes HC.out hlt_k hx] at HWI
      rw [hx] at HCS
      clear hw hx
      obtain ⟨vc_0, vc_1, vc_2⟩ := VC.out.cells
      go_wp2_with fail
      clear vc_0 vc_1 vc_2
      refine (HWI.out _ OC.out).mono ?_
      unfold GaveBox
      rintro e w12 ⟨rfl, hb⟩
      have OC := Lib.hid (OC.out.below hb)
      have VC := Lib.hid (VC.out.below hb)
      have BB := Lib.hid (BB.out.below hb)
      have OP := Lib.hid (OP.out.below hb)
      have VP := Lib.hid (VP.out.below hb)
      have OX := Lib.hid (OX.out.below hb)
      have VX := Lib.hid (VX.out.below hb)
      have HB := Lib.hid (HB.out.trans (hb.mono HB.out.size))
      clear hb
      clear HWI
      obtain ⟨vc_0, vc_1, vc_2⟩ := (VC.out.below (alloc_below w12 (.cells #[.int .i64 (F : Int), .int .i64 (L : Int), .int .i64 A] 39))).cells
      have hcell := (OC.out.below (alloc_below w12 (.cells #[.int .i64 (F : Int), .int .i64 (L : Int), .int .i64 A] 39))).cell hlt_k
      generalize l[k]'_ = s at *
      go_wp2_with fail
      clear vc_0 vc_1 vc_2
      clear hcell
      have hv0 := BVar.new w12 (F : Int) (L : Int) A
      have hb := alloc_below w12 (.cells #[.int .i64 (F : Int), .int .i64 (L : Int), .int .i64 A] 39)
      have OC := Lib.hid (OC.out.below hb)
      have VC := Lib.hid (VC.out.below hb)
      have BB := Lib.hid (BB.out.below hb)
      have OP := Lib.hid (OP.out.below hb)
      have VP := Lib.hid (VP.out.below hb)
      have OX := Lib.hid (OX.out.below hb)
      have VX := Lib.hid (VX.out.below hb)
      have HB := Lib.hid (HB.out.trans (hb.mono HB.out.size))
      have VB := Lib.hid hv0
      clear hv0 hb
      generalize (w12.alloc (.cells #[.int .i64 (F : Int), .int .i64 (L : Int), .int .i64 A] 39)) = w13 at *
      generalize w12.heap.size = bVB at *
      refine (HCS.out _).mono ?_
      rintro e w14 ⟨rfl, hb⟩
      have OC := Lib.hid (OC.out.below hb)
      have VC := Lib.hid (VC.out.below hb)
      have BB := Lib.hid (BB.out.below hb)
      have OP := Lib.hid (OP.out.below hb)
      have VP := Lib.hid (VP.out.below hb)
      have OX := Lib.hid (OX.out.below hb)
      have VX := Lib.hid (VX.out.below hb)
      have VB := Lib.hid (VB.out.below hb)
      have HB := Lib.hid (HB.out.trans (hb.mono HB.out.size))
      clear hb
      clear HCS
      have HLY := Lib.hid HWD.out.len
      have HZY := Lib.hid (small_of HWD.out.card)
      obtain ⟨vc_0, vc_1, vc_2⟩ := VC.out.cells
      obtain ⟨vb_0, vb_1, vb_2⟩ := VB.out.cells
      go_wp2_with fail
      clear vc_0 vc_1 vc_2 vb_0 vb_1 vb_2
      refine (add_impl d f (F : Int) (L : Int) A w.heap.size l.length c (some ⟨g, 0, none⟩) l _ hln OC.out HZ.out (by omega) (by omega)).mono ?_
      rw [HWD.out.up, HWD.out.can]
      rintro e w15 ⟨ay, cy, rfl, hb, ho⟩
      have ho := ho.mono (base2 := w.heap.size) HB.out.size
      have OC := Lib.hid (OC.out.below hb)
      have VC := Lib.hid (VC.out.below hb)
      have BB := Lib.hid (BB.out.below hb)
      have OP := Lib.hid (OP.out.below hb)
      have VP := Lib.hid (VP.out.below hb)
      have OX := Lib.hid (OX.out.below hb)
      have VX := Lib.hid (VX.out.below hb)
      have VB := Lib.hid (VB.out.below hb)
      have HB := Lib.hid (HB.out.trans (hb.mono HB.out.size))
      clear hb
      rw [HLY.out] at ho ⊢
      have OY := Lib.hid ho
      clear ho
      obtain ⟨vb_0, vb_1, vb_2⟩ := (VB.out.below (alloc_below w15 (.cells #[.int .i64 d, .int .i64 f, .slice ay l.length cy] 26))).cells
      go_wp2_with fail
      clear vb_0 vb_1 vb_2
      have hv0 := Var.new w15 d f (.slice ay l.length cy)
      have hb := alloc_below w15 (.cells #[.int .i64 d, .int .i64 f, .slice ay l.length cy] 26)
      have OC := Lib.hid (OC.out.below hb)
      have VC := Lib.hid (VC.out.below hb)
      have BB := Lib.hid (BB.out.below hb)
      have OP := Lib.hid (OP.out.below hb)
      have VP := Lib.hid (VP.out.below hb)
      have OX := Lib.hid (OX.out.below hb)
      have VX := Lib.hid (VX.out.below hb)
      have VB := Lib.hid (VB.out.below hb)
      have OY := Lib.hid (OY.out.below hb)
      have HB := Lib.hid (HB.out.trans (hb.mono HB.out.size))
      have VY := Lib.hid hv0
      clear hv0 hb
      generalize (w15.alloc (.cells #[.int .i64 d, .int .i64 f, .slice ay l.length cy] 26)) = w16 at *
      generalize w15.heap.size = bVY at *
      refine (take_impl d f (F : Int) (L : Int) A w.heap.size l.length cy ay y _ hln OY.out HZY.out (by omega) (by omega)).mono ?_
      rw [HWD.out.down, HWD.out.back]
      rintro e w17 ⟨az, cz, rfl, hb, ho⟩
      have ho := ho.mono (base2 := w.heap.size) HB.out.size
      have OC := Lib.hid (OC.out.below hb)
      have VC := Lib.hid (VC.out.below hb)
      have BB := Lib.hid (BB.out.below hb)
      have OP := Lib.hid (OP.out.below hb)
      have VP := Lib.hid (VP.out.below hb)
      have OX := Lib.hid (OX.out.below hb)
      have VX := Lib.hid (VX.out.below hb)
      have VB := Lib.hid (VB.out.below hb)
      have OY := Lib.hid (OY.out.below hb)
      have VY := Lib.hid (VY.out.below hb)
      have HB := Lib.hid (HB.out.trans (hb.mono HB.out.size))
      clear hb
      have OZ := Lib.hid ho
      clear ho
      go_upto_region 17 with (fail)
      have hv0 := Var.new w17 d f (.slice az l.length cz)
      have hb := alloc_below w17 (.cells #[.int .i64 d, .int .i64 f, .slice az l.length cz] 26)
      have OC := Lib.hid (OC.out.below hb)
      have VC := Lib.hid (VC.out.below hb)
      have BB := Lib.hid (BB.out.below hb)
      have OP := Lib.hid (OP.out.below hb)
      have VP := Lib.hid (VP.out.below hb)
      have OX := Lib.hid (OX.out.below hb)
      have VX := Lib.hid (VX.out.below hb)
      have VB := Lib.hid (VB.out.below hb)
      have OY := Lib.hid (OY.out.below hb)
      have VY := Lib.hid (VY.out.below hb)
      have OZ := Lib.hid (OZ.out.below hb)
      have HB := Lib.hid (HB.out.trans (hb.mono HB.out.size))
      have VZ := Lib.hid hv0
      clear hv0 hb
      generalize (w17.alloc (.cells #[.int .i64 d, .int .i64 f, .slice az l.length cz] 26)) = w18 at *
      generalize w17.heap.size = bVZ at *
      obtain ⟨vz_0, vz_1, vz_2⟩ := VZ.out.cells
      have vz_0 := cell_regrown vz_0
      have vz_1 := cell_regrown vz_1
      have vz_2 := cell_regrown vz_2
      obtain ⟨vy_0, vy_1, vy_2⟩ := VY.out.cells
      have vy_0 := cell_regrown vy_0
      have vy_1 := cell_regrown vy_1
      have vy_2 := cell_regrown vy_2
      obtain ⟨vc_0, vc_1, vc_2⟩ := VC.out.cells
      have vc_0 := cell_regrown vc_0
      have vc_1 := cell_regrown vc_1
      have vc_2 := cell_regrown vc_2
      obtain ⟨vb_0, vb_1, vb_2⟩ := VB.out.cells
      have vb_0 := cell_regrown vb_0
      have vb_1 := cell_regrown vb_1
      have vb_2 := cell_regrown vb_2
      have hqs := fun (dd : Nat) (os : Array Obj) => Calls.regrown_of (sameCard_impl d f d f az (some ⟨g, 0, none⟩) l.length l.length cz c l l (grow (redrawn w18 dd) os) rfl rfl hln hln (OZ.out.below (below_regrown w18 dd os)).row2.2 (OC.out.below (below_regrown w18 dd os)).row2.2)
      rw [Card.same_self] at hqs
      have hqa := fun (dd : Nat) (os : Array Obj) => Calls.regrown_of (canAdd_impl d f (F : Int) (L : Int) A w.heap.size l.length c (some ⟨g, 0, none⟩) l (grow (redrawn w18 dd) os) hln (OC.out.below (below_regrown w18 dd os)) HZ.out (by omega) (by omega))
      rw [HWD.out.can] at hqa
      have hqv := fun (dd : Nat) (os : Array Obj) => Calls.regrown_of (vol_spec d f (some ⟨g, 0, none⟩) l.length c l (grow (redrawn w18 dd) os) rfl hln HZ.out (OC.out.below (below_regrown w18 dd os)).row2.2)
      rw [← HVOL.out] at hqv
      have hqy := fun (dd : Nat) (os : Array Obj) => Calls.regrown_of (vol_spec d f ay l.length cy y (grow (redrawn w18 dd) os) HLY.out hln HZY.out (OY.out.below (below_regrown w18 dd os)).row2.2)
      rw [HWD.out.room, ← HVOL.out] at hqy
      have HQS := Lib.hid hqs
      have HQA := Lib.hid hqa
      have HQV := Lib.hid hqv
      have HQY := Lib.hid hqy
      clear hqs hqa hqv hqy
      have hb0 : (0 : Int) ≤ (bs.length : Int) := Int.natCast_nonneg _
      have hb1 : (bs.length : Int) ≤ 2560 := by omega
      have hF0 : (0 : Int) ≤ (F : Int) := Int.natCast_nonneg _
      have hF1 : (F : Int) ≤ 6 := by have := HWD.out.first; omega
      have hL0 : (0 : Int) ≤ (L : Int) := Int.natCast_nonneg _
      have hL1 : (L : Int) ≤ 6 := by have := HWD.out.lt; omega
      have hc1 : decide ((k : Int) < (F : Int)) = false := decide_eq_false (by have := HWD.out.first; omega)
      have hc2 : decide (k < F) = false := decide_eq_false (by have := HWD.out.first; omega)
      have hc3 : decide ((L : Int) < (k : Int)) = false := decide_eq_false (by have := HWD.out.last; omega)
      have hc4 : decide (L < k) = false := decide_eq_false (by have := HWD.out.last; omega)
      have hc5 : (((bs.length : Int) + (L : Int) - (F : Int) + 1) != ((bs.length : Int) + (L : Int) - (F : Int) + 1)) = false := by simp
      refine wp_region_quiet_below (by kernel_rfl) (by kernel_rfl) ?_
      repeat (go_big_quiet_step ((first | (go_at_call 16; with_reducible exact HQS.out _ _) | (go_at_call 22; with_reducible exact HQA.out _ _) | (go_at_call_of 15 (Value.agg #[.int .i64 d, .int .i64 f, .slice ay l.length cy]); with_reducible exact HQY.out _ _) | (go_at_call_of 15 (Value.agg #[.int .i64 d, .int .i64 f, .slice (some ⟨g, 0, none⟩) l.length c]); with_reducible exact HQV.out _ _))))
      refine wpQuiet_nil ?_
      intro _ hw'
      obtain ⟨⟨dq, osq⟩, hw''⟩ := hw'
      subst hw''
      have hb := below_regrown w18 dq osq
      have OC := Lib.hid (OC.out.below hb)
      have VC := Lib.hid (VC.out.below hb)
      have BB := Lib.hid (BB.out.below hb)
      have OP := Lib.hid (OP.out.below hb)
      have VP := Lib.hid (VP.out.below hb)
      have OX := Lib.hid (OX.out.below hb)
      have VX := Lib.hid (VX.out.below hb)
      have VB := Lib.hid (VB.out.below hb)
      have OY := Lib.hid (OY.out.below hb)
      have VY := Lib.hid (VY.out.below hb)
      have OZ := Lib.hid (OZ.out.below hb)
      have VZ := Lib.hid (VZ.out.below hb)
      have HB := Lib.hid (HB.out.trans (hb.mono HB.out.size))
      clear hb HQS HQA HQV HQY hc1 hc2 hc3 hc4 hc5 hb0 hb1
      clear vz_0 vz_1 vz_2 vy_0 vy_1 vy_2 vc_0 vc_1 vc_2 vb_0 vb_1 vb_2
      generalize (grow (redrawn w18 dq) osq) = w19 at *
      obtain ⟨vb_0, vb_1, vb_2⟩ := VB.out.cells
      obtain ⟨vc_0, vc_1, vc_2⟩ := (VC.out.below (alloc_below w19 (.cells #[.int .i64 ((F : Int) - 1), .int .i64 (L : Int), .int .i64 A] 39))).cells
      go_wp2_with fail
      clear vb_0 vb_1 vb_2 vc_0 vc_1 vc_2
      have hv0 := BVar.new w19 ((F : Int) - 1) (L : Int) A
      have hb := alloc_below w19 (.cells #[.int .i64 ((F : Int) - 1), .int .i64 (L : Int), .int .i64 A] 39)
      have OC := Lib.hid (OC.out.below hb)
      have VC := Lib.hid (VC.out.below hb)
      have BB := Lib.hid (BB.out.below hb)
      have OP := Lib.hid (OP.out.below hb)
      have VP := Lib.hid (VP.out.below hb)
      have OX := Lib.hid (OX.out.below hb)
      have VX := Lib.hid (VX.out.below hb)
      have VB := Lib.hid (VB.out.below hb)
      have OY := Lib.hid (OY.out.below hb)
      have VY := Lib.hid (VY.out.below hb)
      have OZ := Lib.hid (OZ.out.below hb)
      have VZ := Lib.hid (VZ.out.below hb)
      have HB := Lib.hid (HB.out.trans (hb.mono HB.out.size))
      have VQ := Lib.hid hv0
      clear hv0 hb
      generalize (w19.alloc (.cells #[.int .i64 ((F : Int) - 1), .int .i64 (L : Int), .int .i64 A] 39)) = w20 at *
      generalize w19.heap.size = bVQ at *
      refine (canAdd_impl d f ((F : Int) - 1) (L : Int) A w.heap.size l.length c (some ⟨g, 0, none⟩) l _ hln OC.out HZ.out (by omega) (by omega)).mono ?_
      rw [HWD.out.front]
      rintro e w21 ⟨rfl, hb⟩
      have OC := Lib.hid (OC.out.below hb)
      have VC := Lib.hid (VC.out.below hb)
      have BB := Lib.hid (BB.out.below hb)
      have OP := Lib.hid (OP.out.below hb)
      have VP := Lib.hid (VP.out.below hb)
      have OX := Lib.hid (OX.out.below hb)
      have VX := Lib.hid (VX.out.below hb)
      have VB := Lib.hid (VB.out.below hb)
      have OY := Lib.hid (OY.out.below hb)
      have VY := Lib.hid (VY.out.below hb)
      have OZ := Lib.hid (OZ.out.below hb)
      have VZ := Lib.hid (VZ.out.below hb)
      have VQ := Lib.hid (VQ.out.below hb)
      have HB := Lib.hid (HB.out.trans (hb.mono HB.out.size))
      clear hb
      obtain ⟨vc_0, vc_1, vc_2⟩ := VC.out.cells
      obtain ⟨vb_0, vb_1, vb_2⟩ := VB.out.cells
      go_wp2_with fail
      clear vc_0 vc_1 vc_2 vb_0 vb_1 vb_2
      refine (canAdd_impl d f (F : Int) ((L : Int) + 1) A w.heap.size l.length c (some ⟨g, 0, none⟩) l _ hln OC.out HZ.out (by omega) (by omega)).mono ?_
      rw [HWD.out.behind]
      rintro e w22 ⟨rfl, hb⟩
      have OC := Lib.hid (OC.out.below hb)
      have VC := Lib.hid (VC.out.below hb)
      have BB := Lib.hid (BB.out.below hb)
      have OP := Lib.hid (OP.out.below hb)
      have VP := Lib.hid (VP.out.below hb)
      have OX := Lib.hid (OX.out.below hb)
      have VX := Lib.hid (VX.out.below hb)
      have VB := Lib.hid (VB.out.below hb)
      have OY := Lib.hid (OY.out.below hb)
      have VY := Lib.hid (VY.out.below hb)
      have OZ := Lib.hid (OZ.out.below hb)
      have VZ := Lib.hid (VZ.out.below hb)
      have VQ := Lib.hid (VQ.out.below hb)
      have HB := Lib.hid (HB.out.trans (hb.mono HB.out.size))
      clear hb
      go_wp2_with fail
      refine (adds_impl 0 0 w22.heap.size 0 0 none [] bb bs.length db bs _ (by omega) (Own.nil _ _) (by simp) rfl (by omega) BB.out.row2.2 HFIT.out).mono ?_
      rw [no_card]
      rintro e wz ⟨az, cz, rfl, hb, ho⟩
      have HB := Lib.hid (HB.out.trans (hb.mono HB.out.size))
      clear hb ho
      go_wp2
      go_ret
      exact ⟨rfl, HB.out.alloc HB.out.size _⟩
end Go.Proofs.Ytekmladindlmoaa.Box
