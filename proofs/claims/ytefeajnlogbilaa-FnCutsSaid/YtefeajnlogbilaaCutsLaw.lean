/- What laws.FnCuts returns: true at every draw. -/
import Derived.Test.YtefeajnlogbilaaKerfProp
import Derived.Test.YtefeajnlogbilaaKerfHas
import Derived.Test.YtefeajnlogbilaaDrawThree
import Derived.Test.YtefeajnlogbilaaIntRows2
import Derived.Test.YtefeajnlogbilaaBig
namespace Go.Proofs.Ytefeajnlogbilaa.Kerf
open Go.ChangeShapes Go.WideShapes Go.ChangeAt Go.RowKit
open Go.Proofs.Ytefeajnlogbilaa.Strip Go.Proofs.Ytefeajnlogbilaa.Ints Go.Proofs.Ytefeajnlogbilaa.Corner Go.Proofs.Ytefeajnlogbilaa.Draw
set_option linter.unusedVariables false

theorem alloc_below2 (w : World) (o : Obj) : Below w.heap.size w (w.alloc o) := (Below.refl _ _).alloc (Nat.le_refl _) _

set_option maxRecDepth 100000 in
set_option maxHeartbeats 4000000 in
theorem cutsProp (ca : Option Addr) (cl cc : Nat) (w : World) (hm : cl ≤ maxLen) (hr : RowIn w ca cl) :
    Calls Try.prog 4 #[.slice ca cl cc] w fun e w' => e = .returned (.bool true) ∧ Below w.heap.size w w' := by
  by_cases hbig : 1048576 < cl
  · have hd : decide (1048576 < (cl : Int)) = true := by simp; omega
    go_enter Try.func4, Try.ntmps4
    go_wp2_with fail
    refine (big_at ca cl cc w hm).mono ?_
    rintro e w' ⟨rfl, rfl⟩
    rw [hd]
    go_wp2
    go_ret
    exact ⟨rfl, Below.refl _ _⟩
  · have hd : decide (1048576 < (cl : Int)) = false := by simp; omega
    have HR := Lib.hid hr; clear hr
    go_enter Try.func4, Try.ntmps4
    go_wp2_with fail
    refine (big_at ca cl cc w hm).mono ?_
    rintro e w' ⟨rfl, rfl⟩
    rw [hd]
    go_wp2_with fail
    refine drawThree_get ca cl cc w hm HR.out ?_
    intro r s t w1 h1 h2 hd5 hf5 hb1
    have HB1 := Lib.hid hb1
    clear hb1 HR hd hbig
    obtain ⟨q1, q2, _, _, q5⟩ := same_facts h1
    obtain ⟨_, q3, _, _, q6⟩ := same_facts h2
    have hsum := cnt_sum _ (stripB_ok q2)
    have e1 : r.data.toList.length = r.size := by simp
    have e2 : s.data.toList.length = s.size := by simp
    have e3 : t.data.toList.length = t.size := by simp
    have hr10 : r.size ≤ 1048576 := by omega
    have hs10 : s.size ≤ 1048576 := by omega
    have ht10 : t.size ≤ 1048576 := by omega
    have hs11 : s.size ≤ 10 := by omega
    have HCST := Lib.hid (fun w => cuts_impl s t w hs10 ht10)
    have HCTS := Lib.hid (fun w => cuts_impl t s w ht10 hs10)
    have HCRS := Lib.hid (fun w => cuts_spec r s w hr10 hs10)
    have HAST := Lib.hid (fun w => area_impl s t w hs10 ht10)
    have HATS := Lib.hid (fun w => area_impl t s w ht10 hs10)
    have HART := Lib.hid (fun w => area_impl r t w hr10 ht10)
    have HARS := Lib.hid (fun w => area_impl r s w hr10 hs10)
    have HGST := Lib.hid (fun w => runs_impl s t w hs10 ht10)
    rw [cuts_comm h2] at HCTS
    rw [area_comm h2] at HATS
    have hp := parts_of s.data.toList t.data.toList
    have hA := area_nonneg h2
    have hA2 := area_le h2
    have hX := area_nonneg h1
    have hX2 := area_le h1
    have hY := area_nonneg (same_trans h1 h2)
    have hY2 := area_le (same_trans h1 h2)
    have hT := area_tri h1 h2
    have hL := cuts_area h2
    have hl16 := cuts_16 s.data.toList t.data.toList
    have hl17 := cuts_16 r.data.toList s.data.toList
    have b1 := area_beq h2
    have b2 := cuts_beq h2
    have hn1 : numV 100 s.data.toList = (cnt 100 s.data.toList : Int) := by unfold numV; rw [q2]; rfl
    have hn2 : numV 102 s.data.toList = (cnt 102 s.data.toList : Int) := by unfold numV; rw [q2]; rfl
    have HDS := Lib.hid (fun w => down_spec s w hs10)
    have HFS := Lib.hid (fun w => forward_spec s w hs10)
    rw [hn1] at HDS
    rw [hn2] at HFS
    have HZ := Lib.hid (show ∀ x ∈ [r, s, t], x.size ≤ 1048576 from by
      intro x hx
      simp only [List.mem_cons, List.not_mem_nil, or_false] at hx
      rcases hx with rfl | rfl | rfl <;> assumption)
    have HLEN := Lib.hid (fun (a : Option Addr) (c : Nat) (w' : World) (h : Strs.Row w' a [r, s, t]) => len_impl (cnt 100 s.data.toList : Int) (cnt 102 s.data.toList : Int) a 3 c [r, s, t] w' rfl (by omega) HZ.out h)
    have HFREE := Lib.hid (fun (a : Option Addr) (c : Nat) (w' : World) (h : Strs.Row w' a [r, s, t]) => free_impl (cnt 100 s.data.toList : Int) (cnt 102 s.data.toList : Int) a 3 c [r, s, t] w' rfl (by omega) HZ.out h)
    rw [len_three h1 h2] at HLEN
    rw [free_three h1 h2] at HFREE
    unfold runsC at HGST
    clear q1 q2 q3 q5 q6 hsum e1 e2 e3 hn1 hn2 h1 h2 hd5 hf5 HZ hr10 hs10 ht10
    generalize areaI s.data.toList t.data.toList = A at *
    generalize areaI r.data.toList s.data.toList = X at *
    generalize areaI r.data.toList t.data.toList = Y at *
    generalize cutsL s.data.toList t.data.toList = l at *
    generalize cutsL r.data.toList s.data.toList = l' at *
    generalize runsR l = G at *
    generalize (cnt 100 s.data.toList : Int) = d at *
    generalize (cnt 102 s.data.toList : Int) = f at *
    obtain ⟨L, hL0⟩ : ∃ L, l.length = L := ⟨_, rfl⟩
    obtain ⟨R, hR0⟩ : ∃ R, G.length = R := ⟨_, rfl⟩
    obtain ⟨M, hM0⟩ : ∃ M, l'.length = M := ⟨_, rfl⟩
    rw [hL0] at hL hl16 b2 HLEN HFREE
    rw [hM0] at hl17 HLEN HFREE
    have hR16 : R ≤ 16 := by rw [← hR0]; exact hp.len
    have HLL := Lib.hid hL0
    have HRR := Lib.hid hR0
    have HMM := Lib.hid hM0
    have HP := Lib.hid hp
    have HLS := Lib.hid (show (G.map pairL).length = R from by rw [List.length_map, hR0])
    obtain ⟨bq, hbq⟩ : ∃ bq, (s.toList == t.toList) = bq := ⟨_, rfl⟩
    rw [hbq] at b1 b2
    have HQ1 := Lib.hid b1
    have HQ2 := Lib.hid b2
    have HQ3 := Lib.hid hbq
    clear hp hL0 hR0 hM0 b1 b2 hbq
    go_wp2_with fail
    refine (HCST.out _).mono ?_
    rintro e w2 ⟨vl, rfl, hb2, hol⟩
    have HB2 := Lib.hid (HB1.out.trans (hb2.mono HB1.out.size))
    have HOL2 := Lib.hid (hol.mono HB1.out.size)
    clear hb2 hol
    obtain ⟨al, cL, rfl, _, _⟩ := HOL2.out.row
    rw [HLL.out] at HOL2 ⊢
    go_wp2_with fail
    refine (HAST.out _).mono ?_
    rintro e w3 ⟨rfl, hb3⟩
    have HB3 := Lib.hid (HB2.out.trans (hb3.mono HB2.out.size))
    have HOL3 := Lib.hid (HOL2.out.below hb3)
    clear hb3 HOL2
    go_wp2_with fail
    refine (HGST.out _).mono ?_
    rintro e w4 ⟨vg, us, rfl, hb4, hog⟩
    have HB4 := Lib.hid (HB3.out.trans (hb4.mono HB3.out.size))
    have HOL4 := Lib.hid (HOL3.out.below hb4)
    have HOG4 := Lib.hid (hog.mono HB3.out.size)
    clear hb4 hog HOL3 HB1 HB2 HB3
    obtain ⟨ag, cg, rfl, _, _⟩ := HOG4.out.row
    rw [HLS.out] at HOG4 ⊢
    go_wp2_with fail
    go_loopw [9, 10] (fun su i wr => ∃ k : Nat, k ≤ R ∧ i = .int .i64 (k : Int) ∧ su = .int .i64 (lenR (G.take k)) ∧ Hid (Own wr w.heap.size (.slice al L cL) l) ∧ Hid (Own2 wr w.heap.size (.slice ag R cg) us (G.map pairL)) ∧ Hid (Below w.heap.size w wr)) (fun _ i _ => R - (intOf i).toNat)
    case atStart => exact ⟨0, Nat.zero_le _, rfl, rfl, HOL4, HOG4, HB4⟩
    case round =>
      clear HOL4 HOG4 HB4
      obtain ⟨k, hk, rfl, rfl, HOL, HOG, HB⟩ := hrel
      obtain ⟨p0, p1⟩ := lenR_bound HP.out.ord k (by rw [HRR.out]; exact hk)
      by_cases hlt : k < R
      · have hkg : k < G.length := by rw [HRR.out]; exact hlt
        have hk0 : (0 : Int) ≤ (k : Int) := Int.natCast_nonneg _
        have hk1 : (k : Int) < (R : Int) := by omega
        obtain ⟨o1, o2, o3⟩ := HP.out.ord G[k] (List.getElem_mem hkg)
        have f1 := HP.out.fst G[k] (List.getElem_mem hkg)
        have f2 := HP.out.gap G[k] (List.getElem_mem hkg)
        have HNX := Lib.hid (lenR_take_next hkg)
        have hat : (G.map pairL)[k]? = some [G[k].1, G[k].2] := by rw [List.getElem?_map, List.getElem?_eq_getElem hkg]; rfl
        obtain ⟨_, _, e, rw2, _⟩ := HOG.out.row
        rw [HLS.out] at e
        cases e
        obtain ⟨go, au, cu, rfl, hc1, hrow, _⟩ := rw2 k _ hat
        obtain ⟨gu, rfl, _, hc2⟩ := hrow 0 (by simp)
        obtain ⟨gu', e, _, hc3⟩ := hrow 1 (by simp)
        cases e
        obtain ⟨_, _, e, rl, _⟩ := HOL.out.row
        rw [HLL.out] at e
        cases e
        generalize G[k].1 = x at *
        generalize G[k].2 = y at *
        have hc1 : wr.cell? ⟨go, k, none⟩ = some (.slice (some ⟨gu, 0, none⟩) 2 cu) := hc1
        have hc2 : wr.cell? ⟨gu, 0, none⟩ = some (.int .i64 x) := hc2
        have hc3 : wr.cell? ⟨gu, 1, none⟩ = some (.int .i64 y) := hc3
        have HH := Lib.hid (fun (z : Int) (q : Nat) => has_at al L cL l z (wr.drewN q) HLL.out (by unfold maxLen; omega) (rl.drewN q))
        have hdx : decide (y < x) = false := by simp; omega
        have hwy : IntKind.i64.wrap (y + 1) = y + 1 := by rw [IntKind.wrap_i64]; omega
        clear hat rw2 hrow rl hkg
        go_wp2_with fail
        go_quiet ((go_at_call 27; refine qsame (HH.out _ _)))
        have HOLq := Lib.hid (fun q => HOL.out.below (Ints.drewN_below wr q))
        have HOGq := Lib.hid (fun q => HOG.out.below (Ints.drewN_below wr q))
        have HBq := Lib.hid (fun q => HB.out.trans ((Ints.drewN_below wr q).mono HB.out.size))
        clear HH f1 f2 hdx hwy
        generalize lenR (G.take k) = S at *
        have hs1 : IntKind.i64.wrap (S + y) = S + y := by rw [IntKind.wrap_i64]; omega
        have hs2 : IntKind.i64.wrap (S + y - x) = S + y - x := by rw [IntKind.wrap_i64]; omega
        have hs3 : IntKind.i64.wrap (S + y - x + 1) = S + y - x + 1 := by rw [IntKind.wrap_i64]; omega
        go_wp2_with fail
        go_quiet (fail)
        go_wp2
        refine ⟨⟨k + 1, by omega, by go_num, ?_, Lib.hid (HOLq.out _), Lib.hid (HOGq.out _), Lib.hid (HBq.out _)⟩, by simp [intOf]; omega⟩
        rw [HNX.out]
        congr 1
        omega
      · obtain rfl : k = R := by omega
        have hall : lenR (G.take k) = (L : Int) := by rw [← HRR.out, List.take_length, HP.out.all, HLL.out]
        rw [hall]
        clear hall p0 p1 hlt hk HGST HCST HAST
        have HOG := HOG
        clear HOG
        go_wp2_with fail
        refine (HCTS.out _).mono ?_
        rintro e w5 ⟨v5, rfl, hb5, ho5⟩
        have HB5 := Lib.hid (HB.out.trans (hb5.mono HB.out.size))
        have HOL5 := Lib.hid (HOL.out.below hb5)
        have HO5 := Lib.hid ho5
        clear hb5 ho5
        obtain ⟨a5, c5, rfl, _, _⟩ := HO5.out.row
        rw [HLL.out] at HO5 ⊢
        obtain ⟨_, _, e, r5, _⟩ := HO5.out.row
        rw [HLL.out] at e
        cases e
        obtain ⟨_, _, e, rl, _⟩ := HOL5.out.row
        rw [HLL.out] at e
        cases e
        have HSI := Lib.hid (same_ints L cL c5 al a5 l HLL.out (by unfold maxLen; omega) w5 rl r5)
        clear r5 rl HO5 HOL5 HOL HB
        go_wp2_with fail
        refine HSI.out.mono ?_
        rintro e w6 ⟨rfl, q, rfl⟩
        have HB6 := Lib.hid (HB5.out.trans ((Ints.drewN_below w5 q).mono HB5.out.size))
        clear HSI HB5
        generalize w5.drewN q = w6 at *
        have hAA : (A != A) = false := by simp
        have hA0 : decide (A < 0) = false := by simp; omega
        have hLL : ((L : Int) != (L : Int)) = false := by simp
        have hTri : decide (X + A < Y) = false := by simp; omega
        have hDbl : decide (2 * A < (L : Int)) = false := by simp; omega
        have hbb : (bq != bq) = false := by simp
        have b1 := HQ1.out
        have b2 := HQ2.out
        have b3 := HQ3.out
        go_wp2_with fail
        refine (HATS.out _).mono ?_
        rintro e w7 ⟨rfl, hb7⟩
        have HB7 := Lib.hid (HB6.out.trans (hb7.mono HB6.out.size))
        clear hb7 HB6
        go_wp2_with fail
        refine (HART.out _).mono ?_
        rintro e w8 ⟨rfl, hb8⟩
        have HB8 := Lib.hid (HB7.out.trans (hb8.mono HB7.out.size))
        clear hb8 HB7
        go_wp2_with fail
        refine (HARS.out _).mono ?_
        rintro e w9 ⟨rfl, hb9⟩
        have HB9 := Lib.hid (HB8.out.trans (hb9.mono HB8.out.size))
        clear hb9 HB8
        go_wp2_with fail
        clear hAA hA0 hLL hTri hDbl hbb b1 b2 b3
        refine (HDS.out _).mono ?_
        rintro e w' ⟨rfl, rfl⟩
        go_wp2_with fail
        refine (HFS.out _).mono ?_
        rintro e w' ⟨rfl, rfl⟩
        go_wp2_with fail
        have hlit : Strs.Own (w9.alloc (.cells #[.string r, .string s, .string t] 9)) w9.heap.size (.slice (some ⟨w9.heap.size, 0, none⟩) 3 3) [r, s, t] := Card.Own.lit [r, s, t] rfl (Nat.le_refl _) (by show 3 ≤ maxLen; unfold maxLen; omega)
        have hba := alloc_below2 (w9.alloc (.cells #[.string r, .string s, .string t] 9)) (.cells #[.int .i64 d, .int .i64 f, .slice (some ⟨w9.heap.size, 0, none⟩) 3 3] 26)
        have HROW := Lib.hid (hlit.below hba).row2.2
        have hvar : Card.Var ((w9.alloc (.cells #[.string r, .string s, .string t] 9)).alloc (.cells #[.int .i64 d, .int .i64 f, .slice (some ⟨w9.heap.size, 0, none⟩) 3 3] 26)) (w9.heap.size + 1) d f (.slice (some ⟨w9.heap.size, 0, none⟩) 3 3) := by
          have h := Card.Var.new (w9.alloc (.cells #[.string r, .string s, .string t] 9)) d f (.slice (some ⟨w9.heap.size, 0, none⟩) 3 3)
          simpa using h
        have HVAR := Lib.hid hvar
        have HB10 := Lib.hid ((HB9.out.alloc HB9.out.size (.cells #[.string r, .string s, .string t] 9)).alloc (HB9.out.alloc HB9.out.size _).size (.cells #[.int .i64 d, .int .i64 f, .slice (some ⟨w9.heap.size, 0, none⟩) 3 3] 26))
        clear hlit hba hvar HB9
        generalize (w9.alloc (.cells #[.string r, .string s, .string t] 9)).alloc (.cells #[.int .i64 d, .int .i64 f, .slice (some ⟨w9.heap.size, 0, none⟩) 3 3] 26) = w10 at *
        generalize w9.heap.size = b9 at *
        refine (HLEN.out _ _ _ HROW.out).mono ?_
        rintro e w11 ⟨rfl, hb11⟩
        have HROW2 := Lib.hid (HROW.out.below hb11)
        have HVAR2 := Lib.hid (HVAR.out.below hb11)
        have HB11 := Lib.hid (HB10.out.trans (hb11.mono HB10.out.size))
        clear hb11 HROW HVAR HB10
        go_wp2_with fail
        refine (HCRS.out _).mono ?_
        rintro e w12 ⟨v12, rfl, hb12, ho12⟩
        have HROW3 := Lib.hid (HROW2.out.below hb12)
        have HB12 := Lib.hid (HB11.out.trans (hb12.mono HB11.out.size))
        obtain ⟨k0, k1, k2⟩ := (HVAR2.out.below hb12).cells
        obtain ⟨a12, c12, rfl, _, _⟩ := Ints.Own.row ho12
        rw [HMM.out]
        have hml : ((M : Int) + (L : Int) == (L : Int) + (M : Int)) = true := by simp; omega
        have hz1 : (0 : Int) ≤ (s.size : Int) := Int.natCast_nonneg _
        have hz2 : (s.size : Int) ≤ 10 := by omega
        have hfe : (2 * ((M : Int) + (L : Int)) + 2 * (s.size : Int) == 2 * ((M : Int) + (L : Int)) + 2 * (s.size : Int)) = true := by simp
        clear hb12 ho12 HROW2 HVAR2 HB11
        go_wp2_with fail
        refine (HFREE.out _ _ _ HROW3.out).mono ?_
        rintro e w13 ⟨rfl, hb13⟩
        have HB13 := Lib.hid (HB12.out.trans (hb13.mono HB12.out.size))
        clear hb13 k0 k1 k2
        go_wp2
        go_ret
        exact ⟨rfl, HB13.out⟩
end Go.Proofs.Ytefeajnlogbilaa.Kerf
