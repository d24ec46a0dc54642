/- What the program of chapter 4 returns. -/
import Derived.Test.YtnihgpbfdlmopaaPlaceSpec
import Derived.Test.YtnihgpbfdlmopaaStripImpl2
import Derived.Test.YtnihgpbfdlmopaaCornerSpec
import Derived.Test.YtnihgpbfdlmopaaKit
namespace Go.Proofs.Ytnihgpbfdlmopaa.Place
open Go.ChangeShapes Go.WideShapes Go.ChangeAt Go.RowKit
open Go.Proofs.Ytnihgpbfdlmopaa.Strip Go.Proofs.Ytnihgpbfdlmopaa.Ints Go.Proofs.Ytnihgpbfdlmopaa.Corner
set_option linter.unusedVariables false

set_option maxRecDepth 100000 in
theorem place_impl (s : ByteArray) (k op : Int) (w : World) (hm : s.size ≤ 1048576) :
    Calls Try.prog 14 #[.string s, .int .i64 k, .int .i64 op] w fun e w' => e = .returned (placeV s.data.toList k op) ∧ Below w.heap.size w w' := by
  cases hin : inB s.data.toList k with
  | false =>
    rw [place_no hin]
    have HAT := Lib.hid (at_no hin)
    unfold noV at *
    go_enter Try.func14, Try.ntmps14
    go_wp2_with fail
    refine (at_impl s k _ hm).mono ?_
    rintro e w1 ⟨rfl, hb⟩
    have HB := Lib.hid hb; clear hb
    rw [HAT.out]
    go_wp2
    go_ret3
    exact ⟨rfl, HB.out⟩
  | true =>
    obtain ⟨x, y, d, hx, hy, hd, hat, hnum, hpl⟩ := at_yes hin
    rw [hpl]
    have HAT := Lib.hid hat; clear hat hpl
    have HNUM := Lib.hid hnum; clear hnum
    unfold placeT
    rcases op_cases op with rfl | rfl | rfl | ho
    case inr.inr.inr =>
      have h0 : (op == 0) = false := by unfold opB at ho; simp at ho ⊢; omega
      have h1 : (op == 1) = false := by unfold opB at ho; simp at ho ⊢; omega
      have h2 : (op == 2) = false := by unfold opB at ho; simp at ho ⊢; omega
      rw [ho]
      unfold noV
      clear ho
      go_enter Try.func14, Try.ntmps14
      go_wp2_with fail
      refine (at_impl s k _ hm).mono ?_
      rintro e w1 ⟨rfl, hb⟩
      have HB := Lib.hid hb; clear hb
      rw [HAT.out]
      go_wp2_with fail
      refine (down_impl s _ hm).mono ?_
      rintro e w2 ⟨rfl, hb⟩
      have HB2 := Lib.hid (HB.out.trans (hb.mono HB.out.size)); clear hb
      rw [HNUM.out]
      go_wp2
      go_ret3
      exact ⟨rfl, HB2.out⟩
    all_goals
      rw [show opB _ = true from rfl, if_pos rfl]
      unfold fx fy
      simp only [if_true, if_false, show ((1 : Int) = 0) = False from by simp, show ((2 : Int) = 0) = False from by simp, show ((2 : Int) = 1) = False from by simp, show ((0 : Int) = 1) = False from by simp]
      go_enter Try.func14, Try.ntmps14
      go_wp2_with fail
      refine (at_impl s k _ hm).mono ?_
      rintro e w1 ⟨rfl, hb⟩
      have HB := Lib.hid hb; clear hb
      rw [HAT.out]
      go_wp2_with fail
      refine (down_impl s _ hm).mono ?_
      rintro e w2 ⟨rfl, hb⟩
      have HB2 := Lib.hid (HB.out.trans (hb.mono HB.out.size)); clear hb
      rw [HNUM.out]
      go_wp2
      go_ret3
      exact ⟨rfl, HB2.out⟩

set_option maxRecDepth 100000 in
theorem firsts_impl (s : ByteArray) (op : Int) (w : World) (hst : stripB s.data.toList = true) (ho : opB op = true) :
    Calls Try.prog 28 #[.string s, .int .i64 op] w (PostRow w (firsts (px s.data.toList op) (s.size + 1))) := by
  obtain ⟨i0, hi, hz0, hz1, hz2⟩ := info_parts info_int
  have hsl : s.data.toList.length = s.size := by simp
  have HSL := Lib.hid hsl; clear hsl
  have hf := frame_of hst
  rw [HSL.out] at hf
  have hsz : s.size ≤ 16 := by omega
  have hm : s.size ≤ 1048576 := by omega
  have HPL := Lib.hid (fun k (h : k ≤ s.size) => place_at (op := op) hst (k := k) (by rw [HSL.out]; exact h) ho)
  obtain ⟨f, hff⟩ : ∃ f, px s.data.toList op = f := ⟨_, rfl⟩
  rw [hff] at HPL ⊢
  clear hff hst ho hf
  go_enter Try.func28, Try.ntmps28
  go_wp2_with fail
  go_loopw [5, 6] (fun v i wr => ∃ k : Nat, k ≤ s.size + 1 ∧ i = .int .i64 (k : Int) ∧ Hid (Own wr w.heap.size v (firsts f k)) ∧ Hid (Below w.heap.size w wr)) (fun _ i _ => s.size + 1 - (intOf i).toNat)
  case atStart => exact ⟨0, Nat.zero_le _, rfl, Own.nil _ _, Below.refl _ _⟩
  case round =>
    obtain ⟨k, hk, rfl, HO, HB⟩ := hrel
    by_cases hlt : k ≤ s.size
    · have hk1 : (k : Int) ≤ (s.size : Int) := by omega
      have hpl := HPL.out k hlt
      have HP := Lib.hid hpl; clear hpl
      have HG := Lib.hid (firsts_succ f k)
      have HL := Lib.hid (firsts_length f k)
      generalize f k = p at *
      go_wp2_with fail
      refine (place_impl s (k : Int) op _ hm).mono ?_
      rintro e w2 ⟨rfl, hb⟩
      have HB2 := Lib.hid (HB.out.trans (hb.mono HB.out.size))
      have HO2 := Lib.hid (HO.out.below hb); clear hb HO HB
      have HS := Lib.hid HB2.out.size
      rw [HP.out]
      go_wp2_with (at_builtin; refine wpList_append_own _ rfl _ _ 37 rfl w.heap.size 3 i0 _ 1 8 Try.underlying37 hi hz0 hz1 hz2 rfl (by decide) u5 (firsts f k).length (icells (firsts f k)) rfl (HO2.out.alloc _) ⟨w2.heap.size, 0, none⟩ 1 1 [.int .i64 p] rfl rfl (World.news_of_block (cs := #[.int .i64 p]) (t := 3) (fr := (0, 0)) (heap_alloc_new _ _)) (by simp [Value.oneCell']) (by unfold maxLen; rw [HL.out]; omega) (by rw [HL.out]; omega) (by have := HS.out; simp; omega) ?_)
      intro v1 w3 hown1 hgrow _
      have HB3 := Lib.hid ((HB2.out.alloc HS.out _).grown hgrow (by have := HS.out; simp; omega) (fun t e => (HO2.out.lt t e).1))
      have HO3 : Hid (Own w3 w.heap.size v1 (firsts f (k + 1))) := by
        show World.ownsRow _ _ _ _ _ _ _
        rw [HG.out, icells_snoc, List.length_append]; exact hown1
      clear hown1 hgrow
      go_wp2
      go_roundw
      case rel => exact ⟨k + 1, by omega, by go_num, HO3, HB3⟩
      case measure => simp [intOf]; omega
    · obtain rfl : k = s.size + 1 := by omega
      go_wp2
      go_ret
      exact ⟨_, rfl, HB.out, HO.out⟩

/-- slices.Max and slices.Min at a row of ints. -/
theorem max_row (a : Option Addr) (c : Nat) (l : List Int) (w : World) (hr : IRow w a l) (h0 : 0 < l.length) (hn : l.length ≤ 2000000) :
    Calls Try.prog 27 #[.slice a l.length c] w fun e w' => e = .returned (.int .i64 (Lib.maxOf l)) ∧ w' = w := by
  obtain ⟨g, rfl, hg, _⟩ := hr 0 h0
  have h := Try.slices_Max_int g 0 l.length c l w h0 (Nat.le_refl _) (by omega) (fun j hj => by
    obtain ⟨g', e, _, hc⟩ := hr j hj
    cases e
    rw [Nat.zero_add, hc]; simp [List.getD, List.getElem?_eq_getElem hj])
  rw [List.take_length] at h
  exact h
theorem min_row (a : Option Addr) (c : Nat) (l : List Int) (w : World) (hr : IRow w a l) (h0 : 0 < l.length) (hn : l.length ≤ 2000000) :
    Calls Try.prog 35 #[.slice a l.length c] w fun e w' => e = .returned (.int .i64 (Lib.minOf l)) ∧ w' = w := by
  obtain ⟨g, rfl, hg, _⟩ := hr 0 h0
  have h := Try.slices_Min_int g 0 l.length c l w h0 (Nat.le_refl _) (by omega) (fun j hj => by
    obtain ⟨g', e, _, hc⟩ := hr j hj
    cases e
    rw [Nat.zero_add, hc]; simp [List.getD, List.getElem?_eq_getElem hj])
  rw [List.take_length] at h
  exact h

set_option maxRecDepth 100000 in
theorem reach_impl (s : ByteArray) (w : World) (hm : s.size ≤ 1048576) :
    Calls Try.prog 11 #[.string s] w fun e w' => e = .returned (.int .i64 (reachV s.data.toList)) ∧ Below w.heap.size w w' := by
  cases hst : stripB s.data.toList with
  | false =>
    have hv : reachV s.data.toList = 0 := by unfold reachV; rw [hst]; rfl
    rw [hv]
    go_enter Try.func11, Try.ntmps11
    go_wp2_with fail
    refine (is_impl s _ hm).mono ?_
    rintro e w1 ⟨rfl, hb⟩
    have HB := Lib.hid hb; clear hb
    rw [hst]
    go_wp2
    go_ret
    exact ⟨rfl, HB.out⟩
  | true =>
    have hv := reach_start hst
    have hmx := max_firsts (px s.data.toList 0) s.size
    rw [show s.data.toList.length = s.size from by simp] at hv
    rw [hv] at hmx
    have HF := Lib.hid (fun w => firsts_impl s 0 w hst rfl)
    have HLN := Lib.hid (firsts_length (px s.data.toList 0) (s.size + 1))
    clear hv
    generalize firsts (px s.data.toList 0) (s.size + 1) = l at *
    rw [← hmx]
    clear hmx
    go_enter Try.func11, Try.ntmps11
    go_wp2_with fail
    refine (is_impl s _ hm).mono ?_
    rintro e w1 ⟨rfl, hb⟩
    have HB := Lib.hid hb; clear hb
    rw [hst]
    go_wp2_with fail
    refine (HF.out _).mono ?_
    rintro e w2 ⟨v, rfl, hb, ho⟩
    have HB2 := Lib.hid (HB.out.trans (hb.mono HB.out.size)); clear hb
    obtain ⟨a, cap, rfl, hr, _⟩ := ho.row
    have HR := Lib.hid hr; clear hr ho
    go_wp2_with fail
    refine (max_row a cap l _ HR.out (by rw [HLN.out]; omega) (by rw [HLN.out]; omega)).mono ?_
    rintro e w' ⟨rfl, rfl⟩
    go_wp2
    go_ret
    exact ⟨rfl, HB2.out⟩

theorem inside_impl (s : ByteArray) (p : Int) (w : World) (hm : s.size ≤ 1048576) :
    Calls Try.prog 18 #[.string s, .int .i64 p] w fun e w' => e = .returned (.bool (insideB s.data.toList p)) ∧ Below w.heap.size w w' := by
  unfold insideB
  cases hst : stripB s.data.toList with
  | false =>
    go_enter Try.func18, Try.ntmps18
    go_wp2_with fail
    refine (is_impl s _ hm).mono ?_
    rintro e w1 ⟨rfl, hb⟩
    have HB := Lib.hid hb; clear hb
    rw [hst]
    go_wp2
    go_ret
    exact ⟨rfl, HB.out⟩
  | true =>
    have hrb := reach_bound s.data.toList
    have HR := Lib.hid (fun w => reach_impl s w hm)
    generalize reachV s.data.toList = r at *
    by_cases hq : 1 ≤ p ∧ p ≤ 40
    · have h1 : decide (1 ≤ p) = true := by simp; omega
      have h2 : decide (p ≤ 40) = true := by simp; omega
      rw [decide_eq_true hq]
      obtain ⟨hq1, hq2⟩ := hq
      go_enter Try.func18, Try.ntmps18
      go_wp2_with fail
      refine (is_impl s _ hm).mono ?_
      rintro e w1 ⟨rfl, hb⟩
      have HB := Lib.hid hb; clear hb
      rw [hst]
      go_wp2_with fail
      refine (HR.out _).mono ?_
      rintro e w2 ⟨rfl, hb⟩
      have HB2 := Lib.hid (HB.out.trans (hb.mono HB.out.size)); clear hb
      go_wp2
      go_ret
      exact ⟨by simp, HB2.out⟩
    · rw [decide_eq_false hq]
      by_cases hq1 : 1 ≤ p
      · have hq2 : ¬ p ≤ 40 := by omega
        have h2 : decide (p ≤ 40) = false := by simp; omega
        go_enter Try.func18, Try.ntmps18
        go_wp2_with fail
        refine (is_impl s _ hm).mono ?_
        rintro e w1 ⟨rfl, hb⟩
        have HB := Lib.hid hb; clear hb
        rw [hst]
        go_wp2
        go_ret
        exact ⟨rfl, HB.out⟩
      · have h2 : decide (1 ≤ p) = false := by simp; omega
        go_enter Try.func18, Try.ntmps18
        go_wp2_with fail
        refine (is_impl s _ hm).mono ?_
        rintro e w1 ⟨rfl, hb⟩
        have HB := Lib.hid hb; clear hb
        rw [hst]
        go_wp2
        go_ret
        exact ⟨rfl, HB.out⟩

set_option maxRecDepth 100000 in
theorem spread_impl (s : ByteArray) (w : World) (hm : s.size ≤ 1048576) :
    Calls Try.prog 17 #[.string s] w fun e w' => e = .returned (.int .i64 (spreadV s.data.toList)) ∧ Below w.heap.size w w' := by
  cases hst : stripB s.data.toList with
  | false =>
    have hv : spreadV s.data.toList = -1 := by unfold spreadV; rw [hst]; rfl
    rw [hv]
    go_enter Try.func17, Try.ntmps17
    go_wp2_with fail
    refine (is_impl s _ hm).mono ?_
    rintro e w1 ⟨rfl, hb⟩
    have HB := Lib.hid hb; clear hb
    rw [hst]
    go_wp2
    go_ret
    exact ⟨rfl, HB.out⟩
  | true =>
    have hv : spreadV s.data.toList = hiF (px s.data.toList 2 0) (px s.data.toList 2) (s.size + 1) - loF (px s.data.toList 2 0) (px s.data.toList 2) (s.size + 1) := by unfold spreadV; rw [if_pos hst, show s.data.toList.length = s.size from by simp]
    have hmx := max_firsts (px s.data.toList 2) s.size
    have hmn := min_firsts (px s.data.toList 2) s.size
    have hpb := px_bound hst 2
    have b1 := hiF_le (a := px s.data.toList 2 0) (b := 16) (f := px s.data.toList 2) (by have := hpb 0; omega) (s.size + 1) fun k _ => (hpb k).2
    have b2 := hiF_ge (a := px s.data.toList 2 0) (f := px s.data.toList 2) (s.size + 1)
    have b3 := le_loF (a := px s.data.toList 2 0) (b := -8) (f := px s.data.toList 2) (by have := hpb 0; omega) (s.size + 1) fun k _ => (hpb k).1
    have b4 := loF_ge (a := px s.data.toList 2 0) (f := px s.data.toList 2) (s.size + 1)
    have b5 := hpb 0
    have HF := Lib.hid (fun w => firsts_impl s 2 w hst rfl)
    have HLN := Lib.hid (firsts_length (px s.data.toList 2) (s.size + 1))
    rw [hv]
    rw [← hmx] at b1 b2 ⊢
    rw [← hmn] at b3 b4 ⊢
    clear hv hmx hmn hpb
    generalize px s.data.toList 2 0 = a0 at *
    generalize firsts (px s.data.toList 2) (s.size + 1) = l at *
    obtain ⟨mx, hmx⟩ : ∃ m, Lib.maxOf l = m := ⟨_, rfl⟩
    obtain ⟨mn, hmn⟩ : ∃ m, Lib.minOf l = m := ⟨_, rfl⟩
    rw [hmx] at b1 b2 ⊢
    rw [hmn] at b3 b4 ⊢
    have MX := Lib.hid hmx; clear hmx
    have MN := Lib.hid hmn; clear hmn
    go_enter Try.func17, Try.ntmps17
    go_wp2_with fail
    refine (is_impl s _ hm).mono ?_
    rintro e w1 ⟨rfl, hb⟩
    have HB := Lib.hid hb; clear hb
    rw [hst]
    go_wp2_with fail
    refine (HF.out _).mono ?_
    rintro e w2 ⟨v, rfl, hb, ho⟩
    have HB2 := Lib.hid (HB.out.trans (hb.mono HB.out.size)); clear hb
    obtain ⟨a, cap, rfl, hr, _⟩ := ho.row
    have HR := Lib.hid hr; clear hr ho
    go_wp2_with fail
    refine (max_row a cap l _ HR.out (by rw [HLN.out]; omega) (by rw [HLN.out]; omega)).mono ?_
    rintro e w' ⟨rfl, rfl⟩
    rw [MX.out]
    go_wp2_with fail
    refine (min_row a cap l _ HR.out (by rw [HLN.out]; omega) (by rw [HLN.out]; omega)).mono ?_
    rintro e w' ⟨rfl, rfl⟩
    rw [MN.out]
    go_wp2
    go_ret
    exact ⟨rfl, HB2.out⟩

set_option maxRecDepth 100000 in
theorem step_impl (s : ByteArray) (k op : Int) (w : World) (hm : s.size ≤ 1048576) (hk0 : -9223372036854775808 ≤ k) (hk1 : k ≤ 9223372036854775807) :
    Calls Try.prog 15 #[.string s, .int .i64 k, .int .i64 op] w fun e w' => e = .returned (.int .i64 (stepV s.data.toList k op)) ∧ Below w.heap.size w w' := by
  have HLEN := Lib.hid (show (s.data.toList.length : Int) ≤ 1048576 from by simp; omega)
  by_cases hmin : k = -9223372036854775808
  · have hv : stepV s.data.toList k op = 0 := by
      have hf := place_far s.data.toList (k - 1) op (.inl (by omega))
      rcases step_cases s.data.toList k op with ⟨_, h⟩ | ⟨x, y, _, _, h⟩ | ⟨x, y, u, v, h, _⟩
      · exact h
      · exact h
      · rw [hf] at h; cases h
    rw [hv]
    clear hv
    subst hmin
    have H1 := Lib.hid (place_far s.data.toList (wrap64 (-9223372036854775809)) op (.inr (by rw [show wrap64 (-9223372036854775809) = 9223372036854775807 from by unfold wrap64; decide]; have := HLEN.out; omega)))
    have H2 := Lib.hid (place_far s.data.toList (-9223372036854775808) op (.inl (by omega)))
    unfold noV at H1 H2
    go_enter Try.func15, Try.ntmps15
    go_wp2_with fail
    refine (place_impl s _ op _ hm).mono ?_
    rintro e w2 ⟨rfl, hb⟩
    have HB2 := Lib.hid hb; clear hb
    rw [H1.out]
    go_wp2_with fail
    refine (place_impl s (-9223372036854775808) op _ hm).mono ?_
    rintro e w3 ⟨rfl, hb⟩
    have HB3 := Lib.hid (HB2.out.trans (hb.mono HB2.out.size)); clear hb
    rw [H2.out]
    go_wp2
    go_ret
    exact ⟨rfl, HB3.out⟩
  · have hk2 : -9223372036854775807 ≤ k := by omega
    clear hmin hk0
    rcases step_cases s.data.toList k op with ⟨h1, hv⟩ | ⟨x, y, h1, h2, hv⟩ | ⟨x, y, u, v, h1, h2, hb, hv⟩
    · rw [hv]
      have H1 := Lib.hid h1; clear hv h1
      obtain ⟨a, b, c, hf⟩ : ∃ a b c, placeV s.data.toList k op = .tuple #[.int .i64 a, .int .i64 b, .bool c] := by
        rcases place_form s.data.toList k op with ⟨h, _⟩ | ⟨x, y, h, _⟩
        · exact ⟨_, _, _, h⟩
        · exact ⟨_, _, _, h⟩
      have H2 := Lib.hid hf; clear hf
      unfold noV at H1
      go_enter Try.func15, Try.ntmps15
      go_wp2_with fail
      refine (place_impl s (k - 1) op _ hm).mono ?_
      rintro e w2 ⟨rfl, hb⟩
      have HB2 := Lib.hid hb; clear hb
      rw [H1.out]
      go_wp2_with fail
      refine (place_impl s k op _ hm).mono ?_
      rintro e w3 ⟨rfl, hb⟩
      have HB3 := Lib.hid (HB2.out.trans (hb.mono HB2.out.size)); clear hb
      rw [H2.out]
      go_wp2
      go_ret
      exact ⟨rfl, HB3.out⟩
    · rw [hv]
      have H1 := Lib.hid h1; clear hv h1
      have H2 := Lib.hid h2; clear h2
      unfold noV at H2
      go_enter Try.func15, Try.ntmps15
      go_wp2_with fail
      refine (place_impl s (k - 1) op _ hm).mono ?_
      rintro e w2 ⟨rfl, hb⟩
      have HB2 := Lib.hid hb; clear hb
      rw [H1.out]
      go_wp2_with fail
      refine (place_impl s k op _ hm).mono ?_
      rintro e w3 ⟨rfl, hb⟩
      have HB3 := Lib.hid (HB2.out.trans (hb.mono HB2.out.size)); clear hb
      rw [H2.out]
      go_wp2
      go_ret
      exact ⟨rfl, HB3.out⟩
    · rw [hv]
      have H1 := Lib.hid h1; clear hv h1
      have H2 := Lib.hid h2; clear h2
      obtain ⟨b0, b1, b2, b3, b4, b5, b6, b7⟩ := hb
      obtain ⟨q0, q1⟩ := sqr_bound (a := u - x) (by omega) (by omega)
      obtain ⟨q2, q3⟩ := sqr_bound (a := v - y) (by omega) (by omega)
      go_enter Try.func15, Try.ntmps15
      go_wp2_with fail
      refine (place_impl s (k - 1) op _ hm).mono ?_
      rintro e w2 ⟨rfl, hb⟩
      have HB2 := Lib.hid hb; clear hb
      rw [H1.out]
      go_wp2_with fail
      refine (place_impl s k op _ hm).mono ?_
      rintro e w3 ⟨rfl, hb⟩
      have HB3 := Lib.hid (HB2.out.trans (hb.mono HB2.out.size)); clear hb
      rw [H2.out]
      go_wp2
      go_ret
      exact ⟨rfl, HB3.out⟩
end Go.Proofs.Ytnihgpbfdlmopaa.Place
