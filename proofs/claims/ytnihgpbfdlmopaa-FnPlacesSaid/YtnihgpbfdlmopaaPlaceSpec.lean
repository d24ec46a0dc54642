/- What the model of chapter 4 returns. -/
import Derived.Test.YtnihgpbfdlmopaaPlaceMath
namespace Go.Proofs.Ytnihgpbfdlmopaa.Place
open Go.ChangeShapes Go.WideShapes Go.ChangeAt Go.RowKit
open Go.Proofs.Ytnihgpbfdlmopaa.Strip
set_option linter.unusedVariables false

theorem op_cases (op : Int) : op = 0 ∨ op = 1 ∨ op = 2 ∨ opB op = false := by
  unfold opB
  by_cases h : 0 ≤ op ∧ op ≤ 2
  · omega
  · right; right; right; exact decide_eq_false h

set_option maxRecDepth 100000 in
theorem place_spec (s : ByteArray) (k op : Int) (w : World) (hm : s.size ≤ 1048576) :
    Calls Try.prog 19 #[.string s, .int .i64 k, .int .i64 op] w fun e w' => e = .returned (placeV s.data.toList k op) ∧ Below w.heap.size w w' := by
  cases hin : inB s.data.toList k with
  | false =>
    rw [place_no hin]
    have HAT := Lib.hid (at_no hin)
    unfold noV at *
    go_enter Try.func19, Try.ntmps19
    go_wp2_with fail
    refine (at_spec s k _ hm).mono ?_
    rintro e w1 ⟨rfl, hb⟩
    have HB := Lib.hid hb; clear hb
    rw [HAT.out]
    go_wp2
    go_ret3
    exact ⟨rfl, HB.out⟩
  | true =>
    obtain ⟨x, y, d, hx, hy, hd, hat, hnum, hpl⟩ := at_yes hin
    rw [hpl]
    have HAT := Lib.hid hat; clear hat hpl
    have HNUM := Lib.hid hnum; clear hnum
    unfold placeT
    rcases op_cases op with rfl | rfl | rfl | ho
    case inr.inr.inr =>
      have ho' := ho
      unfold opB at ho'
      rw [ho]
      unfold noV
      clear ho
      go_enter Try.func19, Try.ntmps19
      go_wp2_with fail
      refine (at_spec s k _ hm).mono ?_
      rintro e w1 ⟨rfl, hb⟩
      have HB := Lib.hid hb; clear hb
      rw [HAT.out]
      go_wp2_with fail
      refine (in_at op 0 2 _).mono ?_
      rintro e w' ⟨rfl, rfl⟩
      rw [ho']
      go_wp2
      go_ret3
      exact ⟨rfl, HB.out⟩
    all_goals
      rw [show opB _ = true from rfl, if_pos rfl]
      unfold fx fy
      simp only [if_true, if_false, show ((1 : Int) = 0) = False from by simp, show ((2 : Int) = 0) = False from by simp, show ((2 : Int) = 1) = False from by simp, show ((0 : Int) = 1) = False from by simp]
      go_enter Try.func19, Try.ntmps19
      go_wp2_with fail
      refine (at_spec s k _ hm).mono ?_
      rintro e w1 ⟨rfl, hb⟩
      have HB := Lib.hid hb; clear hb
      rw [HAT.out]
      go_wp2_with fail
      refine (in_at _ 0 2 _).mono ?_
      rintro e w' ⟨rfl, rfl⟩
      rw [show decide (_ ∧ _) = true from rfl]
      go_wp2_with fail
      refine (down_spec s _ hm).mono ?_
      rintro e w' ⟨rfl, rfl⟩
      rw [HNUM.out]
      go_wp2
      go_ret3
      exact ⟨rfl, HB.out⟩

set_option maxRecDepth 100000 in
theorem reach_spec (s : ByteArray) (w : World) (hm : s.size ≤ 1048576) :
    Calls Try.prog 20 #[.string s] w fun e w' => e = .returned (.int .i64 (reachV s.data.toList)) ∧ Below w.heap.size w w' := by
  have hsl : s.data.toList.length = s.size := by simp
  have HSL := Lib.hid hsl; clear hsl
  cases hst : stripB s.data.toList with
  | false =>
    have hv : reachV s.data.toList = 0 := by unfold reachV; rw [hst]; rfl
    rw [hv]
    go_enter Try.func20, Try.ntmps20
    go_wp2_with fail
    refine wp_loop_rounds 1 ?_
    rw [rounds_succ]
    go_wp2_with fail
    refine (is_spec s _ hm).mono ?_
    rintro e w' ⟨rfl, rfl⟩
    rw [hst]
    go_wp2
    go_ret
    exact ⟨rfl, Below.refl _ _⟩
  | true =>
    have hf := frame_of hst
    rw [HSL.out] at hf
    have hv : reachV s.data.toList = hiF 0 (px s.data.toList 0) (s.size + 1) := by unfold reachV; rw [if_pos hst, HSL.out]
    rw [hv]
    clear hv
    have HPB := Lib.hid (px_bound hst 0)
    have HPL := Lib.hid (fun k (h : k ≤ s.size) => place_at (op := 0) hst (k := k) (by rw [HSL.out]; exact h) rfl)
    have HGE := Lib.hid (fun n => hiF_ge (a := 0) (f := px s.data.toList 0) n)
    have HLE := Lib.hid (fun n => hiF_le (a := 0) (b := 16) (f := px s.data.toList 0) (by omega) n fun k _ => (HPB.out k).2)
    have hstep : ∀ k, hiF 0 (px s.data.toList 0) (k + 1) = max (hiF 0 (px s.data.toList 0) k) (px s.data.toList 0 k) := fun k => rfl
    have HST := Lib.hid hstep; clear hstep
    obtain ⟨f, hff⟩ : ∃ f, px s.data.toList 0 = f := ⟨_, rfl⟩
    rw [hff] at HPB HPL HGE HLE HST ⊢
    clear hff
    go_enter Try.func20, Try.ntmps20
    go_wp2_with fail
    go_loopw [3, 4] (fun n i wr => ∃ k : Nat, k ≤ s.size + 1 ∧ i = .int .i64 (k : Int) ∧ n = .int .i64 (hiF 0 f k) ∧ Hid (Below w.heap.size w wr)) (fun _ i _ => s.size + 1 - (intOf i).toNat)
    case atStart => exact ⟨0, Nat.zero_le _, rfl, rfl, Below.refl _ _⟩
    case round =>
      obtain ⟨k, hk, rfl, rfl, HB⟩ := hrel
      have h0 := HGE.out k
      have h1 := HLE.out k
      by_cases hlt : k ≤ s.size
      · have hk1 : (k : Int) ≤ (s.size : Int) := by omega
        obtain ⟨p0, p1⟩ := HPB.out k
        have hpl := HPL.out k hlt
        have HP := Lib.hid hpl; clear hpl
        have hs := HST.out k
        have HS := Lib.hid hs; clear hs
        generalize hiF 0 f k = m at *
        generalize f k = p at *
        go_wp2_with fail
        refine (is_spec s _ hm).mono ?_
        rintro e w' ⟨rfl, rfl⟩
        rw [hst]
        go_wp2_with fail
        refine (place_spec s (k : Int) 0 _ hm).mono ?_
        rintro e w2 ⟨rfl, hb⟩
        have HB2 := Lib.hid (HB.out.trans (hb.mono HB.out.size)); clear hb
        rw [HP.out]
        go_wp2
        go_roundw
        case rel => exact ⟨k + 1, by omega, by go_num, by rw [HS.out]; congr 1; split <;> omega, HB2⟩
        case measure => simp [intOf]; omega
      · obtain rfl : k = s.size + 1 := by omega
        go_wp2
        go_ret
        exact ⟨rfl, HB.out⟩

theorem inside_spec (s : ByteArray) (p : Int) (w : World) (hm : s.size ≤ 1048576) :
    Calls Try.prog 21 #[.string s, .int .i64 p] w fun e w' => e = .returned (.bool (insideB s.data.toList p)) ∧ Below w.heap.size w w' := by
  unfold insideB
  cases hst : stripB s.data.toList with
  | false =>
    go_enter Try.func21, Try.ntmps21
    go_wp2_with fail
    refine (is_spec s _ hm).mono ?_
    rintro e w' ⟨rfl, rfl⟩
    rw [hst]
    go_wp2
    go_ret
    exact ⟨rfl, Below.refl _ _⟩
  | true =>
    have hrb := reach_bound s.data.toList
    have HR := Lib.hid (fun w => reach_spec s w hm)
    generalize reachV s.data.toList = r at *
    by_cases hq : 1 ≤ p ∧ p ≤ 40
    · have hq' := decide_eq_true hq
      go_enter Try.func21, Try.ntmps21
      go_wp2_with fail
      refine (is_spec s _ hm).mono ?_
      rintro e w' ⟨rfl, rfl⟩
      rw [hst]
      go_wp2_with fail
      refine (in_at _ 1 40 _).mono ?_
      rintro e w' ⟨rfl, rfl⟩
      rw [hq']
      go_wp2_with fail
      refine (HR.out _).mono ?_
      rintro e w2 ⟨rfl, hb⟩
      have HB := Lib.hid hb; clear hb
      go_wp2
      go_ret
      exact ⟨by rw [hq']; simp, HB.out⟩
    · have hq' := decide_eq_false hq
      go_enter Try.func21, Try.ntmps21
      go_wp2_with fail
      refine (is_spec s _ hm).mono ?_
      rintro e w' ⟨rfl, rfl⟩
      rw [hst]
      go_wp2_with fail
      refine (in_at _ 1 40 _).mono ?_
      rintro e w' ⟨rfl, rfl⟩
      rw [hq']
      go_wp2
      go_ret
      exact ⟨by rw [hq']; rfl, Below.refl _ _⟩

set_option maxRecDepth 100000 in
theorem spread_spec (s : ByteArray) (w : World) (hm : s.size ≤ 1048576) :
    Calls Try.prog 22 #[.string s] w fun e w' => e = .returned (.int .i64 (spreadV s.data.toList)) ∧ Below w.heap.size w w' := by
  have hsl : s.data.toList.length = s.size := by simp
  have HSL := Lib.hid hsl; clear hsl
  cases hst : stripB s.data.toList with
  | false =>
    have hv : spreadV s.data.toList = -1 := by unfold spreadV; rw [hst]; rfl
    rw [hv]
    go_enter Try.func22, Try.ntmps22
    go_wp2_with fail
    refine (is_spec s _ hm).mono ?_
    rintro e w' ⟨rfl, rfl⟩
    rw [hst]
    go_wp2
    go_ret
    exact ⟨rfl, Below.refl _ _⟩
  | true =>
    have hf := frame_of hst
    rw [HSL.out] at hf
    have hv : spreadV s.data.toList = hiF (px s.data.toList 2 0) (px s.data.toList 2) (s.size + 1) - loF (px s.data.toList 2 0) (px s.data.toList 2) (s.size + 1) := by unfold spreadV; rw [if_pos hst, HSL.out]
    rw [hv]
    clear hv
    have HPB := Lib.hid (px_bound hst 2)
    have HPL := Lib.hid (fun k (h : k ≤ s.size) => place_at (op := 2) hst (k := k) (by rw [HSL.out]; exact h) rfl)
    obtain ⟨f, hff⟩ : ∃ f, px s.data.toList 2 = f := ⟨_, rfl⟩
    rw [hff] at HPB HPL ⊢
    clear hff
    obtain ⟨a, haf⟩ : ∃ a, f 0 = a := ⟨_, rfl⟩
    have HA := Lib.hid haf; clear haf
    have ha := HPB.out 0
    rw [HA.out] at ha ⊢
    have HGE := Lib.hid (fun n => hiF_ge (a := a) (f := f) n)
    have HLE := Lib.hid (fun n => hiF_le (a := a) (b := 16) (f := f) (by omega) n fun k _ => (HPB.out k).2)
    have LGE := Lib.hid (fun n => loF_ge (a := a) (f := f) n)
    have LLE := Lib.hid (fun n => le_loF (a := a) (b := -8) (f := f) (by omega) n fun k _ => (HPB.out k).1)
    have HST := Lib.hid (show ∀ k, hiF a f (k + 1) = max (hiF a f k) (f k) from fun k => rfl)
    have LST := Lib.hid (show ∀ k, loF a f (k + 1) = min (loF a f k) (f k) from fun k => rfl)
    have hp0 := HPL.out 0 (Nat.zero_le _)
    rw [HA.out] at hp0
    have HP0 := Lib.hid hp0; clear hp0
    go_enter Try.func22, Try.ntmps22
    go_wp2_with fail
    refine (is_spec s _ hm).mono ?_
    rintro e w' ⟨rfl, rfl⟩
    rw [hst]
    go_wp2_with fail
    refine (place_spec s 0 2 _ hm).mono ?_
    rintro e w1 ⟨rfl, hb⟩
    have HB1 := Lib.hid hb; clear hb
    rw [show placeV s.data.toList 0 2 = _ from HP0.out]
    go_wp2_with fail
    go_loopw [3, 6, 7] (fun lo hi i wr => ∃ k : Nat, k ≤ s.size + 1 ∧ i = .int .i64 (k : Int) ∧ lo = .int .i64 (loF a f k) ∧ hi = .int .i64 (hiF a f k) ∧ Hid (Below w.heap.size w wr)) (fun _ _ i _ => s.size + 1 - (intOf i).toNat)
    case atStart => exact ⟨0, Nat.zero_le _, rfl, rfl, rfl, HB1⟩
    case round =>
      obtain ⟨k, hk, rfl, rfl, rfl, HB⟩ := hrel
      have h0 := HGE.out k
      have h1 := HLE.out k
      have h2 := LGE.out k
      have h3 := LLE.out k
      by_cases hlt : k ≤ s.size
      · have hk1 : (k : Int) ≤ (s.size : Int) := by omega
        obtain ⟨p0, p1⟩ := HPB.out k
        have hpl := HPL.out k hlt
        have HP := Lib.hid hpl; clear hpl
        have hs := HST.out k
        have HS := Lib.hid hs; clear hs
        have ls := LST.out k
        have LS := Lib.hid ls; clear ls
        generalize hiF a f k = m at *
        generalize loF a f k = m2 at *
        generalize f k = p at *
        go_wp2_with fail
        refine (place_spec s (k : Int) 2 _ hm).mono ?_
        rintro e w2 ⟨rfl, hb⟩
        have HB2 := Lib.hid (HB.out.trans (hb.mono HB.out.size)); clear hb
        rw [HP.out]
        go_wp2
        go_roundw
        case rel => exact ⟨k + 1, by omega, by go_num, by rw [LS.out]; congr 1; split <;> omega, by rw [HS.out]; congr 1; split <;> omega, HB2⟩
        case measure => simp [intOf]; omega
      · obtain rfl : k = s.size + 1 := by omega
        go_wp2
        go_ret
        exact ⟨rfl, HB.out⟩

set_option maxRecDepth 100000 in
theorem step_spec (s : ByteArray) (k op : Int) (w : World) (hm : s.size ≤ 1048576) (hk0 : -9223372036854775808 ≤ k) (hk1 : k ≤ 9223372036854775807) :
    Calls Try.prog 23 #[.string s, .int .i64 k, .int .i64 op] w fun e w' => e = .returned (.int .i64 (stepV s.data.toList k op)) ∧ Below w.heap.size w w' := by
  have HLEN := Lib.hid (show (s.data.toList.length : Int) ≤ 1048576 from by simp; omega)
  by_cases hmin : k = -9223372036854775808
  · have hv : stepV s.data.toList k op = 0 := by
      have hf := place_far s.data.toList (k - 1) op (.inl (by omega))
      rcases step_cases s.data.toList k op with ⟨_, h⟩ | ⟨x, y, _, _, h⟩ | ⟨x, y, u, v, h, _⟩
      · exact h
      · exact h
      · rw [hf] at h; cases h
    rw [hv]
    clear hv
    subst hmin
    have H1 := Lib.hid (place_far s.data.toList (wrap64 (-9223372036854775809)) op (.inr (by rw [show wrap64 (-9223372036854775809) = 9223372036854775807 from by unfold wrap64; decide]; have := HLEN.out; omega)))
    have H2 := Lib.hid (place_far s.data.toList (-9223372036854775808) op (.inl (by omega)))
    unfold noV at H1 H2
    go_enter Try.func23, Try.ntmps23
    go_wp2_with fail
    refine (place_spec s _ op _ hm).mono ?_
    rintro e w2 ⟨rfl, hb⟩
    have HB2 := Lib.hid hb; clear hb
    rw [H1.out]
    go_wp2_with fail
    refine (place_spec s (-9223372036854775808) op _ hm).mono ?_
    rintro e w3 ⟨rfl, hb⟩
    have HB3 := Lib.hid (HB2.out.trans (hb.mono HB2.out.size)); clear hb
    rw [H2.out]
    go_wp2
    go_ret
    exact ⟨rfl, HB3.out⟩
  · have hk2 : -9223372036854775807 ≤ k := by omega
    clear hmin hk0
    rcases step_cases s.data.toList k op with ⟨h1, hv⟩ | ⟨x, y, h1, h2, hv⟩ | ⟨x, y, u, v, h1, h2, hb, hv⟩
    · rw [hv]
      have H1 := Lib.hid h1; clear hv h1
      obtain ⟨a, b, c, hf⟩ : ∃ a b c, placeV s.data.toList k op = .tuple #[.int .i64 a, .int .i64 b, .bool c] := by
        rcases place_form s.data.toList k op with ⟨h, _⟩ | ⟨x, y, h, _⟩
        · exact ⟨_, _, _, h⟩
        · exact ⟨_, _, _, h⟩
      have H2 := Lib.hid hf; clear hf
      unfold noV at H1
      go_enter Try.func23, Try.ntmps23
      go_wp2_with fail
      refine (place_spec s (k - 1) op _ hm).mono ?_
      rintro e w2 ⟨rfl, hb⟩
      have HB2 := Lib.hid hb; clear hb
      rw [H1.out]
      go_wp2_with fail
      refine (place_spec s k op _ hm).mono ?_
      rintro e w3 ⟨rfl, hb⟩
      have HB3 := Lib.hid (HB2.out.trans (hb.mono HB2.out.size)); clear hb
      rw [H2.out]
      go_wp2
      go_ret
      exact ⟨rfl, HB3.out⟩
    · rw [hv]
      have H1 := Lib.hid h1; clear hv h1
      have H2 := Lib.hid h2; clear h2
      unfold noV at H2
      go_enter Try.func23, Try.ntmps23
      go_wp2_with fail
      refine (place_spec s (k - 1) op _ hm).mono ?_
      rintro e w2 ⟨rfl, hb⟩
      have HB2 := Lib.hid hb; clear hb
      rw [H1.out]
      go_wp2_with fail
      refine (place_spec s k op _ hm).mono ?_
      rintro e w3 ⟨rfl, hb⟩
      have HB3 := Lib.hid (HB2.out.trans (hb.mono HB2.out.size)); clear hb
      rw [H2.out]
      go_wp2
      go_ret
      exact ⟨rfl, HB3.out⟩
    · have hsw : (u - x) * (u - x) + (v - y) * (v - y) = (x - u) * (x - u) + (y - v) * (y - v) := by
        rw [← Int.neg_mul_neg (u - x), ← Int.neg_mul_neg (v - y), Int.neg_sub, Int.neg_sub]
      rw [hv, hsw]
      clear hsw
      have H1 := Lib.hid h1; clear hv h1
      have H2 := Lib.hid h2; clear h2
      obtain ⟨b0, b1, b2, b3, b4, b5, b6, b7⟩ := hb
      obtain ⟨q0, q1⟩ := sqr_bound (a := x - u) (by omega) (by omega)
      obtain ⟨q2, q3⟩ := sqr_bound (a := y - v) (by omega) (by omega)
      go_enter Try.func23, Try.ntmps23
      go_wp2_with fail
      refine (place_spec s (k - 1) op _ hm).mono ?_
      rintro e w2 ⟨rfl, hb⟩
      have HB2 := Lib.hid hb; clear hb
      rw [H1.out]
      go_wp2_with fail
      refine (place_spec s k op _ hm).mono ?_
      rintro e w3 ⟨rfl, hb⟩
      have HB3 := Lib.hid (HB2.out.trans (hb.mono HB2.out.size)); clear hb
      rw [H2.out]
      go_wp2
      go_ret
      exact ⟨rfl, HB3.out⟩
end Go.Proofs.Ytnihgpbfdlmopaa.Place
