/- What the model of chapter 4 returns. -/
import Derived.Test.YthigiemgdejdhaaDoorPlaceMath
namespace Go.Proofs.YthigiemgdejdhaaDoor.Place
open Go.ChangeShapes Go.WideShapes Go.ChangeAt Go.RowKit
open Go.Proofs.YthigiemgdejdhaaDoor.Strip
set_option linter.unusedVariables false

theorem op_cases (op : Int) : op = 0 ∨ op = 1 ∨ op = 2 ∨ opB op = false := by
  unfold opB
  by_cases h : 0 ≤ op ∧ op ≤ 2
  · omega
  · right; right; right; exact decide_eq_false h

set_option maxRecDepth 100000 in
theorem place_spec (s : ByteArray) (k op : Int) (w : World) (hm : s.size ≤ 1048576) :
    Calls Tryd.prog 61 #[.string s, .int .i64 k, .int .i64 op] w fun e w' => e = .returned (placeV s.data.toList k op) ∧ Below w.heap.size w w' := by
  cases hin : inB s.data.toList k with
  | false =>
    rw [place_no hin]
    have HAT := Lib.hid (at_no hin)
    unfold noV at *
    go_enter Tryd.func61, Tryd.ntmps61
    go_wp2_with fail
    refine (at_spec s k _ hm).mono ?_
    rintro e w1 ⟨rfl, hb⟩
    have HB := Lib.hid hb; clear hb
    rw [HAT.out]
    go_wp2
    go_ret3
    exact ⟨rfl, HB.out⟩
  | true =>
    obtain ⟨x, y, d, hx, hy, hd, hat, hnum, hpl⟩ := at_yes hin
    rw [hpl]
    have HAT := Lib.hid hat; clear hat hpl
    have HNUM := Lib.hid hnum; clear hnum
    unfold placeT
    rcases op_cases op with rfl | rfl | rfl | ho
    case inr.inr.inr =>
      have ho' := ho
      unfold opB at ho'
      rw [ho]
      unfold noV
      clear ho
      go_enter Tryd.func61, Tryd.ntmps61
      go_wp2_with fail
      refine (at_spec s k _ hm).mono ?_
      rintro e w1 ⟨rfl, hb⟩
      have HB := Lib.hid hb; clear hb
      rw [HAT.out]
      go_wp2_with fail
      refine (in_at op 0 2 _).mono ?_
      rintro e w' ⟨rfl, rfl⟩
      rw [ho']
      go_wp2
      go_ret3
      exact ⟨rfl, HB.out⟩
    all_goals
      rw [show opB _ = true from rfl, if_pos rfl]
      unfold fx fy
      simp only [if_true, if_false, show ((1 : Int) = 0) = False from by simp, show ((2 : Int) = 0) = False from by simp, show ((2 : Int) = 1) = False from by simp, show ((0 : Int) = 1) = False from by simp]
      go_enter Tryd.func61, Tryd.ntmps61
      go_wp2_with fail
      refine (at_spec s k _ hm).mono ?_
      rintro e w1 ⟨rfl, hb⟩
      have HB := Lib.hid hb; clear hb
      rw [HAT.out]
      go_wp2_with fail
      refine (in_at _ 0 2 _).mono ?_
      rintro e w' ⟨rfl, rfl⟩
      rw [show decide (_ ∧ _) = true from rfl]
      go_wp2_with fail
      refine (down_spec s _ hm).mono ?_
      rintro e w' ⟨rfl, rfl⟩
      rw [HNUM.out]
      go_wp2
      go_ret3
      exact ⟨rfl, HB.out⟩

set_option maxRecDepth 100000 in
theorem reach_spec (s : ByteArray) (w : World) (hm : s.size ≤ 1048576) :
    Calls Tryd.prog 42 #[.string s] w fun e w' => e = .returned (.int .i64 (reachV s.data.toList)) ∧ Below w.heap.size w w' := by
  have hsl : s.data.toList.length = s.size := by simp
  have HSL := Lib.hid hsl; clear hsl
  cases hst : stripB s.data.toList with
  | false =>
    have hv : reachV s.data.toList = 0 := by unfold reachV; rw [hst]; rfl
    rw [hv]
    go_enter Tryd.func42, Tryd.ntmps42
    go_wp2_with fail
    refine wp_loop_rounds 1 ?_
    rw [rounds_succ]
    go_wp2_with fail
    refine (is_spec s _ hm).mono ?_
    rintro e w' ⟨rfl, rfl⟩
    rw [hst]
    go_wp2
    go_ret
    exact ⟨rfl, Below.refl _ _⟩
  | true =>
    have hf := frame_of hst
    rw [HSL.out] at hf
    have hv : reachV s.data.toList = hiF 0 (px s.data.toList 0) (s.size + 1) := by unfold reachV; rw [if_pos hst, HSL.out]
    rw [hv]
    clear hv
    have HPB := Lib.hid (px_bound hst 0)
    have HPL := Lib.hid (fun k (h : k ≤ s.size) => place_at (op := 0) hst (k := k) (by rw [HSL.out]; exact h) rfl)
    have HGE := Lib.hid (fun n => hiF_ge (a := 0) (f := px s.data.toList 0) n)
    have HLE := Lib.hid (fun n => hiF_le (a := 0) (b := 16) (f := px s.data.toList 0) (by omega) n fun k _ => (HPB.out k).2)
    have hstep : ∀ k, hiF 0 (px s.data.toList 0) (k + 1) = max (hiF 0 (px s.data.toList 0) k) (px s.data.toList 0 k) := fun k => rfl
    have HST := Lib.hid hstep; clear hstep
    obtain ⟨f, hff⟩ : ∃ f, px s.data.toList 0 = f := ⟨_, rfl⟩
    rw [hff] at HPB HPL HGE HLE HST ⊢
    clear hff
    go_enter Tryd.func42, Tryd.ntmps42
    go_wp2_with fail
    go_loopw [3, 4] (fun n i wr => ∃ k : Nat, k ≤ s.size + 1 ∧ i = .int .i64 (k : Int) ∧ n = .int .i64 (hiF 0 f k) ∧ Hid (Below w.heap.size w wr)) (fun _ i _ => s.size + 1 - (intOf i).toNat)
    case atStart => exact ⟨0, Nat.zero_le _, rfl, rfl, Below.refl _ _⟩
    case round =>
      obtain ⟨k, hk, rfl, rfl, HB⟩ := hrel
      have h0 := HGE.out k
      have h1 := HLE.out k
      by_cases hlt : k ≤ s.size
      · have hk1 : (k : Int) ≤ (s.size : Int) := by omega
        obtain ⟨p0, p1⟩ := HPB.out k
        have hpl := HPL.out k hlt
        have HP := Lib.hid hpl; clear hpl
        have hs := HST.out k
        have HS := Lib.hid hs; clear hs
        generalize hiF 0 f k = m at *
        generalize f k = p at *
        go_wp2_with fail
        refine (is_spec s _ hm).mono ?_
        rintro e w' ⟨rfl, rfl⟩
        rw [hst]
        go_wp2_with fail
        refine (place_spec s (k : Int) 0 _ hm).mono ?_
        rintro e w2 ⟨rfl, hb⟩
        have HB2 := Lib.hid (HB.out.trans (hb.mono HB.out.size)); clear hb
        rw [HP.out]
        go_wp2
        go_roundw
        case rel => exact ⟨k + 1, by omega, by go_num, by rw [HS.out]; congr 1; split <;> omega, HB2⟩
        case measure => simp [intOf]; omega
      · obtain rfl : k = s.size + 1 := by omega
        go_wp2
        go_ret
        exact ⟨rfl, HB.out⟩

theorem inside_spec (s : ByteArray) (p : Int) (w : World) (hm : s.size ≤ 1048576) :
    Calls Tryd.prog 19 #[.string s, .int .i64 p] w fun e w' => e = .returned (.bool (insideB s.data.toList p)) ∧ Below w.heap.size w w' := by
  unfold insideB
  cases hst : stripB s.data.toList with
  | false =>
    go_enter Tryd.func19, Tryd.ntmps19
    go_wp2_with fail
    refine (is_spec s _ hm).mono ?_
    rintro e w' ⟨rfl, rfl⟩
    rw [hst]
    go_wp2
    go_ret
    exact ⟨rfl, Below.refl _ _⟩
  | true =>
    have hrb := reach_bound s.data.toList
    have HR := Lib.hid (fun w => reach_spec s w hm)
    generalize reachV s.data.toList = r at *
    by_cases hq : 1 ≤ p ∧ p ≤ 40
    · have hq' := decide_eq_true hq
      go_enter Tryd.func19, Tryd.ntmps19
      go_wp2_with fail
      refine (is_spec s _ hm).mono ?_
      rintro e w' ⟨rfl, rfl⟩
      rw [hst]
      go_wp2_with fail
      refine (in_at _ 1 40 _).mono ?_
      rintro e w' ⟨rfl, rfl⟩
      rw [hq']
      go_wp2_with fail
      refine (HR.out _).mono ?_
      rintro e w2 ⟨rfl, hb⟩
      have HB := Lib.hid hb; clear hb
      go_wp2
      go_ret
      exact ⟨by rw [hq']; simp, HB.out⟩
    · have hq' := decide_eq_false hq
      go_enter Tryd.func19, Tryd.ntmps19
      go_wp2_with fail
      refine (is_spec s _ hm).mono ?_
      rintro e w' ⟨rfl, rfl⟩
      rw [hst]
      go_wp2_with fail
      refine (in_at _ 1 40 _).mono ?_
      rintro e w' ⟨rfl, rfl⟩
      rw [hq']
      go_wp2
      go_ret
      exact ⟨by rw [hq']; rfl, Below.refl _ _⟩

end Go.Proofs.YthigiemgdejdhaaDoor.Place
