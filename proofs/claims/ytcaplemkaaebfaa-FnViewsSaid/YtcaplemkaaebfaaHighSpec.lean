/- What the model of chapter 13 returns: FromHeights. -/
import Derived.Test.YtcaplemkaaebfaaViewMath
import Derived.Test.YtcaplemkaaebfaaIntRow
import Derived.Test.YtcaplemkaaebfaaOrderSpec
import Derived.Test.YtcaplemkaaebfaaStripMany
namespace Go.Proofs.Ytcaplemkaaebfaa.View
open Go.ChangeShapes Go.WideShapes Go.ChangeAt Go.RowKit
open Go.Proofs.Ytcaplemkaaebfaa.Strip Go.Proofs.Ytcaplemkaaebfaa.Ints Go.Proofs.Ytcaplemkaaebfaa.Kerf Go.Proofs.Ytcaplemkaaebfaa.Order
set_option linter.unusedVariables false

/-- The steps as far as the k-th height; the height there; whether all is well so far. -/
def sP (d : Int) (hs : List Int) (k : Nat) : List UInt8 := descP d (hs.take k)
def hP1 (d : Int) (hs : List Int) (k : Nat) : Int := lastH d (hs.take k)
def okP (d : Int) (hs : List Int) (k : Nat) : Bool := fine d (hs.take k)
theorem okP_in {d : Int} {hs : List Int} {k : Nat} (hd : 1 ≤ d ∧ d ≤ 8) (hk : k ≤ hs.length) (hn : hs.length ≤ 8) (h : okP d hs k = true) : 0 ≤ hP1 d hs k ∧ hP1 d hs k ≤ 8 ∧ (sP d hs k).length ≤ 16 := by
  have h1 := lastH_in (u := d) (by omega) h
  have h2 := descP_size (u := d) (by omega) h
  rw [List.length_take] at h2
  unfold hP1 sP
  omega
theorem okP_bad {d : Int} {hs : List Int} {k : Nat} (h : okP d hs k = false) : fromH d hs = [] := by
  unfold fromH
  rw [fine_bad d hs k h]
  split <;> rfl
theorem okP_step (d : Int) (hs : List Int) (k : Nat) (h : k < hs.length) : okP d hs (k + 1) = (okP d hs k && decide (0 ≤ hs[k] ∧ hs[k] ≤ hP1 d hs k)) := by
  unfold okP hP1
  rw [List.take_succ_eq_append_getElem h, fine_snoc]
theorem hP1_step (d : Int) (hs : List Int) (k : Nat) (h : k < hs.length) : hP1 d hs (k + 1) = hs[k] := by
  unfold hP1
  rw [List.take_succ_eq_append_getElem h, lastH_snoc]
theorem sP_step (d : Int) (hs : List Int) (k : Nat) (h : k < hs.length) : sP d hs (k + 1) = sP d hs k ++ List.replicate (hP1 d hs k - hs[k]).toNat 100 ++ [102] := by
  unfold sP hP1
  rw [List.take_succ_eq_append_getElem h, descP_snoc]
theorem okP_all {d : Int} {hs : List Int} (hf : frameB d hs.length = true) (h : okP d hs hs.length = true) : fromH d hs = sP d hs hs.length ++ List.replicate (hP1 d hs hs.length).toNat 100 := by
  unfold okP at h
  unfold fromH sP hP1
  rw [List.take_length] at h ⊢
  rw [if_pos hf, if_pos h]
  rfl
theorem high_no {d : Int} {hs : List Int} (hf : frameB d hs.length = false) : fromH d hs = [] := by unfold fromH; rw [if_neg (by rw [hf]; simp)]

set_option maxRecDepth 100000 in
set_option maxHeartbeats 2000000 in
theorem back_spec (d : Int) (a : Option Addr) (c : Nat) (hs : List Int) (w : World) (hr : IRow w a hs) :
    Calls Try.prog 26 #[.int .i64 d, .slice a hs.length c] w fun e w' => e = .returned (.string ⟨(fromH d hs).toArray⟩) ∧ w = w' := by
  cases hf : frameB d hs.length with
  | false =>
    rw [high_no hf]
    go_enter Try.func26, Try.ntmps26
    go_wp2_with fail
    refine (frame_spec _ _ _).mono ?_
    rintro e w' ⟨rfl, rfl⟩
    rw [hf]
    go_wp2
    go_ret
    exact ⟨rfl, rfl⟩
  | true =>
    obtain ⟨q1, q2, q3, q4⟩ := frameB_iff.mp hf
    have HF := Lib.hid hf
    have HALL := Lib.hid (okP_all hf)
    have HR := Lib.hid hr
    obtain ⟨n, hn⟩ : ∃ n, hs.length = n := ⟨_, rfl⟩
    rw [hn] at HALL HF q3 q4 ⊢
    have HN := Lib.hid hn
    have hn8 : n ≤ 8 := by omega
    obtain ⟨R, hR⟩ : ∃ R, fromH d hs = R := ⟨_, rfl⟩
    have HBAD := Lib.hid (fun k (h : okP d hs k = false) => (hR.symm.trans (okP_bad h) : R = []))
    rw [hR] at HALL ⊢
    clear hf hr hn hR q3 q4
    go_enter Try.func26, Try.ntmps26
    go_wp2_with fail
    refine (frame_spec _ _ _).mono ?_
    rintro e w' ⟨rfl, rfl⟩
    rw [HF.out]
    go_wp2_with fail
    go_loop [5, 6, 7] (fun x u i => ∃ k : Nat, k ≤ n ∧ i = .int .i64 (k : Int) ∧ u = .int .i64 (hP1 d hs k) ∧ x = .string ⟨(sP d hs k).toArray⟩ ∧ Hid (okP d hs k = true)) (fun _ _ i => n - (intOf i).toNat)
    case atStart => exact ⟨0, Nat.zero_le _, rfl, rfl, rfl, Lib.hid rfl⟩
    case round =>
      obtain ⟨k, hk, rfl, rfl, rfl, HOK⟩ := hrel
      obtain ⟨b1, b2, b3⟩ := okP_in ⟨q1, q2⟩ (by rw [HN.out]; exact hk) (by rw [HN.out]; exact hn8) HOK.out
      by_cases hlt : k < n
      · have hlt2 : k < hs.length := by rw [HN.out]; exact hlt
        have hk0 : (0 : Int) ≤ (k : Int) := Int.natCast_nonneg _
        have hk1 : (k : Int) < (n : Int) := by omega
        obtain ⟨g, rfl, _, hc⟩ := HR.out k hlt2
        have HS1 := Lib.hid (okP_step d hs k hlt2)
        have HS2 := Lib.hid (hP1_step d hs k hlt2)
        have HS3 := Lib.hid (sP_step d hs k hlt2)
        have HBD := Lib.hid (HBAD.out (k + 1))
        generalize hs[k] = x at *
        generalize hP1 d hs k = u at *
        generalize sP d hs k = l at *
        have HCT := Lib.hid (cat_lists2 l (List.replicate (u - x).toNat 100))
        have HCF := Lib.hid (cat_lists2 (l ++ List.replicate (u - x).toNat 100) [102])
        cases hx : decide (0 ≤ x ∧ x ≤ u) with
        | false =>
          have HBA : Hid (R = []) := HBD.out (by rw [HS1.out, hx, Bool.and_false])
          have HX := Lib.hid hx
          clear hx
          go_wp2_with fail
          refine (in_at _ _ _ _).mono ?_
          rintro e w' ⟨rfl, rfl⟩
          rw [HX.out]
          go_wp2
          go_ret
          exact ⟨by rw [HBA.out]; rfl, rfl⟩
        | true =>
          have hx2 := of_decide_eq_true hx
          have HX := Lib.hid hx
          have HO2 : Hid (okP d hs (k + 1) = true) := by
            show _ = _
            rw [HS1.out, HOK.out, hx]; rfl
          obtain ⟨x1, x2⟩ := hx2
          clear hx
          have hlz : (List.replicate (u - x).toNat (100 : UInt8)).length ≤ 8 := by rw [List.length_replicate]; omega
          have hwr : IntKind.i64.wrap (u - x) = u - x := by rw [IntKind.wrap_i64]; omega
          go_wp2_with fail
          refine (in_at _ _ _ _).mono ?_
          rintro e w' ⟨rfl, rfl⟩
          rw [HX.out]
          go_wp2_with fail
          refine (many_spec 100 (u - x) (by omega) (by omega) _).mono ?_
          rintro e w' ⟨rfl, rfl⟩
          go_wp2
          go_roundw
          case rel => exact ⟨k + 1, by omega, by go_num, by rw [HS2.out], by rw [HS3.out, ← HCF.out, ← HCT.out]; simp, HO2⟩
          case measure => simp [intOf]; omega
      · obtain rfl : k = n := by omega
        have HA := Lib.hid (HALL.out (by simpa only [HN.out] using HOK.out))
        generalize hP1 d hs k = u at *
        generalize sP d hs k = l at *
        have HCT := Lib.hid (cat_lists2 l (List.replicate u.toNat 100))
        go_wp2_with fail
        refine (many_spec 100 u (by omega) (by omega) _).mono ?_
        rintro e w' ⟨rfl, rfl⟩
        have hlz : (List.replicate u.toNat (100 : UInt8)).length ≤ 8 := by rw [List.length_replicate]; omega
        go_wp2
        go_ret
        exact ⟨by rw [HA.out, ← HCT.out]; simp, rfl⟩
end Go.Proofs.Ytcaplemkaaebfaa.View
