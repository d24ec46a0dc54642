/- What the model of chapter 3 returns: CountPeaks. -/
import Derived.Test.YtigakakgikcghaaCornerSpec
namespace Go.Proofs.Ytigakakgikcghaa.Corner
open Go.ChangeShapes Go.WideShapes Go.ChangeAt Go.RowKit
open Go.Proofs.Ytigakakgikcghaa.Strip Go.Proofs.Ytigakakgikcghaa.Ints
set_option linter.unusedVariables false

theorem corner_peak {l : List UInt8} (h : stripB l = true) (j : Nat) (hj : j + 1 < l.length) : cornerB 102 l ((j : Int) + 1) = peak l (j + 1) := by
  unfold cornerB peak
  rw [h, decide_eq_true (by omega), show ((j : Int) + 1).toNat = j + 1 from by omega]
  simp

set_option maxRecDepth 100000 in
theorem peaks_spec (s : ByteArray) (w : World) (hm : s.size ≤ 1048576) :
    Calls Try.prog 13 #[.string s] w fun e w' => e = .returned (.int .i64 (peaksV s.data.toList)) ∧ Below w.heap.size w w' := by
  have hsl : s.data.toList.length = s.size := by simp
  have HSL := Lib.hid hsl; clear hsl
  cases hst : stripB s.data.toList with
  | false =>
    have hv : peaksV s.data.toList = -1 := by unfold peaksV; rw [hst]; rfl
    rw [hv]
    go_enter Try.func13, Try.ntmps13
    go_wp2_with fail
    refine (is_spec s _ hm).mono ?_
    rintro e w' ⟨rfl, rfl⟩
    rw [hst]
    go_wp2
    go_ret
    exact ⟨rfl, Below.refl _ _⟩
  | true =>
    have hsz := strip_size hst
    rw [HSL.out] at hsz
    have hv : peaksV s.data.toList = (peaksN s.data.toList s.size : Int) := by unfold peaksV; rw [hst, if_pos rfl, HSL.out]
    rw [hv]
    go_enter Try.func13, Try.ntmps13
    go_wp2_with fail
    refine (is_spec s _ hm).mono ?_
    rintro e w' ⟨rfl, rfl⟩
    rw [hst]
    go_wp2_with fail
    go_loopw [3, 4] (fun n i wr => ∃ k : Nat, k < s.size ∧ i = .int .i64 ((k : Int) + 1) ∧ n = .int .i64 (peaksN s.data.toList (k + 1) : Int) ∧ Hid (Below w.heap.size w wr)) (fun _ i _ => s.size - (intOf i).toNat)
    case atStart => exact ⟨0, by omega, rfl, by rw [peaks_one]; rfl, Below.refl _ _⟩
    case round =>
      obtain ⟨k, hk, rfl, rfl, HB⟩ := hrel
      have hle := peaks_le s.data.toList (k + 1)
      by_cases hlt : k + 1 < s.size
      · have hc := fun w' => mountain_spec s ((k : Int) + 1) w' hm (by omega) (by omega)
        rw [corner_peak hst k (by rw [HSL.out]; exact hlt)] at hc
        have HC := Lib.hid hc; clear hc
        cases hp : peak s.data.toList (k + 1) with
        | false =>
          have HP := Lib.hid (peaks_no _ _ hp)
          rw [hp] at HC
          go_wp2_with fail
          refine (HC.out _).mono ?_
          rintro e w1 ⟨rfl, hb⟩
          have HB2 := Lib.hid (HB.out.trans (hb.mono HB.out.size)); clear hb
          go_wp2
          refine ⟨⟨k + 1, by omega, by go_num, by rw [HP.out], HB2⟩, by simp [intOf]; omega⟩
        | true =>
          have HP := Lib.hid (peaks_yes _ _ hp)
          rw [hp] at HC
          go_wp2_with fail
          refine (HC.out _).mono ?_
          rintro e w1 ⟨rfl, hb⟩
          have HB2 := Lib.hid (HB.out.trans (hb.mono HB.out.size)); clear hb
          go_wp2
          refine ⟨⟨k + 1, by omega, by go_num, by rw [HP.out]; go_num, HB2⟩, by simp [intOf]; omega⟩
      · have hke : k + 1 = s.size := by omega
        rw [hke] at hle ⊢
        go_wp2
        go_ret
        exact ⟨rfl, HB.out⟩
end Go.Proofs.Ytigakakgikcghaa.Corner
