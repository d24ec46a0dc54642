/- What spec.l02Draw, l02Strip and DrawStrip return: a strip with a frame. -/
import Derived.Test.YtfhpbgmnekhfeaaDraw
import Derived.Test.YtfhpbgmnekhfeaaStrip
namespace Go.Proofs.Ytfhpbgmnekhfeaa.Draw
open Go.ChangeShapes Go.WideShapes Go.ChangeAt Go.RowKit
open Go.Proofs.Ytfhpbgmnekhfeaa.Strip
set_option linter.unusedVariables false

theorem cat_lists (a b : List UInt8) : (⟨a.toArray⟩ : ByteArray) ++ ⟨b.toArray⟩ = ⟨(a ++ b).toArray⟩ := by
  apply ByteArray.ext
  simp [ByteArray.data_append]

set_option maxRecDepth 100000 in
theorem draw_get (k : Nat) (ca : Option Addr) (cl cc : Nat) (d f : Nat) (hd : d ≤ 8) (hf : f ≤ 8) (w : World) (hc : Cur w k ca cl cc) {Q : Ending → World → Prop}
    (h : ∀ (l : List UInt8) (w' : World), okL l = true → cnt 100 l = d → cnt 102 l = f → Cur w' k ca cl cc → w.grownBy w' (some k) → Q (.returned (.string ⟨l.toArray⟩)) w') :
    Calls Try.prog 43 #[.pointer (some ⟨k, 0, none⟩), .int .i64 d, .int .i64 f] w Q := by
  have H := Lib.hid h; clear h
  have HC := Lib.hid hc; clear hc
  go_enter Try.func43, Try.ntmps43
  go_wp2_with fail
  go_loopw [1, 2, 7] (fun m n s wr => ∃ (a b : Nat) (l : List UInt8), a ≤ 8 ∧ b ≤ 8 ∧ l.length ≤ 16 ∧ m = .int .i64 a ∧ n = .int .i64 b ∧ s = .string ⟨l.toArray⟩ ∧ Hid (okL l = true ∧ cnt 100 l + a = d ∧ cnt 102 l + b = f) ∧ Hid (Cur wr k ca cl cc) ∧ Hid (w.grownBy wr (some k))) (fun m n _ _ => (intOf m).toNat + (intOf n).toNat)
  case atStart => exact ⟨d, f, [], hd, hf, by simp, rfl, rfl, rfl, Lib.hid ⟨rfl, by simp [cnt], by simp [cnt]⟩, HC, Lib.hid ⟨rfl, rfl, rfl, Nat.le_refl _, fun _ _ _ => rfl⟩⟩
  case round =>
    obtain ⟨a, b, l, ha, hb, hl, rfl, rfl, rfl, HL, HC1, HG1⟩ := hrel
    have hz : (⟨l.toArray⟩ : ByteArray).size = l.length := by simp [ByteArray.size]
    have hzd : (⟨#[100]⟩ : ByteArray).size = 1 := rfl
    have hzf : (⟨#[102]⟩ : ByteArray).size = 1 := rfl
    by_cases hpos : 0 < a + b
    · have hp : decide ((0 : Int) < (a : Int) + (b : Int)) = true := by simp; omega
      have hlen : l.length ≤ 15 := by
        have h1 := HL.out.1
        have h2 := cnt_sum l h1
        have h3 := HL.out.2
        omega
      go_wp2_with fail
      refine below_get k ca cl cc _ (by omega) _ HC1.out ?_
      intro x w1 x0 x1 hc1 g1
      have HC2 := Lib.hid hc1; clear hc1
      have HG2 := Lib.hid (grownBy_trans HG1.out g1); clear g1
      by_cases hx : x < (a : Int)
      · have ha1 : 1 ≤ a := by omega
        go_wp2
        go_roundw
        case rel =>
          refine ⟨a - 1, b, l ++ [100], by omega, hb, by simp; omega, by go_num, rfl, ?_, Lib.hid ⟨?_, ?_, ?_⟩, HC2, HG2⟩
          · have := cat_lists l [100]
            rw [← this]
          · rw [okL_snoc, HL.out.1]; rfl
          · have h3 := HL.out.2.1; rw [cnt_snoc, if_pos rfl]; omega
          · have h3 := HL.out.2.2; rw [cnt_snoc, if_neg (by decide)]; omega
        case measure => simp [intOf]; omega
      · have hx' : decide (x < (a : Int)) = false := by simpa using hx
        have hb1 : 1 ≤ b := by omega
        go_wp2
        go_roundw
        case rel =>
          refine ⟨a, b - 1, l ++ [102], ha, by omega, by simp; omega, rfl, by go_num, ?_, Lib.hid ⟨?_, ?_, ?_⟩, HC2, HG2⟩
          · have := cat_lists l [102]
            rw [← this]
          · rw [okL_snoc, HL.out.1]; rfl
          · have h3 := HL.out.2.1; rw [cnt_snoc, if_neg (by decide)]; omega
          · have h3 := HL.out.2.2; rw [cnt_snoc, if_pos rfl]; omega
        case measure => simp [intOf]; omega
    · have hp : decide ((0 : Int) < (a : Int) + (b : Int)) = false := by simp; omega
      have e1 : a = 0 := by omega
      have e2 : b = 0 := by omega
      subst e1; subst e2
      go_wp2
      exact H.out l _ HL.out.1 HL.out.2.1 HL.out.2.2 HC1.out HG1.out

theorem draw_int (k : Nat) (ca : Option Addr) (cl cc : Nat) (d f : Int) (hd0 : 0 ≤ d) (hd : d ≤ 8) (hf0 : 0 ≤ f) (hf : f ≤ 8) (w : World) (hc : Cur w k ca cl cc) {Q : Ending → World → Prop}
    (h : ∀ (l : List UInt8) (w' : World), okL l = true → (cnt 100 l : Int) = d → (cnt 102 l : Int) = f → Cur w' k ca cl cc → w.grownBy w' (some k) → Q (.returned (.string ⟨l.toArray⟩)) w') :
    Calls Try.prog 43 #[.pointer (some ⟨k, 0, none⟩), .int .i64 d, .int .i64 f] w Q := by
  obtain ⟨a, rfl⟩ := Int.eq_ofNat_of_zero_le hd0
  obtain ⟨b, rfl⟩ := Int.eq_ofNat_of_zero_le hf0
  exact draw_get k ca cl cc a b (by omega) (by omega) w hc fun l w' h1 h2 h3 h4 h5 => h l w' h1 (by omega) (by omega) h4 h5

end Go.Proofs.Ytfhpbgmnekhfeaa.Draw
