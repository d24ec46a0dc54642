/- What the program of chapter 15 returns: CreaseText. -/
import Derived.Test.YtigakakgikcghaaCreaseImpl
namespace Go.Proofs.Ytigakakgikcghaa.Crease
open Go.ChangeShapes Go.WideShapes Go.ChangeAt Go.RowKit
open Go.Proofs.Ytigakakgikcghaa.Strip Go.Proofs.Ytigakakgikcghaa.Ints Go.Proofs.Ytigakakgikcghaa.Corner Go.Proofs.Ytigakakgikcghaa.Strs Go.Proofs.Ytigakakgikcghaa.Card
set_option linter.unusedVariables false

set_option maxRecDepth 100000 in
set_option maxHeartbeats 4000000 in
theorem text_impl (d f : Int) (a : Option Addr) (m c : Nat) (l : List ByteArray) (k : Int) (w : World) (hl : l.length = m) (hm : m ≤ 1048576) (hz : ∀ s ∈ l, s.size ≤ 1048576) (hr : Row w a l) :
    Calls Try.prog 12 #[.agg #[.int .i64 d, .int .i64 f, .slice a m c], .int .i64 k] w fun e w' => e = .returned (.string (textV (stripN d f l k))) ∧ Below w.heap.size w w' := by
  have HBa := Lib.hid (alloc_below w (.cells #[.int .i64 d, .int .i64 f, .slice a m c] 26))
  have HVa := Lib.hid (Var.new w d f (.slice a m c))
  have HR0 := Lib.hid hr
  have HR := Lib.hid (hr.below HBa.out)
  have HST := Lib.hid (fun (w' : World) (h : Row w' a l) => stripOf_impl d f a m c l k w' hl hm hz h)
  have HAT := Lib.hid (fun (i : Int) (w' : World) (h : Row w' a l) (hi0 : -9223372036854775808 ≤ i) (hi1 : i ≤ 9223372036854775807) => cAt_impl d f a m c l k i w' hl hm hz h hi0 hi1)
  have hs := stripN_size d f l k hz
  clear hr hz hl
  generalize stripN d f l k = s at *
  have hsl : s.data.toList.length = s.size := by simp
  have HSL := Lib.hid hsl; clear hsl
  by_cases h0 : s.size = 0
  · have hv : textV s = ⟨#[]⟩ := by unfold textV; rw [if_pos h0]
    have hq : s.toList.isEmpty = true := by rw [empty_eq, decide_eq_true h0]
    rw [hv]
    clear hv h0
    go_enter Try.func12, Try.ntmps12
    go_wp2_with fail
    refine (HST.out _ HR.out).mono ?_
    rintro e w1 ⟨rfl, hb⟩
    have HBb := Lib.hid (HBa.out.trans (hb.mono HBa.out.size)); clear hb
    go_wp2
    go_ret
    exact ⟨rfl, HBb.out⟩
  · have hv : textV s = ⟨(txt s.data.toList).toArray⟩ := by unfold textV; rw [if_neg h0]
    have hq : s.toList.isEmpty = false := by rw [empty_eq, decide_eq_false h0]
    rw [hv]
    clear hv h0
    go_enter Try.func12, Try.ntmps12
    go_wp2_with fail
    refine (HST.out _ HR.out).mono ?_
    rintro e w1 ⟨rfl, hb⟩
    have HBb := Lib.hid (HBa.out.trans (hb.mono HBa.out.size))
    have HVb := Lib.hid (HVa.out.below hb)
    clear hb HVa
    go_wp2_with fail
    go_loopw [6, 16] (fun v i wr => ∃ j : Nat, j ≤ s.size + 1 ∧ i = .int .i64 (j : Int) ∧ v = .string ⟨(txtN s.data.toList j).toArray⟩ ∧ Hid (Var wr w.heap.size d f (.slice a m c)) ∧ Hid (Below w.heap.size w wr)) (fun _ i _ => s.size + 1 - (intOf i).toNat)
    case atStart => exact ⟨0, by omega, rfl, rfl, HVb, HBb⟩
    case round =>
      clear HVb HBb
      obtain ⟨j, hj, rfl, rfl, HV, HB⟩ := hrel
      have hj0 : (0 : Int) ≤ (j : Int) := Int.natCast_nonneg _
      by_cases hlt : j ≤ s.size
      · have hj1 : (j : Int) < (s.size : Int) + 1 := by omega
        obtain ⟨k0, k1, k2⟩ := HV.out.cells
        have HX := Lib.hid (fun (w' : World) (h : Row w' a l) => HAT.out (j : Int) w' h (by omega) (by omega))
        have HT := Lib.hid (fun b h => txt_next s.data.toList j b h)
        have hz := txt_size s.data.toList j
        have h3 := crV_three s.data.toList (j : Int)
        generalize crV s.data.toList (j : Int) = x at *
        have z0 : (Utf8.encode (((⟨#[46, 109, 118]⟩ : ByteArray)[0]'(by decide)).toNat : Int)).size = 1 := by kernel_rfl
        have z1 : (Utf8.encode (((⟨#[46, 109, 118]⟩ : ByteArray)[1]'(by decide)).toNat : Int)).size = 1 := by kernel_rfl
        have z2 : (Utf8.encode (((⟨#[46, 109, 118]⟩ : ByteArray)[2]'(by decide)).toNat : Int)).size = 1 := by kernel_rfl
        rcases h3 with rfl | rfl | rfl
        all_goals
          go_wp2_with fail
          refine (HX.out _ (HR0.out.below HB.out)).mono ?_
          rintro e w2 ⟨rfl, hb⟩
          have HV2 := Lib.hid (HV.out.below hb)
          have HB2 := Lib.hid (HB.out.trans (hb.mono HB.out.size))
          clear hb k0 k1 k2 HV HB
          go_wp2
          refine ⟨⟨j + 1, by omega, by go_num, ?_, HV2, HB2⟩, by simp [intOf]; omega⟩
          exact congrArg Value.string (HT.out _ (by kernel_rfl))
      · have hke : j = s.size + 1 := by omega
        have HV := Lib.hid (show txtN s.data.toList j = txt s.data.toList by unfold txt; rw [HSL.out, hke])
        rw [HV.out]
        go_wp2
        go_ret
        exact ⟨rfl, HB.out⟩
end Go.Proofs.Ytigakakgikcghaa.Crease
