/- What the model and the program of chapter 15 return: IsUncut. -/
import Derived.Test.YtigakakgikcghaaCreaseDef
import Derived.Test.YtigakakgikcghaaCreaseImpl
import Derived.Lib.QuietBelow
namespace Go.Proofs.Ytigakakgikcghaa.Crease
open Go.ChangeShapes Go.WideShapes Go.ChangeAt Go.RowKit Go.Sort
open Go.Proofs.Ytigakakgikcghaa.Strip Go.Proofs.Ytigakakgikcghaa.Ints Go.Proofs.Ytigakakgikcghaa.Corner Go.Proofs.Ytigakakgikcghaa.Strs Go.Proofs.Ytigakakgikcghaa.Card
set_option linter.unusedVariables false

set_option maxRecDepth 100000 in
set_option maxHeartbeats 4000000 in
theorem unc_spec (d f : Int) (a : Option Addr) (m c : Nat) (l : List ByteArray) (k : Int) (w : World) (hl : l.length = m) (hm : m ≤ 1048576) (hz : ∀ s ∈ l, s.size ≤ 1048576) (hr : Row w a l) :
    Calls Try.prog 25 #[.agg #[.int .i64 d, .int .i64 f, .slice a m c], .int .i64 k] w fun e w' => e = .returned (.bool (uncB d f l k)) ∧ Below w.heap.size w w' := by
  have HBa := Lib.hid (alloc_below w (.cells #[.int .i64 d, .int .i64 f, .slice a m c] 26))
  have HVa := Lib.hid (Var.new w d f (.slice a m c))
  have HR0 := Lib.hid hr
  have HOK := Lib.hid (fun (w' : World) (h : Row w' a l) => ok_spec d f a m c l w' hl hm hz h)
  have HL := Lib.hid hl
  cases hb : cardB d f l with
  | false =>
    rw [uncB_no (by rw [hb]; rintro ⟨h, _⟩; cases h)]
    rw [hb] at HOK
    clear hr hb hz hl
    go_enter Try.func25, Try.ntmps25
    go_wp2_with fail
    obtain ⟨k0, k1, k2⟩ := HVa.out.cells
    generalize (w.alloc (.cells #[.int .i64 d, .int .i64 f, .slice a m c] 26)) = W at *
    have HX := Lib.hid (fun (dd : Nat) (os : Array Obj) => Calls.regrown_of (HOK.out (grow (redrawn W dd) os) (HR0.out.below (HBa.out.trans ((below_regrown W dd os).mono HBa.out.size)))))
    have k0 := cell_regrown k0
    have k1 := cell_regrown k1
    have k2 := cell_regrown k2
    refine wp_region_quiet_below (by kernel_rfl) (by kernel_rfl) ?_
    repeat (go_big_quiet_step ((go_at_call 41; exact HX.out _ _)))
    refine wpQuiet_nil ?_
    intro _ hw'
    obtain ⟨⟨dq, osq⟩, hw''⟩ := hw'
    subst hw''
    have hbr := below_regrown W dq osq
    have HBb := Lib.hid (HBa.out.trans (hbr.mono HBa.out.size))
    clear hbr k0 k1 k2
    generalize (grow (redrawn W dq) osq) = w5 at *
    go_wp2
    go_ret
    exact ⟨rfl, HBb.out⟩
  | true =>
    rw [hb] at HOK
    obtain ⟨f1, f2, f3, f4, f5, f6⟩ := frame_of hb
    rw [hl] at f5 f6
    by_cases hk : 0 ≤ k ∧ k ≤ (m : Int) - 2
    · have hq := decide_eq_true hk
      obtain ⟨j, rfl⟩ := Int.eq_ofNat_of_zero_le hk.1
      have hkl : j < l.length := by omega
      have hkn : j + 1 < l.length := by omega
      have hj0 : (0 : Int) ≤ (j : Int) := Int.natCast_nonneg _
      have hj1 : (j : Int) < (m : Int) := by omega
      have hj2 : (0 : Int) ≤ (j : Int) + 1 := by omega
      have hj3 : (j : Int) + 1 < (m : Int) := by omega
      rw [uncB_yes hb j hkn]
      obtain ⟨g, e, _, c0⟩ := Row.at HR0.out HBa.out j hkl
      obtain ⟨g', e', _, c1⟩ := Row.at HR0.out HBa.out (j + 1) hkn
      subst e
      cases e'
      have HIN := Lib.hid (fun w' : World => show Calls Try.prog 42 #[.int .i64 (j : Int), .int .i64 0, .int .i64 ((m : Int) - 2)] w' fun e w'' => e = .returned (.bool true) ∧ w' = w'' by
        have h := in_at (j : Int) 0 ((m : Int) - 2) w'
        rw [hq] at h; exact h)
      generalize l[j] = s at *
      generalize l[j + 1] = t at *
      clear hr hb hz hl hk hq
      go_enter Try.func25, Try.ntmps25
      go_wp2_with fail
      obtain ⟨k0, k1, k2⟩ := HVa.out.cells
      generalize (w.alloc (.cells #[.int .i64 d, .int .i64 f, .slice (some ⟨g, 0, none⟩) m c] 26)) = W at *
      have HX := Lib.hid (fun (dd : Nat) (os : Array Obj) => Calls.regrown_of (HOK.out (grow (redrawn W dd) os) (HR0.out.below (HBa.out.trans ((below_regrown W dd os).mono HBa.out.size)))))
      have HI2 := Lib.hid (fun (dd : Nat) (os : Array Obj) => Calls.regrown_of (calls_below (HIN.out (grow (redrawn W dd) os))))
      have k0 := cell_regrown k0
      have k1 := cell_regrown k1
      have k2 := cell_regrown k2
      have c0 := cell_regrown c0
      have c1 := cell_regrown c1
      refine wp_region_quiet_below (by kernel_rfl) (by kernel_rfl) ?_
      repeat (go_big_quiet_step ((first | (go_at_call 41; exact HX.out _ _) | (go_at_call 42; exact HI2.out _ _))))
      refine wpQuiet_nil ?_
      intro _ hw'
      obtain ⟨⟨dq, osq⟩, hw''⟩ := hw'
      subst hw''
      have hbr := below_regrown W dq osq
      have HBb := Lib.hid (HBa.out.trans (hbr.mono HBa.out.size))
      clear hbr k0 k1 k2 c0 c1
      generalize (grow (redrawn W dq) osq) = w5 at *
      go_wp2
      go_ret
      exact ⟨rfl, HBb.out⟩
    · have hq := decide_eq_false hk
      rw [uncB_no (by rintro ⟨_, h1, h2⟩; omega)]
      have HIN := Lib.hid (fun w' : World => show Calls Try.prog 42 #[.int .i64 k, .int .i64 0, .int .i64 ((m : Int) - 2)] w' fun e w'' => e = .returned (.bool false) ∧ w' = w'' by
        have h := in_at k 0 ((m : Int) - 2) w'
        rw [hq] at h; exact h)
      clear hr hb hz hl hk hq
      go_enter Try.func25, Try.ntmps25
      go_wp2_with fail
      obtain ⟨k0, k1, k2⟩ := HVa.out.cells
      generalize (w.alloc (.cells #[.int .i64 d, .int .i64 f, .slice a m c] 26)) = W at *
      have HX := Lib.hid (fun (dd : Nat) (os : Array Obj) => Calls.regrown_of (HOK.out (grow (redrawn W dd) os) (HR0.out.below (HBa.out.trans ((below_regrown W dd os).mono HBa.out.size)))))
      have HI2 := Lib.hid (fun (dd : Nat) (os : Array Obj) => Calls.regrown_of (calls_below (HIN.out (grow (redrawn W dd) os))))
      have k0 := cell_regrown k0
      have k1 := cell_regrown k1
      have k2 := cell_regrown k2
      refine wp_region_quiet_below (by kernel_rfl) (by kernel_rfl) ?_
      repeat (go_big_quiet_step ((first | (go_at_call 41; exact HX.out _ _) | (go_at_call 42; exact HI2.out _ _))))
      refine wpQuiet_nil ?_
      intro _ hw'
      obtain ⟨⟨dq, osq⟩, hw''⟩ := hw'
      subst hw''
      have hbr := below_regrown W dq osq
      have HBb := Lib.hid (HBa.out.trans (hbr.mono HBa.out.size))
      clear hbr k0 k1 k2
      generalize (grow (redrawn W dq) osq) = w5 at *
      go_wp2
      go_ret
      exact ⟨rfl, HBb.out⟩

/-- The next number, as the program has it. -/
theorem wrap_next (k : Int) (h0 : -9223372036854775808 ≤ k) (h1 : k < 9223372036854775807) : IntKind.i64.wrap (k + 1) = k + 1 := by rw [IntKind.wrap_i64]; omega

set_option maxRecDepth 100000 in
set_option maxHeartbeats 4000000 in
theorem unc_impl (d f : Int) (a : Option Addr) (m c : Nat) (l : List ByteArray) (k : Int) (w : World) (hl : l.length = m) (hm : m ≤ 1048576) (hz : ∀ s ∈ l, s.size ≤ 1048576) (hr : Row w a l) :
    Calls Try.prog 16 #[.agg #[.int .i64 d, .int .i64 f, .slice a m c], .int .i64 k] w fun e w' => e = .returned (.bool (uncB d f l k)) ∧ Below w.heap.size w w' := by
  have HBa := Lib.hid (alloc_below w (.cells #[.int .i64 d, .int .i64 f, .slice a m c] 26))
  have HVa := Lib.hid (Var.new w d f (.slice a m c))
  have HR0 := Lib.hid hr
  have HR := Lib.hid (hr.below HBa.out)
  have HST := Lib.hid (fun (k : Int) (w' : World) (h : Row w' a l) => stripOf_impl d f a m c l k w' hl hm hz h)
  by_cases h0 : (stripN d f l k).size = 0
  · have hv : uncB d f l k = false := by
      unfold uncB
      rw [decide_eq_false_iff_not]
      rintro ⟨h, _⟩
      exact h h0
    have HS1 := Lib.hid (fun (w' : World) (h : Row w' a l) => HST.out k w' h)
    rw [hv]
    generalize stripN d f l k = s at *
    have hq : s.toList.isEmpty = true := by rw [empty_eq, decide_eq_true h0]
    clear hr hz hl hv h0
    go_enter Try.func16, Try.ntmps16
    go_wp2_with fail
    refine (HS1.out _ HR.out).mono ?_
    rintro e w1 ⟨rfl, hb1⟩
    have HBb := Lib.hid (HBa.out.trans (hb1.mono HBa.out.size))
    have HVb := Lib.hid (HVa.out.below hb1)
    clear hb1
    obtain ⟨k0, k1, k2⟩ := HVb.out.cells
    go_wp2
    go_ret
    exact ⟨rfl, HBb.out⟩
  · have hk : 0 ≤ k ∧ k < (m : Int) := by
      by_cases hc : cardB d f l = true ∧ 0 ≤ k ∧ k < (l.length : Int)
      · rw [hl] at hc; exact hc.2
      · rw [stripN_no hc] at h0; exact absurd rfl h0
    have hk1 := hk.1
    have hk2 := hk.2
    have hv : uncB d f l k = ((stripN d f l k).toList == (stripN d f l (k + 1)).toList) := by
      unfold uncB
      rw [list_beq, Bool.eq_iff_iff]
      simp [h0]
    rw [hv]
    have HS1 := Lib.hid (fun (w' : World) (h : Row w' a l) => HST.out k w' h)
    have HS2 := Lib.hid (fun (w' : World) (h : Row w' a l) => HST.out (k + 1) w' h)
    generalize stripN d f l (k + 1) = t at *
    generalize stripN d f l k = s at *
    have hq : s.toList.isEmpty = false := by rw [empty_eq, decide_eq_false h0]
    clear hr hz hl hv h0 hk
    go_enter Try.func16, Try.ntmps16
    go_wp2_with fail
    refine (HS1.out _ HR.out).mono ?_
    rintro e w1 ⟨rfl, hb1⟩
    have HBb := Lib.hid (HBa.out.trans (hb1.mono HBa.out.size))
    have HVb := Lib.hid (HVa.out.below hb1)
    clear hb1
    obtain ⟨k0, k1, k2⟩ := HVb.out.cells
    go_wp2_with fail
    refine (HS2.out _ (HR0.out.below HBb.out)).mono ?_
    rintro e w2 ⟨rfl, hb2⟩
    have HBc := Lib.hid (HBb.out.trans (hb2.mono HBb.out.size))
    clear hb2
    go_wp2
    go_ret
    exact ⟨rfl, HBc.out⟩
end Go.Proofs.Ytigakakgikcghaa.Crease
