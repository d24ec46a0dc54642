/- What the program of chapter 13 returns: FromHeights, by the contract of the function that it makes. -/
import Derived.Test.YtbdeppbbgokfhaaHighSpec
import Derived.Test.YtbdeppbbgokfhaaStripImpl
import Derived.OneCell
import Derived.Deep.RegionLaw
namespace Go.Proofs.Ytbdeppbbgokfhaa.View
open Go.ChangeShapes Go.WideShapes Go.ChangeAt Go.RowKit
open Go.Proofs.Ytbdeppbbgokfhaa.Strip Go.Proofs.Ytbdeppbbgokfhaa.Ints Go.Proofs.Ytbdeppbbgokfhaa.Kerf Go.Proofs.Ytbdeppbbgokfhaa.Order
set_option linter.unusedVariables false

/-- The block of a captured variable. -/
def Cap (w : World) (T B : Nat) (v : Value) : Prop := w.heap[B]? = some (.cells #[v] T (0, 0))
theorem Cap.below {w w' : World} {T B : Nat} {v : Value} (h : Cap w T B v) (hb : Below w.heap.size w w') : Cap w' T B v := (hb.block B (lt_of_block h)).trans h
theorem Cap.cell {w : World} {T B : Nat} {v : Value} (h : Cap w T B v) : w.cell? ⟨B, 0, none⟩ = some v := cell_of_one h
theorem Cap.free {w : World} {T B : Nat} {v : Value} (h : Cap w T B v) : w.frozen? ⟨B, 0, none⟩ = false := free_of_one h
theorem Cap.set {w : World} {T B : Nat} {v : Value} (h : Cap w T B v) (u : Value) : Cap (w.setCell ⟨B, 0, none⟩ u) T B u := one_setCell h
theorem Cap.other {w : World} {T B B2 : Nat} {v : Value} (h : Cap w T B v) (hne : B2 ≠ B) (u : Value) : Cap (w.setCell ⟨B2, 0, none⟩ u) T B v := by
  unfold Cap
  rw [Below.heap_setCell _ _ _ _ (fun e => hne e.symm)]; exact h

/-- The variables of the closure: the text so far, the height. -/
structure Sink (w : World) (Bs Bh : Nat) (l : List UInt8) (u : Int) : Prop where
  text : Cap w 9 Bs (.string ⟨l.toArray⟩)
  high : Cap w 3 Bh (.int .i64 u)
  two : Bs ≠ Bh

theorem undrew {w w' : World} (h : Below w.drew.heap.size w.drew w') : Below w.heap.size w w' := (drewN_below w 1).trans h

set_option maxRecDepth 100000 in
theorem sink_no (Bs Bh : Nat) (l : List UInt8) (u x : Int) (w : World) (h : Sink w Bs Bh l u) (hx : decide (0 ≤ x ∧ x ≤ u) = false) :
    Calls Try.prog 58 #[.int .i64 x, .pointer (some ⟨Bh, 0, none⟩), .pointer (some ⟨Bs, 0, none⟩)] w fun e w' => e = .returned (.bool false) ∧ w = w' := by
  have hx2 := of_decide_eq_false hx
  have hc := h.high.cell
  clear hx
  by_cases h0 : x < 0
  · go_enter Try.func58, Try.ntmps58
    go_wp2
    go_ret
    exact ⟨rfl, rfl⟩
  · have h1 : u < x := by omega
    clear hx2
    go_enter Try.func58, Try.ntmps58
    go_wp2
    go_ret
    exact ⟨rfl, rfl⟩

set_option maxRecDepth 100000 in
set_option maxHeartbeats 2000000 in
theorem sink_yes (base Bs Bh : Nat) (l : List UInt8) (u x : Int) (w : World) (h : Sink w Bs Bh l u) (hl : l.length ≤ 100) (x1 : 0 ≤ x) (x2 : x ≤ u) (u8 : u ≤ 8) (hbs : base ≤ Bs) (hbh : base ≤ Bh) (hbw : base ≤ w.heap.size) :
    Calls Try.prog 58 #[.int .i64 x, .pointer (some ⟨Bh, 0, none⟩), .pointer (some ⟨Bs, 0, none⟩)] w fun e w' => e = .returned (.bool true) ∧ Sink w' Bs Bh (l ++ List.replicate (u - x).toNat 100) x ∧ Below base w w' := by
  have hc := h.high.cell
  have ht := h.text.cell
  have H := Lib.hid h
  have hwr : IntKind.i64.wrap (u - x) = u - x := by rw [IntKind.wrap_i64]; omega
  have hlz : (List.replicate (u - x).toNat (100 : UInt8)).length ≤ 8 := by rw [List.length_replicate]; omega
  have HCT := Lib.hid (cat_lists2 l (List.replicate (u - x).toNat 100))
  have HRP := Lib.hid (fun w => repeat_one 100 (u - x) (by omega) (by omega) w)
  have hbg : ¬ 9223372036854775807 < l.length + (u - x).toNat := by omega
  have hx0 : ¬ x < 0 := by omega
  have hx1 : ¬ u < x := by omega
  clear h
  go_enter Try.func58, Try.ntmps58
  go_wp2_with fail
  go_region_law ((go_simp; go_at_call 59; refine (HRP.out _).mono ?_; rintro e w5 ⟨rfl, hb5'⟩; have hb5 := undrew hb5'; have T5 := Lib.hid (H.out.text.below hb5); have U5 := Lib.hid (H.out.high.below hb5); have B5 := Lib.hid (hb5.mono hbw); have c5 := T5.out.cell; have f5 := T5.out.free))
  all_goals
    obtain ⟨V, hV⟩ : ∃ V, (⟨l.toArray⟩ ++ ⟨Array.replicate (u - x).toNat 100⟩ : ByteArray) = V := ⟨_, rfl⟩
    rw [hV]
    have HV := Lib.hid (show V = ⟨(l ++ List.replicate (u - x).toNat 100).toArray⟩ by rw [← HCT.out, ← hV]; simp)
    have T6 := Lib.hid (T5.out.set (.string V))
    have U6 := Lib.hid (U5.out.other H.out.two (.string V))
    have B6 := Lib.hid (B5.out.setCell (p := ⟨Bs, 0, none⟩) hbs (.string V))
    clear hV c5 f5 hc ht
    generalize w5.setCell ⟨Bs, 0, none⟩ (.string V) = w6 at *
    have c6 := U6.out.cell
    have f6 := U6.out.free
    have T7 := Lib.hid (T6.out.other (fun e => H.out.two e.symm) (.int .i64 x))
    have U7 := Lib.hid (U6.out.set (.int .i64 x))
    have B7 := Lib.hid (B6.out.setCell (p := ⟨Bh, 0, none⟩) hbh (.int .i64 x))
    go_wp2
    go_ret
    refine ⟨rfl, ⟨?_, U7.out, H.out.two⟩, B7.out⟩
    rw [← HV.out]; exact T7.out

set_option maxRecDepth 100000 in
set_option maxHeartbeats 4000000 in
theorem back_impl (d : Int) (a : Option Addr) (c : Nat) (hs : List Int) (w : World) (hr : IRow w a hs) :
    Calls Try.prog 21 #[.int .i64 d, .slice a hs.length c] w fun e w' => e = .returned (.string ⟨(fromH d hs).toArray⟩) ∧ Below w.heap.size w w' := by
  cases hf : frameB d hs.length with
  | false =>
    rw [high_no hf]
    go_enter Try.func21, Try.ntmps21
    go_wp2_with fail
    refine (frame_impl _ _ _).mono ?_
    rintro e w' ⟨rfl, rfl⟩
    rw [hf]
    go_wp2
    go_ret
    exact ⟨rfl, Below.refl _ _⟩
  | true =>
    obtain ⟨q1, q2, q3, q4⟩ := frameB_iff.mp hf
    have HF := Lib.hid hf
    have HALL := Lib.hid (okP_all hf)
    have HR := Lib.hid hr
    obtain ⟨n, hn⟩ : ∃ n, hs.length = n := ⟨_, rfl⟩
    rw [hn] at HALL HF q3 q4 ⊢
    have HN := Lib.hid hn
    have hn8 : n ≤ 8 := by omega
    obtain ⟨R, hR⟩ : ∃ R, fromH d hs = R := ⟨_, rfl⟩
    have HBAD := Lib.hid (fun k (h : okP d hs k = false) => (hR.symm.trans (okP_bad h) : R = []))
    rw [hR] at HALL ⊢
    clear hf hr hn hR q3 q4
    go_enter Try.func21, Try.ntmps21
    go_wp2_with fail
    refine (frame_impl _ _ _).mono ?_
    rintro e w' ⟨rfl, rfl⟩
    rw [HF.out]
    have hmf : ∀ (fn : Fn) (first cap : Array Value) (w : World), (Instr.makeFunc fn first cap).run Try.prog w = .ok (.func fn first cap) w := fun _ _ _ _ => rfl
    go_wp2_with fail
    have HS0 : Hid (Sink ((w.alloc (.cells #[.string ⟨#[]⟩] 9)).alloc (.cells #[.int .i64 d] 3)) w.heap.size (w.heap.size + 1) (sP d hs 0) (hP1 d hs 0)) := by
      refine ⟨?_, ?_, by omega⟩
      · unfold Cap
        rw [Below.heap_alloc _ _ _ (by simp)]
        exact heap_alloc_new w _
      · have h := heap_alloc_new (w.alloc (.cells #[.string ⟨#[]⟩] 9)) (.cells #[.int .i64 d] 3)
        simpa [Cap, hP1, lastH] using h
    have HB0 := Lib.hid (((Below.refl w.heap.size w).alloc (Nat.le_refl _) (.cells #[.string ⟨#[]⟩] 9)).alloc (by simp) (.cells #[.int .i64 d] 3))
    generalize (w.alloc (.cells #[.string ⟨#[]⟩] 9)).alloc (.cells #[.int .i64 d] 3) = w1 at *
    go_loopw [19] (fun i wr => ∃ k : Nat, k ≤ n ∧ i = .int .i64 (k : Int) ∧ Hid (okP d hs k = true) ∧ Hid (Sink wr w.heap.size (w.heap.size + 1) (sP d hs k) (hP1 d hs k)) ∧ Hid (Below w.heap.size w wr)) (fun i _ => n - (intOf i).toNat)
    case atStart => exact ⟨0, Nat.zero_le _, rfl, Lib.hid rfl, HS0, HB0⟩
    case round =>
      clear HS0 HB0
      obtain ⟨k, hk, rfl, HOK, HS, HB⟩ := hrel
      obtain ⟨b1, b2, b3⟩ := okP_in ⟨q1, q2⟩ (by rw [HN.out]; exact hk) (by rw [HN.out]; exact hn8) HOK.out
      by_cases hlt : k < n
      · have hlt2 : k < hs.length := by rw [HN.out]; exact hlt
        have hk0 : (0 : Int) ≤ (k : Int) := Int.natCast_nonneg _
        have hk1 : (k : Int) < (n : Int) := by omega
        obtain ⟨g, rfl, _, hc⟩ := (HR.out.below HB.out) k hlt2
        have HS1 := Lib.hid (okP_step d hs k hlt2)
        have HS2 := Lib.hid (hP1_step d hs k hlt2)
        have HS3 := Lib.hid (sP_step d hs k hlt2)
        have HBD := Lib.hid (HBAD.out (k + 1))
        generalize hs[k] = x at *
        generalize hP1 d hs k = u at *
        generalize sP d hs k = l at *
        cases hx : decide (0 ≤ x ∧ x ≤ u) with
        | false =>
          have HBA : Hid (R = []) := HBD.out (by rw [HS1.out, hx, Bool.and_false])
          have HNO := Lib.hid (sink_no w.heap.size (w.heap.size + 1) l u x wr HS.out hx)
          clear hx
          go_wp2_with fail
          refine HNO.out.mono ?_
          rintro e w' ⟨rfl, rfl⟩
          go_wp2
          go_ret
          exact ⟨by rw [HBA.out]; rfl, HB.out⟩
        | true =>
          have hx2 := of_decide_eq_true hx
          have HO2 : Hid (okP d hs (k + 1) = true) := by
            show _ = _
            rw [HS1.out, HOK.out, hx]; rfl
          obtain ⟨x1, x2⟩ := hx2
          have HYES := Lib.hid (sink_yes w.heap.size w.heap.size (w.heap.size + 1) l u x wr HS.out (by omega) x1 x2 b2 (Nat.le_refl _) (by omega) HB.out.size)
          have HCF := Lib.hid (cat_lists2 (l ++ List.replicate (u - x).toNat 100) [102])
          have hlz : (l ++ List.replicate (u - x).toNat (100 : UInt8)).length ≤ 24 := by rw [List.length_append, List.length_replicate]; omega
          clear hx
          generalize l ++ List.replicate (u - x).toNat (100 : UInt8) = l2 at *
          go_wp2_with fail
          refine HYES.out.mono ?_
          rintro e w2 ⟨rfl, hs2, hb2⟩
          have HB2 := Lib.hid (HB.out.trans hb2)
          have T2 := Lib.hid hs2.text
          have U2 := Lib.hid hs2.high
          have N2 := Lib.hid hs2.two
          clear hs2 hb2
          have ct := T2.out.cell
          have ft := T2.out.free
          go_wp2_with fail
          have T3 := T2.out.set (.string (⟨l2.toArray⟩ ++ ⟨#[102]⟩))
          have U3 := U2.out.other N2.out (.string (⟨l2.toArray⟩ ++ ⟨#[102]⟩))
          go_roundw
          case rel => exact ⟨k + 1, by omega, by go_num, HO2, ⟨by rw [HS3.out, ← HCF.out]; exact T3, by rw [HS2.out]; exact U3, N2.out⟩, HB2.out.setCell (p := ⟨w.heap.size, 0, none⟩) (Nat.le_refl _) _⟩
          case measure => simp [intOf]; omega
      · obtain rfl : k = n := by omega
        have HA := Lib.hid (HALL.out (by simpa only [HN.out] using HOK.out))
        have HYES := Lib.hid (sink_yes w.heap.size w.heap.size (w.heap.size + 1) (sP d hs k) (hP1 d hs k) 0 wr HS.out (by omega) (Int.le_refl _) b1 b2 (Nat.le_refl _) (by omega) HB.out.size)
        rw [Int.sub_zero, ← HA.out] at HYES
        go_wp2_with fail
        refine HYES.out.mono ?_
        rintro e w2 ⟨rfl, hs2, hb2⟩
        have HB2 := Lib.hid (HB.out.trans hb2)
        have ct := hs2.text.cell
        clear hs2 hb2
        go_wp2
        go_ret
        exact ⟨rfl, HB2.out⟩
end Go.Proofs.Ytbdeppbbgokfhaa.View
