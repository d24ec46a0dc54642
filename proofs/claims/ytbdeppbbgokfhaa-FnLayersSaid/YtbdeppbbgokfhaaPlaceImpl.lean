/- What the program of chapter 4 returns. -/
import Derived.Test.YtbdeppbbgokfhaaPlaceSpec
import Derived.Test.YtbdeppbbgokfhaaStripImpl2
import Derived.Test.YtbdeppbbgokfhaaCornerSpec
import Derived.Test.YtbdeppbbgokfhaaKit
namespace Go.Proofs.Ytbdeppbbgokfhaa.Place
open Go.ChangeShapes Go.WideShapes Go.ChangeAt Go.RowKit
open Go.Proofs.Ytbdeppbbgokfhaa.Strip Go.Proofs.Ytbdeppbbgokfhaa.Ints Go.Proofs.Ytbdeppbbgokfhaa.Corner
set_option linter.unusedVariables false

set_option maxRecDepth 100000 in
theorem place_impl (s : ByteArray) (k op : Int) (w : World) (hm : s.size ≤ 1048576) :
    Calls Try.prog 61 #[.string s, .int .i64 k, .int .i64 op] w fun e w' => e = .returned (placeV s.data.toList k op) ∧ Below w.heap.size w w' := by
  cases hin : inB s.data.toList k with
  | false =>
    rw [place_no hin]
    have HAT := Lib.hid (at_no hin)
    unfold noV at *
    go_enter Try.func61, Try.ntmps61
    go_wp2_with fail
    refine (at_impl s k _ hm).mono ?_
    rintro e w1 ⟨rfl, hb⟩
    have HB := Lib.hid hb; clear hb
    rw [HAT.out]
    go_wp2
    go_ret3
    exact ⟨rfl, HB.out⟩
  | true =>
    obtain ⟨x, y, d, hx, hy, hd, hat, hnum, hpl⟩ := at_yes hin
    rw [hpl]
    have HAT := Lib.hid hat; clear hat hpl
    have HNUM := Lib.hid hnum; clear hnum
    unfold placeT
    rcases op_cases op with rfl | rfl | rfl | ho
    case inr.inr.inr =>
      have h0 : (op == 0) = false := by unfold opB at ho; simp at ho ⊢; omega
      have h1 : (op == 1) = false := by unfold opB at ho; simp at ho ⊢; omega
      have h2 : (op == 2) = false := by unfold opB at ho; simp at ho ⊢; omega
      rw [ho]
      unfold noV
      clear ho
      go_enter Try.func61, Try.ntmps61
      go_wp2_with fail
      refine (at_impl s k _ hm).mono ?_
      rintro e w1 ⟨rfl, hb⟩
      have HB := Lib.hid hb; clear hb
      rw [HAT.out]
      go_wp2_with fail
      refine (down_impl s _ hm).mono ?_
      rintro e w2 ⟨rfl, hb⟩
      have HB2 := Lib.hid (HB.out.trans (hb.mono HB.out.size)); clear hb
      rw [HNUM.out]
      go_wp2
      go_ret3
      exact ⟨rfl, HB2.out⟩
    all_goals
      rw [show opB _ = true from rfl, if_pos rfl]
      unfold fx fy
      simp only [if_true, if_false, show ((1 : Int) = 0) = False from by simp, show ((2 : Int) = 0) = False from by simp, show ((2 : Int) = 1) = False from by simp, show ((0 : Int) = 1) = False from by simp]
      go_enter Try.func61, Try.ntmps61
      go_wp2_with fail
      refine (at_impl s k _ hm).mono ?_
      rintro e w1 ⟨rfl, hb⟩
      have HB := Lib.hid hb; clear hb
      rw [HAT.out]
      go_wp2_with fail
      refine (down_impl s _ hm).mono ?_
      rintro e w2 ⟨rfl, hb⟩
      have HB2 := Lib.hid (HB.out.trans (hb.mono HB.out.size)); clear hb
      rw [HNUM.out]
      go_wp2
      go_ret3
      exact ⟨rfl, HB2.out⟩

/-- slices.Max and slices.Min at a row of ints. -/
theorem max_row (a : Option Addr) (c : Nat) (l : List Int) (w : World) (hr : IRow w a l) (h0 : 0 < l.length) (hn : l.length ≤ 2000000) :
    Calls Try.prog 63 #[.slice a l.length c] w fun e w' => e = .returned (.int .i64 (Lib.maxOf l)) ∧ w' = w := by
  obtain ⟨g, rfl, hg, _⟩ := hr 0 h0
  have h := Try.slices_Max_int g 0 l.length c l w h0 (Nat.le_refl _) (by omega) (fun j hj => by
    obtain ⟨g', e, _, hc⟩ := hr j hj
    cases e
    rw [Nat.zero_add, hc]; simp [List.getD, List.getElem?_eq_getElem hj])
  rw [List.take_length] at h
  exact h
end Go.Proofs.Ytbdeppbbgokfhaa.Place
