/- What the program of chapter 13 returns: reversed rows of ints, HeightsOf, DepthsOf. -/
import Derived.Test.YtbdeppbbgokfhaaViewMath
import Derived.Test.YtbdeppbbgokfhaaKerfImpl
import Derived.Test.YtbdeppbbgokfhaaTurnImpl
import Derived.Test.YtbdeppbbgokfhaaKit
import Derived.Lib.OwnBridge
namespace Go.Proofs.Ytbdeppbbgokfhaa.View
open Go.ChangeShapes Go.WideShapes Go.ChangeAt Go.RowKit Go.Sort
open Go.Proofs.Ytbdeppbbgokfhaa.Strip Go.Proofs.Ytbdeppbbgokfhaa.Ints Go.Proofs.Ytbdeppbbgokfhaa.Corner Go.Proofs.Ytbdeppbbgokfhaa.Kerf Go.Proofs.Ytbdeppbbgokfhaa.Order Go.Proofs.Ytbdeppbbgokfhaa.Turn
set_option linter.unusedVariables false

set_option maxRecDepth 100000 in
theorem look_impl (s : ByteArray) (w : World) (hm : s.size ≤ 1048576) :
    Calls Try.prog 16 #[.string s] w (PostRow w (htsL s.data.toList)) := by
  cases hs : stripB s.data.toList with
  | false =>
    rw [htsL_no hs]
    go_enter Try.func16, Try.ntmps16
    go_wp2_with fail
    refine (is_impl s _ hm).mono ?_
    rintro e w1 ⟨rfl, hb⟩
    have HB := Lib.hid hb; clear hb
    rw [hs]
    go_wp2
    go_ret
    exact ⟨_, rfl, HB.out, Own.nil _ _⟩
  | true =>
    rw [htsL_yes hs]
    have HH := Lib.hid (fun w => heights_impl s w hm hs)
    generalize hts (cnt 100 s.data.toList) s.data.toList = l at *
    go_enter Try.func16, Try.ntmps16
    go_wp2_with fail
    refine (is_impl s _ hm).mono ?_
    rintro e w0 ⟨rfl, hb0⟩
    have HB0 := Lib.hid hb0; clear hb0
    rw [hs]
    go_wp2_with fail
    refine (HH.out _).mono ?_
    rintro e w1 ⟨v, rfl, hb, ho⟩
    have HB := Lib.hid (HB0.out.trans (hb.mono HB0.out.size))
    have HO := Lib.hid (ho.mono HB0.out.size)
    clear hb ho
    go_wp2
    go_ret
    exact ⟨_, rfl, HB.out, HO.out⟩

theorem Own.cases {w : World} {base : Nat} {v : Value} {l : List Int} (h : Own w base v l) : (v = .slice none 0 0 ∧ l = []) ∨ ∃ g c, v = .slice (some ⟨g, 0, none⟩) l.length c := by
  obtain ⟨_, ⟨e, h0⟩ | ⟨g, c, cur, e, _⟩⟩ := h
  · exact .inl ⟨e, List.eq_nil_of_length_eq_zero h0⟩
  · exact .inr ⟨g, c, e⟩

set_option maxRecDepth 100000 in
theorem revi_impl (base : Nat) (v : Value) (l : List Int) (w : World) (hn : l.length ≤ 1048576) (h : Own w base v l) :
    Calls Try.prog 53 #[v] w (PostRow w l.reverse) := by
  rcases Own.cases h with ⟨rfl, rfl⟩ | ⟨b, c, rfl⟩
  · go_enter Try.func53, Try.ntmps53
    go_wp2_with fail
    refine (Try.slices_Clone_int_nil 0 0 _).mono ?_
    rintro e w1 ⟨rfl, rfl⟩
    go_wp2_with fail
    refine (Try.slices_Reverse_int_empty none 0 _).mono ?_
    rintro e w2 ⟨rfl, rfl⟩
    go_wp2
    go_ret
    exact ⟨_, rfl, Below.refl _ _, Own.nil _ _⟩
  · obtain ⟨_, _, e0, hr, _⟩ := h.row
    cases e0
    have hcl := Try.slices_Clone_int b 0 l.length c l w (Nat.le_refl _) (by omega) (fun j hj => by
      obtain ⟨g, e, _, hc⟩ := hr j hj
      cases e
      rw [Nat.zero_add, hc]
      simp [List.getD, hj])
    rw [List.take_length] at hcl
    have HC := Lib.hid hcl
    clear h hr hcl
    go_enter Try.func53, Try.ntmps53
    go_wp2_with fail
    refine HC.out.mono ?_
    rintro e w1 ⟨v1, rfl, hown, hnil, hb1⟩
    clear HC
    obtain ⟨g, cap, rfl, hbg, hlt, h1, h2, h3, hH⟩ := Lib.holds_of_ownsRow hown hnil
    have HREV := Lib.hid (Try.slices_Reverse_int g 0 cap l w1 hH (by omega))
    have HUP := Lib.hid (show ∀ q, Own (putRow (Value.int .i64) (Sort.ahead w1 q) g 0 l.reverse.toArray) w.heap.size (.slice (some ⟨g, 0, none⟩) l.length cap) l.reverse from fun q => by
      have := Lib.ownsRow_putRow (q := q) (k := l.length) (ys := l.reverse) hown (by simp) (Nat.le_refl _)
      rw [List.take_of_length_le (by simp)] at this
      unfold Own
      rw [List.length_reverse]
      exact this)
    have HBL := Lib.hid (fun q => Lib.below_putRow (enc := Value.int .i64) (q := q) (d := l.reverse.toArray) hb1 hbg)
    clear hown hH hb1 hnil
    go_wp2_with fail
    refine HREV.out.mono ?_
    rintro e w2 ⟨rfl, q, rfl⟩
    have HUQ := Lib.hid (HUP.out q)
    have HBQ := Lib.hid (HBL.out q)
    clear HUP HBL HREV
    generalize putRow (Value.int .i64) (Sort.ahead w1 q) g 0 l.reverse.toArray = w2 at *
    go_wp2
    go_ret
    exact ⟨_, rfl, HBQ.out, HUQ.out⟩

set_option maxRecDepth 100000 in
theorem deep_impl (s : ByteArray) (w : World) (hm : s.size ≤ 1048576) :
    Calls Try.prog 17 #[.string s] w (PostRow w (dpsL s.data.toList)) := by
  have HL := Lib.hid (fun w => look_impl (turnS s) w (Nat.le_trans (turnS_size s) hm))
  have hz := htsL_le (turnL s.data.toList)
  rw [← depths_turn]
  rw [turnS_list] at HL
  generalize htsL (turnL s.data.toList) = l at *
  have HR := Lib.hid (fun base v w h => revi_impl base v l w (by omega) h)
  have HT := Lib.hid (fun w => turn_impl s w hm)
  generalize turnS s = t at *
  go_enter Try.func17, Try.ntmps17
  go_wp2_with fail
  refine (HT.out _).mono ?_
  rintro e w0 ⟨rfl, hb0⟩
  have HB0 := Lib.hid hb0; clear hb0
  go_wp2_with fail
  refine (HL.out _).mono ?_
  rintro e w1 ⟨v, rfl, hb, ho⟩
  have HB := Lib.hid (HB0.out.trans (hb.mono HB0.out.size))
  have HO := Lib.hid ho
  clear hb ho
  go_wp2_with fail
  refine (HR.out _ _ _ HO.out).mono ?_
  rintro e w2 ⟨v2, rfl, hb, ho⟩
  have HB2 := Lib.hid (HB.out.trans (hb.mono HB.out.size))
  have HO2 := Lib.hid (ho.mono HB.out.size)
  clear hb ho
  go_wp2
  go_ret
  exact ⟨_, rfl, HB2.out, HO2.out⟩
end Go.Proofs.Ytbdeppbbgokfhaa.View
