/- The walk of the exact law of LayersOf (printed by wip/gen_thick.py). -/
import Derived.Test.YtbdeppbbgokfhaaThickSpec
import Derived.Test.YtbdeppbbgokfhaaThickImpl
namespace Go.Proofs.Ytbdeppbbgokfhaa.Thick
open Go.ChangeShapes Go.WideShapes Go.ChangeAt Go.RowKit
open Go.Proofs.Ytbdeppbbgokfhaa.Strip Go.Proofs.Ytbdeppbbgokfhaa.Ints Go.Proofs.Ytbdeppbbgokfhaa.Corner
set_option linter.unusedVariables false

theorem mark_one (base : Nat) (a : Option Addr) (cap : Nat) (l : List Int) (hn : l.length ≤ 1000000) (w : World) (h : Own w base (.slice a l.length cap) l) :
    Calls Try.prog 42 #[.slice a l.length cap, .int .i64 1] w fun e w' => e = .returned (.int .i64 (1 + (l.length : Int))) ∧ Own w' base (.slice a l.length cap) (marks 1 l.length) ∧ w.grownBy w' (Value.slice a l.length cap).ownBlock := by
  have h := mark_at 1 (by omega) (by omega) base a cap l hn w h
  rw [show ((1 + l.length : Nat) : Int) = 1 + (l.length : Int) from by omega] at h
  exact h
theorem held_one (a : Option Addr) (n cap : Nat) (hn : n ≤ 1000000) (w : World) (hr : IRow w a (marks 1 n)) :
    Calls Try.prog 43 #[.slice a n cap, .int .i64 1] w fun e w' => e = .returned (.int .i64 (1 + (n : Int))) ∧ ∃ q, w' = w.drewN q := by
  have h := held_at a n cap 1 (by omega) (by omega) hn w hr
  rw [show ((1 + n : Nat) : Int) = 1 + (n : Int) from by omega] at h
  exact h

set_option maxRecDepth 100000 in
set_option maxHeartbeats 4000000 in
theorem exactLayersOf (s : ByteArray) (w : World) (hm : s.size ≤ maxLen) :
    Calls Try.prog 7 #[.string s] w fun e w' => e = .returned (.bool true) ∧ Below w.heap.size w w' := by
  unfold maxLen at hm
  by_cases hbig : 1048576 < s.size
  · go_enter Try.func7, Try.ntmps7
    go_wp2
    go_ret
    exact ⟨rfl, Below.refl _ _⟩
  · have hs : s.size ≤ 1048576 := by omega
    have hsp := fun w => lay_spec s w hs
    have him := fun w => lay_impl s w hs
    have hln : (layL s.data.toList).length ≤ 1000000 := Nat.le_trans (layL_le _) (by decide)
    generalize layL s.data.toList = l at *
    have HSP := Lib.hid hsp; clear hsp
    have HIM := Lib.hid him; clear him
    have hbd : l.length ≤ maxLen := by unfold maxLen; omega
    go_enter Try.func7, Try.ntmps7
    go_wp2_with fail
    refine (HSP.out _).mono ?_
    rintro e w1 ⟨vs, rfl, hb1, ho1⟩
    have HB1 := Lib.hid hb1
    have HOS1 := Lib.hid ho1; clear hb1 ho1
    obtain ⟨a1, cs, rfl, _, _⟩ := HOS1.out.row
    go_wp2_with fail
    refine (HIM.out _).mono ?_
    rintro e w2 ⟨vi, rfl, hb2, ho2⟩
    have HB2 := Lib.hid (HB1.out.trans (hb2.mono HB1.out.size))
    have HOS2 := Lib.hid (HOS1.out.below hb2)
    have HOI2 := Lib.hid ho2
    have HNE := Lib.hid (fun b (e : (Value.slice a1 l.length cs).ownBlock = some b) => (HOS1.out.lt b e).2)
    have HS1 := Lib.hid HB1.out.size
    clear hb2 ho2
    obtain ⟨ai, ci, rfl, _, _⟩ := HOI2.out.row
    go_wp2_with fail
    obtain ⟨_, _, e1, r1, _⟩ := HOS2.out.row
    cases e1
    obtain ⟨_, _, e2, r2, _⟩ := HOI2.out.row
    cases e2
    refine (eq_yes l.length ci cs ai a1 l rfl hbd _ r2 r1).mono ?_
    clear r1 r2
    rintro e w3 ⟨rfl, q, rfl⟩
    have HB3 := Lib.hid (HB2.out.trans ((drewN_below w2 q).mono HB2.out.size))
    have HOS3 := Lib.hid (HOS2.out.below (drewN_below w2 q))
    have HOI3 := Lib.hid (HOI2.out.below (drewN_below w2 q))
    generalize w2.drewN q = w3 at *
    go_wp2_with fail
    refine (mark_one _ ai ci l hln _ HOI3.out).mono ?_
    rintro e w4 ⟨rfl, hmk, hgr⟩
    have HB4 := Lib.hid (HB3.out.grown hgr HB3.out.size (fun j e => by have h1 := (HOI3.out.lt j e).1; have h2 := HS1.out; omega))
    have HOS4 := Lib.hid (HOS3.out.apart HOI3.out HNE.out hgr)
    have HM4 := Lib.hid hmk
    clear hmk hgr
    go_wp2_with fail
    obtain ⟨_, _, e3, r3, _⟩ := HM4.out.row
    rw [marks_length] at e3
    cases e3
    refine (held_one ai l.length ci hln _ r3).mono ?_
    clear r3
    rintro e w5 ⟨rfl, q, rfl⟩
    have HB5 := Lib.hid (HB4.out.trans ((drewN_below w4 q).mono HB4.out.size))
    have HOS5 := Lib.hid (HOS4.out.below (drewN_below w4 q))
    have HM5 := Lib.hid (HM4.out.below (drewN_below w4 q))
    generalize w4.drewN q = w5 at *
    go_wp2_with fail
    refine (HIM.out _).mono ?_
    rintro e w6 ⟨v6, rfl, hb6, ho6⟩
    have HB6 := Lib.hid (HB5.out.trans (hb6.mono HB5.out.size))
    have HOS6 := Lib.hid (HOS5.out.below hb6)
    have HM6 := Lib.hid (HM5.out.below hb6)
    have HOI6 := Lib.hid ho6
    clear hb6 ho6
    obtain ⟨a6, c6, rfl, _, _⟩ := HOI6.out.row
    go_wp2_with fail
    obtain ⟨_, _, e1, r1, _⟩ := HOS6.out.row
    cases e1
    obtain ⟨_, _, e2, r2, _⟩ := HOI6.out.row
    cases e2
    refine (eq_yes l.length c6 cs a6 a1 l rfl hbd _ r2 r1).mono ?_
    clear r1 r2
    rintro e w7 ⟨rfl, q, rfl⟩
    have HB7 := Lib.hid (HB6.out.trans ((drewN_below w6 q).mono HB6.out.size))
    have HM7 := Lib.hid (HM6.out.below (drewN_below w6 q))
    generalize w6.drewN q = w7 at *
    go_wp2_with fail
    obtain ⟨_, _, e3, r3, _⟩ := HM7.out.row
    rw [marks_length] at e3
    cases e3
    refine (held_one ai l.length ci hln _ r3).mono ?_
    clear r3
    rintro e w8 ⟨rfl, q, rfl⟩
    go_wp2
    go_ret
    exact ⟨rfl, HB7.out.trans ((drewN_below w7 q).mono HB7.out.size)⟩
end Go.Proofs.Ytbdeppbbgokfhaa.Thick
