/- The law of CutRuns: the walk (printed by wip/gen_two.py). -/
import Derived.Test.YtefeajnlogbilaaKerfRuns2
import Derived.Test.YtefeajnlogbilaaIntRows2
namespace Go.Proofs.Ytefeajnlogbilaa.Kerf
open Go.ChangeShapes Go.WideShapes Go.ChangeAt Go.RowKit
open Go.Proofs.Ytefeajnlogbilaa.Strip Go.Proofs.Ytefeajnlogbilaa.Ints Go.Proofs.Ytefeajnlogbilaa.Corner
set_option linter.unusedVariables false

theorem mark_two1 (base n cap : Nat) (a : Option Addr) (vs : List Value) (ls : List (List Int)) (hl : ls.length = n) (hk : 1 + tot ls ≤ 1000000) (hn : n ≤ 1000000) (w : World) (hbw : base ≤ w.heap.size) (h : Own2 w base (.slice a n cap) vs ls) :
    Calls Try.prog 47 #[.slice a n cap, .int .i64 1] w fun e w' => e = .returned (.int .i64 (1 + (tot ls : Int))) ∧ Own2 w' base (.slice a n cap) vs (marks2 1 ls) ∧ Below base w w' := by
  have h := markSS_at 1 (by omega) base n cap a vs ls hl hk hn w hbw h
  rw [show ((1 + tot ls : Nat) : Int) = 1 + (tot ls : Int) from by omega] at h
  exact h
theorem held_two1 (a : Option Addr) (n cap : Nat) (ls : List (List Int)) (hl : ls.length = n) (hk : 1 + tot ls ≤ 1000000) (hn : n ≤ 1000000) (w : World) (hr : Row2 w a (marks2 1 ls)) :
    Calls Try.prog 48 #[.slice a n cap, .int .i64 1] w fun e w' => e = .returned (.int .i64 (1 + (tot ls : Int))) ∧ ∃ q, w' = w.drewN q := by
  have h := heldSS_at a n cap 1 (by omega) ls hl hk hn w hr
  rw [show ((1 + tot ls : Nat) : Int) = 1 + (tot ls : Int) from by omega] at h
  exact h

set_option maxRecDepth 100000 in
set_option maxHeartbeats 4000000 in
theorem exactCutRuns (s t : ByteArray) (w : World) (hm : s.size ≤ maxLen) (hm' : t.size ≤ maxLen) :
    Calls Try.prog 11 #[.string s, .string t] w fun e w' => e = .returned (.bool true) ∧ Below w.heap.size w w' := by
  unfold maxLen at hm hm'
  by_cases hbig : 1048576 < s.size
  · go_enter Try.func11, Try.ntmps11
    go_wp2
    go_ret
    exact ⟨rfl, Below.refl _ _⟩
  by_cases hbig2 : 1048576 < t.size
  · go_enter Try.func11, Try.ntmps11
    go_wp2
    go_ret
    exact ⟨rfl, Below.refl _ _⟩
  have hs : s.size ≤ 1048576 := by omega
  have ht : t.size ≤ 1048576 := by omega
  have hsp := fun w => runs_spec s t w hs ht
  have him := fun w => runs_impl s t w hs ht
  have hln : 1 + tot (runsC s.data.toList t.data.toList) ≤ 1000000 := runs_tot _ _
  have hln2 : (runsC s.data.toList t.data.toList).length ≤ 1000000 := runs_short _ _
  generalize runsC s.data.toList t.data.toList = l at *
  have HSP := Lib.hid hsp; clear hsp
  have HIM := Lib.hid him; clear him
  have hbd : l.length ≤ maxLen := by unfold maxLen; omega
  obtain ⟨n, hn⟩ : ∃ n, l.length = n := ⟨_, rfl⟩
  obtain ⟨m, hm9⟩ : ∃ m, tot l = m := ⟨_, rfl⟩
  have HN := Lib.hid hn
  have HM := Lib.hid hm9
  rw [hm9] at hln
  rw [hn] at hln2 hbd
  clear hn hm9
  have HMK := Lib.hid (fun base cap a vs w hbw h => mark_two1 base n cap a vs l HN.out (by rw [HM.out]; exact hln) hln2 w hbw h)
  have HHE := Lib.hid (fun a cap w h => held_two1 a n cap l HN.out (by rw [HM.out]; exact hln) hln2 w h)
  rw [HM.out] at HMK HHE
  go_enter Try.func11, Try.ntmps11
  go_wp2_with fail
  refine (HSP.out _).mono ?_
  rintro e w1 ⟨vs, us, rfl, hb1, ho1⟩
  have HB1 := Lib.hid hb1
  have HOS1 := Lib.hid ho1; clear hb1 ho1
  obtain ⟨a1, cs, rfl, _, _⟩ := HOS1.out.row
  rw [HN.out] at HOS1 ⊢
  go_wp2_with fail
  refine (HIM.out _).mono ?_
  rintro e w2 ⟨vi, ui, rfl, hb2, ho2⟩
  have HB2 := Lib.hid (HB1.out.trans (hb2.mono HB1.out.size))
  have HX2 := Lib.hid hb2
  have HOI2 := Lib.hid ho2
  have HS1 := Lib.hid HB1.out.size
  clear hb2 ho2
  obtain ⟨ai, ci, rfl, _, _⟩ := HOI2.out.row
  rw [HN.out] at HOI2 ⊢
  go_wp2_with fail
  obtain ⟨_, _, e1, r1, _⟩ := (HOS1.out.below HX2.out).row
  rw [HN.out] at e1
  cases e1
  obtain ⟨_, _, e2, r2, _⟩ := HOI2.out.row
  rw [HN.out] at e2
  cases e2
  refine (eqSS_yes n ci cs ai a1 l HN.out hbd _ r2 r1).mono ?_
  clear r1 r2
  rintro e w3 ⟨rfl, q, rfl⟩
  have HX3 : Hid (Below w1.heap.size w1 (w2.drewN q)) := HX2.out.trans ((drewN_below w2 q).mono HX2.out.size)
  have HOI3 := Lib.hid (HOI2.out.below (drewN_below w2 q))
  have HZ3 : Hid (w1.heap.size ≤ (w2.drewN q).heap.size) := HX3.out.size
  generalize w2.drewN q = w3 at *
  go_wp2_with fail
  refine (HMK.out _ ci ai ui _ HZ3.out HOI3.out).mono ?_
  rintro e w4 ⟨rfl, hmk, hgr⟩
  have HX4 := Lib.hid (HX3.out.trans hgr)
  have HM4 := Lib.hid hmk
  clear hmk hgr
  go_wp2_with fail
  obtain ⟨_, _, e3, r3, _⟩ := HM4.out.row
  rw [marks2_length, HN.out] at e3
  cases e3
  refine (HHE.out ai ci _ r3).mono ?_
  clear r3
  rintro e w5 ⟨rfl, q, rfl⟩
  have HX5 : Hid (Below w1.heap.size w1 (w4.drewN q)) := HX4.out.trans ((drewN_below w4 q).mono HX4.out.size)
  have HM5 := Lib.hid (HM4.out.below (drewN_below w4 q))
  generalize w4.drewN q = w5 at *
  go_wp2_with fail
  refine (HIM.out _).mono ?_
  rintro e w6 ⟨v6, u6, rfl, hb6, ho6⟩
  have HX6 := Lib.hid (HX5.out.trans (hb6.mono HX5.out.size))
  have HM6 := Lib.hid (HM5.out.below hb6)
  have HOI6 := Lib.hid ho6
  clear hb6 ho6
  obtain ⟨a6, c6, rfl, _, _⟩ := HOI6.out.row
  rw [HN.out] at HOI6 ⊢
  go_wp2_with fail
  obtain ⟨_, _, e1, r1, _⟩ := (HOS1.out.below HX6.out).row
  rw [HN.out] at e1
  cases e1
  obtain ⟨_, _, e2, r2, _⟩ := HOI6.out.row
  rw [HN.out] at e2
  cases e2
  refine (eqSS_yes n c6 cs a6 a1 l HN.out hbd _ r2 r1).mono ?_
  clear r1 r2
  rintro e w7 ⟨rfl, q, rfl⟩
  have HX7 : Hid (Below w1.heap.size w1 (w6.drewN q)) := HX6.out.trans ((drewN_below w6 q).mono HX6.out.size)
  have HM7 := Lib.hid (HM6.out.below (drewN_below w6 q))
  generalize w6.drewN q = w7 at *
  go_wp2_with fail
  obtain ⟨_, _, e3, r3, _⟩ := HM7.out.row
  rw [marks2_length, HN.out] at e3
  cases e3
  refine (HHE.out ai ci _ r3).mono ?_
  clear r3
  rintro e w8 ⟨rfl, q, rfl⟩
  have HX8 : Hid (Below w1.heap.size w1 (w7.drewN q)) := HX7.out.trans ((drewN_below w7 q).mono HX7.out.size)
  generalize w7.drewN q = w8 at *
  go_wp2
  go_ret
  exact ⟨rfl, HB1.out.trans (HX8.out.mono HS1.out)⟩
end Go.Proofs.Ytefeajnlogbilaa.Kerf
