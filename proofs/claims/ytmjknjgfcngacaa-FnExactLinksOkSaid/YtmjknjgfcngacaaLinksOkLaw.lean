/- The walk of the law FnExactLinksOk (printed by wip/gen_slidelaw.py). -/
import Derived.Test.YtmjknjgfcngacaaLinkRow
import Derived.Test.YtmjknjgfcngacaaSlideLkSpec
namespace Go.Proofs.Ytmjknjgfcngacaa.Slide
open Go.ChangeShapes Go.WideShapes Go.ChangeAt Go.RowKit Go.Sort
open Go.Proofs.Ytmjknjgfcngacaa.Tri
set_option linter.unusedVariables false

set_option maxRecDepth 100000 in
set_option maxHeartbeats 2000000 in
theorem exactLinksOk (N : Int) (a : Option Addr) (c : Nat) (l : List T3) (w : World) (hm : l.length ≤ maxLen) (hr : ARow3 w a l) : Calls Try.prog 6 #[.int .i64 N, .slice a l.length c] w fun e w' => e = .returned (.bool true) ∧ Below w.heap.size w w' := by
  have HM := Lib.hid hm
  have HR := Lib.hid hr
  clear hm hr
  obtain ⟨n, hn⟩ : ∃ n, l.length = n := ⟨_, rfl⟩
  have HN := Lib.hid hn
  rw [hn] at HM ⊢
  clear hn
  have HB := Lib.hid (Below.refl w.heap.size w)
  have HSZ := Lib.hid (fun w' => LkR.sz_boxes 1048576 (by decide) (by decide) a n c HM.out w')
  by_cases hbig : (1048576 : Int) - (n : Int) < 0
  · have hd : decide ((-1 : Int) < 0) = true := rfl
    rw [if_pos hbig] at HSZ
    go_enter Try.func6, Try.ntmps6
    go_wp2_with fail
    refine (HSZ.out _).mono ?_
    rintro e w' ⟨rfl, hb⟩
    have HB := Lib.hid hb
    clear hb
    go_wp2
    go_ret
    exact ⟨rfl, HB.out⟩
  · rw [if_neg hbig] at HSZ
    have hn1 : n ≤ 1048576 := by omega
    have hd : decide ((1048576 : Int) - (n : Int) < 0) = false := decide_eq_false hbig
    have HT := Lib.hid (fun w' h => LkR.to_boxes a c l w' (by have := HN.out; omega) h)
    rw [HN.out] at HT
    have HS := Lib.hid (fun a' c' w' h => links_spec N a' n c' l w' HN.out hn1 h)
    have HI := Lib.hid (fun a' c' w' h => links_impl N a' n c' l w' HN.out hn1 h)
    have HEQ := Lib.hid (fun a1 c1 a2 c2 w' h1 h2 => LkR.eq_boxes n c1 c2 a1 a2 l HN.out HM.out w' h1 h2)
    obtain ⟨b, hb⟩ : ∃ b, linksB N l = b := ⟨_, rfl⟩
    rw [hb] at HS HI
    clear hb hbig
    have hne : (b != b) = false := by simp
    go_enter Try.func6, Try.ntmps6
    go_wp2_with fail
    refine (HSZ.out _).mono ?_
    rintro e w' ⟨rfl, hb⟩
    have HB := Lib.hid (HB.out.trans (hb.mono HB.out.size))
    clear hb
    go_wp2_with fail
    refine (HT.out _ (HR.out.below HB.out)).mono ?_
    rintro e w' ⟨gr, rfl, hb, ho⟩
    have HB := Lib.hid (HB.out.trans (hb.mono HB.out.size))
    clear hb
    have X := Lib.hid ho
    clear ho
    go_wp2_with fail
    refine (HS.out _ _ _ X.out.row2.2).mono ?_
    rintro e w' ⟨rfl, hb⟩
    have HB := Lib.hid (HB.out.trans (hb.mono HB.out.size))
    clear hb
    go_wp2_with fail
    refine (HT.out _ (HR.out.below HB.out)).mono ?_
    rintro e w' ⟨gr, rfl, hb, ho⟩
    have HB := Lib.hid (HB.out.trans (hb.mono HB.out.size))
    clear hb
    have Y := Lib.hid ho
    clear ho
    go_wp2_with fail
    refine (HI.out _ _ _ Y.out.row2.2).mono ?_
    rintro e w' ⟨rfl, hb⟩
    have HB := Lib.hid (HB.out.trans (hb.mono HB.out.size))
    have Y := Lib.hid (Y.out.below hb)
    clear hb
    go_wp2_with fail
    refine (HT.out _ (HR.out.below HB.out)).mono ?_
    rintro e w' ⟨gr, rfl, hb, ho⟩
    have HB := Lib.hid (HB.out.trans (hb.mono HB.out.size))
    have Y := Lib.hid (Y.out.below hb)
    clear hb
    have Z := Lib.hid ho
    clear ho
    go_wp2_with fail
    refine (HEQ.out _ _ _ _ _ Y.out.row2.2 Z.out.row2.2).mono ?_
    rintro e w' ⟨rfl, hb⟩
    have HB := Lib.hid (HB.out.trans (hb.mono HB.out.size))
    clear hb
    go_wp2
    go_ret
    exact ⟨rfl, HB.out⟩
end Go.Proofs.Ytmjknjgfcngacaa.Slide
