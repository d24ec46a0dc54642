/- What impl.IsSymmetric returns (printed by wip/gen_sym.py). -/
import Derived.Test.YtoampghmikamlaaSymDef
import Derived.Test.YtoampghmikamlaaMirImpl
import Derived.Test.YtoampghmikamlaaCardSame2
namespace Go.Proofs.Ytoampghmikamlaa.Turn
open Go.ChangeShapes Go.WideShapes Go.ChangeAt Go.RowKit Go.Sort
open Go.Proofs.Ytoampghmikamlaa.Strip Go.Proofs.Ytoampghmikamlaa.Strs Go.Proofs.Ytoampghmikamlaa.Card Go.Proofs.Ytoampghmikamlaa.Order
set_option linter.unusedVariables false

set_option maxRecDepth 100000 in
set_option maxHeartbeats 8000000 in
theorem sym_impl (d f : Int) (base n c : Nat) (a : Option Addr) (l : List ByteArray) (w : World) (hn : n ≤ 1048576) (hz : ∀ s ∈ l, s.size ≤ 1048576) (ha : Own w base (.slice a n c) l) :
    Calls Try.prog 22 #[.agg #[.int .i64 d, .int .i64 f, .slice a n c]] w fun e w' => e = .returned (.bool (symB d f l)) ∧ Below w.heap.size w w' := by
  have hl : l.length = n := ha.row2.1.symm
  have hv := Var.new w d f (.slice a n c)
  have hbw := alloc_below w (.cells #[.int .i64 d, .int .i64 f, .slice a n c] 26)
  have hoW := ha.below hbw
  obtain ⟨W, hW⟩ : ∃ W, W = w.alloc (.cells #[.int .i64 d, .int .i64 f, .slice a n c] 26) := ⟨_, rfl⟩
  rw [← hW] at hv hbw hoW
  have HW := Lib.hid hW
  have HB := Lib.hid hbw
  clear hW ha
  cases hc : cardB d f l with
  | false =>
    rw [sym_no hc]
    have HC1 := Lib.hid (fun (dd : Nat) (os : Array Obj) => Calls.regrown_of (ok_impl d f a n c l (grow (redrawn W dd) os) hl hn hz (hoW.row2.2.since (Nat.le_refl _) (below_regrown W dd os))))
    rw [hc] at HC1
    have k0 := cell_regrown hv.cells.1
    have k1 := cell_regrown hv.cells.2.1
    have k2 := cell_regrown hv.cells.2.2
    clear hc hoW hz
    go_enter Try.func22, Try.ntmps22
    go_wp2_with fail
    rw [← HW.out]
    clear HW
    refine wp_region_quiet_below (by kernel_rfl) (by kernel_rfl) ?_
    repeat (go_big_quiet_step ((go_at_call 40; exact HC1.out _ _)))
    refine wpQuiet_nil ?_
    intro _ hw'
    obtain ⟨⟨dq, osq⟩, hw''⟩ := hw'
    subst hw''
    have hbr := below_regrown W dq osq
    have HB1 := Lib.hid (HB.out.trans (hbr.mono HB.out.size))
    clear hbr k0 k1 k2
    generalize (grow (redrawn W dq) osq) = w1 at *
    go_wp2
    go_ret
    exact ⟨rfl, HB1.out⟩
  | true =>
    have HR := Lib.hid (sym_yes hc).1
    have HOK := Lib.hid (fun (w' : World) (h : Below W.heap.size W w') => ok_impl d f a n c l w' hl hn hz (hoW.row2.2.since (Nat.le_refl _) h))
    have HMI := Lib.hid (fun (w' : World) (h : Below W.heap.size W w') => mirC_impl d f base n c a l w' hn hz (hoW.below h))
    unfold MirrorPost at HMI
    rw [hc] at HOK HMI
    have HRL := Lib.hid (show l.reverse.length = n from by rw [List.length_reverse]; exact hl)
    have HSM := Lib.hid (fun (w' : World) (h : Below W.heap.size W w') (a1 : Option Addr) (c1 : Nat) (h1 : Row w' a1 l.reverse) => sameCard_impl d f d f a1 a n n c1 c l.reverse l w' HRL.out hl hn hn h1 (hoW.row2.2.since (Nat.le_refl _) h))
    rw [HR.out] at HSM
    generalize symB d f l = x at *
    generalize l.reverse = r at *
    have S0 : W.cell? ⟨w.heap.size, 0, none⟩ = some (.int .i64 d) ∧ W.cell? ⟨w.heap.size, 1, none⟩ = some (.int .i64 f) ∧ W.cell? ⟨w.heap.size, 2, none⟩ = some (.slice a n c) ∧ Below W.heap.size W W := ⟨hv.cells.1, hv.cells.2.1, hv.cells.2.2, Below.refl _ _⟩
    clear hc hoW hz hv hbw HR
    go_enter Try.func22, Try.ntmps22
    go_wp2_with fail
    rw [← HW.out]
    clear HW
    go_region_held3 (fun w' => w'.cell? ⟨w.heap.size, 0, none⟩ = some (.int .i64 d) ∧ w'.cell? ⟨w.heap.size, 1, none⟩ = some (.int .i64 f) ∧ w'.cell? ⟨w.heap.size, 2, none⟩ = some (.slice a n c) ∧ Below W.heap.size W w')
      (first | with_reducible exact S0 | with_reducible exact th_drew S0 | with_reducible exact th_next (by assumption) hb1 | with_reducible exact th_next (by assumption) hb2 | with_reducible exact th_next (by assumption) hb3 | with_reducible exact th_drew (by assumption) | with_reducible assumption)
      ((first | (go_at_call 40; refine (HOK.out _ (th_below (by assumption))).mono ?_; rintro e w1 ⟨rfl, hb1⟩) | (go_at_call 14; refine (HMI.out _ (th_below (by assumption))).mono ?_; rintro e w2 hg2; obtain ⟨a2, c2, rfl, hb2, ho2⟩ := gave_in HRL.out hg2; clear hg2; have O2 := Lib.hid ho2; clear ho2) | (go_at_call 21; refine (HSM.out _ (th_below (by assumption)) a2 c2 O2.out.row2.2).mono ?_; rintro e w3 ⟨rfl, hb3⟩)))
    have hbz : Below W.heap.size W w3 := th_below (w' := w3) (by assumption)
    have HBZ := Lib.hid (HB.out.trans (hbz.mono HB.out.size))
    clear S0 hb1 hb2 hb3 hbz
    go_wp2
    go_ret
    exact ⟨rfl, HBZ.out⟩
end Go.Proofs.Ytoampghmikamlaa.Turn
