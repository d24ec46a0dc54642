/- What the program of chapter 8 returns: combineCards where there is nothing to combine (printed by wip/gen_orderci.py). -/
import Derived.Test.YtoampghmikamlaaOrderImpl
import Derived.Test.YtoampghmikamlaaCardImpl2
import Derived.Test.YtoampghmikamlaaCardCopy3
import Derived.Lib.QuietBelow
import Derived.Deep.QuietTactic
import Derived.BigQuiet
import Derived.Test.YtoampghmikamlaaOrderCard
namespace Go.Proofs.Ytoampghmikamlaa.Order
open Go.ChangeShapes Go.WideShapes Go.ChangeAt Go.RowKit Go.Sort
open Go.Proofs.Ytoampghmikamlaa.Strip Go.Proofs.Ytoampghmikamlaa.Strs Go.Proofs.Ytoampghmikamlaa.Card
set_option linter.unusedVariables false

theorem embed_field (x y : Int) (v : Value) : ∀ w : World, (Instr.field 56 (.agg #[.int .i64 x, .int .i64 y, v]) 0).run Try.prog w = .ok (.agg #[.int .i64 x, .int .i64 y]) w := fun _ => by kernel_rfl
/-- The first k strips combined, the others as they were. -/
def mixD (up : Bool) (l m : List ByteArray) (k : Nat) : List ByteArray := (mixM up l m).take k ++ l.drop k
theorem mixD_zero (up : Bool) (l m : List ByteArray) : mixD up l m 0 = l := by simp [mixD]
theorem mixD_all (up : Bool) (l m : List ByteArray) (k : Nat) (h : l.length ≤ k) (h' : (mixM up l m).length ≤ k) : mixD up l m k = mixM up l m := by
  unfold mixD
  rw [List.take_of_length_le h', List.drop_eq_nil_of_le h, List.append_nil]
theorem mixD_length (up : Bool) (l m : List ByteArray) (k : Nat) (h : k ≤ l.length) (h' : l.length = m.length) : (mixD up l m k).length = l.length := by
  unfold mixD
  rw [List.length_append, List.length_take, List.length_drop, mixM_length up h']
  omega
theorem mixD_set (up : Bool) (l m : List ByteArray) (k : Nat) (h : k < l.length) (h' : k < m.length) : (mixD up l m k).set k (mixS up l[k] m[k]) = mixD up l m (k + 1) := by
  have hk : k < (mixM up l m).length := by unfold mixM; rw [List.length_zipWith]; omega
  have hlen : ((mixM up l m).take k).length = k := by rw [List.length_take]; omega
  unfold mixD
  rw [mixM_succ up l m k h h', List.set_append_right _ _ (by omega), hlen, Nat.sub_self, List.drop_eq_getElem_cons h]
  rw [List.set_cons_zero, List.append_assoc]
  rfl

set_option maxRecDepth 100000 in
set_option maxHeartbeats 4000000 in
theorem combineC_no (up : Bool) (fn : Value) (d f d2 f2 : Int) (base base2 n n2 ca cb : Nat) (a b : Option Addr) (l m : List ByteArray) (w : World) (hn : n ≤ 1048576) (hn2 : n2 ≤ 1048576) (hz : ∀ s ∈ l, s.size ≤ 1048576) (hz2 : ∀ s ∈ m, s.size ≤ 1048576) (ha : Own w base (.slice a n ca) l) (hb : Own w base2 (.slice b n2 cb) m) (hbo : bothB d f l d2 f2 m = false) :
    Calls Try.prog 66 #[.agg #[.int .i64 d, .int .i64 f, .slice a n ca], .agg #[.int .i64 d2, .int .i64 f2, .slice b n2 cb], fn] w (BothPost up w d f l d2 f2 m) := by
  have hl : l.length = n := ha.row2.1.symm
  have hm : m.length = n2 := hb.row2.1.symm
  obtain ⟨W, hW, hv1, hv2, hv3, hbw, hs⟩ := beginThree w d f d2 f2 (.slice a n ca) (.slice b n2 cb)
  have HC1 := Lib.hid (fun (dd : Nat) (os : Array Obj) => Calls.regrown_of (ok_impl d f a n ca l (grow (redrawn W dd) os) hl hn hz ((ha.row2.2.since (Nat.le_refl _) hbw).since (Nat.le_refl _) (below_regrown W dd os))))
  have HC2 := Lib.hid (fun (dd : Nat) (os : Array Obj) => Calls.regrown_of (ok_impl d2 f2 b n2 cb m (grow (redrawn W dd) os) hm hn2 hz2 ((hb.row2.2.since (Nat.le_refl _) hbw).since (Nat.le_refl _) (below_regrown W dd os))))
  have HE := Lib.hid (fun (x y : Int) (p : Option Addr) (q r : Nat) (dd : Nat) (os : Array Obj) => Calls.regrown_of (embed_impl x y p q r (grow (redrawn W dd) os)))
  have hfa := embed_field d f (.slice a n ca)
  have hfb := embed_field d2 f2 (.slice b n2 cb)
  have k0 := cell_regrown hv1.cells.1
  have k1 := cell_regrown hv1.cells.2.1
  have k2 := cell_regrown hv1.cells.2.2
  have m0 := cell_regrown hv2.cells.1
  have m1 := cell_regrown hv2.cells.2.1
  have m2 := cell_regrown hv2.cells.2.2
  have HBO := Lib.hid hbo
  have HV3 := Lib.hid hv3
  have HW := Lib.hid hW
  have HBB := Lib.hid (show (cardB d f l && cardB d2 f2 m && decide (d = d2 ∧ f = f2 ∧ n = n2)) = false from by rw [← hbo, ← hl, ← hm]; rfl)
  clear hW ha hb hz hz2 hl hm hbo HV3
  generalize cardB d f l = x at *
  generalize cardB d2 f2 m = y at *
  cases x with
  | false =>
    go_enter Try.func66, Try.ntmps66
    go_wp2_with fail
    rw [← HW.out]
    clear HW
    go_wp2_with fail
    refine wp_region_quiet_below (by kernel_rfl) (by kernel_rfl) ?_
    repeat (go_big_quiet_step ((first | (go_at_call_of 40 (Value.agg #[.int .i64 d, .int .i64 f, .slice a n ca]); exact HC1.out _ _) | (go_at_call_of 40 (Value.agg #[.int .i64 d2, .int .i64 f2, .slice b n2 cb]); exact HC2.out _ _) | (go_at_call 49; exact HE.out _ _ _ _ _ _ _))))
    refine wpQuiet_nil ?_
    intro _ hw'
    obtain ⟨⟨dq, osq⟩, hw''⟩ := hw'
    subst hw''
    have hbr := below_regrown W dq osq
    have HV3 := Lib.hid (hv3.below hbr)
    have HB1 := Lib.hid (hbw.trans (hbr.mono hbw.size))
    clear hbr k0 k1 k2 m0 m1 m2
    generalize (grow (redrawn W dq) osq) = w1 at *
    have hx : ∃ Z, Z = Card.set3 w1 (w.heap.size + 2) 0 0 (.slice none 0 0) ∧ Var Z (w.heap.size + 2) 0 0 (.slice none 0 0) ∧ Below w.heap.size w Z := ⟨_, rfl, HV3.out.set3 _ _ _, below_set3 HB1.out (by omega)⟩
    obtain ⟨Z, hZ, hz1, hz2⟩ := hx
    unfold set3 at hZ
    obtain ⟨p0, p1, p2⟩ := HV3.out.cells
    have f0 := HV3.out.free 0
    have f1 := HV3.out.free 1
    have f2 := HV3.out.free 2
    have HZZ := Lib.hid hZ
    have HZ1 := Lib.hid hz1
    have HZ2 := Lib.hid hz2
    clear hZ hz1 hz2
    go_wp2_with fail
    rw [← HZZ.out]
    clear HZZ p0 p1 p2 f0 f1 f2
    obtain ⟨z0, z1, z2⟩ := HZ1.out.cells
    refine bodyPost_ret (v := .tuple #[.agg #[.int .i64 0, .int .i64 0, .slice none 0 0], .bool false]) (by simp [results, Try.results66, go_sem, z0, z1, z2]) rfl ?_
    exact both_no HBO.out HZ2.out
  | true =>
    cases y with
    | false =>
      go_enter Try.func66, Try.ntmps66
      go_wp2_with fail
      rw [← HW.out]
      clear HW
      go_wp2_with fail
      refine wp_region_quiet_below (by kernel_rfl) (by kernel_rfl) ?_
      repeat (go_big_quiet_step ((first | (go_at_call_of 40 (Value.agg #[.int .i64 d, .int .i64 f, .slice a n ca]); exact HC1.out _ _) | (go_at_call_of 40 (Value.agg #[.int .i64 d2, .int .i64 f2, .slice b n2 cb]); exact HC2.out _ _) | (go_at_call 49; exact HE.out _ _ _ _ _ _ _))))
      refine wpQuiet_nil ?_
      intro _ hw'
      obtain ⟨⟨dq, osq⟩, hw''⟩ := hw'
      subst hw''
      have hbr := below_regrown W dq osq
      have HV3 := Lib.hid (hv3.below hbr)
      have HB1 := Lib.hid (hbw.trans (hbr.mono hbw.size))
      clear hbr k0 k1 k2 m0 m1 m2
      generalize (grow (redrawn W dq) osq) = w1 at *
      have hx : ∃ Z, Z = Card.set3 w1 (w.heap.size + 2) 0 0 (.slice none 0 0) ∧ Var Z (w.heap.size + 2) 0 0 (.slice none 0 0) ∧ Below w.heap.size w Z := ⟨_, rfl, HV3.out.set3 _ _ _, below_set3 HB1.out (by omega)⟩
      obtain ⟨Z, hZ, hz1, hz2⟩ := hx
      unfold set3 at hZ
      obtain ⟨p0, p1, p2⟩ := HV3.out.cells
      have f0 := HV3.out.free 0
      have f1 := HV3.out.free 1
      have f2 := HV3.out.free 2
      have HZZ := Lib.hid hZ
      have HZ1 := Lib.hid hz1
      have HZ2 := Lib.hid hz2
      clear hZ hz1 hz2
      go_wp2_with fail
      rw [← HZZ.out]
      clear HZZ p0 p1 p2 f0 f1 f2
      obtain ⟨z0, z1, z2⟩ := HZ1.out.cells
      refine bodyPost_ret (v := .tuple #[.agg #[.int .i64 0, .int .i64 0, .slice none 0 0], .bool false]) (by simp [results, Try.results66, go_sem, z0, z1, z2]) rfl ?_
      exact both_no HBO.out HZ2.out
    | true =>
      by_cases hd : d = d2
      · subst hd
        by_cases hf : f = f2
        · subst hf
          have hne : ¬ n = n2 := by
            intro e
            have h := HBB.out
            rw [decide_eq_true ⟨rfl, rfl, e⟩] at h
            cases h
          have hnx : ((n : Int) != (n2 : Int)) = true := by simp; omega
          go_enter Try.func66, Try.ntmps66
          go_wp2_with fail
          rw [← HW.out]
          clear HW
          go_wp2_with fail
          refine wp_region_quiet_below (by kernel_rfl) (by kernel_rfl) ?_
          repeat (go_big_quiet_step ((first | (go_at_call_of 40 (Value.agg #[.int .i64 d, .int .i64 f, .slice a n ca]); exact HC1.out _ _) | (go_at_call_of 40 (Value.agg #[.int .i64 d, .int .i64 f, .slice b n2 cb]); exact HC2.out _ _) | (go_at_call 49; exact HE.out _ _ _ _ _ _ _))))
          refine wpQuiet_nil ?_
          intro _ hw'
          obtain ⟨⟨dq, osq⟩, hw''⟩ := hw'
          subst hw''
          have hbr := below_regrown W dq osq
          have HV3 := Lib.hid (hv3.below hbr)
          have HB1 := Lib.hid (hbw.trans (hbr.mono hbw.size))
          clear hbr k0 k1 k2 m0 m1 m2
          generalize (grow (redrawn W dq) osq) = w1 at *
          have hx : ∃ Z, Z = Card.set3 w1 (w.heap.size + 2) 0 0 (.slice none 0 0) ∧ Var Z (w.heap.size + 2) 0 0 (.slice none 0 0) ∧ Below w.heap.size w Z := ⟨_, rfl, HV3.out.set3 _ _ _, below_set3 HB1.out (by omega)⟩
          obtain ⟨Z, hZ, hz1, hz2⟩ := hx
          unfold set3 at hZ
          obtain ⟨p0, p1, p2⟩ := HV3.out.cells
          have f0 := HV3.out.free 0
          have f1 := HV3.out.free 1
          have f2 := HV3.out.free 2
          have HZZ := Lib.hid hZ
          have HZ1 := Lib.hid hz1
          have HZ2 := Lib.hid hz2
          clear hZ hz1 hz2
          go_wp2_with fail
          rw [← HZZ.out]
          clear HZZ p0 p1 p2 f0 f1 f2
          obtain ⟨z0, z1, z2⟩ := HZ1.out.cells
          refine bodyPost_ret (v := .tuple #[.agg #[.int .i64 0, .int .i64 0, .slice none 0 0], .bool false]) (by simp [results, Try.results66, go_sem, z0, z1, z2]) rfl ?_
          exact both_no HBO.out HZ2.out
        · have hfx : ¬ f = f2 := hf
          go_enter Try.func66, Try.ntmps66
          go_wp2_with fail
          rw [← HW.out]
          clear HW
          go_wp2_with fail
          refine wp_region_quiet_below (by kernel_rfl) (by kernel_rfl) ?_
          repeat (go_big_quiet_step ((first | (go_at_call_of 40 (Value.agg #[.int .i64 d, .int .i64 f, .slice a n ca]); exact HC1.out _ _) | (go_at_call_of 40 (Value.agg #[.int .i64 d, .int .i64 f2, .slice b n2 cb]); exact HC2.out _ _) | (go_at_call 49; exact HE.out _ _ _ _ _ _ _))))
          refine wpQuiet_nil ?_
          intro _ hw'
          obtain ⟨⟨dq, osq⟩, hw''⟩ := hw'
          subst hw''
          have hbr := below_regrown W dq osq
          have HV3 := Lib.hid (hv3.below hbr)
          have HB1 := Lib.hid (hbw.trans (hbr.mono hbw.size))
          clear hbr k0 k1 k2 m0 m1 m2
          generalize (grow (redrawn W dq) osq) = w1 at *
          have hx : ∃ Z, Z = Card.set3 w1 (w.heap.size + 2) 0 0 (.slice none 0 0) ∧ Var Z (w.heap.size + 2) 0 0 (.slice none 0 0) ∧ Below w.heap.size w Z := ⟨_, rfl, HV3.out.set3 _ _ _, below_set3 HB1.out (by omega)⟩
          obtain ⟨Z, hZ, hz1, hz2⟩ := hx
          unfold set3 at hZ
          obtain ⟨p0, p1, p2⟩ := HV3.out.cells
          have f0 := HV3.out.free 0
          have f1 := HV3.out.free 1
          have f2 := HV3.out.free 2
          have HZZ := Lib.hid hZ
          have HZ1 := Lib.hid hz1
          have HZ2 := Lib.hid hz2
          clear hZ hz1 hz2
          go_wp2_with fail
          rw [← HZZ.out]
          clear HZZ p0 p1 p2 f0 f1 f2
          obtain ⟨z0, z1, z2⟩ := HZ1.out.cells
          refine bodyPost_ret (v := .tuple #[.agg #[.int .i64 0, .int .i64 0, .slice none 0 0], .bool false]) (by simp [results, Try.results66, go_sem, z0, z1, z2]) rfl ?_
          exact both_no HBO.out HZ2.out
      · have hdx : ¬ d = d2 := hd
        go_enter Try.func66, Try.ntmps66
        go_wp2_with fail
        rw [← HW.out]
        clear HW
        go_wp2_with fail
        refine wp_region_quiet_below (by kernel_rfl) (by kernel_rfl) ?_
        repeat (go_big_quiet_step ((first | (go_at_call_of 40 (Value.agg #[.int .i64 d, .int .i64 f, .slice a n ca]); exact HC1.out _ _) | (go_at_call_of 40 (Value.agg #[.int .i64 d2, .int .i64 f2, .slice b n2 cb]); exact HC2.out _ _) | (go_at_call 49; exact HE.out _ _ _ _ _ _ _))))
        refine wpQuiet_nil ?_
        intro _ hw'
        obtain ⟨⟨dq, osq⟩, hw''⟩ := hw'
        subst hw''
        have hbr := below_regrown W dq osq
        have HV3 := Lib.hid (hv3.below hbr)
        have HB1 := Lib.hid (hbw.trans (hbr.mono hbw.size))
        clear hbr k0 k1 k2 m0 m1 m2
        generalize (grow (redrawn W dq) osq) = w1 at *
        have hx : ∃ Z, Z = Card.set3 w1 (w.heap.size + 2) 0 0 (.slice none 0 0) ∧ Var Z (w.heap.size + 2) 0 0 (.slice none 0 0) ∧ Below w.heap.size w Z := ⟨_, rfl, HV3.out.set3 _ _ _, below_set3 HB1.out (by omega)⟩
        obtain ⟨Z, hZ, hz1, hz2⟩ := hx
        unfold set3 at hZ
        obtain ⟨p0, p1, p2⟩ := HV3.out.cells
        have f0 := HV3.out.free 0
        have f1 := HV3.out.free 1
        have f2 := HV3.out.free 2
        have HZZ := Lib.hid hZ
        have HZ1 := Lib.hid hz1
        have HZ2 := Lib.hid hz2
        clear hZ hz1 hz2
        go_wp2_with fail
        rw [← HZZ.out]
        clear HZZ p0 p1 p2 f0 f1 f2
        obtain ⟨z0, z1, z2⟩ := HZ1.out.cells
        refine bodyPost_ret (v := .tuple #[.agg #[.int .i64 0, .int .i64 0, .slice none 0 0], .bool false]) (by simp [results, Try.results66, go_sem, z0, z1, z2]) rfl ?_
        exact both_no HBO.out HZ2.out
end Go.Proofs.Ytoampghmikamlaa.Order
