/- What the model of chapter 8 returns: l08Same, l08Card, UpperCard, LowerCard (printed by wip/gen_ordercard.py). -/
import Derived.Test.YtoampghmikamlaaOrderSpec
import Derived.Test.YtoampghmikamlaaCardEnd
import Derived.Test.YtoampghmikamlaaCardSame
import Derived.Test.YtoampghmikamlaaAppAny
namespace Go.Proofs.Ytoampghmikamlaa.Order
open Go.ChangeShapes Go.WideShapes Go.ChangeAt Go.RowKit
open Go.Proofs.Ytoampghmikamlaa.Strip Go.Proofs.Ytoampghmikamlaa.Strs Go.Proofs.Ytoampghmikamlaa.Card
set_option linter.unusedVariables false

/-- May both cards be combined? -/
def bothB (d f : Int) (l : List ByteArray) (d2 f2 : Int) (m : List ByteArray) : Bool := cardB d f l && cardB d2 f2 m && decide (d = d2 ∧ f = f2 ∧ l.length = m.length)
def mixM (up : Bool) (l m : List ByteArray) : List ByteArray := List.zipWith (mixS up) l m
def bothD (d f : Int) (l : List ByteArray) (d2 f2 : Int) (m : List ByteArray) : Int := if bothB d f l d2 f2 m = true then d else 0
def bothF (d f : Int) (l : List ByteArray) (d2 f2 : Int) (m : List ByteArray) : Int := if bothB d f l d2 f2 m = true then f else 0
def bothL (up : Bool) (d f : Int) (l : List ByteArray) (d2 f2 : Int) (m : List ByteArray) : List ByteArray := if bothB d f l d2 f2 m = true then mixM up l m else []
/-- The post, behind a name. -/
def BothPost (up : Bool) (w : World) (d f : Int) (l : List ByteArray) (d2 f2 : Int) (m : List ByteArray) (e : Ending) (w' : World) : Prop := Gave2 w (bothD d f l d2 f2 m) (bothF d f l d2 f2 m) (bothL up d f l d2 f2 m) (bothB d f l d2 f2 m) e w'
theorem both_no {up : Bool} {w w' : World} {d f d2 f2 : Int} {l m : List ByteArray} (h : bothB d f l d2 f2 m = false) (hb : Below w.heap.size w w') : BothPost up w d f l d2 f2 m (.returned (.tuple #[.agg #[.int .i64 0, .int .i64 0, .slice none 0 0], .bool false])) w' := by
  unfold BothPost bothD bothF bothL
  rw [if_neg (by rw [h]; simp), if_neg (by rw [h]; simp), if_neg (by rw [h]; simp), h]
  exact ⟨none, 0, rfl, hb, Own.nil _ _⟩
theorem both_yes {up : Bool} {w w' : World} {d f d2 f2 : Int} {a : Option Addr} {c n : Nat} {l m l2 : List ByteArray} (h : bothB d f l d2 f2 m = true) (hl : l2 = mixM up l m) (hn : l2.length = n) (hb : Below w.heap.size w w') (ho : Own w' w.heap.size (.slice a n c) l2) :
    BothPost up w d f l d2 f2 m (.returned (.tuple #[.agg #[.int .i64 d, .int .i64 f, .slice a n c], .bool true])) w' := by
  unfold BothPost bothD bothF bothL
  rw [if_pos h, if_pos h, if_pos h, h]
  subst hl hn
  exact ⟨a, c, rfl, hb, ho⟩
theorem both_iff {d f d2 f2 : Int} {l m : List ByteArray} : bothB d f l d2 f2 m = true ↔ cardB d f l = true ∧ cardB d2 f2 m = true ∧ d = d2 ∧ f = f2 ∧ l.length = m.length := by
  unfold bothB
  simp only [Bool.and_eq_true, decide_eq_true_eq, and_assoc]
theorem bothL_size (up : Bool) (d f : Int) (l : List ByteArray) (d2 f2 : Int) (m : List ByteArray) : (bothL up d f l d2 f2 m).length ≤ l.length := by
  unfold bothL mixM
  split
  · rw [List.length_zipWith]; omega
  · simp

theorem mixM_length (up : Bool) {l m : List ByteArray} (h : l.length = m.length) : (mixM up l m).length = l.length := by unfold mixM; rw [List.length_zipWith]; omega
theorem mixM_succ (up : Bool) (l m : List ByteArray) (k : Nat) (h : k < l.length) (h' : k < m.length) : (mixM up l m).take (k + 1) = (mixM up l m).take k ++ [mixS up l[k] m[k]] := by
  have hk : k < (mixM up l m).length := by unfold mixM; rw [List.length_zipWith]; omega
  rw [List.take_succ_eq_append_getElem hk]
  simp [mixM]

/-- The three blocks with which a function of two cards and one as its result begins. -/
theorem beginThree (w : World) (d f d2 f2 : Int) (v v2 : Value) : ∃ W, W = ((w.alloc (.cells #[.int .i64 d, .int .i64 f, v] 26)).alloc (.cells #[.int .i64 d2, .int .i64 f2, v2] 26)).alloc (.cells #[.int .i64 0, .int .i64 0, .slice none 0 0] 26) ∧ Var W w.heap.size d f v ∧ Var W (w.heap.size + 1) d2 f2 v2 ∧ Var W (w.heap.size + 2) 0 0 (.slice none 0 0) ∧ Below w.heap.size w W ∧ W.heap.size = w.heap.size + 3 := by
  obtain ⟨W, rfl, h1, h2, hb, hs⟩ := beginTwo w d f d2 f2 v v2
  have hb2 := alloc_below ((w.alloc (.cells #[.int .i64 d, .int .i64 f, v] 26)).alloc (.cells #[.int .i64 d2, .int .i64 f2, v2] 26)) (.cells #[.int .i64 0, .int .i64 0, .slice none 0 0] 26)
  refine ⟨_, rfl, h1.below hb2, h2.below hb2, ?_, hb.trans (hb2.mono hb.size), by simp⟩
  have h := Var.new ((w.alloc (.cells #[.int .i64 d, .int .i64 f, v] 26)).alloc (.cells #[.int .i64 d2, .int .i64 f2, v2] 26)) 0 0 (.slice none 0 0)
  rw [hs] at h
  exact h

set_option maxRecDepth 100000 in
set_option maxHeartbeats 2000000 in
theorem same8_spec (d f d2 f2 : Int) (a b : Option Addr) (n n2 ca cb : Nat) (l m : List ByteArray) (w : World) (hl : l.length = n) (hm : m.length = n2) (hn : n ≤ 1048576) (hn2 : n2 ≤ 1048576) (hz : ∀ s ∈ l, s.size ≤ 1048576) (hz2 : ∀ s ∈ m, s.size ≤ 1048576) (ha : Row w a l) (hb : Row w b m) :
    Calls Try.prog 85 #[.agg #[.int .i64 d, .int .i64 f, .slice a n ca], .agg #[.int .i64 d2, .int .i64 f2, .slice b n2 cb]] w fun e w' => e = .returned (.bool (bothB d f l d2 f2 m)) ∧ Below w.heap.size w w' := by
  obtain ⟨W, hW, hv1, hv2, hbw, hs⟩ := beginTwo w d f d2 f2 (.slice a n ca) (.slice b n2 cb)
  have HV1 := Lib.hid hv1
  have HV2 := Lib.hid hv2
  have HB := Lib.hid hbw
  have HW := Lib.hid hW
  have HO1 := Lib.hid (fun (w' : World) (h : Below w.heap.size w w') => ok_spec d f a n ca l w' hl hn hz (ha.since (Nat.le_refl _) h))
  have HO2 := Lib.hid (fun (w' : World) (h : Below w.heap.size w w') => ok_spec d2 f2 b n2 cb m w' hm hn2 hz2 (hb.since (Nat.le_refl _) h))
  obtain ⟨r, hr⟩ : ∃ r, bothB d f l d2 f2 m = r := ⟨_, rfl⟩
  have HR := Lib.hid (show (cardB d f l && cardB d2 f2 m && decide (d = d2 ∧ f = f2 ∧ n = n2)) = r from by rw [← hr, ← hl, ← hm]; rfl)
  rw [hr]
  clear hv1 hv2 hbw hs hW hl hm hz hz2 ha hb hr
  generalize cardB d f l = x at *
  generalize cardB d2 f2 m = y at *
  cases x with
  | false =>
    obtain rfl : r = false := by rw [← HR.out]; rfl
    go_enter Try.func85, Try.ntmps85
    go_wp2_with fail
    rw [← HW.out]
    clear HW
    obtain ⟨k0, k1, k2⟩ := HV1.out.cells
    go_wp2_with fail
    refine (HO1.out _ HB.out).mono ?_
    rintro e w1 ⟨rfl, hb1⟩
    have HV1 := Lib.hid (HV1.out.below hb1)
    have HV2 := Lib.hid (HV2.out.below hb1)
    have HB1 := Lib.hid (HB.out.trans (hb1.mono HB.out.size))
    clear hb1 k0 k1 k2 HB HO1
    go_wp2
    go_ret
    exact ⟨rfl, HB1.out⟩
  | true =>
    cases y with
    | false =>
      obtain rfl : r = false := by rw [← HR.out]; rfl
      go_enter Try.func85, Try.ntmps85
      go_wp2_with fail
      rw [← HW.out]
      clear HW
      obtain ⟨k0, k1, k2⟩ := HV1.out.cells
      go_wp2_with fail
      refine (HO1.out _ HB.out).mono ?_
      rintro e w1 ⟨rfl, hb1⟩
      have HV1 := Lib.hid (HV1.out.below hb1)
      have HV2 := Lib.hid (HV2.out.below hb1)
      have HB1 := Lib.hid (HB.out.trans (hb1.mono HB.out.size))
      clear hb1 k0 k1 k2 HB HO1
      obtain ⟨m0, m1, m2⟩ := HV2.out.cells
      go_wp2_with fail
      refine (HO2.out _ HB1.out).mono ?_
      rintro e w2 ⟨rfl, hb2⟩
      have HV1 := Lib.hid (HV1.out.below hb2)
      have HV2 := Lib.hid (HV2.out.below hb2)
      have HB2 := Lib.hid (HB1.out.trans (hb2.mono HB1.out.size))
      clear hb2 m0 m1 m2 HB1 HO2
      obtain ⟨k0, k1, k2⟩ := HV1.out.cells
      obtain ⟨m0, m1, m2⟩ := HV2.out.cells
      go_wp2
      go_ret
      exact ⟨rfl, HB2.out⟩
    | true =>
      by_cases hd : d = d2
      · have bhd : (d == d2) = true := by simpa using hd
        by_cases hf : f = f2
        · have bhf : (f == f2) = true := by simpa using hf
          by_cases hnn : n = n2
          · have bhnn : ((n : Int) == (n2 : Int)) = true := by simp; omega
            have hre : r = true := by rw [← HR.out, decide_eq_true ⟨hd, hf, hnn⟩]; rfl
            clear hd hf hnn HR
            subst hre
            go_enter Try.func85, Try.ntmps85
            go_wp2_with fail
            rw [← HW.out]
            clear HW
            obtain ⟨k0, k1, k2⟩ := HV1.out.cells
            go_wp2_with fail
            refine (HO1.out _ HB.out).mono ?_
            rintro e w1 ⟨rfl, hb1⟩
            have HV1 := Lib.hid (HV1.out.below hb1)
            have HV2 := Lib.hid (HV2.out.below hb1)
            have HB1 := Lib.hid (HB.out.trans (hb1.mono HB.out.size))
            clear hb1 k0 k1 k2 HB HO1
            obtain ⟨m0, m1, m2⟩ := HV2.out.cells
            go_wp2_with fail
            refine (HO2.out _ HB1.out).mono ?_
            rintro e w2 ⟨rfl, hb2⟩
            have HV1 := Lib.hid (HV1.out.below hb2)
            have HV2 := Lib.hid (HV2.out.below hb2)
            have HB2 := Lib.hid (HB1.out.trans (hb2.mono HB1.out.size))
            clear hb2 m0 m1 m2 HB1 HO2
            obtain ⟨k0, k1, k2⟩ := HV1.out.cells
            obtain ⟨m0, m1, m2⟩ := HV2.out.cells
            go_wp2
            go_ret
            exact ⟨rfl, HB2.out⟩
          · have bhnn : ((n : Int) == (n2 : Int)) = false := by simp; omega
            have hre : r = false := by rw [← HR.out, decide_eq_false (fun h => hnn h.2.2)]; rfl
            clear hd hf hnn HR
            subst hre
            go_enter Try.func85, Try.ntmps85
            go_wp2_with fail
            rw [← HW.out]
            clear HW
            obtain ⟨k0, k1, k2⟩ := HV1.out.cells
            go_wp2_with fail
            refine (HO1.out _ HB.out).mono ?_
            rintro e w1 ⟨rfl, hb1⟩
            have HV1 := Lib.hid (HV1.out.below hb1)
            have HV2 := Lib.hid (HV2.out.below hb1)
            have HB1 := Lib.hid (HB.out.trans (hb1.mono HB.out.size))
            clear hb1 k0 k1 k2 HB HO1
            obtain ⟨m0, m1, m2⟩ := HV2.out.cells
            go_wp2_with fail
            refine (HO2.out _ HB1.out).mono ?_
            rintro e w2 ⟨rfl, hb2⟩
            have HV1 := Lib.hid (HV1.out.below hb2)
            have HV2 := Lib.hid (HV2.out.below hb2)
            have HB2 := Lib.hid (HB1.out.trans (hb2.mono HB1.out.size))
            clear hb2 m0 m1 m2 HB1 HO2
            obtain ⟨k0, k1, k2⟩ := HV1.out.cells
            obtain ⟨m0, m1, m2⟩ := HV2.out.cells
            go_wp2
            go_ret
            exact ⟨rfl, HB2.out⟩
        · have bhf : (f == f2) = false := by simpa using hf
          have hre : r = false := by rw [← HR.out, decide_eq_false (fun h => hf h.2.1)]; rfl
          clear hd hf HR
          subst hre
          go_enter Try.func85, Try.ntmps85
          go_wp2_with fail
          rw [← HW.out]
          clear HW
          obtain ⟨k0, k1, k2⟩ := HV1.out.cells
          go_wp2_with fail
          refine (HO1.out _ HB.out).mono ?_
          rintro e w1 ⟨rfl, hb1⟩
          have HV1 := Lib.hid (HV1.out.below hb1)
          have HV2 := Lib.hid (HV2.out.below hb1)
          have HB1 := Lib.hid (HB.out.trans (hb1.mono HB.out.size))
          clear hb1 k0 k1 k2 HB HO1
          obtain ⟨m0, m1, m2⟩ := HV2.out.cells
          go_wp2_with fail
          refine (HO2.out _ HB1.out).mono ?_
          rintro e w2 ⟨rfl, hb2⟩
          have HV1 := Lib.hid (HV1.out.below hb2)
          have HV2 := Lib.hid (HV2.out.below hb2)
          have HB2 := Lib.hid (HB1.out.trans (hb2.mono HB1.out.size))
          clear hb2 m0 m1 m2 HB1 HO2
          obtain ⟨k0, k1, k2⟩ := HV1.out.cells
          obtain ⟨m0, m1, m2⟩ := HV2.out.cells
          go_wp2
          go_ret
          exact ⟨rfl, HB2.out⟩
      · have bhd : (d == d2) = false := by simpa using hd
        have hre : r = false := by rw [← HR.out, decide_eq_false (fun h => hd h.1)]; rfl
        clear hd HR
        subst hre
        go_enter Try.func85, Try.ntmps85
        go_wp2_with fail
        rw [← HW.out]
        clear HW
        obtain ⟨k0, k1, k2⟩ := HV1.out.cells
        go_wp2_with fail
        refine (HO1.out _ HB.out).mono ?_
        rintro e w1 ⟨rfl, hb1⟩
        have HV1 := Lib.hid (HV1.out.below hb1)
        have HV2 := Lib.hid (HV2.out.below hb1)
        have HB1 := Lib.hid (HB.out.trans (hb1.mono HB.out.size))
        clear hb1 k0 k1 k2 HB HO1
        obtain ⟨m0, m1, m2⟩ := HV2.out.cells
        go_wp2_with fail
        refine (HO2.out _ HB1.out).mono ?_
        rintro e w2 ⟨rfl, hb2⟩
        have HV1 := Lib.hid (HV1.out.below hb2)
        have HV2 := Lib.hid (HV2.out.below hb2)
        have HB2 := Lib.hid (HB1.out.trans (hb2.mono HB1.out.size))
        clear hb2 m0 m1 m2 HB1 HO2
        obtain ⟨k0, k1, k2⟩ := HV1.out.cells
        obtain ⟨m0, m1, m2⟩ := HV2.out.cells
        go_wp2
        go_ret
        exact ⟨rfl, HB2.out⟩
end Go.Proofs.Ytoampghmikamlaa.Order
