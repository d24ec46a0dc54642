/- What the model's SameCard returns. -/
import Derived.Test.YtoampghmikamlaaCardOk
namespace Go.Proofs.Ytoampghmikamlaa.Card
open Go.ChangeShapes Go.WideShapes Go.ChangeAt Go.RowKit
open Go.Proofs.Ytoampghmikamlaa.Strip Go.Proofs.Ytoampghmikamlaa.Strs
set_option linter.unusedVariables false

/-- Two cards are equal. -/
def sameC (d f : Int) (l : List ByteArray) (d2 f2 : Int) (l2 : List ByteArray) : Bool := decide (d = d2 ∧ f = f2 ∧ l = l2)

theorem same_no {d f d2 f2 : Int} {l l2 : List ByteArray} (h : ¬ (d = d2 ∧ f = f2 ∧ l = l2)) : sameC d f l d2 f2 l2 = false := decide_eq_false h
theorem same_self (d f : Int) (l : List ByteArray) : sameC d f l d f l = true := decide_eq_true ⟨rfl, rfl, rfl⟩

/-- The two blocks with which a function of two cards begins. -/
theorem beginTwo (w : World) (d f d2 f2 : Int) (v v2 : Value) : ∃ W, W = (w.alloc (.cells #[.int .i64 d, .int .i64 f, v] 26)).alloc (.cells #[.int .i64 d2, .int .i64 f2, v2] 26) ∧ Var W w.heap.size d f v ∧ Var W (w.heap.size + 1) d2 f2 v2 ∧ Below w.heap.size w W ∧ W.heap.size = w.heap.size + 1 + 1 := by
  refine ⟨_, rfl, (Var.new w d f v).below (alloc_below _ _), ?_, ((Below.refl _ _).alloc (Nat.le_refl _) _).alloc (by simp) _, by simp⟩
  have h := Var.new (w.alloc (.cells #[.int .i64 d, .int .i64 f, v] 26)) d2 f2 v2
  rwa [show (w.alloc (.cells #[.int .i64 d, .int .i64 f, v] 26)).heap.size = w.heap.size + 1 by simp] at h

theorem str_ne {x y : ByteArray} (h : ¬ x = y) : (x.toList == y.toList) = false := by
  rw [beq_eq_false_iff_ne, Go.ByteArray.toList_eq, Go.ByteArray.toList_eq]
  intro e
  apply h
  apply ByteArray.ext
  exact Array.toList_inj.1 e
theorem take_eq_succ {l m : List ByteArray} {k : Nat} (hl : k < l.length) (hm : k < m.length) (h : l.take k = m.take k) (he : l[k] = m[k]) : l.take (k + 1) = m.take (k + 1) := by
  rw [List.take_succ_eq_append_getElem hl, List.take_succ_eq_append_getElem hm, h, he]

set_option maxRecDepth 100000 in
set_option maxHeartbeats 2000000 in
theorem same_spec_loop (d f : Int) (a b : Option Addr) (n ca cb : Nat) (l m : List ByteArray) (w : World) (hl : l.length = n) (hm : m.length = n) (hn : n ≤ 1048576) (ha : Row w a l) (hb : Row w b m) :
    Calls Try.prog 24 #[.agg #[.int .i64 d, .int .i64 f, .slice a n ca], .agg #[.int .i64 d, .int .i64 f, .slice b n cb]] w fun e w' => e = .returned (.bool (decide (l = m))) ∧ Below w.heap.size w w' := by
  obtain ⟨W, hW, hv1, hv2, hbw, hs⟩ := beginTwo w d f d f (.slice a n ca) (.slice b n cb)
  have HV1 := Lib.hid hv1
  have HV2 := Lib.hid hv2
  have HB := Lib.hid hbw
  have HL := Lib.hid hl
  have HM := Lib.hid hm
  have HA := Lib.hid ha
  have HBR := Lib.hid hb
  have HW := Lib.hid hW
  clear hv1 hv2 hbw hs hl hm ha hb hW
  have hdd : (d != d) = false := by simp
  have hff : (f != f) = false := by simp
  have hnn : ((n : Int) != (n : Int)) = false := by simp
  go_enter Try.func24, Try.ntmps24
  go_wp2_with fail
  rw [← HW.out]
  clear HW
  obtain ⟨k0, k1, k2⟩ := HV1.out.cells
  obtain ⟨m0, m1, m2⟩ := HV2.out.cells
  go_wp2_with fail
  go_loopw [5] (fun i wr => ∃ k : Nat, k ≤ n ∧ i = .int .i64 (k : Int) ∧ Hid (Var wr w.heap.size d f (.slice a n ca)) ∧ Hid (Var wr (w.heap.size + 1) d f (.slice b n cb)) ∧ Hid (Below w.heap.size w wr) ∧ Hid (l.take k = m.take k)) (fun i _ => n - (intOf i).toNat)
  case atStart => exact ⟨0, Nat.zero_le _, rfl, HV1, HV2, HB, rfl⟩
  case round =>
    obtain ⟨k, hk, rfl, X1, X2, XB, XT⟩ := hrel
    clear k0 k1 k2 m0 m1 m2 HV1 HV2 HB hdd hff hnn
    obtain ⟨k0, k1, k2⟩ := X1.out.cells
    obtain ⟨m0, m1, m2⟩ := X2.out.cells
    by_cases hlt : k < n
    · have hk0 : (0 : Int) ≤ (k : Int) := Int.natCast_nonneg _
      have hk1 : (k : Int) < (n : Int) := by omega
      have hkl : k < l.length := by rw [HL.out]; exact hlt
      have hkm : k < m.length := by rw [HM.out]; exact hlt
      obtain ⟨ga, rfl, hga, hca⟩ := Row.at HA.out XB.out k hkl
      obtain ⟨gb, rfl, hgb, hcb⟩ := Row.at HBR.out XB.out k hkm
      by_cases he : l[k] = m[k]
      · have HT := Lib.hid (take_eq_succ hkl hkm XT.out he)
        rw [he] at hca
        generalize m[k] = x at *
        clear he
        go_wp2_with fail
        go_quiet (fail)
        go_wp2
        go_roundw
        case rel => exact ⟨k + 1, by omega, by go_num, X1.out.below (drewN_below _ _), X2.out.below (drewN_below _ _), XB.out.trans ((drewN_below _ _).mono XB.out.size), HT⟩
        case measure => simp [intOf]; omega
      · have HRES := Lib.hid (show decide (l = m) = false from decide_eq_false (fun h => he (by subst h; rfl)))
        generalize l[k] = x at *
        generalize m[k] = y at *
        have hxy := str_ne he
        clear he
        go_wp2_with fail
        go_quiet (fail)
        go_wp2
        go_ret
        rw [HRES.out]
        exact ⟨rfl, XB.out.trans ((drewN_below _ _).mono XB.out.size)⟩
    · obtain rfl : k = n := by omega
      have HRES := Lib.hid (show decide (l = m) = true from decide_eq_true (by
        have h := XT.out
        rw [List.take_of_length_le (by rw [HL.out]; omega), List.take_of_length_le (by rw [HM.out]; omega)] at h
        exact h))
      go_wp2
      go_ret
      rw [HRES.out]
      exact ⟨rfl, XB.out⟩

set_option maxRecDepth 100000 in
set_option maxHeartbeats 2000000 in
theorem sameCard_spec (d f d2 f2 : Int) (a b : Option Addr) (n n2 ca cb : Nat) (l m : List ByteArray) (w : World) (hl : l.length = n) (hm : m.length = n2) (hn : n ≤ 1048576) (hn2 : n2 ≤ 1048576) (ha : Row w a l) (hb : Row w b m) :
    Calls Try.prog 24 #[.agg #[.int .i64 d, .int .i64 f, .slice a n ca], .agg #[.int .i64 d2, .int .i64 f2, .slice b n2 cb]] w fun e w' => e = .returned (.bool (sameC d f l d2 f2 m)) ∧ Below w.heap.size w w' := by
  by_cases hd : d = d2
  · subst hd
    by_cases hf : f = f2
    · subst hf
      by_cases hnn : n = n2
      · subst hnn
        have h := same_spec_loop d f a b n ca cb l m w hl hm hn ha hb
        have e : sameC d f l d f m = decide (l = m) := by unfold sameC; simp
        rw [e]; exact h
      · rw [same_no (fun h => hnn (by rw [← hl, ← hm, h.2.2]))]
        have hdd : (d != d) = false := by simp
        have hff : (f != f) = false := by simp
        have hnx : ((n : Int) != (n2 : Int)) = true := by simp; omega
        clear hl hm ha hb hnn
        go_enter Try.func24, Try.ntmps24
        go_wp2
        go_ret
        exact ⟨rfl, ((Below.refl _ _).alloc (Nat.le_refl _) _).alloc (by simp) _⟩
    · rw [same_no (fun h => hf h.2.1)]
      have hdd : (d != d) = false := by simp
      have hff : (f != f2) = true := by simpa using hf
      clear hl hm ha hb hf
      go_enter Try.func24, Try.ntmps24
      go_wp2
      go_ret
      exact ⟨rfl, ((Below.refl _ _).alloc (Nat.le_refl _) _).alloc (by simp) _⟩
  · rw [same_no (fun h => hd h.1)]
    have hdd : (d != d2) = true := by simpa using hd
    clear hl hm ha hb hd
    go_enter Try.func24, Try.ntmps24
    go_wp2
    go_ret
    exact ⟨rfl, ((Below.refl _ _).alloc (Nat.le_refl _) _).alloc (by simp) _⟩
end Go.Proofs.Ytoampghmikamlaa.Card
