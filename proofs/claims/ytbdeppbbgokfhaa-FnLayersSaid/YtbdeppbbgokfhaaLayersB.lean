/- Texts of mine, laid into one (printed by wip/merge_tpl.py): ThkSpec, ThkImpl, LayersProp, SameInts, ThickTab. -/
import Derived.Test.YtbdeppbbgokfhaaThickSpec
import Derived.Test.YtbdeppbbgokfhaaThickSee
import Derived.Test.YtbdeppbbgokfhaaThickImpl
import Derived.Test.YtbdeppbbgokfhaaCardImpl2
import Derived.Test.YtbdeppbbgokfhaaTurnMath
import Derived.Test.YtbdeppbbgokfhaaIntRow
/- What the model of chapter 14 returns: Thickness. -/
namespace Go.Proofs.Ytbdeppbbgokfhaa.Thick
open Go.ChangeShapes Go.WideShapes Go.ChangeAt Go.RowKit
open Go.Proofs.Ytbdeppbbgokfhaa.Strip Go.Proofs.Ytbdeppbbgokfhaa.Ints Go.Proofs.Ytbdeppbbgokfhaa.Corner Go.Proofs.Ytbdeppbbgokfhaa.Strs Go.Proofs.Ytbdeppbbgokfhaa.Card Go.Proofs.Ytbdeppbbgokfhaa.Kerf Go.Proofs.Ytbdeppbbgokfhaa.Order
open Go.Proofs.Ytbdeppbbgokfhaa.Place (hiF hiF_ge hiF_le)
open Go.Proofs.Ytbdeppbbgokfhaa.View (card_strip)
set_option linter.unusedVariables false

/-- The thickest place of the first k strips; what Thickness returns. -/
def thT (l : List ByteArray) (k : Nat) : Int := hiF 0 (fun i => thickV (l.getD i ⟨#[]⟩).data.toList) k
def thkV (d f : Int) (l : List ByteArray) (p : Int) : Int := if cardB d f l = true then (if 1 ≤ p ∧ p ≤ 1000 then (thT l l.length + 2) * p else -1) else -1
theorem thT_succ (l : List ByteArray) (k : Nat) (h : k < l.length) : thT l (k + 1) = max (thT l k) (thickV l[k].data.toList) := by
  have e : thT l (k + 1) = max (thT l k) (thickV (l.getD k ⟨#[]⟩).data.toList) := rfl
  rw [e]; simp [List.getD, h]
theorem thT_in {d f : Int} {l : List ByteArray} (h : cardB d f l = true) (k : Nat) (hk : k ≤ l.length) : 0 ≤ thT l k ∧ thT l k ≤ 16 := by
  refine ⟨hiF_ge k, hiF_le (by omega) k fun j hj => ?_⟩
  have hj2 : j < l.length := by omega
  simp only [List.getD, List.getElem?_eq_getElem hj2, Option.getD_some]
  exact (thick_in (card_strip h _ (List.getElem_mem hj2))).2
theorem mul_in {T p : Int} (h0 : 0 ≤ T) (h1 : T ≤ 16) (p0 : 1 ≤ p) (p1 : p ≤ 1000) : 0 ≤ T * p ∧ T * p ≤ 16000 ∧ (T + 2) * p = T * p + 2 * p := by
  refine ⟨Int.mul_nonneg h0 (by omega), ?_, by rw [Int.add_mul]⟩
  have h2 : T * p ≤ 16 * p := Int.mul_le_mul_of_nonneg_right h1 (by omega)
  omega

set_option maxRecDepth 100000 in
set_option maxHeartbeats 4000000 in
theorem thk_spec (d f : Int) (a : Option Addr) (m c : Nat) (l : List ByteArray) (p : Int) (w : World) (hl : l.length = m) (hm : m ≤ 1048576) (hz : ∀ s ∈ l, s.size ≤ 1048576) (hr : Row w a l) :
    Calls Try.prog 46 #[.agg #[.int .i64 d, .int .i64 f, .slice a m c], .int .i64 p] w fun e w' => e = .returned (.int .i64 (thkV d f l p)) ∧ Below w.heap.size w w' := by
  have HBa := Lib.hid (alloc_below w (.cells #[.int .i64 d, .int .i64 f, .slice a m c] 26))
  have HVa := Lib.hid (Var.new w d f (.slice a m c))
  have HR0 := Lib.hid hr
  have HR := Lib.hid (hr.below HBa.out)
  have HOK := Lib.hid (fun (w' : World) (h : Row w' a l) => ok_spec d f a m c l w' hl hm hz h)
  have HL := Lib.hid hl
  have HZ := Lib.hid hz
  unfold thkV
  cases hb : cardB d f l with
  | false =>
    rw [hb] at HOK
    clear hr hb hz hl
    go_enter Try.func46, Try.ntmps46
    go_wp2_with fail
    refine (HOK.out _ HR.out).mono ?_
    rintro e w1 ⟨rfl, hb1⟩
    have HBb := Lib.hid (HBa.out.trans (hb1.mono HBa.out.size))
    clear hb1
    go_wp2
    go_ret
    exact ⟨rfl, HBb.out⟩
  | true =>
    rw [hb] at HOK
    have hlen : m ≤ 10 := by have := (cardB_iff.1 hb).2.2.1; omega
    have HTI := Lib.hid (fun k (hk : k ≤ m) => thT_in hb k (by rw [hl]; exact hk))
    simp only [if_true]
    rw [hl]
    clear hr hb hz hl
    by_cases hp : 1 ≤ p ∧ p ≤ 1000
    · rw [if_pos hp]
      have hq := decide_eq_true hp
      obtain ⟨p0, p1⟩ := hp
      go_enter Try.func46, Try.ntmps46
      go_wp2_with fail
      refine (HOK.out _ HR.out).mono ?_
      rintro e w1 ⟨rfl, hb1⟩
      have HBb := Lib.hid (HBa.out.trans (hb1.mono HBa.out.size))
      have HVb := Lib.hid (HVa.out.below hb1)
      clear hb1 HR HOK HBa HVa
      go_wp2_with fail
      refine (in_at p 1 1000 _).mono ?_
      rintro e w' ⟨rfl, rfl⟩
      rw [hq]
      clear hq
      go_wp2_with fail
      go_loopw [5, 6] (fun x i wr => ∃ k : Nat, k ≤ m ∧ i = .int .i64 (k : Int) ∧ x = .int .i64 (thT l k) ∧ Hid (Var wr w.heap.size d f (.slice a m c)) ∧ Hid (Below w.heap.size w wr)) (fun _ i _ => m - (intOf i).toNat)
      case atStart => exact ⟨0, Nat.zero_le _, rfl, rfl, HVb, HBb⟩
      case round =>
        clear HVb HBb
        obtain ⟨k, hk, rfl, rfl, HV, HB⟩ := hrel
        obtain ⟨k0, k1, k2⟩ := HV.out.cells
        obtain ⟨t0, t1⟩ := HTI.out k hk
        have hk0 : (0 : Int) ≤ (k : Int) := Int.natCast_nonneg _
        by_cases hlt : k < m
        · have hk1 : (k : Int) < (m : Int) := by omega
          have hkl : k < l.length := by rw [HL.out]; exact hlt
          obtain ⟨g, rfl, _, c0⟩ := Row.at HR0.out HB.out k hkl
          have HA := Lib.hid (fun w' : World => thick_spec l[k] w' (HZ.out _ (List.getElem_mem hkl)))
          have HS := Lib.hid (thT_succ l k hkl)
          generalize thickV l[k].data.toList = y at *
          generalize l[k] = s at *
          generalize thT l k = N at *
          go_wp2_with fail
          refine (HA.out _).mono ?_
          rintro e w2 ⟨rfl, hb⟩
          have HV2 := Lib.hid (HV.out.below hb)
          have HB2 := Lib.hid (HB.out.trans (hb.mono HB.out.size))
          clear hb HV HB k0 k1 k2
          go_wp2
          go_roundw
          case rel => exact ⟨k + 1, by omega, by go_num, by rw [HS.out]; try (congr 1; try (split <;> omega)), HV2, HB2⟩
          case measure => simp [intOf]; omega
        · obtain rfl : k = m := by omega
          obtain ⟨q0, q1, q2⟩ := mul_in t0 t1 p0 p1
          have q3 : 0 ≤ (thT l k + 2) * p := by rw [q2]; omega
          have q4 : (thT l k + 2) * p ≤ 18000 := by rw [q2]; omega
          clear q0 q1 q2
          go_wp2
          go_ret
          exact ⟨rfl, HB.out⟩
    · rw [if_neg hp]
      have hq := decide_eq_false hp
      clear hp
      go_enter Try.func46, Try.ntmps46
      go_wp2_with fail
      refine (HOK.out _ HR.out).mono ?_
      rintro e w1 ⟨rfl, hb1⟩
      have HBb := Lib.hid (HBa.out.trans (hb1.mono HBa.out.size))
      clear hb1
      go_wp2_with fail
      refine (in_at p 1 1000 _).mono ?_
      rintro e w' ⟨rfl, rfl⟩
      rw [hq]
      go_wp2
      go_ret
      exact ⟨rfl, HBb.out⟩
end Go.Proofs.Ytbdeppbbgokfhaa.Thick

/- What the program of chapter 14 returns: Thickness. -/
namespace Go.Proofs.Ytbdeppbbgokfhaa.Thick
open Go.ChangeShapes Go.WideShapes Go.ChangeAt Go.RowKit
open Go.Proofs.Ytbdeppbbgokfhaa.Strip Go.Proofs.Ytbdeppbbgokfhaa.Ints Go.Proofs.Ytbdeppbbgokfhaa.Corner Go.Proofs.Ytbdeppbbgokfhaa.Strs Go.Proofs.Ytbdeppbbgokfhaa.Card Go.Proofs.Ytbdeppbbgokfhaa.Kerf Go.Proofs.Ytbdeppbbgokfhaa.Order
set_option linter.unusedVariables false

set_option maxRecDepth 100000 in
set_option maxHeartbeats 4000000 in
theorem thk_impl (d f : Int) (a : Option Addr) (m c : Nat) (l : List ByteArray) (p : Int) (w : World) (hl : l.length = m) (hm : m ≤ 1048576) (hz : ∀ s ∈ l, s.size ≤ 1048576) (hr : Row w a l) :
    Calls Try.prog 29 #[.agg #[.int .i64 d, .int .i64 f, .slice a m c], .int .i64 p] w fun e w' => e = .returned (.int .i64 (thkV d f l p)) ∧ Below w.heap.size w w' := by
  have HBa := Lib.hid (alloc_below w (.cells #[.int .i64 d, .int .i64 f, .slice a m c] 26))
  have HVa := Lib.hid (Var.new w d f (.slice a m c))
  have HR0 := Lib.hid hr
  have HR := Lib.hid (hr.below HBa.out)
  have HOK := Lib.hid (fun (w' : World) (h : Row w' a l) => ok_impl d f a m c l w' hl hm hz h)
  have HL := Lib.hid hl
  have HZ := Lib.hid hz
  unfold thkV
  cases hb : cardB d f l with
  | false =>
    rw [hb] at HOK
    clear hr hb hz hl
    go_enter Try.func29, Try.ntmps29
    go_wp2_with fail
    refine (HOK.out _ HR.out).mono ?_
    rintro e w1 ⟨rfl, hb1⟩
    have HBb := Lib.hid (HBa.out.trans (hb1.mono HBa.out.size))
    clear hb1
    go_wp2
    go_ret
    exact ⟨rfl, HBb.out⟩
  | true =>
    rw [hb] at HOK
    have hlen : m ≤ 10 := by have := (cardB_iff.1 hb).2.2.1; omega
    have HTI := Lib.hid (fun k (hk : k ≤ m) => thT_in hb k (by rw [hl]; exact hk))
    simp only [if_true]
    rw [hl]
    clear hr hb hz hl
    by_cases hp1 : p < 1
    · rw [if_neg (show ¬ (1 ≤ p ∧ p ≤ 1000) by omega)]
      have hq1 : decide (p < 1) = true := decide_eq_true hp1
      go_enter Try.func29, Try.ntmps29
      go_wp2_with fail
      refine (HOK.out _ HR.out).mono ?_
      rintro e w1 ⟨rfl, hb1⟩
      have HBb := Lib.hid (HBa.out.trans (hb1.mono HBa.out.size))
      clear hb1
      go_wp2
      go_ret
      exact ⟨rfl, HBb.out⟩
    · have hq1 : decide (p < 1) = false := decide_eq_false hp1
      by_cases hp2 : 1000 < p
      · rw [if_neg (show ¬ (1 ≤ p ∧ p ≤ 1000) by omega)]
        have hq2 : decide (1000 < p) = true := decide_eq_true hp2
        go_enter Try.func29, Try.ntmps29
        go_wp2_with fail
        refine (HOK.out _ HR.out).mono ?_
        rintro e w1 ⟨rfl, hb1⟩
        have HBb := Lib.hid (HBa.out.trans (hb1.mono HBa.out.size))
        clear hb1
        go_wp2
        go_ret
        exact ⟨rfl, HBb.out⟩
      · have hq2 : decide (1000 < p) = false := decide_eq_false hp2
        rw [if_pos (show 1 ≤ p ∧ p ≤ 1000 by omega)]
        go_enter Try.func29, Try.ntmps29
        go_wp2_with fail
        refine (HOK.out _ HR.out).mono ?_
        rintro e w1 ⟨rfl, hb1⟩
        have HBb := Lib.hid (HBa.out.trans (hb1.mono HBa.out.size))
        have HVb := Lib.hid (HVa.out.below hb1)
        clear hb1 HR HOK HBa HVa
        obtain ⟨k0, k1, k2⟩ := HVb.out.cells
        go_wp2_with fail
        clear k0 k1 k2
        go_loopw [5, 22] (fun x i wr => ∃ k : Nat, k ≤ m ∧ i = .int .i64 (k : Int) ∧ x = .int .i64 (thT l k) ∧ Hid (Below w.heap.size w wr)) (fun _ i _ => m - (intOf i).toNat)
        case atStart => exact ⟨0, Nat.zero_le _, rfl, rfl, HBb⟩
        case round =>
          clear HVb HBb
          obtain ⟨k, hk, rfl, rfl, HB⟩ := hrel
          obtain ⟨t0, t1⟩ := HTI.out k hk
          have hk0 : (0 : Int) ≤ (k : Int) := Int.natCast_nonneg _
          by_cases hlt : k < m
          · have hk1 : (k : Int) < (m : Int) := by omega
            have hkl : k < l.length := by rw [HL.out]; exact hlt
            obtain ⟨g, rfl, _, c0⟩ := Row.at HR0.out HB.out k hkl
            have HA := Lib.hid (fun w' : World => thick_impl l[k] w' (HZ.out _ (List.getElem_mem hkl)))
            have HS := Lib.hid (thT_succ l k hkl)
            generalize thickV l[k].data.toList = y at *
            generalize l[k] = s at *
            generalize thT l k = N at *
            go_wp2_with fail
            refine (HA.out _).mono ?_
            rintro e w2 ⟨rfl, hb⟩
            have HB2 := Lib.hid (HB.out.trans (hb.mono HB.out.size))
            clear hb HB
            go_wp2
            go_roundw
            case rel => exact ⟨k + 1, by omega, by go_num, by rw [HS.out]; try (congr 1; try (split <;> omega)), HB2⟩
            case measure => simp [intOf]; omega
          · obtain rfl : k = m := by omega
            obtain ⟨q0, q1, q2⟩ := mul_in t0 t1 (p := p) (by omega) (by omega)
            have Q2 := Lib.hid q2
            clear q2
            go_wp2
            go_ret
            exact ⟨Ints.ret_int Q2.out.symm, HB.out⟩
end Go.Proofs.Ytbdeppbbgokfhaa.Thick

/- What the property of chapter 14 asks of each strip of a card. -/
namespace Go.Proofs.Ytbdeppbbgokfhaa.Thick
open Go.Proofs.Ytbdeppbbgokfhaa.Strip Go.Proofs.Ytbdeppbbgokfhaa.Kerf Go.Proofs.Ytbdeppbbgokfhaa.Order Go.Proofs.Ytbdeppbbgokfhaa.Turn Go.Proofs.Ytbdeppbbgokfhaa.Strs Go.Proofs.Ytbdeppbbgokfhaa.Card
set_option linter.unusedVariables false

structure Lay (s : ByteArray) (r : List Int) (n : Nat) (Z T : Int) : Prop where
  len : r.length = n
  siz : s.size = n
  n0 : 2 ≤ n
  n1 : n ≤ 16
  sum : sumL r = n
  zer : zerK r n = Z
  top : topK r n = T
  z0 : 0 ≤ Z
  z1 : Z ≤ 16
  t0 : 1 ≤ T
  t1 : T ≤ 16
  el : ∀ x ∈ r, 0 ≤ x ∧ x ≤ 16
  fz : freeV s.data.toList = Z
  tz : thickV s.data.toList = T
  tr : layL (turnS s).data.toList = r
theorem lay_of (s : ByteArray) (h : stripB s.data.toList = true) : Lay s (layL s.data.toList) s.size (freeV s.data.toList) (thickV s.data.toList) := by
  have hsl : s.data.toList.length = s.size := by simp
  have hl := layL_length h
  rw [hsl] at hl
  have h1 := strip_len h
  rw [hsl] at h1
  refine ⟨hl, rfl, h1.1, h1.2, by rw [sum_layL h, hsl], ?_, ?_, (free_in h).1, (free_in h).2, (thick_in h).1, (thick_in h).2, layL_in h, rfl, rfl, by rw [turnS_list, lay_turn h]⟩
  · unfold freeV; rw [if_pos h, hl]
  · unfold thickV; rw [if_pos h, hl]
theorem thkV_yes {d f : Int} {l : List ByteArray} (h : cardB d f l = true) {p : Int} (h0 : 1 ≤ p) (h1 : p ≤ 1000) : thkV d f l p = (thT l l.length + 2) * p := by
  unfold thkV; rw [if_pos h, if_pos ⟨h0, h1⟩]
end Go.Proofs.Ytbdeppbbgokfhaa.Thick

/- What laws.btoi and laws.sameInts return. -/
namespace Go.Proofs.Ytbdeppbbgokfhaa.View
open Go.ChangeShapes Go.WideShapes Go.ChangeAt Go.RowKit
set_option linter.unusedVariables false

theorem one_no (w : World) : Calls Try.prog 18 #[.bool false] w fun e w' => e = .returned (.int .i64 0) ∧ w = w' := by
  go_enter Try.func18, Try.ntmps18
  go_wp2
  go_ret
  exact ⟨rfl, rfl⟩
theorem one_yes (w : World) : Calls Try.prog 18 #[.bool true] w fun e w' => e = .returned (.int .i64 1) ∧ w = w' := by
  go_enter Try.func18, Try.ntmps18
  go_wp2
  go_ret
  exact ⟨rfl, rfl⟩

theorem one_noN (w : World) (q n : Nat) : Calls Try.prog 18 #[.bool false] (w.drewN (q + n)) fun e w' => e = .returned (.int .i64 0) ∧ ∃ m, w' = w.drewN (q + m) :=
  (one_no _).mono fun _ _ h => ⟨h.1, n, h.2.symm⟩
theorem one_yesN (w : World) (q n : Nat) : Calls Try.prog 18 #[.bool true] (w.drewN (q + n)) fun e w' => e = .returned (.int .i64 1) ∧ ∃ m, w' = w.drewN (q + m) :=
  (one_yes _).mono fun _ _ h => ⟨h.1, n, h.2.symm⟩

theorem same_rows (n ca cb : Nat) (a b : Option Addr) (l : List Int) (hl : l.length = n) (hm : n ≤ maxLen) (w : World) (ha : Ints.IRow w a l) (hb : Ints.IRow w b l) :
    Calls Try.prog 19 #[.slice a n ca, .slice b n cb] w fun e w' => e = .returned (.bool true) ∧ ∃ q, w' = w.drewN q := by
  unfold maxLen at hm
  have HL := Lib.hid hl; clear hl
  have HA := Lib.hid ha; clear ha
  have HB := Lib.hid hb; clear hb
  go_enter Try.func19, Try.ntmps19
  go_wp2_with fail
  go_loopw [5] (fun i wr => ∃ k q : Nat, k ≤ n ∧ i = .int .i64 k ∧ wr = w.drewN q) (fun i _ => n - (intOf i).toNat)
  case atStart => exact ⟨0, 0, Nat.zero_le _, rfl, rfl⟩
  case round =>
    obtain ⟨k, q, hk, rfl, rfl⟩ := hrel
    by_cases hlt : k < n
    · obtain ⟨ga, rfl, hga, hca⟩ := HA.out k (by rw [HL.out]; exact hlt)
      obtain ⟨gb, rfl, hgb, hcb⟩ := HB.out k (by rw [HL.out]; exact hlt)
      generalize l[k]'_ = x at hca hcb
      have hx : (x != x) = false := by simp
      have hk0 : (0 : Int) ≤ (k : Int) := Int.natCast_nonneg _
      have hk1 : (k : Int) < (n : Int) := by omega
      go_wp2_with fail
      go_quiet (fail)
      go_wp2
      go_roundw
      case rel => exact ⟨k + 1, _, by omega, by go_num, rfl⟩
      case measure => simp [intOf]; omega
    · go_wp2
      go_ret
      exact ⟨rfl, q, rfl⟩
end Go.Proofs.Ytbdeppbbgokfhaa.View

/- What the program of chapter 14 returns: tableOf by LayersOf, LayerTable (printed by wip/gen_thick.py). -/
namespace Go.Proofs.Ytbdeppbbgokfhaa.Thick
open Go.ChangeShapes Go.WideShapes Go.ChangeAt Go.RowKit
open Go.Proofs.Ytbdeppbbgokfhaa.Strip Go.Proofs.Ytbdeppbbgokfhaa.Ints Go.Proofs.Ytbdeppbbgokfhaa.Corner Go.Proofs.Ytbdeppbbgokfhaa.Strs Go.Proofs.Ytbdeppbbgokfhaa.Card Go.Proofs.Ytbdeppbbgokfhaa.Kerf Go.Proofs.Ytbdeppbbgokfhaa.Order
open Go.Proofs.Ytbdeppbbgokfhaa.View (rowsV rowsV_length rowsV_at rowsV_next rowsV_take info_rows card_strip PostRows own_some)
set_option linter.unusedVariables false

set_option maxRecDepth 100000 in
set_option maxHeartbeats 4000000 in
theorem tabOf_impl (d f : Int) (a : Option Addr) (m c : Nat) (l : List ByteArray) (w : World) (hl : l.length = m) (hm : m ≤ 1048576) (hz : ∀ s ∈ l, s.size ≤ 1048576) (hr : Row w a l) :
    Calls Try.prog 50 #[.agg #[.int .i64 d, .int .i64 f, .slice a m c], .func (.func 24) #[] #[]] w (PostRows w (tabV d f l)) := by
  obtain ⟨i0, hi, hz0, hz1, hz2⟩ := info_parts info_rows
  have HR := Lib.hid hr
  have HOK := Lib.hid (fun (w' : World) (h : Row w' a l) => ok_impl d f a m c l w' hl hm hz h)
  have HL := Lib.hid hl
  have HZ := Lib.hid hz
  have hbe := (Below.refl w.heap.size w).alloc (Nat.le_refl _) (.cells #[.int .i64 d, .int .i64 f, .slice a m c] 26)
  have hva := Var.new w d f (.slice a m c)
  obtain ⟨W1, hW1⟩ : ∃ W1, w.alloc (.cells #[.int .i64 d, .int .i64 f, .slice a m c] 26) = W1 := ⟨_, rfl⟩
  have hsz : W1.heap.size = w.heap.size + 1 := by rw [← hW1]; simp
  rw [hW1] at hva hbe
  have HW1 := Lib.hid hW1
  have HVW := Lib.hid (fun (w' : World) (h : Below (w.heap.size + 1) W1 w') => hva.below (by rw [hsz]; exact h))
  have HBT := Lib.hid (fun (w' : World) (h : Below (w.heap.size + 1) W1 w') => hbe.trans (h.mono (Nat.le_succ _)))
  have HSZ := Lib.hid (fun (w' : World) (h : Below (w.heap.size + 1) W1 w') => (by have := h.size; omega : w.heap.size + 1 ≤ w'.heap.size))
  have HBb := Lib.hid (Below.refl (w.heap.size + 1) W1)
  clear hW1 hbe hva hsz
  obtain ⟨k0, k1, k2⟩ := (HVW.out _ HBb.out).cells
  unfold tabV
  cases hb : cardB d f l with
  | false =>
    rw [hb] at HOK
    clear hr hb hz hl
    simp only [if_false, Bool.false_eq_true]
    go_enter Try.func50, Try.ntmps50
    go_wp2_with fail
    rw [HW1.out]
    go_wp2_with fail
    refine (HOK.out _ (HR.out.since (Nat.le_refl _) (HBT.out _ HBb.out))).mono ?_
    rintro e w3 ⟨rfl, hb3⟩
    have HB3 := Lib.hid (HBb.out.trans (hb3.mono (HSZ.out _ HBb.out)))
    clear hb3
    go_wp2
    go_ret
    exact ⟨_, [], rfl, HBT.out _ HB3.out, Own2.nil _ _⟩
  | true =>
    rw [hb] at HOK
    have hlen : m ≤ 10 := by have := (cardB_iff.1 hb).2.2.1; omega
    have HCD := Lib.hid hb
    clear hr hb hz hl
    simp only [if_true]
    go_enter Try.func50, Try.ntmps50
    go_wp2_with fail
    rw [HW1.out]
    go_wp2_with fail
    refine (HOK.out _ (HR.out.since (Nat.le_refl _) (HBT.out _ HBb.out))).mono ?_
    rintro e w2 ⟨rfl, hb2⟩
    have HB2 := Lib.hid (HBb.out.trans (hb2.mono (HSZ.out _ HBb.out)))
    clear hb2 k0 k1 k2
    obtain ⟨k0, k1, k2⟩ := (HVW.out _ HB2.out).cells
    go_wp2_with fail
    clear k0 k1 k2
    go_loopw [5, 14] (fun v i wr => ∃ (k : Nat) (vs : List Value), k ≤ m ∧ i = .int .i64 (k : Int) ∧ Hid (Own2 wr (w.heap.size + 1) v vs ((rowsV layL l).take k)) ∧ Hid (Below (w.heap.size + 1) W1 wr)) (fun _ i _ => m - (intOf i).toNat)
    case atStart => exact ⟨0, [], Nat.zero_le _, rfl, Own2.nil _ _, HB2⟩
    case round =>
      clear HB2
      obtain ⟨k, vs, hk, rfl, HO, HB⟩ := hrel
      have HS := Lib.hid (HSZ.out _ HB.out)
      have HLK := Lib.hid (rowsV_take layL l k (by rw [HL.out]; exact hk))
      have hk0 : (0 : Int) ≤ (k : Int) := Int.natCast_nonneg _
      by_cases hlt : k < m
      · have hk1 : (k : Int) < (m : Int) := by omega
        have hkl : k < l.length := by rw [HL.out]; exact hlt
        obtain ⟨ga, rfl, _, hca⟩ := Row.at HR.out (HBT.out _ HB.out) k hkl
        have hst := card_strip HCD.out l[k] (List.getElem_mem hkl)
        have HSEE := Lib.hid (fun w' : World => lay_impl l[k] w' (HZ.out _ (List.getElem_mem hkl)))
        have HNX := Lib.hid (rowsV_next layL l k hkl)
        have hpos : 1 ≤ (layL l[k].data.toList).length := layL_pos hst
        clear hst
        generalize l[k] = s at *
        generalize hrr : layL s.data.toList = r at *
        clear hrr
        obtain ⟨av, cv, rfl, _, _⟩ := HO.out.row
        rw [HLK.out]
        rw [HLK.out] at HO
        go_wp2_with fail
        refine (HSEE.out _).mono ?_
        rintro e w5 ⟨v5, rfl, hb5, ho5⟩
        obtain ⟨g5, c5, rfl⟩ := own_some ho5 hpos
        have hk5 := ho5.lt g5 rfl
        have HK1 := Lib.hid hk5.1
        have HK2 := Lib.hid hk5.2
        have HB5 := Lib.hid hb5
        have HO5 := Lib.hid ho5
        have HA5 := Lib.hid (alloc_below w5 (.cells #[.slice (some ⟨g5, 0, none⟩) r.length c5] 30))
        have HW5 := Lib.hid (heap_alloc_new w5 (.cells #[.slice (some ⟨g5, 0, none⟩) r.length c5] 30))
        have HOUT := Lib.hid (HO.out.below hb5).outer
        rw [HLK.out] at HOUT
        clear hb5 ho5 hk5
        go_wp2_with (at_builtin; refine wpList_append_lies _ rfl _ _ 28 rfl (w.heap.size + 1) 30 i0 _ 1 24 Try.underlying28 hi hz0 hz1 hz2 rfl (by decide) _ k vs rfl (HOUT.out.alloc _) ⟨w5.heap.size, 0, none⟩ 1 1 [.slice (some ⟨g5, 0, none⟩) r.length c5] rfl rfl (World.news_of_block HW5.out) (by simp [Value.oneCell']) (by decide) (by unfold maxLen; omega) (by omega) (by have h1 := HS.out; have h2 := HB5.out.size; simp; omega) _ rfl ?_)
        intro g6 cap6 w6 hown6 hgrow6 hg6 hlt6
        have HO6 := Lib.hid (HO.out.push (k := g5) (l := r) rfl HK1.out (by have h2 := HK2.out; simp; omega) (HB5.out.trans (HA5.out.mono HB5.out.size)) ((HO5.out.mono HS.out).below HA5.out) (by rw [HLK.out]; exact hown6) hgrow6 (hg6.imp id fun h => by simpa using h))
        rw [HLK.out, ← HNX.out] at HO6
        have HB6 := Lib.hid ((HB.out.trans ((HB5.out.trans (HA5.out.mono HB5.out.size)).mono HS.out)).grown hgrow6 (by have h1 := HS.out; have h2 := HB5.out.size; simp; omega) (fun t e => (World.ownsRow.lt HO.out.outer t e).1))
        clear hown6 hgrow6 hg6 hlt6
        go_wp2
        go_roundw
        case rel => exact ⟨k + 1, _, by omega, by go_num, HO6, HB6⟩
        case measure => simp [intOf]; omega
      · obtain rfl : k = m := by omega
        have hall : (rowsV layL l).take k = rowsV layL l := List.take_of_length_le (by rw [rowsV_length, HL.out]; exact Nat.le_refl _)
        rw [hall] at HO
        clear hall
        go_wp2
        go_ret
        exact ⟨_, _, rfl, HBT.out _ HB.out, HO.out.mono (Nat.le_succ _)⟩

set_option maxRecDepth 100000 in
theorem tab_impl (d f : Int) (a : Option Addr) (m c : Nat) (l : List ByteArray) (w : World) (hl : l.length = m) (hm : m ≤ 1048576) (hz : ∀ s ∈ l, s.size ≤ 1048576) (hr : Row w a l) :
    Calls Try.prog 23 #[.agg #[.int .i64 d, .int .i64 f, .slice a m c]] w (PostRows w (tabV d f l)) := by
  have HOF := Lib.hid (fun (w' : World) (h : Row w' a l) => tabOf_impl d f a m c l w' hl hm hz h)
  generalize tabV d f l = L at *
  have HR := Lib.hid hr
  have HBa := Lib.hid (alloc_below w (.cells #[.int .i64 d, .int .i64 f, .slice a m c] 26))
  have HVa := Lib.hid (Var.new w d f (.slice a m c))
  obtain ⟨W1, hW1⟩ : ∃ W1, w.alloc (.cells #[.int .i64 d, .int .i64 f, .slice a m c] 26) = W1 := ⟨_, rfl⟩
  rw [hW1] at HBa HVa
  have HW1 := Lib.hid hW1
  clear hr hz hl hW1
  obtain ⟨k0, k1, k2⟩ := HVa.out.cells
  go_enter Try.func23, Try.ntmps23
  go_wp2_with fail
  try rw [HW1.out]
  go_wp2_with fail
  refine (HOF.out _ (HR.out.since (Nat.le_refl _) HBa.out)).mono ?_
  rintro e w2 ⟨v, vs, rfl, hb, ho⟩
  have HB := Lib.hid (HBa.out.trans (hb.mono HBa.out.size))
  have HO := Lib.hid (ho.mono HBa.out.size)
  clear hb ho
  go_wp2
  go_ret
  exact ⟨_, _, rfl, HB.out, HO.out⟩
end Go.Proofs.Ytbdeppbbgokfhaa.Thick
