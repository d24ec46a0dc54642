/- What the model of chapter 14 returns: Thickness. -/
import Derived.Test.YtbdeppbbgokfhaaThickSpec
import Derived.Test.YtbdeppbbgokfhaaThickSee
namespace Go.Proofs.Ytbdeppbbgokfhaa.Thick
open Go.ChangeShapes Go.WideShapes Go.ChangeAt Go.RowKit
open Go.Proofs.Ytbdeppbbgokfhaa.Strip Go.Proofs.Ytbdeppbbgokfhaa.Ints Go.Proofs.Ytbdeppbbgokfhaa.Corner Go.Proofs.Ytbdeppbbgokfhaa.Strs Go.Proofs.Ytbdeppbbgokfhaa.Card Go.Proofs.Ytbdeppbbgokfhaa.Kerf Go.Proofs.Ytbdeppbbgokfhaa.Order
open Go.Proofs.Ytbdeppbbgokfhaa.Place (hiF hiF_ge hiF_le)
open Go.Proofs.Ytbdeppbbgokfhaa.View (card_strip)
set_option linter.unusedVariables false

/-- The thickest place of the first k strips; what Thickness returns. -/
def thT (l : List ByteArray) (k : Nat) : Int := hiF 0 (fun i => thickV (l.getD i ⟨#[]⟩).data.toList) k
def thkV (d f : Int) (l : List ByteArray) (p : Int) : Int := if cardB d f l = true then (if 1 ≤ p ∧ p ≤ 1000 then (thT l l.length + 2) * p else -1) else -1
theorem thT_succ (l : List ByteArray) (k : Nat) (h : k < l.length) : thT l (k + 1) = max (thT l k) (thickV l[k].data.toList) := by
  have e : thT l (k + 1) = max (thT l k) (thickV (l.getD k ⟨#[]⟩).data.toList) := rfl
  rw [e]; simp [List.getD, h]
theorem thT_in {d f : Int} {l : List ByteArray} (h : cardB d f l = true) (k : Nat) (hk : k ≤ l.length) : 0 ≤ thT l k ∧ thT l k ≤ 16 := by
  refine ⟨hiF_ge k, hiF_le (by omega) k fun j hj => ?_⟩
  have hj2 : j < l.length := by omega
  simp only [List.getD, List.getElem?_eq_getElem hj2, Option.getD_some]
  exact (thick_in (card_strip h _ (List.getElem_mem hj2))).2
theorem mul_in {T p : Int} (h0 : 0 ≤ T) (h1 : T ≤ 16) (p0 : 1 ≤ p) (p1 : p ≤ 1000) : 0 ≤ T * p ∧ T * p ≤ 16000 ∧ (T + 2) * p = T * p + 2 * p := by
  refine ⟨Int.mul_nonneg h0 (by omega), ?_, by rw [Int.add_mul]⟩
  have h2 : T * p ≤ 16 * p := Int.mul_le_mul_of_nonneg_right h1 (by omega)
  omega

set_option maxRecDepth 100000 in
set_option maxHeartbeats 4000000 in
theorem thk_spec (d f : Int) (a : Option Addr) (m c : Nat) (l : List ByteArray) (p : Int) (w : World) (hl : l.length = m) (hm : m ≤ 1048576) (hz : ∀ s ∈ l, s.size ≤ 1048576) (hr : Row w a l) :
    Calls Try.prog 46 #[.agg #[.int .i64 d, .int .i64 f, .slice a m c], .int .i64 p] w fun e w' => e = .returned (.int .i64 (thkV d f l p)) ∧ Below w.heap.size w w' := by
  have HBa := Lib.hid (alloc_below w (.cells #[.int .i64 d, .int .i64 f, .slice a m c] 26))
  have HVa := Lib.hid (Var.new w d f (.slice a m c))
  have HR0 := Lib.hid hr
  have HR := Lib.hid (hr.below HBa.out)
  have HOK := Lib.hid (fun (w' : World) (h : Row w' a l) => ok_spec d f a m c l w' hl hm hz h)
  have HL := Lib.hid hl
  have HZ := Lib.hid hz
  unfold thkV
  cases hb : cardB d f l with
  | false =>
    rw [hb] at HOK
    clear hr hb hz hl
    go_enter Try.func46, Try.ntmps46
    go_wp2_with fail
    refine (HOK.out _ HR.out).mono ?_
    rintro e w1 ⟨rfl, hb1⟩
    have HBb := Lib.hid (HBa.out.trans (hb1.mono HBa.out.size))
    clear hb1
    go_wp2
    go_ret
    exact ⟨rfl, HBb.out⟩
  | true =>
    rw [hb] at HOK
    have hlen : m ≤ 10 := by have := (cardB_iff.1 hb).2.2.1; omega
    have HTI := Lib.hid (fun k (hk : k ≤ m) => thT_in hb k (by rw [hl]; exact hk))
    simp only [if_true]
    rw [hl]
    clear hr hb hz hl
    by_cases hp : 1 ≤ p ∧ p ≤ 1000
    · rw [if_pos hp]
      have hq := decide_eq_true hp
      obtain ⟨p0, p1⟩ := hp
      go_enter Try.func46, Try.ntmps46
      go_wp2_with fail
      refine (HOK.out _ HR.out).mono ?_
      rintro e w1 ⟨rfl, hb1⟩
      have HBb := Lib.hid (HBa.out.trans (hb1.mono HBa.out.size))
      have HVb := Lib.hid (HVa.out.below hb1)
      clear hb1 HR HOK HBa HVa
      go_wp2_with fail
      refine (in_at p 1 1000 _).mono ?_
      rintro e w' ⟨rfl, rfl⟩
      rw [hq]
      clear hq
      go_wp2_with fail
      go_loopw [5, 6] (fun x i wr => ∃ k : Nat, k ≤ m ∧ i = .int .i64 (k : Int) ∧ x = .int .i64 (thT l k) ∧ Hid (Var wr w.heap.size d f (.slice a m c)) ∧ Hid (Below w.heap.size w wr)) (fun _ i _ => m - (intOf i).toNat)
      case atStart => exact ⟨0, Nat.zero_le _, rfl, rfl, HVb, HBb⟩
      case round =>
        clear HVb HBb
        obtain ⟨k, hk, rfl, rfl, HV, HB⟩ := hrel
        obtain ⟨k0, k1, k2⟩ := HV.out.cells
        obtain ⟨t0, t1⟩ := HTI.out k hk
        have hk0 : (0 : Int) ≤ (k : Int) := Int.natCast_nonneg _
        by_cases hlt : k < m
        · have hk1 : (k : Int) < (m : Int) := by omega
          have hkl : k < l.length := by rw [HL.out]; exact hlt
          obtain ⟨g, rfl, _, c0⟩ := Row.at HR0.out HB.out k hkl
          have HA := Lib.hid (fun w' : World => thick_spec l[k] w' (HZ.out _ (List.getElem_mem hkl)))
          have HS := Lib.hid (thT_succ l k hkl)
          generalize thickV l[k].data.toList = y at *
          generalize l[k] = s at *
          generalize thT l k = N at *
          go_wp2_with fail
          refine (HA.out _).mono ?_
          rintro e w2 ⟨rfl, hb⟩
          have HV2 := Lib.hid (HV.out.below hb)
          have HB2 := Lib.hid (HB.out.trans (hb.mono HB.out.size))
          clear hb HV HB k0 k1 k2
          go_wp2
          go_roundw
          case rel => exact ⟨k + 1, by omega, by go_num, by rw [HS.out]; try (congr 1; try (split <;> omega)), HV2, HB2⟩
          case measure => simp [intOf]; omega
        · obtain rfl : k = m := by omega
          obtain ⟨q0, q1, q2⟩ := mul_in t0 t1 p0 p1
          have q3 : 0 ≤ (thT l k + 2) * p := by rw [q2]; omega
          have q4 : (thT l k + 2) * p ≤ 18000 := by rw [q2]; omega
          clear q0 q1 q2
          go_wp2
          go_ret
          exact ⟨rfl, HB.out⟩
    · rw [if_neg hp]
      have hq := decide_eq_false hp
      clear hp
      go_enter Try.func46, Try.ntmps46
      go_wp2_with fail
      refine (HOK.out _ HR.out).mono ?_
      rintro e w1 ⟨rfl, hb1⟩
      have HBb := Lib.hid (HBa.out.trans (hb1.mono HBa.out.size))
      clear hb1
      go_wp2_with fail
      refine (in_at p 1 1000 _).mono ?_
      rintro e w' ⟨rfl, rfl⟩
      rw [hq]
      go_wp2
      go_ret
      exact ⟨rfl, HBb.out⟩
end Go.Proofs.Ytbdeppbbgokfhaa.Thick
