/- What the model and the program of chapter 9 return: CountStrips, sumOf, RoomUnder. -/
import Derived.Test.YtjjmeenapnemdaaAreaMath
import Derived.Test.YtjjmeenapnemdaaKerfImpl
import Derived.Test.YtjjmeenapnemdaaStripMany
import Derived.Test.YtjjmeenapnemdaaRoom
namespace Go.Proofs.Ytjjmeenapnemdaa.Area
open Go.ChangeShapes Go.WideShapes Go.ChangeAt Go.RowKit
open Go.Proofs.Ytjjmeenapnemdaa.Strip Go.Proofs.Ytjjmeenapnemdaa.Ints Go.Proofs.Ytjjmeenapnemdaa.Corner Go.Proofs.Ytjjmeenapnemdaa.Kerf Go.Proofs.Ytjjmeenapnemdaa.Order
set_option linter.unusedVariables false

theorem chs_step (a k : Nat) : (chs a k : Int) * ((a : Int) + ((k : Int) + 1)) / ((k : Int) + 1) = (chs a (k + 1) : Int) := by
  show _ = ((chs a k * (a + (k + 1)) / (k + 1) : Nat) : Int)
  rw [Int.natCast_ediv, Int.natCast_mul, Int.natCast_add, Int.natCast_add]
  rfl

set_option maxRecDepth 100000 in
set_option maxHeartbeats 2000000 in
theorem num_spec (d f : Int) (w : World) :
    Calls Try.prog 28 #[.int .i64 d, .int .i64 f] w fun e w' => e = .returned (.int .i64 (numI d f)) ∧ w = w' := by
  cases hf : frameB d f with
  | false =>
    have hz : numI d f = 0 := by unfold numI; rw [hf]; rfl
    rw [hz]
    go_enter Try.func28, Try.ntmps28
    go_wp2_with fail
    refine (frame_spec _ _ _).mono ?_
    rintro e w' ⟨rfl, rfl⟩
    rw [hf]
    go_wp2
    go_ret
    exact ⟨rfl, rfl⟩
  | true =>
    have hz : numI d f = (chs f.toNat d.toNat : Int) := by unfold numI; rw [hf]; rfl
    rw [hz]
    obtain ⟨q1, q2, q3, q4⟩ := frameB_iff.mp hf
    obtain ⟨x, rfl⟩ := Int.eq_ofNat_of_zero_le (show 0 ≤ d by omega)
    obtain ⟨y, rfl⟩ := Int.eq_ofNat_of_zero_le (show 0 ≤ f by omega)
    have HF := Lib.hid hf
    clear hz hf
    show Calls _ _ _ _ fun e w' => e = .returned (.int .i64 (chs y x : Int)) ∧ w = w'
    go_enter Try.func28, Try.ntmps28
    go_wp2_with fail
    refine (frame_spec _ _ _).mono ?_
    rintro e w' ⟨rfl, rfl⟩
    rw [HF.out]
    go_wp2_with fail
    go_loop [5, 6] (fun n k => ∃ j : Nat, j ≤ x ∧ k = .int .i64 ((j : Int) + 1) ∧ n = .int .i64 (chs y j : Int)) (fun _ k => x + 1 - (intOf k).toNat)
    case atStart => exact ⟨0, Nat.zero_le _, rfl, rfl⟩
    case round =>
      obtain ⟨j, hj, rfl, rfl⟩ := hrel
      have hc := chs_small (a := y) (k := j) (by omega) (by omega)
      have HS := Lib.hid (chs_step y j)
      have h0 : (0 : Int) ≤ (j : Int) := Int.natCast_nonneg _
      by_cases hlt : j < x
      · have hj1 : (j : Int) + 1 ≤ (x : Int) := by omega
        have hm0 : (0 : Int) ≤ (chs y j : Int) * ((y : Int) + ((j : Int) + 1)) := Int.mul_nonneg (by omega) (by omega)
        have hm1 : (chs y j : Int) * ((y : Int) + ((j : Int) + 1)) ≤ 12870 * 16 := Int.mul_le_mul (by omega) (by omega) (by omega) (by omega)
        generalize chs y j = c at *
        go_wp2
        refine ⟨⟨j + 1, by omega, by go_num, ?_⟩, by simp [intOf]; omega⟩
        rw [← HS.out]
      · obtain rfl : j = x := by omega
        go_wp2
        go_ret
        exact ⟨rfl, rfl⟩
set_option maxRecDepth 100000 in
set_option maxHeartbeats 2000000 in
theorem num_impl (d f : Int) (w : World) :
    Calls Try.prog 20 #[.int .i64 d, .int .i64 f] w fun e w' => e = .returned (.int .i64 (numI d f)) ∧ w = w' := by
  cases hf : frameB d f with
  | false =>
    have hz : numI d f = 0 := by unfold numI; rw [hf]; rfl
    rw [hz]
    go_enter Try.func20, Try.ntmps20
    go_wp2_with fail
    refine (frame_impl _ _ _).mono ?_
    rintro e w' ⟨rfl, rfl⟩
    rw [hf]
    go_wp2
    go_ret
    exact ⟨rfl, rfl⟩
  | true =>
    have hz : numI d f = (chs d.toNat f.toNat : Int) := by
      obtain ⟨q1, q2, q3, q4⟩ := frameB_iff.mp hf
      rw [chs_both (a := d.toNat) (k := f.toNat) (by omega) (by omega)]
      unfold numI; rw [hf]; rfl
    rw [hz]
    obtain ⟨q1, q2, q3, q4⟩ := frameB_iff.mp hf
    obtain ⟨x, rfl⟩ := Int.eq_ofNat_of_zero_le (show 0 ≤ d by omega)
    obtain ⟨y, rfl⟩ := Int.eq_ofNat_of_zero_le (show 0 ≤ f by omega)
    have HF := Lib.hid hf
    clear hz hf
    show Calls _ _ _ _ fun e w' => e = .returned (.int .i64 (chs x y : Int)) ∧ w = w'
    go_enter Try.func20, Try.ntmps20
    go_wp2_with fail
    refine (frame_impl _ _ _).mono ?_
    rintro e w' ⟨rfl, rfl⟩
    rw [HF.out]
    go_wp2_with fail
    go_loop [5, 6] (fun n k => ∃ j : Nat, j ≤ y ∧ k = .int .i64 ((j : Int) + 1) ∧ n = .int .i64 (chs x j : Int)) (fun _ k => y + 1 - (intOf k).toNat)
    case atStart => exact ⟨0, Nat.zero_le _, rfl, rfl⟩
    case round =>
      obtain ⟨j, hj, rfl, rfl⟩ := hrel
      have hc := chs_small (a := x) (k := j) (by omega) (by omega)
      have HS := Lib.hid (chs_step x j)
      have h0 : (0 : Int) ≤ (j : Int) := Int.natCast_nonneg _
      by_cases hlt : j < y
      · have hj1 : (j : Int) + 1 ≤ (y : Int) := by omega
        have hm0 : (0 : Int) ≤ (chs x j : Int) * ((x : Int) + ((j : Int) + 1)) := Int.mul_nonneg (by omega) (by omega)
        have hm1 : (chs x j : Int) * ((x : Int) + ((j : Int) + 1)) ≤ 12870 * 16 := Int.mul_le_mul (by omega) (by omega) (by omega) (by omega)
        generalize chs x j = c at *
        go_wp2
        refine ⟨⟨j + 1, by omega, by go_num, ?_⟩, by simp [intOf]; omega⟩
        rw [← HS.out]
      · obtain rfl : j = y := by omega
        go_wp2
        go_ret
        exact ⟨rfl, rfl⟩

set_option maxRecDepth 100000 in
set_option maxHeartbeats 2000000 in
theorem sum_impl (a : Option Addr) (n c : Nat) (h : List Int) (w : World) (hl : h.length = n) (hn : n ≤ 1000) (hin : ∀ x ∈ h, -65536 ≤ x ∧ x ≤ 65536) (hr : IRow w a h) :
    Calls Try.prog 43 #[.slice a n c] w fun e w' => e = .returned (.int .i64 (sumL h)) ∧ w = w' := by
  have HN := Lib.hid hl
  have HIN := Lib.hid hin
  have HR := Lib.hid hr
  clear hl hin hr
  go_enter Try.func43, Try.ntmps43
  go_wp2_with fail
  go_loop [3, 8] (fun x i => ∃ k : Nat, k ≤ n ∧ i = .int .i64 (k : Int) ∧ x = .int .i64 (sumL (h.take k))) (fun _ i => n - (intOf i).toNat)
  case atStart => exact ⟨0, Nat.zero_le _, rfl, rfl⟩
  case round =>
    obtain ⟨k, hk, rfl, rfl⟩ := hrel
    have hp := sumL_in 65536 (by omega) (l := h.take k) (fun x hx => HIN.out x (List.mem_of_mem_take hx))
    have hkl : (h.take k).length ≤ k := List.length_take_le _ _
    have hp0 : -65536000 ≤ sumL (h.take k) := by omega
    have hp1 : sumL (h.take k) ≤ 65536000 := by omega
    clear hp hkl
    by_cases hlt : k < n
    · have ja : k < h.length := by rw [HN.out]; exact hlt
      obtain ⟨ga, rfl, _, hca⟩ := HR.out k ja
      have HST := Lib.hid (sumL_take h k ja)
      obtain ⟨x0, x1⟩ := HIN.out h[k] (List.getElem_mem ja)
      generalize h[k] = x at *
      generalize sumL (h.take k) = p at *
      have hk0 : (0 : Int) ≤ (k : Int) := Int.natCast_nonneg _
      have hk1 : (k : Int) < (n : Int) := by omega
      clear ja
      go_wp2
      refine ⟨⟨k + 1, by omega, by go_num, ?_⟩, by simp [intOf]; omega⟩
      rw [HST.out]
    · obtain rfl : k = n := by omega
      have hall : h.take k = h := List.take_of_length_le (by rw [HN.out]; exact Nat.le_refl _)
      rw [hall]
      rw [hall] at hp0 hp1
      go_wp2
      go_ret
      exact ⟨rfl, rfl⟩

set_option maxRecDepth 100000 in
set_option maxHeartbeats 2000000 in
theorem room_impl (s : ByteArray) (w : World) (hm : s.size ≤ 1048576) :
    Calls Try.prog 15 #[.string s] w fun e w' => e = .returned (.int .i64 (roomI s.data.toList)) ∧ Below w.heap.size w w' := by
  cases hs : stripB s.data.toList with
  | false =>
    have hz : roomI s.data.toList = -1 := by unfold roomI; rw [hs]; rfl
    rw [hz]
    go_enter Try.func15, Try.ntmps15
    go_wp2_with fail
    refine (is_impl s _ hm).mono ?_
    rintro e w' ⟨rfl, hb⟩
    have HB := Lib.hid hb; clear hb
    rw [hs]
    go_wp2
    go_ret
    exact ⟨rfl, HB.out⟩
  | true =>
    have hz : roomI s.data.toList = sumL (hts (cnt 100 s.data.toList) s.data.toList) := by unfold roomI; rw [hs]; rfl
    have hin := strip_in hs
    have hlen : (hts (cnt 100 s.data.toList) s.data.toList).length ≤ 16 := by
      rw [hts_length]
      have h1 := cnt_le 102 s.data.toList
      have h2 := strip_size hs
      omega
    have HH := Lib.hid (fun w => heights_impl s w hm hs)
    have HI := Lib.hid (fun w => is_impl s w hm)
    rw [hs] at HI
    rw [hz]
    clear hz
    generalize hts (cnt 100 s.data.toList) s.data.toList = h at *
    have HIN := Lib.hid hin
    clear hin hs
    go_enter Try.func15, Try.ntmps15
    go_wp2_with fail
    refine (HI.out _).mono ?_
    rintro e w0 ⟨rfl, hb⟩
    have HB := Lib.hid hb; clear hb
    go_wp2_with fail
    refine (HH.out _).mono ?_
    rintro e w1 ⟨v, rfl, hb, ho⟩
    have HB := Lib.hid (HB.out.trans (hb.mono HB.out.size))
    have HO := Lib.hid ho
    clear hb ho HH HI
    obtain ⟨a, c, rfl, hr, _⟩ := HO.out.row
    have HR := Lib.hid hr
    clear hr
    go_wp2_with fail
    refine (sum_impl a h.length c h _ rfl (by omega) (fun x hx => by have := HIN.out x hx; omega) HR.out).mono ?_
    rintro e w' ⟨rfl, rfl⟩
    go_wp2
    go_ret
    exact ⟨rfl, HB.out⟩
end Go.Proofs.Ytjjmeenapnemdaa.Area
