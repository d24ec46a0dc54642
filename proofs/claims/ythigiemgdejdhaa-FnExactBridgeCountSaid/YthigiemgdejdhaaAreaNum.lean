/- What the model and the program of chapter 9 return: CountStrips, sumOf, RoomUnder. -/
import Derived.Test.YthigiemgdejdhaaAreaMath
import Derived.Test.YthigiemgdejdhaaKerfImpl
import Derived.Test.YthigiemgdejdhaaStripMany
import Derived.Test.YthigiemgdejdhaaRoom
namespace Go.Proofs.Ythigiemgdejdhaa.Area
open Go.ChangeShapes Go.WideShapes Go.ChangeAt Go.RowKit
open Go.Proofs.Ythigiemgdejdhaa.Strip Go.Proofs.Ythigiemgdejdhaa.Ints Go.Proofs.Ythigiemgdejdhaa.Corner Go.Proofs.Ythigiemgdejdhaa.Kerf Go.Proofs.Ythigiemgdejdhaa.Order
set_option linter.unusedVariables false

theorem chs_step (a k : Nat) : (chs a k : Int) * ((a : Int) + ((k : Int) + 1)) / ((k : Int) + 1) = (chs a (k + 1) : Int) := by
  show _ = ((chs a k * (a + (k + 1)) / (k + 1) : Nat) : Int)
  rw [Int.natCast_ediv, Int.natCast_mul, Int.natCast_add, Int.natCast_add]
  rfl

set_option maxRecDepth 100000 in
set_option maxHeartbeats 2000000 in
theorem sum_impl (a : Option Addr) (n c : Nat) (h : List Int) (w : World) (hl : h.length = n) (hn : n ≤ 1000) (hin : ∀ x ∈ h, -65536 ≤ x ∧ x ≤ 65536) (hr : IRow w a h) :
    Calls Try.prog 14 #[.slice a n c] w fun e w' => e = .returned (.int .i64 (sumL h)) ∧ w = w' := by
  have HN := Lib.hid hl
  have HIN := Lib.hid hin
  have HR := Lib.hid hr
  clear hl hin hr
  go_enter Try.func14, Try.ntmps14
  go_wp2_with fail
  go_loop [3, 8] (fun x i => ∃ k : Nat, k ≤ n ∧ i = .int .i64 (k : Int) ∧ x = .int .i64 (sumL (h.take k))) (fun _ i => n - (intOf i).toNat)
  case atStart => exact ⟨0, Nat.zero_le _, rfl, rfl⟩
  case round =>
    obtain ⟨k, hk, rfl, rfl⟩ := hrel
    have hp := sumL_in 65536 (by omega) (l := h.take k) (fun x hx => HIN.out x (List.mem_of_mem_take hx))
    have hkl : (h.take k).length ≤ k := List.length_take_le _ _
    have hp0 : -65536000 ≤ sumL (h.take k) := by omega
    have hp1 : sumL (h.take k) ≤ 65536000 := by omega
    clear hp hkl
    by_cases hlt : k < n
    · have ja : k < h.length := by rw [HN.out]; exact hlt
      obtain ⟨ga, rfl, _, hca⟩ := HR.out k ja
      have HST := Lib.hid (sumL_take h k ja)
      obtain ⟨x0, x1⟩ := HIN.out h[k] (List.getElem_mem ja)
      generalize h[k] = x at *
      generalize sumL (h.take k) = p at *
      have hk0 : (0 : Int) ≤ (k : Int) := Int.natCast_nonneg _
      have hk1 : (k : Int) < (n : Int) := by omega
      clear ja
      go_wp2
      refine ⟨⟨k + 1, by omega, by go_num, ?_⟩, by simp [intOf]; omega⟩
      rw [HST.out]
    · obtain rfl : k = n := by omega
      have hall : h.take k = h := List.take_of_length_le (by rw [HN.out]; exact Nat.le_refl _)
      rw [hall]
      rw [hall] at hp0 hp1
      go_wp2
      go_ret
      exact ⟨rfl, rfl⟩

end Go.Proofs.Ythigiemgdejdhaa.Area
