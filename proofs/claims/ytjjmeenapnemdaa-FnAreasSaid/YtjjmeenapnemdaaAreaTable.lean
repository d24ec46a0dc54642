/- What the program of chapter 9 returns: RoomTable. -/
import Derived.Test.YtjjmeenapnemdaaAreaTab
import Derived.Test.YtjjmeenapnemdaaAreaNum
import Derived.Test.YtjjmeenapnemdaaKit
namespace Go.Proofs.Ytjjmeenapnemdaa.Area
open Go.ChangeShapes Go.WideShapes Go.ChangeAt Go.RowKit
open Go.Proofs.Ytjjmeenapnemdaa.Strip Go.Proofs.Ytjjmeenapnemdaa.Ints Go.Proofs.Ytjjmeenapnemdaa.Corner Go.Proofs.Ytjjmeenapnemdaa.Order
set_option linter.unusedVariables false

set_option maxRecDepth 100000 in
set_option maxHeartbeats 4000000 in
theorem table_impl (d f : Int) (w : World) :
    Calls Try.prog 14 #[.int .i64 d, .int .i64 f] w (PostRow w (tabL d f)) := by
  cases hf : frameB d f with
  | false =>
    have hz : tabL d f = [] := by unfold tabL; rw [hf]; rfl
    rw [hz]
    go_enter Try.func14, Try.ntmps14
    go_wp2_with fail
    refine (frame_impl _ _ _).mono ?_
    rintro e w' ⟨rfl, rfl⟩
    rw [hf]
    go_wp2
    go_ret
    exact ⟨_, rfl, Below.refl _ _, Own.nil _ _⟩
  | true =>
    have hz : tabL d f = tabN d.toNat f.toNat := by unfold tabL; rw [hf]; rfl
    rw [hz]
    obtain ⟨q1, q2, q3, q4⟩ := frameB_iff.mp hf
    obtain ⟨x, rfl⟩ := Int.eq_ofNat_of_zero_le (show 0 ≤ d by omega)
    obtain ⟨y, rfl⟩ := Int.eq_ofNat_of_zero_le (show 0 ≤ f by omega)
    show Calls _ _ _ _ (PostRow w (tabN x y))
    rw [← rowR_take (d := x) (f := y) (by omega) (by omega)]
    have HF := Lib.hid hf
    have HRI := Lib.hid (fun w => rooms_impl x y (by omega) (by omega) (by omega) (by omega) w)
    have h64 : x * y ≤ 8 * 8 := Nat.mul_le_mul (by omega) (by omega)
    have hxy : (x : Int) * (y : Int) = ((x * y : Nat) : Int) := by simp
    obtain ⟨m, hm⟩ : ∃ m, x * y = m := ⟨_, rfl⟩
    rw [hm] at hxy h64 ⊢
    have HXY := Lib.hid hxy
    have hLL := rowR_length x y
    generalize rowR x y = l at *
    have HLL := Lib.hid hLL
    clear hz hf hm hxy hLL
    obtain ⟨z1, hz1, he1⟩ := zero65
    have HE1 := Lib.hid he1
    have HZ1 := Lib.hid hz1
    clear he1 hz1
    go_enter Try.func14, Try.ntmps14
    go_wp2_with fail
    refine (frame_impl _ _ _).mono ?_
    rintro e w' ⟨rfl, rfl⟩
    rw [HF.out]
    go_wp2_with fail
    refine (HRI.out _).mono ?_
    rintro e w1 ⟨rfl, hb⟩
    have HB := Lib.hid hb
    have hz1 := HZ1.out w1
    clear hb HRI HF
    have HONE := Lib.hid (show (icells l).toArray.all (·.oneCell') = true by
      rw [Array.all_eq_true_iff_forall_mem]
      intro v hv
      unfold icells at hv
      simp at hv
      obtain ⟨x, _, rfl⟩ := hv
      rfl)
    have HS2 := Lib.hid (show (icells l).toArray.size = 65 by simpa [icells] using HLL.out)
    have HI2 := Lib.hid (show (Try.prog.info? 51).map (·.size) = some (icells l).toArray.size by rw [HS2.out]; kernel_rfl)
    have HZS := Lib.hid (show z1.size = (icells l).toArray.size by rw [HE1.out, HS2.out]; simp [icells])
    have HNEW := Lib.hid (heap_alloc_new w1 (.cells z1 51))
    have HFIN := Lib.hid (show ArrT ((w1.alloc (.cells z1 51)).setRow w1.heap.size (icells l).toArray) w1.heap.size 51 l from setRow_heap _ w1.heap.size _ (icells l).toArray _ _ HNEW.out)
    have HB5 := Lib.hid (below_setRow (HB.out.alloc HB.out.size (.cells z1 51)) HB.out.size (icells l).toArray)
    have hxy := HXY.out
    have hm0 : (0 : Int) ≤ (m : Int) := Int.natCast_nonneg _
    have hm1 : (m : Int) ≤ 64 := by omega
    have hm2 : (m : Int) + 1 ≤ 65 := by omega
    have hm3 : (0 : Int) ≤ (m : Int) + 1 := by omega
    have hm4 : ((m : Int) + 1).toNat = m + 1 := by omega
    clear HB HE1 HXY HZ1
    go_wp2_with (with_reducible refine wpList_store_row rfl 51 (.tmp 5) (.tmp 12) rfl w1.heap.size (icells l).toArray rfl rfl 51 z1 HNEW.out HI2.out HZS.out HONE.out ?_)
    clear hxy HNEW HONE HI2 HS2 HZS hz1
    generalize (w1.alloc (.cells z1 51)).setRow w1.heap.size (icells l).toArray = W5 at *
    generalize w1.heap.size = G at *
    have hcl := Try.slices_Clone_int G 0 (m + 1) 65 l W5 (by rw [HLL.out]; omega) (by omega) (fun j hj => by
      rw [Nat.zero_add]
      exact HFIN.out.cell (by rw [List.getElem?_eq_getElem hj]; simp [hj]))
    refine hcl.mono ?_
    rintro e w6 ⟨v, rfl, ho, _, hb⟩
    have HB6 := Lib.hid (HB5.out.trans (hb.mono HB5.out.size))
    have HO : Hid (Own w6 w.heap.size v (l.take (m + 1))) := by
      refine Own.mono (base := W5.heap.size) ?_ HB5.out.size
      show World.ownsRow _ _ _ _ _ _ _
      rw [List.length_take, HLL.out, Nat.min_eq_left (by omega)]
      exact ho
    clear ho hb
    go_wp2
    go_ret
    exact ⟨v, rfl, HB6.out, HO.out⟩
end Go.Proofs.Ytjjmeenapnemdaa.Area
