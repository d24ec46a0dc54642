/- What the program of chapter 9 returns: VolumeOf. -/
import Derived.Test.YtjjmeenapnemdaaAreaNum
import Derived.Test.YtjjmeenapnemdaaCardImpl2
namespace Go.Proofs.Ytjjmeenapnemdaa.Area
open Go.ChangeShapes Go.WideShapes Go.ChangeAt Go.RowKit
open Go.Proofs.Ytjjmeenapnemdaa.Strip Go.Proofs.Ytjjmeenapnemdaa.Strs Go.Proofs.Ytjjmeenapnemdaa.Card Go.Proofs.Ytjjmeenapnemdaa.Kerf Go.Proofs.Ytjjmeenapnemdaa.Corner Go.Proofs.Ytjjmeenapnemdaa.Order
set_option linter.unusedVariables false

set_option maxRecDepth 100000 in
set_option maxHeartbeats 2000000 in
theorem vol_impl (d f : Int) (a : Option Addr) (n c : Nat) (l : List ByteArray) (w : World) (hl : l.length = n) (hn : n ≤ 1048576) (hz : ∀ s ∈ l, s.size ≤ 1048576) (hr : Row w a l) :
    Calls Try.prog 23 #[.agg #[.int .i64 d, .int .i64 f, .slice a n c]] w fun e w' => e = .returned (.int .i64 (volI d f l)) ∧ Below w.heap.size w w' := by
  have HOK := Lib.hid (fun (w' : World) (h : Row w' a l) => ok_impl d f a n c l w' hl hn hz h)
  have HL := Lib.hid hl
  have HR := Lib.hid hr
  have HZ := Lib.hid hz
  have HW := Lib.hid (alloc_below w (.cells #[.int .i64 d, .int .i64 f, .slice a n c] 31))
  have HV := Lib.hid (Var.new w d f (.slice a n c))
  clear hl hr hz
  cases hcb : cardB d f l with
  | false =>
    have hv : volI d f l = -1 := by unfold volI; rw [hcb]; rfl
    rw [hv]
    rw [hcb] at HOK
    go_enter Try.func23, Try.ntmps23
    go_wp2_with fail
    refine (HOK.out _ (HR.out.since (Nat.le_refl _) HW.out)).mono ?_
    rintro e w1 ⟨rfl, hb⟩
    have HB := Lib.hid (HW.out.trans (hb.mono HW.out.size))
    clear hb
    go_wp2
    go_ret
    exact ⟨rfl, HB.out⟩
  | true =>
    have hv : volI d f l = sumL (roomsL l) := by unfold volI; rw [hcb]; rfl
    rw [hv]
    rw [hcb] at HOK
    have h10 : n ≤ 10 := by have := (cardB_iff.1 hcb).2.2.1; rw [HL.out] at this; exact this
    have HIN := Lib.hid (show ∀ s ∈ l, -256 ≤ roomI s.data.toList ∧ roomI s.data.toList ≤ 256 from fun s hs => room_in (good_strip (cardB_iff.1 hcb).1 ((cardB_iff.1 hcb).2.2.2 s hs)))
    clear hv hcb
    go_enter Try.func23, Try.ntmps23
    go_wp2_with fail
    generalize (w.alloc (.cells #[.int .i64 d, .int .i64 f, .slice a n c] 31)) = W at *
    refine (HOK.out _ (HR.out.since (Nat.le_refl _) HW.out)).mono ?_
    rintro e w1 ⟨rfl, hb⟩
    have HB := Lib.hid (HW.out.trans (hb.mono HW.out.size))
    have HV := Lib.hid (HV.out.below hb)
    clear hb HOK HW
    obtain ⟨k0, k1, k2⟩ := HV.out.cells
    go_wp2_with fail
    clear k0 k1 k2
    go_loopw [3, 12] (fun x i wr => ∃ k : Nat, k ≤ n ∧ i = .int .i64 (k : Int) ∧ x = .int .i64 (sumL ((roomsL l).take k)) ∧ Hid (Var wr w.heap.size d f (.slice a n c)) ∧ Hid (Below w.heap.size w wr)) (fun _ i _ => n - (intOf i).toNat)
    case atStart => exact ⟨0, Nat.zero_le _, rfl, rfl, HV, HB⟩
    case round =>
      obtain ⟨k, hk, rfl, rfl, HVR, HBR⟩ := hrel
      clear HV HB
      have hp := sumL_in 256 (by omega) (l := (roomsL l).take k) (fun x hx => by
        obtain ⟨s, hs, rfl⟩ := List.mem_map.1 (List.mem_of_mem_take hx)
        exact HIN.out s hs)
      have hkl : ((roomsL l).take k).length ≤ k := List.length_take_le _ _
      have hp0 : -2560 ≤ sumL ((roomsL l).take k) := by omega
      have hp1 : sumL ((roomsL l).take k) ≤ 2560 := by omega
      clear hp hkl
      by_cases hlt : k < n
      · have hk0 : (0 : Int) ≤ (k : Int) := Int.natCast_nonneg _
        have hk1 : (k : Int) < (n : Int) := by omega
        have hkl : k < l.length := by rw [HL.out]; exact hlt
        obtain ⟨g, rfl, hg, hc⟩ := Row.at HR.out HBR.out k hkl
        have HX := Lib.hid (fun w' : World => room_impl l[k] w' (HZ.out _ (List.getElem_mem hkl)))
        obtain ⟨y0, y1⟩ := HIN.out l[k] (List.getElem_mem hkl)
        have HST := Lib.hid (show sumL ((roomsL l).take (k + 1)) = sumL ((roomsL l).take k) + roomI l[k].data.toList from by
          rw [sumL_take _ k (by unfold roomsL; rw [List.length_map]; exact hkl)]
          unfold roomsL
          rw [List.getElem_map])
        generalize roomI l[k].data.toList = y at *
        generalize sumL ((roomsL l).take k) = p at *
        generalize l[k] = s at *
        go_wp2_with fail
        refine (HX.out _).mono ?_
        rintro e w3 ⟨rfl, hb3⟩
        have HB3 := Lib.hid (HBR.out.trans (hb3.mono HBR.out.size))
        have HV3 := Lib.hid (HVR.out.below hb3)
        clear hb3
        go_wp2
        go_roundw
        case rel => exact ⟨k + 1, by omega, by go_num, by rw [HST.out], HV3, HB3⟩
        case measure => simp [intOf]; omega
      · obtain rfl : k = n := by omega
        have hall : (roomsL l).take k = roomsL l := List.take_of_length_le (by unfold roomsL; rw [List.length_map, HL.out]; exact Nat.le_refl _)
        rw [hall]
        rw [hall] at hp0 hp1
        go_wp2
        go_ret
        exact ⟨rfl, HBR.out⟩

end Go.Proofs.Ytjjmeenapnemdaa.Area
