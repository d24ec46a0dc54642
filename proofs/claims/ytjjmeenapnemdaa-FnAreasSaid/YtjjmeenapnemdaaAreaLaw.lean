/- What laws.FnAreas returns: true at every draw. -/
import Derived.Test.YtjjmeenapnemdaaAreaProp
import Derived.Test.YtjjmeenapnemdaaAt
namespace Go.Proofs.Ytjjmeenapnemdaa.Area
open Go.ChangeShapes Go.WideShapes Go.ChangeAt Go.RowKit Go.Sort
open Go.Proofs.Ytjjmeenapnemdaa.Strip Go.Proofs.Ytjjmeenapnemdaa.Strs Go.Proofs.Ytjjmeenapnemdaa.Card Go.Proofs.Ytjjmeenapnemdaa.Kerf Go.Proofs.Ytjjmeenapnemdaa.Order Go.Proofs.Ytjjmeenapnemdaa.Draw Go.Proofs.Ytjjmeenapnemdaa.Corner Go.Proofs.Ytjjmeenapnemdaa.Ints
set_option linter.unusedVariables false

theorem beq_of (s : ByteArray) (l : List UInt8) {b : Bool} (h : decide (s.data.toList = l) = b) : (s.toList == (⟨l.toArray⟩ : ByteArray).toList) = b := by
  rw [list_beq, ← h, Bool.eq_iff_iff, decide_eq_true_eq, decide_eq_true_eq]
  exact ⟨fun e => by rw [e], fun e => of_list e⟩

set_option maxRecDepth 100000 in
set_option maxHeartbeats 16000000 in
theorem areaProp (ca : Option Addr) (cl cc : Nat) (w : World) (hm : cl ≤ maxLen) (hr : RowIn w ca cl) :
    Calls Try.prog 3 #[.slice ca cl cc] w fun e w' => e = .returned (.bool true) ∧ Below w.heap.size w w' := by
  by_cases hbig : 1048576 < cl
  · have hd : decide (1048576 < (cl : Int)) = true := by simp; omega
    go_enter Try.func3, Try.ntmps3
    go_wp2_with fail
    refine (big_at ca cl cc w hm).mono ?_
    rintro e w' ⟨rfl, rfl⟩
    rw [hd]
    go_wp2
    go_ret
    exact ⟨rfl, Below.refl _ _⟩
  · have hd : decide (1048576 < (cl : Int)) = false := by simp; omega
    have HR := Lib.hid hr; clear hr
    go_enter Try.func3, Try.ntmps3
    go_wp2_with fail
    refine (big_at ca cl cc w hm).mono ?_
    rintro e w' ⟨rfl, rfl⟩
    rw [hd]
    go_wp2_with fail
    refine drawStrip_get ca cl cc w hm HR.out ?_
    intro l w1 hok hd1 hd5 hf1 hf5 hb1
    have HB := Lib.hid hb1
    have hs : stripB l = true := by
      unfold stripB
      rw [hok, frameB_iff.mpr (by omega)]
      rfl
    obtain ⟨s, hsl⟩ : ∃ s : ByteArray, s = ⟨l.toArray⟩ := ⟨_, rfl⟩
    rw [← hsl]
    have hl : s.data.toList = l := by rw [hsl]
    subst hl
    have hsz : s.size ≤ 1048576 := by
      have h1 := strip_size hs
      have h2 : s.data.toList.length = s.size := by simp
      omega
    obtain ⟨N, tl, S, A, n, bf, bh, hA⟩ := areas_of hs hd5 hf5
    clear hb1 hd hbig hsl hok
    have dn := fun w => down_spec s w hsz
    have fn := fun w => forward_spec s w hsz
    have hnum : numV 100 s.data.toList = (cnt 100 s.data.toList : Int) := by unfold numV; rw [hs]; rfl
    have hnum2 : numV 102 s.data.toList = (cnt 102 s.data.toList : Int) := by unfold numV; rw [hs]; rfl
    rw [hnum] at dn
    rw [hnum2] at fn
    have rm := fun w => room_impl s w hsz
    rw [hA.room] at rm
    have up := fun w => up_impl s w hsz
    rw [hA.abv] at up
    generalize cnt 100 s.data.toList = D at *
    generalize cnt 102 s.data.toList = F at *
    have tb := fun w => table_impl D F w
    rw [hA.tab] at tb
    have nm := fun w => num_impl D F w
    rw [hA.num] at nm
    have DN := Lib.hid dn
    have FN := Lib.hid fn
    have RM := Lib.hid rm
    have UP := Lib.hid up
    have TB := Lib.hid tb
    have NM := Lib.hid nm
    have HLEN := Lib.hid hA.len
    have HAT := Lib.hid hA.at1
    have HSUM := Lib.hid hA.sum
    have HMUL := Lib.hid hA.mul
    have HNS := Lib.hid (show (N ≤ 64) ∧ 0 ≤ S ∧ S ≤ 12870 ∧ 0 ≤ n ∧ n ≤ (N : Int) ∧ 1 ≤ A ∧ A ≤ S from ⟨hA.n64, hA.s1.1, hA.s1.2, hA.n0, hA.n1, hA.a0, hA.a1⟩)
    have HF1 := Lib.hid hA.f1
    have HF2 := Lib.hid hA.f2
    have HH1 := Lib.hid hA.h1
    have HH2 := Lib.hid hA.h2
    clear hnum hnum2 dn fn rm up tb nm hA
    go_wp2_with fail
    refine (DN.out _).mono ?_
    rintro e w' ⟨rfl, rfl⟩
    go_wp2_with fail
    refine (FN.out _).mono ?_
    rintro e w' ⟨rfl, rfl⟩
    go_wp2_with fail
    refine (TB.out _).mono ?_
    rintro e w2 ⟨v, rfl, hb, ho⟩
    have HB := Lib.hid (HB.out.trans (hb.mono HB.out.size))
    obtain ⟨a, c, rfl, hrow, _⟩ := ho.row
    rw [HLEN.out]
    have HT := Lib.hid hrow
    clear hb ho hrow TB
    go_wp2_with fail
    refine (RM.out _).mono ?_
    rintro e w3 ⟨rfl, hb⟩
    have HB := Lib.hid (HB.out.trans (hb.mono HB.out.size))
    have HT := Lib.hid (HT.out.below hb)
    clear hb RM
    go_wp2_with fail
    have HIN := Lib.hid (show ∀ k, k ≤ N + 1 → 0 ≤ sumL (tl.take k) ∧ sumL (tl.take k) ≤ 65536 * 65 from fun k hk => by
      have h64 := HNS.out.1
      have h := sumL_low (l := tl.take k) (c := 65536) (fun x hx => by
        obtain ⟨i, hi, e⟩ := List.getElem_of_mem (List.mem_of_mem_take hx)
        obtain ⟨y, h1, _, _, _, h5⟩ := HAT.out i (by have := HLEN.out; omega)
        rw [List.getElem?_eq_getElem hi, e] at h1
        have := Option.some.inj h1
        omega)
      have hl : (tl.take k).length ≤ k := List.length_take_le _ _
      omega)
    go_loopw [8, 9] (fun x i wr => ∃ k : Nat, k ≤ N + 1 ∧ i = .int .i64 (k : Int) ∧ x = .int .i64 (sumL (tl.take k)) ∧ Hid (Below w3.heap.size w3 wr)) (fun _ i _ => N + 1 - (intOf i).toNat)
    case atStart => exact ⟨0, Nat.zero_le _, rfl, rfl, Below.refl _ _⟩
    case round =>
      obtain ⟨k, hk, rfl, rfl, HBR⟩ := hrel
      have hk0 : (0 : Int) ≤ (k : Int) := Int.natCast_nonneg _
      obtain ⟨i1, i2⟩ := HIN.out k hk
      by_cases hlt : k < N + 1
      · have h64 : (N : Int) ≤ 64 := by have := HNS.out.1; omega
        have hN0 : (0 : Int) ≤ (N : Int) := Int.natCast_nonneg _
        have hk1 : (k : Int) < (N : Int) + 1 := by omega
        obtain ⟨x, x1, x2, x3, x4, x5⟩ := HAT.out k (by omega)
        have hka : k < tl.length := by rw [HLEN.out]; exact hlt
        have hkb : N - k < tl.length := by rw [HLEN.out]; omega
        obtain ⟨g, rfl, hg, hc1⟩ := (HT.out.below HBR.out) k hka
        obtain ⟨g', e, _, hc2⟩ := (HT.out.below HBR.out) (N - k) hkb
        cases e
        have HST := Lib.hid (sumL_take tl k hka)
        rw [List.getElem?_eq_getElem hka] at x1
        rw [List.getElem?_eq_getElem hkb] at x2
        have y1 := Option.some.inj x1
        have y2 := Option.some.inj x2
        rw [y1] at hc1 HST
        rw [y2] at hc2
        have wi := fun w => with_impl D F k w
        rw [x3] at wi
        have WI := Lib.hid wi
        clear wi y1 y2 x1 x2 x3 hg
        clear hka hkb
        generalize sumL (tl.take k) = p at *
        have hsm : IntKind.i64.wrap (p + (x : Int)) = p + (x : Int) := IntWalk.i64_in _ (by omega)
        obtain ⟨j, hj⟩ : ∃ j, N - k = j := ⟨_, rfl⟩
        rw [hj] at hc2
        have hj0 : (0 : Int) ≤ (j : Int) := Int.natCast_nonneg _
        have hj1 : (j : Int) < (N : Int) + 1 := by omega
        have e1 : IntKind.i64.wrap ((N : Int) + 1 - 1) = (N : Int) := by rw [IntWalk.i64_in _ (by omega)]; omega
        have e2 : IntKind.i64.wrap ((N : Int) - (k : Int)) = (j : Int) := by rw [IntWalk.i64_in _ (by omega)]; omega
        have e3 : IntKind.i64.wrap (N : Int) = (N : Int) := IntWalk.i64_in _ (by omega)
        have t1 : decide ((x : Int) < 1) = false := by simp; omega
        have t2 : ((x : Int) != (x : Int)) = false := by simp
        clear hj
        go_wp2_with fail
        have q1 := cell_regrown hc1
        have q2 := cell_regrown hc2
        have QW := Lib.hid (fun (dd : Nat) (os : Array Obj) => Calls.regrown_of (WI.out (grow (redrawn wr dd) os)))
        have HBQ := Lib.hid (fun dq osq => HBR.out.trans ((below_regrown wr dq osq).mono HBR.out.size))
        clear hc1 hc2 WI HBR
        refine wp_region_quiet_below (by kernel_rfl) (by kernel_rfl) ?_
        repeat (go_big_quiet_step ((go_at_call 16; with_reducible exact QW.out _ _)))
        refine wpQuiet_nil ?_
        intro _ hw'
        obtain ⟨⟨dq, osq⟩, hw''⟩ := hw'
        subst hw''
        go_wp2
        exact ⟨⟨k + 1, by omega, by go_num, by rw [HST.out], Lib.hid (HBQ.out dq osq)⟩, by simp [intOf]; omega⟩
      · obtain rfl : k = N + 1 := by omega
        have hall : tl.take (N + 1) = tl := List.take_of_length_le (by rw [HLEN.out]; exact Nat.le_refl _)
        rw [hall, HSUM.out, show ((N + 1 : Nat) : Int) = (N : Int) + 1 from by omega]
        clear hall hlt i1 i2
        have HB := Lib.hid (HB.out.trans (HBR.out.mono HB.out.size))
        clear HBR HT HIN HAT
        go_wp2_with fail
        refine drawCard_get ca cl cc wr hm (HR.out.below HB.out (Nat.le_refl _)) ?_
        intro d f a2 c2 sl w4 hd4 hf4 hl6 hcb hb4 ho4
        have HB := Lib.hid (HB.out.trans (hb4.mono HB.out.size))
        obtain ⟨m, hm0⟩ : ∃ m, sl.length = m := ⟨_, rfl⟩
        have HRW := Lib.hid (ho4.row2.2)
        have HL := Lib.hid hm0
        have hb := cardB_iff.1 hcb
        have HST := Lib.hid (show ∀ x ∈ sl, stripB x.data.toList = true from fun x hx => good_strip hb.1 (hb.2.2.2 x hx))
        have HZ := Lib.hid (show ∀ x ∈ sl, x.size ≤ 1048576 from fun x hx => by
          have h1 := strip_size (HST.out x hx)
          have h2 : x.data.toList.length = x.size := by simp
          omega)
        have HIN := Lib.hid (show ∀ x ∈ sl, -256 ≤ roomI x.data.toList ∧ roomI x.data.toList ≤ 256 from fun x hx => room_in (HST.out x hx))
        have HVOL := Lib.hid (show volI d f sl = sumL (roomsL sl) by unfold volI; rw [hcb]; rfl)
        have HV := Lib.hid (Var.new w4 d f (.slice a2 m c2))
        have HB4 := Lib.hid (alloc_below w4 (.cells #[.int .i64 d, .int .i64 f, .slice a2 m c2] 31))
        have hm10 : m ≤ 10 := by omega
        rw [hm0]
        clear hb4 ho4 hm0 hb hcb hd4 hf4 hl6
        go_wp2_with fail
        generalize (w4.alloc (.cells #[.int .i64 d, .int .i64 f, .slice a2 m c2] 31)) = W4 at *
        go_loopw [11, 12] (fun x i wr => ∃ k : Nat, k ≤ m ∧ i = .int .i64 (k : Int) ∧ x = .int .i64 (sumL ((roomsL sl).take k)) ∧ Hid (Var wr w4.heap.size d f (.slice a2 m c2)) ∧ Hid (Below w4.heap.size w4 wr)) (fun _ i _ => m - (intOf i).toNat)
        case atStart => exact ⟨0, Nat.zero_le _, rfl, rfl, HV, HB4⟩
        case round =>
          obtain ⟨k, hk, rfl, rfl, HVR, HBR⟩ := hrel
          clear HV HB4
          obtain ⟨k0, k1, k2⟩ := HVR.out.cells
          have hp := sumL_in 256 (by omega) (l := (roomsL sl).take k) (fun x hx => by
            obtain ⟨s, hs, rfl⟩ := List.mem_map.1 (List.mem_of_mem_take hx)
            exact HIN.out s hs)
          have hkl : ((roomsL sl).take k).length ≤ k := List.length_take_le _ _
          have hp0 : -2560 ≤ sumL ((roomsL sl).take k) := by omega
          have hp1 : sumL ((roomsL sl).take k) ≤ 2560 := by omega
          clear hp hkl
          by_cases hlt : k < m
          · have hk0 : (0 : Int) ≤ (k : Int) := Int.natCast_nonneg _
            have hk1 : (k : Int) < (m : Int) := by omega
            have hkl : k < sl.length := by rw [HL.out]; exact hlt
            obtain ⟨g, rfl, hg, hc⟩ := Row.at HRW.out HBR.out k hkl
            have HX := Lib.hid (fun w' : World => room_spec sl[k] w' (HZ.out _ (List.getElem_mem hkl)))
            obtain ⟨y0, y1⟩ := HIN.out sl[k] (List.getElem_mem hkl)
            have HSTP := Lib.hid (show sumL ((roomsL sl).take (k + 1)) = sumL ((roomsL sl).take k) + roomI sl[k].data.toList from by
              rw [sumL_take _ k (by unfold roomsL; rw [List.length_map]; exact hkl)]
              unfold roomsL
              rw [List.getElem_map])
            generalize roomI sl[k].data.toList = y at *
            generalize sumL ((roomsL sl).take k) = p at *
            generalize sl[k] = s' at *
            go_wp2_with fail
            refine (HX.out _).mono ?_
            rintro e w5 ⟨rfl, hb3⟩
            have HB3 := Lib.hid (HBR.out.trans (hb3.mono HBR.out.size))
            have HV3 := Lib.hid (HVR.out.below hb3)
            clear hb3 k0 k1 k2
            go_wp2
            go_roundw
            case rel => exact ⟨k + 1, by omega, by go_num, by rw [HSTP.out], HV3, HB3⟩
            case measure => simp [intOf]; omega
          · obtain rfl : k = m := by omega
            have hall : (roomsL sl).take k = roomsL sl := List.take_of_length_le (by unfold roomsL; rw [List.length_map, HL.out]; exact Nat.le_refl _)
            rw [hall, ← HVOL.out]
            rw [hall] at hp0 hp1
            rw [← HVOL.out] at hp0 hp1
            have vm := fun (w' : World) (h : Row w' a2 sl) => vol_impl d f a2 k c2 sl w' HL.out (by omega) HZ.out h
            obtain ⟨V, hV⟩ : ∃ V, volI d f sl = V := ⟨_, rfl⟩
            rw [hV] at vm hp0 hp1 ⊢
            have VM := Lib.hid vm
            have fs := fun w => flat_spec D F w
            have hs2 := fun w => high_spec D F w
            have bx := beq_of s _ HF2.out
            have by' := beq_of s _ HH2.out
            obtain ⟨X, hX⟩ : ∃ X : ByteArray, (⟨(flatL D F).toArray⟩ : ByteArray) = X := ⟨_, rfl⟩
            obtain ⟨Y, hY⟩ : ∃ Y : ByteArray, (⟨(highL D F).toArray⟩ : ByteArray) = Y := ⟨_, rfl⟩
            rw [hX] at fs bx
            rw [hY] at hs2 by'
            have FS := Lib.hid fs
            have HS := Lib.hid hs2
            have NB := Lib.hid (fun w => num_impl 2 2 w)
            rw [six] at NB
            clear vm fs hs2 hX hY hV hall hk hlt
            have hmul := HMUL.out
            have bf1 := HF1.out
            have bh1 := HH1.out
            obtain ⟨n1, n2, n3, n4, n5, n6, n7⟩ := HNS.out
            have hN0 : (0 : Int) ≤ (N : Int) := Int.natCast_nonneg _
            have hN64 : (N : Int) ≤ 64 := by omega
            go_wp2_with fail
            refine (UP.out _).mono ?_
            rintro e w6 ⟨rfl, hb⟩
            have HBR := Lib.hid (HBR.out.trans (hb.mono HBR.out.size))
            have HVR := Lib.hid (HVR.out.below hb)
            clear hb
            go_wp2_with fail
            refine (NM.out _).mono ?_
            rintro e w' ⟨rfl, rfl⟩
            go_wp2_with fail
            refine (FS.out _).mono ?_
            rintro e w7 ⟨rfl, hb⟩
            have HBR := Lib.hid (HBR.out.trans (hb.mono HBR.out.size))
            have HVR := Lib.hid (HVR.out.below hb)
            clear hb
            go_wp2_with fail
            refine (HS.out _).mono ?_
            rintro e w8 ⟨rfl, hb⟩
            have HBR := Lib.hid (HBR.out.trans (hb.mono HBR.out.size))
            have HVR := Lib.hid (HVR.out.below hb)
            clear hb k0 k1 k2
            obtain ⟨k0, k1, k2⟩ := HVR.out.cells
            go_wp2_with fail
            refine (VM.out _ (HRW.out.since (Nat.le_refl _) HBR.out)).mono ?_
            rintro e w9 ⟨rfl, hb⟩
            have HBR := Lib.hid (HBR.out.trans (hb.mono HBR.out.size))
            clear hb k0 k1 k2
            go_wp2_with fail
            refine (NB.out _).mono ?_
            rintro e w' ⟨rfl, rfl⟩
            go_wp2
            go_ret
            exact ⟨rfl, HB.out.trans (HBR.out.mono HB.out.size)⟩
end Go.Proofs.Ytjjmeenapnemdaa.Area
