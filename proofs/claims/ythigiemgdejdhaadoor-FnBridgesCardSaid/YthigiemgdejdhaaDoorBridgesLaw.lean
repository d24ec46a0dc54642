/- The property of chapter 16: the walk. -/
import Derived.Test.YthigiemgdejdhaaDoorTabProp
import Derived.Test.YthigiemgdejdhaaDoorDrawBridge
import Derived.Test.YthigiemgdejdhaaDoorLooseImpl
import Derived.Test.YthigiemgdejdhaaDoorRoom
import Derived.Test.YthigiemgdejdhaaDoorPlaceSpec
import Derived.Test.YthigiemgdejdhaaDoorBridgesA
namespace Go.Proofs.YthigiemgdejdhaaDoor.Tab
open Go.ChangeShapes Go.WideShapes Go.ChangeAt Go.RowKit
open Go.Proofs.YthigiemgdejdhaaDoor.Strip Go.Proofs.YthigiemgdejdhaaDoor.Kerf Go.Proofs.YthigiemgdejdhaaDoor.Order Go.Proofs.YthigiemgdejdhaaDoor.Area Go.Proofs.YthigiemgdejdhaaDoor.Errs Go.Proofs.YthigiemgdejdhaaDoor.Draw
set_option linter.unusedVariables false

set_option maxRecDepth 100000 in
set_option maxHeartbeats 8000000 in
theorem bridges (ca : Option Addr) (cl cc : Nat) (a : Addr) (w : World) (hm : cl ≤ maxLen) (hr : RowIn w ca cl) (hS : Sent w a) :
    Calls Tryd.prog 3 #[.slice ca cl cc] w fun e w' => e = .returned (.bool true) ∧ Below w.heap.size w w' := by
  by_cases hbig : 1048576 < cl
  · have hd : decide (1048576 < (cl : Int)) = true := by simp; omega
    go_enter Tryd.func3, Tryd.ntmps3
    go_wp2_with fail
    refine (big_at ca cl cc w hm).mono ?_
    rintro e w' ⟨rfl, rfl⟩
    rw [hd]
    go_wp2
    go_ret
    exact ⟨rfl, Below.refl _ _⟩
  · have hd : decide (1048576 < (cl : Int)) = false := by simp; omega
    have HR := Lib.hid hr
    have HS := Lib.hid hS
    clear hr hS
    go_enter Tryd.func3, Tryd.ntmps3
    go_wp2_with fail
    refine (big_at ca cl cc w hm).mono ?_
    rintro e w' ⟨rfl, rfl⟩
    rw [hd]
    go_wp2_with fail
    refine drawBridge_get ca cl cc w hm HR.out ?_
    intro s p q t w1 hs hl hb1
    obtain ⟨_, _, _, _, hts⟩ := hl
    replace HS := Lib.hid (HS.out.below hb1)
    have HB := Lib.hid hb1
    clear hb1 hd hbig HR
    have HOK := Lib.hid (fun w h => okB_impl s p q t a w (by omega) (by omega) h)
    have HBR := Lib.hid (fun w h => bridged_impl s p q t a w (by omega) (by omega) h)
    have HRO := Lib.hid (fun w h => roomB_impl s p q t a w (by omega) (by omega) h)
    have HLO := Lib.hid (fun w h => loose_impl s p q t a w (by omega) (by omega) h)
    have HSP := Lib.hid (fun w => okB_spec s p q t w (by omega) (by omega))
    go_wp2_with fail
    have hv0 := GVar.new w1 p q t
    have hb := below_new w1 (.cells #[.int .i64 p, .int .i64 q, .string t] 25)
    replace HS := Lib.hid (HS.out.below hb)
    replace HB := Lib.hid (HB.out.trans (hb.mono HB.out.size))
    have HV := Lib.hid hv0
    obtain ⟨v0, v1, v2⟩ := hv0.cells
    clear hv0 hb
    cases hok : okB s.data.toList p q t.data.toList with
    | false =>
      have hbs : bridgeS s p q t = ⟨#[]⟩ := by unfold bridgeS; rw [hok]; rfl
      have hrb : roomB s.data.toList p q t.data.toList = -1 := by
        unfold roomB bridgeL areaI
        rw [hok]
        rw [if_neg (show ¬ (false = true) by decide), if_neg]
        intro h
        have h2 := (same_facts h).2.1
        exact absurd h2 (by decide)
      have hlb : looseB s.data.toList p q t.data.toList = false := by unfold looseB; rw [hok]; rfl
      rw [hok] at HOK HSP
      rw [hbs] at HBR
      rw [hrb] at HRO
      rw [hlb] at HLO
      have HLIT := Lib.hid (fun w h => okB_impl ⟨#[100, 102]⟩ 0 2 ⟨#[102, 100]⟩ a w (by decide) (by decide) h)
      rw [show okB (⟨#[100, 102]⟩ : ByteArray).data.toList 0 2 (⟨#[102, 100]⟩ : ByteArray).data.toList = true by decide] at HLIT
      clear hok hbs hrb hlb
      refine (HOK.out _ HS.out).mono ?_
      rintro e w3 ⟨rfl, hb⟩
      replace HS := Lib.hid (HS.out.below hb)
      replace HV := Lib.hid (HV.out.below hb)
      replace HB := Lib.hid (HB.out.trans (hb.mono HB.out.size))
      clear hb v0 v1 v2
      obtain ⟨v0, v1, v2⟩ := HV.out.cells
      go_wp2_with fail
      refine (HBR.out _ HS.out).mono ?_
      rintro e w4 ⟨rfl, hb⟩
      replace HS := Lib.hid (HS.out.below hb)
      replace HV := Lib.hid (HV.out.below hb)
      replace HB := Lib.hid (HB.out.trans (hb.mono HB.out.size))
      clear hb v0 v1 v2
      obtain ⟨v0, v1, v2⟩ := HV.out.cells
      go_wp2_with fail
      refine (HRO.out _ HS.out).mono ?_
      rintro e w5 ⟨rfl, hb⟩
      replace HS := Lib.hid (HS.out.below hb)
      replace HV := Lib.hid (HV.out.below hb)
      replace HB := Lib.hid (HB.out.trans (hb.mono HB.out.size))
      clear hb v0 v1 v2
      obtain ⟨v0, v1, v2⟩ := HV.out.cells
      go_wp2_with fail
      refine (HLO.out _ HS.out).mono ?_
      rintro e w6 ⟨rfl, hb⟩
      replace HS := Lib.hid (HS.out.below hb)
      replace HV := Lib.hid (HV.out.below hb)
      replace HB := Lib.hid (HB.out.trans (hb.mono HB.out.size))
      clear hb v0 v1 v2
      obtain ⟨v0, v1, v2⟩ := HV.out.cells
      go_wp2_with fail
      refine (HSP.out _).mono ?_
      rintro e w7 ⟨rfl, hb⟩
      replace HS := Lib.hid (HS.out.below hb)
      replace HV := Lib.hid (HV.out.below hb)
      replace HB := Lib.hid (HB.out.trans (hb.mono HB.out.size))
      clear hb v0 v1 v2
      obtain ⟨v0, v1, v2⟩ := HV.out.cells
      go_wp2_with fail
      refine (HLIT.out _ HS.out).mono ?_
      rintro e w20 ⟨rfl, hb⟩
      replace HB := Lib.hid (HB.out.trans (hb.mono HB.out.size))
      clear hb v0 v1 v2
      go_wp2
      go_ret
      exact ⟨rfl, HB.out⟩
    | true =>
      obtain ⟨P, Q, rfl, rfl, F⟩ := fits hok
      rw [hok] at HOK HSP
      have HCO := Lib.hid (fun w => bcount_impl s P Q w (by omega))
      have HAG := Lib.hid (fun w h => bridged_impl s P Q (s.extract P Q) a w (by omega) (by rw [ByteArray.size_extract]; omega) h)
      have hag := F.again
      rw [hag] at HAG
      have HAT := Lib.hid (fun (k : Nat) w (hk : k ≤ s.size) => show Calls Tryd.prog 16 #[.string s, .int .i64 (k : Int)] w fun e w' => e = .returned (.tuple #[.int .i64 (ff s.data.toList k : Int), .int .i64 (cnt 100 (s.data.toList.take k) : Int), .bool true]) ∧ Below w.heap.size w w' from by
        have h := at_spec s (k : Int) w (by omega)
        unfold atV at h
        rw [if_pos ⟨F.strip, Int.natCast_nonneg _, by simp; omega⟩, Int.toNat_natCast] at h
        exact h)
      have HAZ := Lib.hid (fun (k : Nat) w (hk : k ≤ s.size) => show Calls Tryd.prog 16 #[.string (bridgeS s P Q t), .int .i64 (k : Int)] w fun e w' => e = .returned (.tuple #[.int .i64 (ff (bridgeS s P Q t).data.toList k : Int), .int .i64 (cnt 100 ((bridgeS s P Q t).data.toList.take k) : Int), .bool true]) ∧ Below w.heap.size w w' from by
        have h := at_spec (bridgeS s P Q t) (k : Int) w (by have := F.long; omega)
        unfold atV at h
        rw [if_pos ⟨F.wayStrip, Int.natCast_nonneg _, by have := F.long; simp; omega⟩, Int.toNat_natCast] at h
        exact h)
      have FH := Lib.hid F
      clear hok hag F
      generalize looseB s.data.toList P Q t.data.toList = lb at *
      generalize countV s.data.toList P Q = n at *
      generalize roomB s.data.toList P Q t.data.toList = r at *
      generalize bridgeS s P Q t = z at *
      have hsm := FH.out.small
      have hzs := FH.out.long
      have hPQ := FH.out.order
      have hQs := FH.out.inside
      refine (HOK.out _ HS.out).mono ?_
      rintro e w8 ⟨rfl, hb⟩
      replace HS := Lib.hid (HS.out.below hb)
      replace HV := Lib.hid (HV.out.below hb)
      replace HB := Lib.hid (HB.out.trans (hb.mono HB.out.size))
      clear hb v0 v1 v2
      obtain ⟨v0, v1, v2⟩ := HV.out.cells
      go_wp2_with fail
      refine (HBR.out _ HS.out).mono ?_
      rintro e w9 ⟨rfl, hb⟩
      replace HS := Lib.hid (HS.out.below hb)
      replace HV := Lib.hid (HV.out.below hb)
      replace HB := Lib.hid (HB.out.trans (hb.mono HB.out.size))
      clear hb v0 v1 v2
      obtain ⟨v0, v1, v2⟩ := HV.out.cells
      go_wp2_with fail
      refine (HRO.out _ HS.out).mono ?_
      rintro e w10 ⟨rfl, hb⟩
      replace HS := Lib.hid (HS.out.below hb)
      replace HV := Lib.hid (HV.out.below hb)
      replace HB := Lib.hid (HB.out.trans (hb.mono HB.out.size))
      clear hb v0 v1 v2
      obtain ⟨v0, v1, v2⟩ := HV.out.cells
      go_wp2_with fail
      refine (HLO.out _ HS.out).mono ?_
      rintro e w11 ⟨rfl, hb⟩
      replace HS := Lib.hid (HS.out.below hb)
      replace HV := Lib.hid (HV.out.below hb)
      replace HB := Lib.hid (HB.out.trans (hb.mono HB.out.size))
      clear hb v0 v1 v2
      obtain ⟨v0, v1, v2⟩ := HV.out.cells
      go_wp2_with fail
      refine (HSP.out _).mono ?_
      rintro e w12 ⟨rfl, hb⟩
      replace HS := Lib.hid (HS.out.below hb)
      replace HV := Lib.hid (HV.out.below hb)
      replace HB := Lib.hid (HB.out.trans (hb.mono HB.out.size))
      clear hb v0 v1 v2
      obtain ⟨v0, v1, v2⟩ := HV.out.cells
      go_wp2_with fail
      refine (HCO.out _).mono ?_
      rintro e w13 ⟨rfl, hb⟩
      replace HS := Lib.hid (HS.out.below hb)
      replace HV := Lib.hid (HV.out.below hb)
      replace HB := Lib.hid (HB.out.trans (hb.mono HB.out.size))
      clear hb v0 v1 v2
      obtain ⟨v0, v1, v2⟩ := HV.out.cells
      have hP0 : (0 : Int) ≤ (P : Int) := Int.natCast_nonneg _
      have hP1 : (P : Int) ≤ 16 := by omega
      go_wp2_with fail
      clear v0 v1 v2
      go_loopw [10, 11] (fun x i wr => ∃ k : Nat, P < k ∧ k ≤ Q ∧ i = .int .i64 (k : Int) ∧ x = .bool (touchB s.data.toList z.data.toList P k) ∧ Hid (Sent wr a) ∧ Hid (GVar wr w1.heap.size P Q t) ∧ Hid (Below w.heap.size w wr)) (fun _ i _ => Q - (intOf i).toNat)
      case atStart => exact ⟨P + 1, by omega, by omega, by go_num, by rw [touch_start], HS, HV, HB⟩
      case round =>
        rename World => wq
        clear HS HV HB
        obtain ⟨k, hk1, hk2, rfl, rfl, HS, HV, HB⟩ := hrel
        obtain ⟨v0, v1, v2⟩ := HV.out.cells
        have hk0 : (0 : Int) ≤ (k : Int) := Int.natCast_nonneg _
        by_cases hlt : k < Q
        · have hk3 : (k : Int) < (Q : Int) := by omega
          go_wp2_with fail
          refine (HAT.out k _ (by omega)).mono ?_
          rintro e wa ⟨rfl, hb⟩
          replace HS := Lib.hid (HS.out.below hb)
          replace HV := Lib.hid (HV.out.below hb)
          replace HB := Lib.hid (HB.out.trans (hb.mono HB.out.size))
          clear hb v0 v1 v2
          go_wp2_with fail
          refine (HAZ.out k _ (by omega)).mono ?_
          rintro e wb ⟨rfl, hb⟩
          replace HS := Lib.hid (HS.out.below hb)
          replace HV := Lib.hid (HV.out.below hb)
          replace HB := Lib.hid (HB.out.trans (hb.mono HB.out.size))
          clear hb
          have HTN := Lib.hid (touch_next s.data.toList z.data.toList hk1)
          generalize touchB s.data.toList z.data.toList P k = tb at *
          generalize ff s.data.toList k = x at *
          generalize ff z.data.toList k = y at *
          by_cases hxy : x = y
          · have hb : ((x : Int) == (y : Int)) = true := by simp [hxy]
            have HTC := Lib.hid (show touchB s.data.toList z.data.toList P (k + 1) = true by rw [HTN.out, decide_eq_true hxy, Bool.or_true])
            clear HTN hxy
            cases tb with
            | false =>
              go_wp2
              go_roundw
              case rel => exact ⟨k + 1, by omega, by omega, by go_num, by rw [HTC.out], HS, HV, HB⟩
              case measure => simp [intOf]; omega
            | true =>
              go_wp2
              go_roundw
              case rel => exact ⟨k + 1, by omega, by omega, by go_num, by rw [HTC.out], HS, HV, HB⟩
              case measure => simp [intOf]; omega
          · have hb : ((x : Int) == (y : Int)) = false := by simp; omega
            have HTC := Lib.hid (show touchB s.data.toList z.data.toList P (k + 1) = tb by rw [HTN.out, decide_eq_false hxy, Bool.or_false])
            clear HTN hxy
            cases tb with
            | false =>
              go_wp2
              go_roundw
              case rel => exact ⟨k + 1, by omega, by omega, by go_num, by rw [HTC.out], HS, HV, HB⟩
              case measure => simp [intOf]; omega
            | true =>
              go_wp2
              go_roundw
              case rel => exact ⟨k + 1, by omega, by omega, by go_num, by rw [HTC.out], HS, HV, HB⟩
              case measure => simp [intOf]; omega
        · obtain rfl : k = Q := by omega
          have hk3 : ¬ ((k : Int) < (k : Int)) := by omega
          have hP2 : (P : Int) ≤ (k : Int) := by omega
          have hk4 : (k : Int) ≤ (s.size : Int) := by omega
          have hlb := FH.out.touch
          obtain ⟨hr1, hr2, hr3, hr4⟩ := FH.out.rooms
          have hrr := FH.out.room
          have hn1 := FH.out.many
          have hst := FH.out.stays
          have hab := fun w => above_spec z s w (by omega) (by omega)
          rw [FH.out.above] at hab
          have HAB := Lib.hid hab
          have hrm := fun w => room_spec z w (by omega)
          have hrs := fun w => room_spec s w (by omega)
          have hdn := fun w => down_spec s w (by omega)
          have hfw := fun w => forward_spec s w (by omega)
          rw [show numV 100 s.data.toList = (cnt 100 s.data.toList : Int) from by unfold numV; rw [FH.out.strip]; rfl] at hdn
          rw [show numV 102 s.data.toList = (cnt 102 s.data.toList : Int) from by unfold numV; rw [FH.out.strip]; rfl] at hfw
          have hin := fun w => Place.inside_spec z ((cnt 100 s.data.toList : Int) + (cnt 102 s.data.toList : Int)) w (by omega)
          rw [hst] at hin
          have hfr := FH.out.frame
          have HMR := Lib.hid FH.out.more
          have HMN := Lib.hid FH.out.mores
          generalize touchB s.data.toList z.data.toList P k = tb at *
          generalize roomI z.data.toList = rz at *
          generalize roomI s.data.toList = rs at *
          generalize cnt 100 s.data.toList = D at *
          generalize cnt 102 s.data.toList = E at *
          have hrq : (r == rz - rs) = true := by simp [hrr]
          have hlq : (lb == !tb) = true := by simp [hlb]
          have hss : (s.toList == s.toList) = true := by simp
          have HRM := Lib.hid hrm
          have HRS := Lib.hid hrs
          have HDN := Lib.hid hdn
          have HFW := Lib.hid hfw
          have HIN := Lib.hid hin
          clear hrm hrs hdn hfw hin hab hst hrr hlb HAT HAZ HBR HRO HLO HOK HSP HCO FH
          go_wp2_with fail
          refine (HAG.out _ HS.out).mono ?_
          rintro e wa ⟨rfl, hb⟩
          replace HV := Lib.hid (HV.out.below hb)
          replace HB := Lib.hid (HB.out.trans (hb.mono HB.out.size))
          clear hb v0 v1 v2 HS HAG
          obtain ⟨v0, v1, v2⟩ := HV.out.cells
          generalize s.extract P k = part at *
          by_cases hr0 : 0 < r
          · by_cases hn0 : 1 < n
            · clear HMR HMN
              go_wp2_with fail
              refine (HAB.out _).mono ?_
              rintro e w14 ⟨rfl, rfl⟩
              go_wp2_with fail
              refine (HRM.out _).mono ?_
              rintro e w15 ⟨rfl, hb⟩
              replace HV := Lib.hid (HV.out.below hb)
              replace HB := Lib.hid (HB.out.trans (hb.mono HB.out.size))
              clear hb v0 v1 v2
              obtain ⟨v0, v1, v2⟩ := HV.out.cells
              go_wp2_with fail
              refine (HRS.out _).mono ?_
              rintro e w16 ⟨rfl, hb⟩
              replace HV := Lib.hid (HV.out.below hb)
              replace HB := Lib.hid (HB.out.trans (hb.mono HB.out.size))
              clear hb v0 v1 v2
              obtain ⟨v0, v1, v2⟩ := HV.out.cells
              go_wp2_with fail
              refine (HDN.out _).mono ?_
              rintro e w17 ⟨rfl, rfl⟩
              go_wp2_with fail
              refine (HFW.out _).mono ?_
              rintro e w18 ⟨rfl, rfl⟩
              go_wp2_with fail
              refine (HIN.out _).mono ?_
              rintro e w30 ⟨rfl, hb⟩
              replace HV := Lib.hid (HV.out.below hb)
              replace HB := Lib.hid (HB.out.trans (hb.mono HB.out.size))
              clear hb v0 v1 v2
              obtain ⟨v0, v1, v2⟩ := HV.out.cells
              go_wp2
              go_ret
              exact ⟨rfl, HB.out⟩
            · have hte : t = part := by have := HMN.out; rcases this with h | h; exact absurd h hn0; exact h
              subst hte
              have htt : (t.toList == t.toList) = true := by simp
              have hn2 : decide (1 < n) = false := by simp; omega
              clear HMR HMN
              go_wp2_with fail
              refine (HAB.out _).mono ?_
              rintro e w19 ⟨rfl, rfl⟩
              go_wp2_with fail
              refine (HRM.out _).mono ?_
              rintro e w20 ⟨rfl, hb⟩
              replace HV := Lib.hid (HV.out.below hb)
              replace HB := Lib.hid (HB.out.trans (hb.mono HB.out.size))
              clear hb v0 v1 v2
              obtain ⟨v0, v1, v2⟩ := HV.out.cells
              go_wp2_with fail
              refine (HRS.out _).mono ?_
              rintro e w21 ⟨rfl, hb⟩
              replace HV := Lib.hid (HV.out.below hb)
              replace HB := Lib.hid (HB.out.trans (hb.mono HB.out.size))
              clear hb v0 v1 v2
              obtain ⟨v0, v1, v2⟩ := HV.out.cells
              go_wp2_with fail
              refine (HDN.out _).mono ?_
              rintro e w22 ⟨rfl, rfl⟩
              go_wp2_with fail
              refine (HFW.out _).mono ?_
              rintro e w23 ⟨rfl, rfl⟩
              go_wp2_with fail
              refine (HIN.out _).mono ?_
              rintro e w30 ⟨rfl, hb⟩
              replace HV := Lib.hid (HV.out.below hb)
              replace HB := Lib.hid (HB.out.trans (hb.mono HB.out.size))
              clear hb v0 v1 v2
              obtain ⟨v0, v1, v2⟩ := HV.out.cells
              go_wp2
              go_ret
              exact ⟨rfl, HB.out⟩
          · have hte : t = part := by have := HMR.out; rcases this with h | h; exact absurd h hr0; exact h
            subst hte
            have htt : (t.toList == t.toList) = true := by simp
            have hr5 : decide (0 < r) = false := by simp; omega
            by_cases hn0 : 1 < n
            · clear HMR HMN
              go_wp2_with fail
              refine (HAB.out _).mono ?_
              rintro e w24 ⟨rfl, rfl⟩
              go_wp2_with fail
              refine (HRM.out _).mono ?_
              rintro e w25 ⟨rfl, hb⟩
              replace HV := Lib.hid (HV.out.below hb)
              replace HB := Lib.hid (HB.out.trans (hb.mono HB.out.size))
              clear hb v0 v1 v2
              obtain ⟨v0, v1, v2⟩ := HV.out.cells
              go_wp2_with fail
              refine (HRS.out _).mono ?_
              rintro e w26 ⟨rfl, hb⟩
              replace HV := Lib.hid (HV.out.below hb)
              replace HB := Lib.hid (HB.out.trans (hb.mono HB.out.size))
              clear hb v0 v1 v2
              obtain ⟨v0, v1, v2⟩ := HV.out.cells
              go_wp2_with fail
              refine (HDN.out _).mono ?_
              rintro e w27 ⟨rfl, rfl⟩
              go_wp2_with fail
              refine (HFW.out _).mono ?_
              rintro e w28 ⟨rfl, rfl⟩
              go_wp2_with fail
              refine (HIN.out _).mono ?_
              rintro e w30 ⟨rfl, hb⟩
              replace HV := Lib.hid (HV.out.below hb)
              replace HB := Lib.hid (HB.out.trans (hb.mono HB.out.size))
              clear hb v0 v1 v2
              obtain ⟨v0, v1, v2⟩ := HV.out.cells
              go_wp2
              go_ret
              exact ⟨rfl, HB.out⟩
            · have hn2 : decide (1 < n) = false := by simp; omega
              clear HMR HMN
              go_wp2_with fail
              refine (HAB.out _).mono ?_
              rintro e w29 ⟨rfl, rfl⟩
              go_wp2_with fail
              refine (HRM.out _).mono ?_
              rintro e w30 ⟨rfl, hb⟩
              replace HV := Lib.hid (HV.out.below hb)
              replace HB := Lib.hid (HB.out.trans (hb.mono HB.out.size))
              clear hb v0 v1 v2
              obtain ⟨v0, v1, v2⟩ := HV.out.cells
              go_wp2_with fail
              refine (HRS.out _).mono ?_
              rintro e w31 ⟨rfl, hb⟩
              replace HV := Lib.hid (HV.out.below hb)
              replace HB := Lib.hid (HB.out.trans (hb.mono HB.out.size))
              clear hb v0 v1 v2
              obtain ⟨v0, v1, v2⟩ := HV.out.cells
              go_wp2_with fail
              refine (HDN.out _).mono ?_
              rintro e w32 ⟨rfl, rfl⟩
              go_wp2_with fail
              refine (HFW.out _).mono ?_
              rintro e w33 ⟨rfl, rfl⟩
              go_wp2_with fail
              refine (HIN.out _).mono ?_
              rintro e w30 ⟨rfl, hb⟩
              replace HV := Lib.hid (HV.out.below hb)
              replace HB := Lib.hid (HB.out.trans (hb.mono HB.out.size))
              clear hb v0 v1 v2
              obtain ⟨v0, v1, v2⟩ := HV.out.cells
              go_wp2
              go_ret
              exact ⟨rfl, HB.out⟩
end Go.Proofs.YthigiemgdejdhaaDoor.Tab
