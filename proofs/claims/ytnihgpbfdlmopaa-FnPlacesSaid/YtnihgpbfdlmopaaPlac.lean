/- The walk of the property of chapter 4. -/
import Derived.Test.YtnihgpbfdlmopaaPlaceImpl
import Derived.Test.YtnihgpbfdlmopaaPlacMath
import Derived.Test.YtnihgpbfdlmopaaStripMany
import Derived.Test.YtnihgpbfdlmopaaDrawStrip
import Derived.Test.YtnihgpbfdlmopaaBig
import Derived.Deep.RegionHeld3
namespace Go.Proofs.Ytnihgpbfdlmopaa.Place
open Go.ChangeShapes Go.WideShapes Go.ChangeAt Go.RowKit
open Go.Proofs.Ytnihgpbfdlmopaa.Draw Go.Proofs.Ytnihgpbfdlmopaa.Strip Go.Proofs.Ytnihgpbfdlmopaa.Ints Go.Proofs.Ytnihgpbfdlmopaa.Corner
set_option linter.unusedVariables false

set_option maxRecDepth 100000 in
set_option maxHeartbeats 4000000 in
theorem plac (ca : Option Addr) (cl cc : Nat) (w : World) (hm : cl ≤ maxLen) (hr : RowIn w ca cl) :
    Calls Try.prog 3 #[.slice ca cl cc] w fun e w' => e = .returned (.bool true) ∧ Below w.heap.size w w' := by
  by_cases hbig : 1048576 < cl
  · have hd : decide (1048576 < (cl : Int)) = true := by simp; omega
    go_enter Try.func3, Try.ntmps3
    go_wp2_with fail
    refine (big_at ca cl cc w hm).mono ?_
    rintro e w' ⟨rfl, rfl⟩
    rw [hd]
    go_wp2
    go_ret
    exact ⟨rfl, Below.refl _ _⟩
  · have hd : decide (1048576 < (cl : Int)) = false := by simp; omega
    go_enter Try.func3, Try.ntmps3
    go_wp2_with fail
    refine (big_at ca cl cc w hm).mono ?_
    rintro e w' ⟨rfl, rfl⟩
    rw [hd]
    clear hd hbig
    go_wp2_with fail
    refine drawStrip_get ca cl cc w hm hr ?_
    intro l w1 hok h1 h2 h3 h4 hb1
    have HB1 := Lib.hid hb1; clear hb1 hr
    have hst : stripB l = true := by
      unfold stripB frameB
      rw [hok]
      simp
      omega
    obtain ⟨s, hs⟩ : ∃ s : ByteArray, (⟨l.toArray⟩ : ByteArray) = s := ⟨_, rfl⟩
    have hsl : s.data.toList = l := by rw [← hs]
    rw [hs]
    have hsz : s.size = l.length := by rw [← hsl]; simp
    have hfr := frame_of hst
    have hsm : s.size ≤ 1048576 := by omega
    clear hs
    have HRE := Lib.hid (fun w => reach_impl s w hsm)
    have HDN := Lib.hid (fun w => down_spec s w hsm)
    have HFO := Lib.hid (fun w => forward_spec s w hsm)
    have HPL := Lib.hid (fun k op w => place_impl s k op w hsm)
    have HST := Lib.hid (fun k op w => step_impl s k op w hsm)
    have HSP := Lib.hid (fun w => spread_impl s w hsm)
    have HIN := Lib.hid (fun p w => inside_impl s p w hsm)
    rw [hsl] at HRE HDN HFO HPL HST HSP HIN
    have hnd : numV 100 l = (cnt 100 l : Int) := by unfold numV; rw [if_pos hst]
    have hnf : numV 102 l = (cnt 102 l : Int) := by unfold numV; rw [if_pos hst]
    rw [hnd] at HDN
    rw [hnf] at HFO
    have hmx := reach_max hst
    have hle := fun k hk => reach_le hst k hk
    have hmi := fun k hk => fw_minus hok k hk
    have hso := fun k hk => step_one hst k hk
    have hhi := reach_high hst
    rw [spread_all hst] at HSP
    have hia := inside_all hst (by omega)
    have hil := inside_less (l := l)
    have hpl : ∀ k : Nat, k ≤ l.length → placeV l (k : Int) 0 = .tuple #[.int .i64 (fwAt l k + upAt l k), .int .i64 0, .bool true] ∧ placeV l (k : Int) 1 = .tuple #[.int .i64 (fwAt l k), .int .i64 (upAt l k), .bool true] ∧ placeV l (k : Int) 2 = .tuple #[.int .i64 (fwAt l k - upAt l k), .int .i64 0, .bool true] := fun k hk =>
      ⟨by rw [place_at hst hk rfl, px_0, fy_0], by rw [place_at hst hk rfl, px_1, fy_1], by rw [place_at hst hk rfl, px_2, fy_2]⟩
    have hfb := fun k => fw_bound hst k
    have hub := fun k => up_bound hst k
    obtain ⟨d, hd⟩ : ∃ d, cnt 100 l = d := ⟨_, rfl⟩
    obtain ⟨f, hf⟩ : ∃ f, cnt 102 l = f := ⟨_, rfl⟩
    rw [hd] at HDN h1 h2 hmx hhi hia hfr
    rw [hf] at HFO h3 h4 hmx hhi hia hfr
    have hmi' : ∀ k, k ≤ l.length → fwAt l k - upAt l k = (k : Int) - (d : Int) := fun k hk => by rw [← hd]; exact hmi k hk
    have hfrb : frameB d f = true := by unfold frameB; simp; omega
    clear hmi hd hf hnd hnf
    have HLE := Lib.hid hle; clear hle
    have HMI := Lib.hid hmi'; clear hmi'
    have HSO := Lib.hid hso; clear hso
    have HHI := Lib.hid hhi; clear hhi
    have HIA := Lib.hid hia; clear hia
    have HIL := Lib.hid hil; clear hil
    have HPV := Lib.hid hpl; clear hpl
    have HFB := Lib.hid hfb; clear hfb
    have HUB := Lib.hid hub; clear hub
    have HFR := Lib.hid hfrb; clear hfrb
    have HSL := Lib.hid hsl; clear hsl
    have HSZ := Lib.hid hsz
    have HFRA := Lib.hid hfr.2.2.2.2
    have hs10 : s.size ≤ 10 := by omega
    clear hst hok hsz hfr hsm
    obtain ⟨n, hn⟩ : ∃ n, reachV l = n := ⟨_, rfl⟩
    rw [hn] at HRE hmx HLE HHI HIL
    clear hn
    obtain ⟨m0, m1, m2⟩ := hmx
    go_wp2_with fail
    refine (HRE.out _).mono ?_
    rintro e w2 ⟨rfl, hb⟩
    have HB2 := Lib.hid (HB1.out.trans (hb.mono HB1.out.size)); clear hb HB1
    go_wp2_with fail
    refine (HDN.out _).mono ?_
    rintro e w' ⟨rfl, rfl⟩
    go_wp2_with fail
    refine (HFO.out _).mono ?_
    rintro e w' ⟨rfl, rfl⟩
    go_wp2_with fail
    go_loopw [7] (fun i wr => ∃ k : Nat, k ≤ s.size + 1 ∧ i = .int .i64 (k : Int) ∧ Hid (Below w.heap.size w wr)) (fun i _ => s.size + 1 - (intOf i).toNat)
    case atStart => exact ⟨0, Nat.zero_le _, rfl, HB2⟩
    case round =>
      clear HB2
      obtain ⟨k, hk, rfl, HB⟩ := hrel
      by_cases hlt : k ≤ s.size
      · have hk1 : (k : Int) ≤ (s.size : Int) := by omega
        have hkl : k ≤ l.length := by have := HSZ.out; omega
        obtain ⟨p0, p1, p2⟩ := HPV.out k hkl
        have P0 := Lib.hid p0; clear p0
        have P1 := Lib.hid p1; clear p1
        have P2 := Lib.hid p2; clear p2
        have hle := HLE.out k hkl
        have hmi := HMI.out k hkl
        obtain ⟨f0, f1⟩ := HFB.out k
        obtain ⟨u0, u1⟩ := HUB.out k
        have hs1 : k ≠ 0 → stepV l (k : Int) 0 = 1 ∧ stepV l (k : Int) 1 = 1 ∧ stepV l (k : Int) 2 = 1 := by
          intro h
          have := HSO.out (k - 1) (by omega)
          rw [show ((k - 1 : Nat) : Int) + 1 = (k : Int) from by omega] at this
          exact this
        have HS1 := Lib.hid hs1; clear hs1
        generalize fwAt l k = x at *
        generalize upAt l k = u at *
        have t1 : ((x + u) != (x + u)) = false := by simp
        have t2 : ((x - u) != (x - u)) = false := by simp
        have t3 : decide (n < x + u) = false := by simp; omega
        have t4 : ((x - u) != ((k : Int) - (d : Int))) = false := by simp; omega
        go_wp2_with fail
        refine (HPL.out (k : Int) 0 _).mono ?_
        rintro e w3 ⟨rfl, hb⟩
        have HB3 := Lib.hid (HB.out.trans (hb.mono HB.out.size)); clear hb
        rw [P0.out]
        go_wp2_with fail
        refine (HPL.out (k : Int) 1 _).mono ?_
        rintro e w4 ⟨rfl, hb⟩
        have HB4 := Lib.hid (HB3.out.trans (hb.mono HB3.out.size)); clear hb
        rw [P1.out]
        go_wp2_with fail
        refine (HPL.out (k : Int) 2 _).mono ?_
        rintro e w5 ⟨rfl, hb⟩
        have HB5 := Lib.hid (HB4.out.trans (hb.mono HB4.out.size)); clear hb
        rw [P2.out]
        by_cases hz : k = 0
        · have hkz : decide ((0 : Int) < (k : Int)) = false := by simp; omega
          go_wp2_with fail
          exact ⟨⟨k + 1, by omega, by go_num, HB5⟩, by simp [intOf]; omega⟩
        · have hkz : (0 : Int) < (k : Int) := by omega
          obtain ⟨s0, s1, s2⟩ := HS1.out hz
          have S0 := Lib.hid s0; clear s0
          have S1 := Lib.hid s1; clear s1
          have S2 := Lib.hid s2; clear s2
          clear hz
          go_wp2_with fail
          refine (HST.out (k : Int) 0 _ (by omega) (by omega)).mono ?_
          rintro e w6 ⟨rfl, hb⟩
          have HB6 := Lib.hid (HB5.out.trans (hb.mono HB5.out.size)); clear hb
          rw [S0.out]
          go_wp2_with fail
          refine (HST.out (k : Int) 1 _ (by omega) (by omega)).mono ?_
          rintro e w7 ⟨rfl, hb⟩
          have HB7 := Lib.hid (HB6.out.trans (hb.mono HB6.out.size)); clear hb
          rw [S1.out]
          go_wp2_with fail
          refine (HST.out (k : Int) 2 _ (by omega) (by omega)).mono ?_
          rintro e w8 ⟨rfl, hb⟩
          have HB8 := Lib.hid (HB7.out.trans (hb.mono HB7.out.size)); clear hb
          rw [S2.out]
          go_wp2_with fail
          exact ⟨⟨k + 1, by omega, by go_num, HB8⟩, by simp [intOf]; omega⟩
      · obtain rfl : k = s.size + 1 := by omega
        clear hlt hk
        obtain ⟨b, hb⟩ : ∃ b, ((n : Int) == (d : Int) + (f : Int)) = b := ⟨_, rfl⟩
        obtain ⟨t, ht⟩ : ∃ t : ByteArray, (⟨(highL d f).toArray⟩ : ByteArray) = t := ⟨_, rfl⟩
        have htl : t.data.toList = highL d f := by rw [← ht]
        have htb : (s.toList == t.toList) = b := by
          have h1 := HHI.out
          rw [← hb, Go.ByteArray.toList_eq, Go.ByteArray.toList_eq, htl, HSL.out, Bool.eq_iff_iff]
          simp [h1]
        have HT := Lib.hid ht; clear ht htl
        clear HHI
        go_wp2_with fail
        refine (high_spec d f _).mono ?_
        rintro e w3 ⟨rfl, hb3⟩
        have HB3 := Lib.hid (HB.out.trans (hb3.mono HB.out.size)); clear hb3
        rw [HT.out]
        go_wp2_with fail
        refine (HSP.out _).mono ?_
        rintro e w4 ⟨rfl, hb4⟩
        have HB4 := Lib.hid (HB3.out.trans (hb4.mono HB3.out.size)); clear hb4
        rw [← HSZ.out]
        go_wp2_with fail
        refine (HIN.out _ _).mono ?_
        rintro e w5 ⟨rfl, hb5⟩
        have HB5 := Lib.hid (HB4.out.trans (hb5.mono HB4.out.size)); clear hb5
        rw [HIA.out]
        go_wp2_with fail
        refine (HIN.out _ _).mono ?_
        rintro e w6 ⟨rfl, hb6⟩
        have HB6 := Lib.hid (HB5.out.trans (hb6.mono HB5.out.size)); clear hb6
        rw [HIL.out]
        go_wp2
        go_ret
        exact ⟨rfl, HB6.out⟩
end Go.Proofs.Ytnihgpbfdlmopaa.Place
