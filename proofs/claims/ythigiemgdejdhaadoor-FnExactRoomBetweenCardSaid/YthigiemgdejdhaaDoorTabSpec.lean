/- What BridgedStrip, RoomBetween and IsLoose of the model return. -/
import Derived.Test.YthigiemgdejdhaaDoorBridgeSpec
import Derived.Test.YthigiemgdejdhaaDoorKerfSpec2
namespace Go.Proofs.YthigiemgdejdhaaDoor.Tab
open Go.ChangeShapes Go.WideShapes Go.ChangeAt Go.RowKit
open Go.Proofs.YthigiemgdejdhaaDoor.Strip Go.Proofs.YthigiemgdejdhaaDoor.Kerf Go.Proofs.YthigiemgdejdhaaDoor.Order Go.Proofs.YthigiemgdejdhaaDoor.Area
set_option linter.unusedVariables false

theorem startG (w : World) (p q : Int) (t : ByteArray) : ∃ W, w.alloc (.cells #[.int .i64 p, .int .i64 q, .string t] 25) = W ∧ GVar W w.heap.size p q t ∧ Below w.heap.size w W :=
  ⟨_, rfl, GVar.new w p q t, below_new w _⟩

set_option maxRecDepth 100000 in
theorem bridged_spec (s : ByteArray) (p q : Int) (t : ByteArray) (w : World) (hm : s.size ≤ 1048576) (ht : t.size ≤ 1048576) :
    Calls Tryd.prog 24 #[.string s, .agg #[.int .i64 p, .int .i64 q, .string t]] w fun e w' =>
      e = .returned (.string (bridgeS s p q t)) ∧ Below w.heap.size w w' := by
  obtain ⟨W, hW, hv, hb⟩ := startG w p q t
  have HW := Lib.hid hW
  have HB := Lib.hid hb
  have HV := Lib.hid hv
  have hk := fun w => okB_spec s p q t w hm ht
  obtain ⟨v0, v1, v2⟩ := hv.cells
  clear hW hv hb
  cases hok : okB s.data.toList p q t.data.toList with
  | false =>
    rw [show bridgeS s p q t = ⟨#[]⟩ from by unfold bridgeS; rw [hok]; rfl]
    rw [hok] at hk
    have HK := Lib.hid hk
    clear hk hok
    go_enter Tryd.func24, Tryd.ntmps24
    go_wp2_with fail
    rw [HW.out]
    go_wp2_with fail
    refine (HK.out _).mono ?_
    rintro e w1 ⟨rfl, hb⟩
    have HB2 := Lib.hid (HB.out.trans (hb.mono HB.out.size))
    clear hb v0 v1 v2
    go_wp2
    go_ret
    exact ⟨rfl, HB2.out⟩
  | true =>
    obtain ⟨P, Q, rfl, rfl, hPQ, hql, hbl, hst, hsm, hab, hwl, _⟩ := ok_nat hok
    rw [show bridgeS s P Q t = wayS s P Q t from by unfold bridgeS; rw [hok]; rfl]
    rw [hok] at hk
    have HK := Lib.hid hk
    have hql : Q ≤ s.size := by simpa using hql
    have hsz := size_small hst
    have htz : t.size ≤ 16 := by have : t.data.toList.length = t.size := by simp
                                 omega
    have HWD := Lib.hid (show s.extract 0 P ++ t ++ s.extract Q s.size = wayS s P Q t from rfl)
    have hws := way_size s P Q t (by omega) hql
    clear hk hok hbl hst hsm hab hwl
    generalize wayS s P Q t = z at *
    have hP0 : (0 : Int) ≤ (P : Int) := Int.natCast_nonneg _
    have hQ0 : (0 : Int) ≤ (Q : Int) := Int.natCast_nonneg _
    have hP1 : (P : Int) ≤ (s.size : Int) := by omega
    have hQ1 : (Q : Int) ≤ (s.size : Int) := by omega
    go_enter Tryd.func24, Tryd.ntmps24
    go_wp2_with fail
    rw [HW.out]
    go_wp2_with fail
    refine (HK.out _).mono ?_
    rintro e w1 ⟨rfl, hb⟩
    obtain ⟨u0, u1, u2⟩ := (HV.out.below hb).cells
    have HB2 := Lib.hid (HB.out.trans (hb.mono HB.out.size))
    clear hb v0 v1 v2
    go_wp2_with fail
    go_quiet (fail)
    go_wp2_with fail
    go_ret
    exact ⟨by rw [← HWD.out]; rfl, HB2.out.trans ((Strip.below_drewN w1 _).mono HB2.out.size)⟩

set_option maxRecDepth 100000 in
theorem roomB_spec (s : ByteArray) (p q : Int) (t : ByteArray) (w : World) (hm : s.size ≤ 1048576) (ht : t.size ≤ 1048576) :
    Calls Tryd.prog 25 #[.string s, .agg #[.int .i64 p, .int .i64 q, .string t]] w fun e w' =>
      e = .returned (.int .i64 (roomB s.data.toList p q t.data.toList)) ∧ Below w.heap.size w w' := by
  obtain ⟨W, hW, hv, hb⟩ := startG w p q t
  have HW := Lib.hid hW
  have HB := Lib.hid hb
  have HV := Lib.hid hv
  have hk := fun w => okB_spec s p q t w hm ht
  obtain ⟨v0, v1, v2⟩ := hv.cells
  clear hW hv hb
  cases hok : okB s.data.toList p q t.data.toList with
  | false =>
    have hr : roomB s.data.toList p q t.data.toList = -1 := by
      unfold roomB bridgeL areaI
      rw [hok]
      rw [if_neg (show ¬ (false = true) by decide), if_neg]
      intro h
      have h2 := (same_facts h).2.1
      exact absurd h2 (by decide)
    rw [hr]
    rw [hok] at hk
    have HK := Lib.hid hk
    clear hk hok hr
    go_enter Tryd.func25, Tryd.ntmps25
    go_wp2_with fail
    rw [HW.out]
    go_wp2_with fail
    refine (HK.out _).mono ?_
    rintro e w1 ⟨rfl, hb⟩
    have HB2 := Lib.hid (HB.out.trans (hb.mono HB.out.size))
    clear hb v0 v1 v2
    go_wp2
    go_ret
    exact ⟨rfl, HB2.out⟩
  | true =>
    rw [hok] at hk
    have HK := Lib.hid hk
    have HG := Lib.hid (fun w => bridged_spec s p q t w hm ht)
    have hr : roomB s.data.toList p q t.data.toList = areaI s.data.toList (bridgeS s p q t).data.toList := by unfold roomB; rw [bridge_text]
    have har := fun w => area_spec s (bridgeS s p q t) w hm (by have := bridge_size s p q t; omega)
    rw [hr]
    have HA := Lib.hid har
    clear hk hok hr har
    generalize bridgeS s p q t = z at *
    go_enter Tryd.func25, Tryd.ntmps25
    go_wp2_with fail
    rw [HW.out]
    go_wp2_with fail
    refine (HK.out _).mono ?_
    rintro e w1 ⟨rfl, hb⟩
    obtain ⟨u0, u1, u2⟩ := (HV.out.below hb).cells
    have HB2 := Lib.hid (HB.out.trans (hb.mono HB.out.size))
    clear hb v0 v1 v2
    go_wp2_with fail
    refine (HG.out _).mono ?_
    rintro e w2 ⟨rfl, hb⟩
    have HB3 := Lib.hid (HB2.out.trans (hb.mono HB2.out.size))
    clear hb u0 u1 u2
    go_wp2_with fail
    refine (HA.out _).mono ?_
    rintro e w3 ⟨rfl, hb⟩
    have HB4 := Lib.hid (HB3.out.trans (hb.mono HB3.out.size))
    clear hb
    go_wp2
    go_ret
    exact ⟨rfl, HB4.out⟩
end Go.Proofs.YthigiemgdejdhaaDoor.Tab
