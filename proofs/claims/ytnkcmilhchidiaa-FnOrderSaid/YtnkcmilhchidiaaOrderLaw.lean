/- What laws.FnOrder returns: true at every draw: the walk (printed by wip/gen_orderprop.py). -/
import Derived.Test.YtnkcmilhchidiaaOrderProp
namespace Go.Proofs.Ytnkcmilhchidiaa.Order
open Go.ChangeShapes Go.WideShapes Go.ChangeAt Go.RowKit Go.Sort
open Go.Proofs.Ytnkcmilhchidiaa.Strip Go.Proofs.Ytnkcmilhchidiaa.Strs Go.Proofs.Ytnkcmilhchidiaa.Card Go.Proofs.Ytnkcmilhchidiaa.Kerf Go.Proofs.Ytnkcmilhchidiaa.Draw
set_option linter.unusedVariables false

set_option maxRecDepth 100000 in
set_option maxHeartbeats 16000000 in
theorem orderProp (ca : Option Addr) (cl cc : Nat) (w : World) (hm : cl ≤ maxLen) (hr : RowIn w ca cl) :
    Calls Try.prog 3 #[.slice ca cl cc] w fun e w' => e = .returned (.bool true) ∧ Below w.heap.size w w' := by
  by_cases hbig : 1048576 < cl
  · have hd : decide (1048576 < (cl : Int)) = true := by simp; omega
    go_enter Try.func3, Try.ntmps3
    go_wp2_with fail
    refine (big_at ca cl cc w hm).mono ?_
    rintro e w' ⟨rfl, rfl⟩
    rw [hd]
    go_wp2
    go_ret
    exact ⟨rfl, Below.refl _ _⟩
  · have hd : decide (1048576 < (cl : Int)) = false := by simp; omega
    have HR := Lib.hid hr; clear hr
    go_enter Try.func3, Try.ntmps3
    go_wp2_with fail
    refine (big_at ca cl cc w hm).mono ?_
    rintro e w' ⟨rfl, rfl⟩
    rw [hd]
    go_wp2_with fail
    refine drawThree_get ca cl cc w hm HR.out ?_
    intro r s t w1 h1 h2 hd5 hf5 hb1
    have HB := Lib.hid hb1
    obtain ⟨U, L, A, B1, B2, p, q, z, b1, b2, cb, ru, rl, rs, rt, ar, hlw⟩ := laws_of h1 h2
    have hr10 : r.size ≤ 1048576 := by have := size_small (same_facts h1).1; omega
    have hs10 : s.size ≤ 1048576 := by have := size_small (same_facts h2).1; omega
    have ht10 : t.size ≤ 1048576 := by have := size_small (same_facts h2).2.1; omega
    clear hb1 hd hbig h1 h2 hd5 hf5
    have u1_ := fun w => upper_impl s t w hs10 ht10
    rw [hlw.u1] at u1_
    have U1 := Lib.hid u1_; clear u1_
    have l1_ := fun w => lower_impl s t w hs10 ht10
    rw [hlw.l1] at l1_
    have L1 := Lib.hid l1_; clear l1_
    have a1_ := fun w => above_impl U s w hlw.zU hs10
    rw [hlw.a1] at a1_
    have A1 := Lib.hid a1_; clear a1_
    have a2_ := fun w => above_impl U t w hlw.zU ht10
    rw [hlw.a2] at a2_
    have A2 := Lib.hid a2_; clear a2_
    have a3_ := fun w => above_impl s L w hs10 hlw.zL
    rw [hlw.a3] at a3_
    have A3 := Lib.hid a3_; clear a3_
    have a4_ := fun w => above_impl t L w ht10 hlw.zL
    rw [hlw.a4] at a4_
    have A4 := Lib.hid a4_; clear a4_
    have u2_ := fun w => upper_impl t s w ht10 hs10
    rw [hlw.u2] at u2_
    have U2 := Lib.hid u2_; clear u2_
    have l2_ := fun w => lower_impl t s w ht10 hs10
    rw [hlw.l2] at l2_
    have L2 := Lib.hid l2_; clear l2_
    have u3_ := fun w => upper_impl s L w hs10 hlw.zL
    rw [hlw.u3] at u3_
    have U3 := Lib.hid u3_; clear u3_
    have l3_ := fun w => lower_impl s U w hs10 hlw.zU
    rw [hlw.l3] at l3_
    have L3 := Lib.hid l3_; clear l3_
    have l4_ := fun w => lower_impl r U w hr10 hlw.zU
    rw [hlw.l4] at l4_
    have L4 := Lib.hid l4_; clear l4_
    have l5_ := fun w => lower_impl r s w hr10 hs10
    rw [hlw.l5] at l5_
    have L5 := Lib.hid l5_; clear l5_
    have l6_ := fun w => lower_impl r t w hr10 ht10
    rw [hlw.l6] at l6_
    have L6 := Lib.hid l6_; clear l6_
    have u4_ := fun w => upper_impl B1 B2 w hlw.zB hlw.zC
    rw [hlw.u4] at u4_
    have U4 := Lib.hid u4_; clear u4_
    have p1_ := fun w => above_impl r s w hr10 hs10
    rw [hlw.p1] at p1_
    have P1 := Lib.hid p1_; clear p1_
    have q1_ := fun w => above_impl r t w hr10 ht10
    rw [hlw.q1] at q1_
    have Q1 := Lib.hid q1_; clear q1_
    have z1_ := fun w => above_impl r U w hr10 hlw.zU
    rw [hlw.z1] at z1_
    have Z1 := Lib.hid z1_; clear z1_
    have c1_ := fun w => comp_impl s U w hs10 hlw.zU
    rw [hlw.c1] at c1_
    have C1 := Lib.hid c1_; clear c1_
    have c2_ := fun w => comp_impl s t w hs10 ht10
    rw [hlw.c2] at c2_
    have C2 := Lib.hid c2_; clear c2_
    have r1_ := fun w => room_spec U w hlw.zU
    rw [hlw.r1] at r1_
    have R1 := Lib.hid r1_; clear r1_
    have r2_ := fun w => room_spec L w hlw.zL
    rw [hlw.r2] at r2_
    have R2 := Lib.hid r2_; clear r2_
    have r3_ := fun w => room_spec s w hs10
    rw [hlw.r3] at r3_
    have R3 := Lib.hid r3_; clear r3_
    have r4_ := fun w => room_spec t w ht10
    rw [hlw.r4] at r4_
    have R4 := Lib.hid r4_; clear r4_
    have r5_ := fun w => area_spec s t w hs10 ht10
    rw [hlw.r5] at r5_
    have R5 := Lib.hid r5_; clear r5_
    have HPQ := Lib.hid hlw.pq
    have HCC := Lib.hid hlw.cc
    have HE1 := Lib.hid hlw.e1
    have HE2 := Lib.hid hlw.e2
    have HRM := Lib.hid (show ru + rl = rs + rt ∧ ru - rl = ar ∧ -256 ≤ ru ∧ ru ≤ 256 ∧ -256 ≤ rl ∧ rl ≤ 256 ∧ -256 ≤ rs ∧ rs ≤ 256 ∧ -256 ≤ rt ∧ rt ≤ 256 from ⟨hlw.su, hlw.df, hlw.b⟩)
    clear hlw hr10 hs10 ht10
    have xU : (U.toList == U.toList) = true := by simp
    have xL : (L.toList == L.toList) = true := by simp
    have xs : (s.toList == s.toList) = true := by simp
    have xA : (A.toList == A.toList) = true := by simp
    go_wp2_with fail
    refine (U1.out _).mono ?_
    rintro e w2 ⟨rfl, hb⟩
    have HB := Lib.hid (HB.out.trans (hb.mono HB.out.size)); clear hb
    go_wp2_with fail
    refine (L1.out _).mono ?_
    rintro e w3 ⟨rfl, hb⟩
    have HB := Lib.hid (HB.out.trans (hb.mono HB.out.size)); clear hb
    go_wp2_with fail
    refine (A1.out _).mono ?_
    rintro e w4 ⟨rfl, hb⟩
    have HB := Lib.hid (HB.out.trans (hb.mono HB.out.size)); clear hb
    go_wp2_with fail
    refine (A2.out _).mono ?_
    rintro e w5 ⟨rfl, hb⟩
    have HB := Lib.hid (HB.out.trans (hb.mono HB.out.size)); clear hb
    go_wp2_with fail
    refine (A3.out _).mono ?_
    rintro e w6 ⟨rfl, hb⟩
    have HB := Lib.hid (HB.out.trans (hb.mono HB.out.size)); clear hb
    go_wp2_with fail
    refine (A4.out _).mono ?_
    rintro e w7 ⟨rfl, hb⟩
    have HB := Lib.hid (HB.out.trans (hb.mono HB.out.size)); clear hb
    go_wp2_with fail
    refine (U2.out _).mono ?_
    rintro e w8 ⟨rfl, hb⟩
    have HB := Lib.hid (HB.out.trans (hb.mono HB.out.size)); clear hb
    go_wp2_with fail
    refine (L2.out _).mono ?_
    rintro e w9 ⟨rfl, hb⟩
    have HB := Lib.hid (HB.out.trans (hb.mono HB.out.size)); clear hb
    go_wp2_with fail
    refine (U3.out _).mono ?_
    rintro e w10 ⟨rfl, hb⟩
    have HB := Lib.hid (HB.out.trans (hb.mono HB.out.size)); clear hb
    go_wp2_with fail
    refine (L3.out _).mono ?_
    rintro e w11 ⟨rfl, hb⟩
    have HB := Lib.hid (HB.out.trans (hb.mono HB.out.size)); clear hb
    go_wp2_with fail
    refine (L4.out _).mono ?_
    rintro e w12 ⟨rfl, hb⟩
    have HB := Lib.hid (HB.out.trans (hb.mono HB.out.size)); clear hb
    go_wp2_with fail
    refine (L5.out _).mono ?_
    rintro e w13 ⟨rfl, hb⟩
    have HB := Lib.hid (HB.out.trans (hb.mono HB.out.size)); clear hb
    go_wp2_with fail
    refine (L6.out _).mono ?_
    rintro e w14 ⟨rfl, hb⟩
    have HB := Lib.hid (HB.out.trans (hb.mono HB.out.size)); clear hb
    go_wp2_with fail
    refine (U4.out _).mono ?_
    rintro e w15 ⟨rfl, hb⟩
    have HB := Lib.hid (HB.out.trans (hb.mono HB.out.size)); clear hb
    have key : ∀ (w9 : World), Hid (Below w.heap.size w w9) → True := fun _ _ => trivial
    clear key
    cases p with
    | false =>
      go_wp2_with fail
      refine (P1.out _).mono ?_
      rintro e w16 ⟨rfl, hb⟩
      have HB := Lib.hid (HB.out.trans (hb.mono HB.out.size)); clear hb
      clear xU xL xs xA
      go_wp2_with fail
      refine drawCards_get ca cl cc _ hm (rowIn_below HR.out HB.out) ?_
      intro d f n a c lb a2 c2 lc w20 hd4 hf4 hn6 nb nc hcb hcc hb ho ho2
      have HB := Lib.hid (HB.out.trans (hb.mono HB.out.size))
      have OB := Lib.hid ho
      have OC := Lib.hid ho2
      obtain ⟨lx, ly, vx, vy, vb, vc, hv⟩ := vols_of hcb hcc nb nc
      have hbo : bothB d f lb d f lc = true := both_iff.2 ⟨hcb, hcc, rfl, rfl, by omega⟩
      have HUC := Lib.hid (fun (w' : World) (x y : Nat) (h : Own w' x (.slice a n c) lb) (h2 : Own w' y (.slice a2 n c2) lc) => (upperC_impl d f d f x y n n c c2 a a2 lb lc w' (by omega) (by omega) hv.zb hv.zc h h2).mono fun _ _ q => show Gave2 w' d f lx true _ _ from hv.hx ▸ gave_both hbo q)
      have HLC := Lib.hid (fun (w' : World) (x y : Nat) (h : Own w' x (.slice a n c) lb) (h2 : Own w' y (.slice a2 n c2) lc) => (lowerC_impl d f d f x y n n c c2 a a2 lb lc w' (by omega) (by omega) hv.zb hv.zc h h2).mono fun _ _ q => show Gave2 w' d f ly true _ _ from hv.hy ▸ gave_both hbo q)
      have hvb := fun (w' : World) (h : Row w' a lb) => vol_spec d f a n c lb w' nb (by omega) hv.zb h
      have hvc := fun (w' : World) (h : Row w' a2 lc) => vol_spec d f a2 n c2 lc w' nc (by omega) hv.zc h
      have hvx := fun (a' : Option Addr) (c' : Nat) (w' : World) (h : Row w' a' lx) => vol_spec d f a' n c' lx w' hv.nx (by omega) hv.zx h
      have hvy := fun (a' : Option Addr) (c' : Nat) (w' : World) (h : Row w' a' ly) => vol_spec d f a' n c' ly w' hv.ny (by omega) hv.zy h
      rw [hv.b1] at hvb
      rw [hv.c1] at hvc
      rw [hv.x1] at hvx
      rw [hv.y1] at hvy
      have HVB := Lib.hid hvb
      have HVC := Lib.hid hvc
      have HVX := Lib.hid hvx
      have HVY := Lib.hid hvy
      have HNX := Lib.hid hv.nx
      have HNY := Lib.hid hv.ny
      have HVV := Lib.hid (show vx + vy = vb + vc ∧ -2560 ≤ vx ∧ vx ≤ 2560 ∧ -2560 ≤ vy ∧ vy ≤ 2560 ∧ -2560 ≤ vb ∧ vb ≤ 2560 ∧ -2560 ≤ vc ∧ vc ≤ 2560 from ⟨hv.su, hv.b⟩)
      clear hb ho ho2 hv hbo hvb hvc hvx hvy nb nc hcb hcc hd4 hf4
      go_wp2_with fail
      obtain ⟨W, hW, hv8, hv9, hbw, hsw⟩ := beginTwo w20 d f d f (.slice a n c) (.slice a2 n c2)
      rw [← hW]
      have V8 := Lib.hid hv8
      have V9 := Lib.hid hv9
      have OB := Lib.hid (OB.out.below hbw)
      have OC := Lib.hid (OC.out.below hbw)
      have HB := Lib.hid (HB.out.trans (hbw.mono HB.out.size))
      obtain ⟨k0, k1, k2⟩ := hv8.cells
      obtain ⟨m0, m1, m2⟩ := hv9.cells
      clear hW hv8 hv9 hbw hsw
      go_wp2_with fail
      clear k0 k1 k2 m0 m1 m2
      refine (HUC.out _ _ _ OB.out OC.out).mono ?_
      rintro e w21 ⟨ax, cx, rfl, hb, hox⟩
      rw [HNX.out] at hox ⊢
      have V8 := Lib.hid (V8.out.below hb)
      have V9 := Lib.hid (V9.out.below hb)
      have OB := Lib.hid (OB.out.below hb)
      have OC := Lib.hid (OC.out.below hb)
      have OX := Lib.hid hox
      have HB := Lib.hid (HB.out.trans (hb.mono HB.out.size))
      clear hb hox HUC
      have hv0 := Var.new w21 d f (.slice ax n cx)
      have hb := alloc_below w21 (.cells #[.int .i64 d, .int .i64 f, .slice ax n cx] 30)
      have V8 := Lib.hid (V8.out.below hb)
      have V9 := Lib.hid (V9.out.below hb)
      have OB := Lib.hid (OB.out.below hb)
      have OC := Lib.hid (OC.out.below hb)
      have OX := Lib.hid (OX.out.below hb)
      have HB := Lib.hid (HB.out.trans (hb.mono HB.out.size))
      have V10 := Lib.hid hv0
      clear hv0 hb
      obtain ⟨k0, k1, k2⟩ := V8.out.cells
      obtain ⟨m0, m1, m2⟩ := V9.out.cells
      go_wp2_with fail
      clear k0 k1 k2 m0 m1 m2
      generalize (w21.alloc (.cells #[.int .i64 d, .int .i64 f, .slice ax n cx] 30)) = w22 at *
      refine (HLC.out _ _ _ OB.out OC.out).mono ?_
      rintro e w23 ⟨ay, cy, rfl, hb, hoy⟩
      rw [HNY.out] at hoy ⊢
      have V8 := Lib.hid (V8.out.below hb)
      have V9 := Lib.hid (V9.out.below hb)
      have V10 := Lib.hid (V10.out.below hb)
      have OB := Lib.hid (OB.out.below hb)
      have OC := Lib.hid (OC.out.below hb)
      have OX := Lib.hid (OX.out.below hb)
      have OY := Lib.hid hoy
      have HB := Lib.hid (HB.out.trans (hb.mono HB.out.size))
      clear hb hoy HLC
      have hv0 := Var.new w23 d f (.slice ay n cy)
      have hb := alloc_below w23 (.cells #[.int .i64 d, .int .i64 f, .slice ay n cy] 30)
      have V8 := Lib.hid (V8.out.below hb)
      have V9 := Lib.hid (V9.out.below hb)
      have V10 := Lib.hid (V10.out.below hb)
      have OB := Lib.hid (OB.out.below hb)
      have OC := Lib.hid (OC.out.below hb)
      have OX := Lib.hid (OX.out.below hb)
      have OY := Lib.hid (OY.out.below hb)
      have HB := Lib.hid (HB.out.trans (hb.mono HB.out.size))
      have V12 := Lib.hid hv0
      clear hv0 hb
      go_wp2_with fail
      generalize (w23.alloc (.cells #[.int .i64 d, .int .i64 f, .slice ay n cy] 30)) = w24 at *
      generalize w21.heap.size = g10 at *
      generalize w23.heap.size = g12 at *
      have k0 := cell_regrown V10.out.cells.1
      have k1 := cell_regrown V10.out.cells.2.1
      have k2 := cell_regrown V10.out.cells.2.2
      have m0 := cell_regrown V12.out.cells.1
      have m1 := cell_regrown V12.out.cells.2.1
      have m2 := cell_regrown V12.out.cells.2.2
      have i0 := cell_regrown V8.out.cells.1
      have i1 := cell_regrown V8.out.cells.2.1
      have i2 := cell_regrown V8.out.cells.2.2
      have j0 := cell_regrown V9.out.cells.1
      have j1 := cell_regrown V9.out.cells.2.1
      have j2 := cell_regrown V9.out.cells.2.2
      have QX := Lib.hid (fun (dd : Nat) (os : Array Obj) => Calls.regrown_of (HVX.out ax cx (grow (redrawn w24 dd) os) (OX.out.below (below_regrown w24 dd os)).row2.2))
      have QY := Lib.hid (fun (dd : Nat) (os : Array Obj) => Calls.regrown_of (HVY.out ay cy (grow (redrawn w24 dd) os) (OY.out.below (below_regrown w24 dd os)).row2.2))
      have QB := Lib.hid (fun (dd : Nat) (os : Array Obj) => Calls.regrown_of (HVB.out (grow (redrawn w24 dd) os) (OB.out.below (below_regrown w24 dd os)).row2.2))
      have QC := Lib.hid (fun (dd : Nat) (os : Array Obj) => Calls.regrown_of (HVC.out (grow (redrawn w24 dd) os) (OC.out.below (below_regrown w24 dd os)).row2.2))
      have QR1 := Lib.hid (fun (dd : Nat) (os : Array Obj) => Calls.regrown_of (R1.out (grow (redrawn w24 dd) os)))
      have QR2 := Lib.hid (fun (dd : Nat) (os : Array Obj) => Calls.regrown_of (R2.out (grow (redrawn w24 dd) os)))
      have QR3 := Lib.hid (fun (dd : Nat) (os : Array Obj) => Calls.regrown_of (R3.out (grow (redrawn w24 dd) os)))
      have QR4 := Lib.hid (fun (dd : Nat) (os : Array Obj) => Calls.regrown_of (R4.out (grow (redrawn w24 dd) os)))
      have QR5 := Lib.hid (fun (dd : Nat) (os : Array Obj) => Calls.regrown_of (R5.out (grow (redrawn w24 dd) os)))
      have QC1 := Lib.hid (fun (dd : Nat) (os : Array Obj) => Calls.regrown_of (C1.out (grow (redrawn w24 dd) os)))
      have QC2 := Lib.hid (fun (dd : Nat) (os : Array Obj) => Calls.regrown_of (C2.out (grow (redrawn w24 dd) os)))
      obtain ⟨v0, v1, v2, v3, v4, v5, v6, v7, v8⟩ := HVV.out
      obtain ⟨s0, s1, s2, s3, s4, s5, s6, s7, s8, s9⟩ := HRM.out
      have e1 : (vx + vy == vb + vc) = true := by simpa using v0
      have e2 : (ru + rl == rs + rt) = true := by simpa using s0
      have e3 : (ru - rl == ar) = true := by simpa using s1
      have hc2 : (b1 = true ∧ cb = true) ∨ (b1 = false ∧ cb = b2) := by
        have h := HCC.out
        cases b1
        · exact .inr ⟨rfl, h⟩
        · exact .inl ⟨rfl, h⟩
      clear HCC
      have HBQ := Lib.hid (fun dq osq => HB.out.trans ((below_regrown w24 dq osq).mono HB.out.size))
      clear v0 s0 s1 HVX HVY HVB HVC OX OY OB OC HB V8 V9 V10 V12
      rcases hc2 with ⟨rfl, rfl⟩ | ⟨rfl, rfl⟩
      · have hE1 := HE1.out
        have hE2 := HE2.out
        refine wp_region_quiet_below (by kernel_rfl) (by kernel_rfl) ?_
        repeat (go_big_quiet_step ((first | (go_at_call_of 18 (Value.agg #[.int .i64 d, .int .i64 f, .slice ax n cx]); with_reducible exact QX.out _ _) | (go_at_call_of 18 (Value.agg #[.int .i64 d, .int .i64 f, .slice ay n cy]); with_reducible exact QY.out _ _) | (go_at_call_of 18 (Value.agg #[.int .i64 d, .int .i64 f, .slice a n c]); with_reducible exact QB.out _ _) | (go_at_call_of 18 (Value.agg #[.int .i64 d, .int .i64 f, .slice a2 n c2]); with_reducible exact QC.out _ _) | (go_at_call_of 19 (Value.string U); with_reducible exact QR1.out _ _) | (go_at_call_of 19 (Value.string L); with_reducible exact QR2.out _ _) | (go_at_call_of 19 (Value.string s); with_reducible exact QR3.out _ _) | (go_at_call_of 19 (Value.string t); with_reducible exact QR4.out _ _) | (go_at_call 20; with_reducible exact QR5.out _ _) | (go_at_call 21; with_reducible exact QC1.out _ _) | (go_at_call 21; with_reducible exact QC2.out _ _))))
        refine wpQuiet_nil ?_
        intro _ hw'
        obtain ⟨⟨dq, osq⟩, hw''⟩ := hw'
        subst hw''
        go_wp2
        go_ret
        exact ⟨rfl, HBQ.out dq osq⟩
      · have hE1 := HE1.out
        have hE2 := HE2.out
        refine wp_region_quiet_below (by kernel_rfl) (by kernel_rfl) ?_
        repeat (go_big_quiet_step ((first | (go_at_call_of 18 (Value.agg #[.int .i64 d, .int .i64 f, .slice ax n cx]); with_reducible exact QX.out _ _) | (go_at_call_of 18 (Value.agg #[.int .i64 d, .int .i64 f, .slice ay n cy]); with_reducible exact QY.out _ _) | (go_at_call_of 18 (Value.agg #[.int .i64 d, .int .i64 f, .slice a n c]); with_reducible exact QB.out _ _) | (go_at_call_of 18 (Value.agg #[.int .i64 d, .int .i64 f, .slice a2 n c2]); with_reducible exact QC.out _ _) | (go_at_call_of 19 (Value.string U); with_reducible exact QR1.out _ _) | (go_at_call_of 19 (Value.string L); with_reducible exact QR2.out _ _) | (go_at_call_of 19 (Value.string s); with_reducible exact QR3.out _ _) | (go_at_call_of 19 (Value.string t); with_reducible exact QR4.out _ _) | (go_at_call 20; with_reducible exact QR5.out _ _) | (go_at_call 21; with_reducible exact QC1.out _ _) | (go_at_call 21; with_reducible exact QC2.out _ _))))
        refine wpQuiet_nil ?_
        intro _ hw'
        obtain ⟨⟨dq, osq⟩, hw''⟩ := hw'
        subst hw''
        go_wp2
        go_ret
        exact ⟨rfl, HBQ.out dq osq⟩
      
    | true =>
      cases q with
      | false =>
        go_wp2_with fail
        refine (P1.out _).mono ?_
        rintro e w16 ⟨rfl, hb⟩
        have HB := Lib.hid (HB.out.trans (hb.mono HB.out.size)); clear hb
        go_wp2_with fail
        refine (Q1.out _).mono ?_
        rintro e w17 ⟨rfl, hb⟩
        have HB := Lib.hid (HB.out.trans (hb.mono HB.out.size)); clear hb
        clear xU xL xs xA
        go_wp2_with fail
        refine drawCards_get ca cl cc _ hm (rowIn_below HR.out HB.out) ?_
        intro d f n a c lb a2 c2 lc w20 hd4 hf4 hn6 nb nc hcb hcc hb ho ho2
        have HB := Lib.hid (HB.out.trans (hb.mono HB.out.size))
        have OB := Lib.hid ho
        have OC := Lib.hid ho2
        obtain ⟨lx, ly, vx, vy, vb, vc, hv⟩ := vols_of hcb hcc nb nc
        have hbo : bothB d f lb d f lc = true := both_iff.2 ⟨hcb, hcc, rfl, rfl, by omega⟩
        have HUC := Lib.hid (fun (w' : World) (x y : Nat) (h : Own w' x (.slice a n c) lb) (h2 : Own w' y (.slice a2 n c2) lc) => (upperC_impl d f d f x y n n c c2 a a2 lb lc w' (by omega) (by omega) hv.zb hv.zc h h2).mono fun _ _ q => show Gave2 w' d f lx true _ _ from hv.hx ▸ gave_both hbo q)
        have HLC := Lib.hid (fun (w' : World) (x y : Nat) (h : Own w' x (.slice a n c) lb) (h2 : Own w' y (.slice a2 n c2) lc) => (lowerC_impl d f d f x y n n c c2 a a2 lb lc w' (by omega) (by omega) hv.zb hv.zc h h2).mono fun _ _ q => show Gave2 w' d f ly true _ _ from hv.hy ▸ gave_both hbo q)
        have hvb := fun (w' : World) (h : Row w' a lb) => vol_spec d f a n c lb w' nb (by omega) hv.zb h
        have hvc := fun (w' : World) (h : Row w' a2 lc) => vol_spec d f a2 n c2 lc w' nc (by omega) hv.zc h
        have hvx := fun (a' : Option Addr) (c' : Nat) (w' : World) (h : Row w' a' lx) => vol_spec d f a' n c' lx w' hv.nx (by omega) hv.zx h
        have hvy := fun (a' : Option Addr) (c' : Nat) (w' : World) (h : Row w' a' ly) => vol_spec d f a' n c' ly w' hv.ny (by omega) hv.zy h
        rw [hv.b1] at hvb
        rw [hv.c1] at hvc
        rw [hv.x1] at hvx
        rw [hv.y1] at hvy
        have HVB := Lib.hid hvb
        have HVC := Lib.hid hvc
        have HVX := Lib.hid hvx
        have HVY := Lib.hid hvy
        have HNX := Lib.hid hv.nx
        have HNY := Lib.hid hv.ny
        have HVV := Lib.hid (show vx + vy = vb + vc ∧ -2560 ≤ vx ∧ vx ≤ 2560 ∧ -2560 ≤ vy ∧ vy ≤ 2560 ∧ -2560 ≤ vb ∧ vb ≤ 2560 ∧ -2560 ≤ vc ∧ vc ≤ 2560 from ⟨hv.su, hv.b⟩)
        clear hb ho ho2 hv hbo hvb hvc hvx hvy nb nc hcb hcc hd4 hf4
        go_wp2_with fail
        obtain ⟨W, hW, hv8, hv9, hbw, hsw⟩ := beginTwo w20 d f d f (.slice a n c) (.slice a2 n c2)
        rw [← hW]
        have V8 := Lib.hid hv8
        have V9 := Lib.hid hv9
        have OB := Lib.hid (OB.out.below hbw)
        have OC := Lib.hid (OC.out.below hbw)
        have HB := Lib.hid (HB.out.trans (hbw.mono HB.out.size))
        obtain ⟨k0, k1, k2⟩ := hv8.cells
        obtain ⟨m0, m1, m2⟩ := hv9.cells
        clear hW hv8 hv9 hbw hsw
        go_wp2_with fail
        clear k0 k1 k2 m0 m1 m2
        refine (HUC.out _ _ _ OB.out OC.out).mono ?_
        rintro e w21 ⟨ax, cx, rfl, hb, hox⟩
        rw [HNX.out] at hox ⊢
        have V8 := Lib.hid (V8.out.below hb)
        have V9 := Lib.hid (V9.out.below hb)
        have OB := Lib.hid (OB.out.below hb)
        have OC := Lib.hid (OC.out.below hb)
        have OX := Lib.hid hox
        have HB := Lib.hid (HB.out.trans (hb.mono HB.out.size))
        clear hb hox HUC
        have hv0 := Var.new w21 d f (.slice ax n cx)
        have hb := alloc_below w21 (.cells #[.int .i64 d, .int .i64 f, .slice ax n cx] 30)
        have V8 := Lib.hid (V8.out.below hb)
        have V9 := Lib.hid (V9.out.below hb)
        have OB := Lib.hid (OB.out.below hb)
        have OC := Lib.hid (OC.out.below hb)
        have OX := Lib.hid (OX.out.below hb)
        have HB := Lib.hid (HB.out.trans (hb.mono HB.out.size))
        have V10 := Lib.hid hv0
        clear hv0 hb
        obtain ⟨k0, k1, k2⟩ := V8.out.cells
        obtain ⟨m0, m1, m2⟩ := V9.out.cells
        go_wp2_with fail
        clear k0 k1 k2 m0 m1 m2
        generalize (w21.alloc (.cells #[.int .i64 d, .int .i64 f, .slice ax n cx] 30)) = w22 at *
        refine (HLC.out _ _ _ OB.out OC.out).mono ?_
        rintro e w23 ⟨ay, cy, rfl, hb, hoy⟩
        rw [HNY.out] at hoy ⊢
        have V8 := Lib.hid (V8.out.below hb)
        have V9 := Lib.hid (V9.out.below hb)
        have V10 := Lib.hid (V10.out.below hb)
        have OB := Lib.hid (OB.out.below hb)
        have OC := Lib.hid (OC.out.below hb)
        have OX := Lib.hid (OX.out.below hb)
        have OY := Lib.hid hoy
        have HB := Lib.hid (HB.out.trans (hb.mono HB.out.size))
        clear hb hoy HLC
        have hv0 := Var.new w23 d f (.slice ay n cy)
        have hb := alloc_below w23 (.cells #[.int .i64 d, .int .i64 f, .slice ay n cy] 30)
        have V8 := Lib.hid (V8.out.below hb)
        have V9 := Lib.hid (V9.out.below hb)
        have V10 := Lib.hid (V10.out.below hb)
        have OB := Lib.hid (OB.out.below hb)
        have OC := Lib.hid (OC.out.below hb)
        have OX := Lib.hid (OX.out.below hb)
        have OY := Lib.hid (OY.out.below hb)
        have HB := Lib.hid (HB.out.trans (hb.mono HB.out.size))
        have V12 := Lib.hid hv0
        clear hv0 hb
        go_wp2_with fail
        generalize (w23.alloc (.cells #[.int .i64 d, .int .i64 f, .slice ay n cy] 30)) = w24 at *
        generalize w21.heap.size = g10 at *
        generalize w23.heap.size = g12 at *
        have k0 := cell_regrown V10.out.cells.1
        have k1 := cell_regrown V10.out.cells.2.1
        have k2 := cell_regrown V10.out.cells.2.2
        have m0 := cell_regrown V12.out.cells.1
        have m1 := cell_regrown V12.out.cells.2.1
        have m2 := cell_regrown V12.out.cells.2.2
        have i0 := cell_regrown V8.out.cells.1
        have i1 := cell_regrown V8.out.cells.2.1
        have i2 := cell_regrown V8.out.cells.2.2
        have j0 := cell_regrown V9.out.cells.1
        have j1 := cell_regrown V9.out.cells.2.1
        have j2 := cell_regrown V9.out.cells.2.2
        have QX := Lib.hid (fun (dd : Nat) (os : Array Obj) => Calls.regrown_of (HVX.out ax cx (grow (redrawn w24 dd) os) (OX.out.below (below_regrown w24 dd os)).row2.2))
        have QY := Lib.hid (fun (dd : Nat) (os : Array Obj) => Calls.regrown_of (HVY.out ay cy (grow (redrawn w24 dd) os) (OY.out.below (below_regrown w24 dd os)).row2.2))
        have QB := Lib.hid (fun (dd : Nat) (os : Array Obj) => Calls.regrown_of (HVB.out (grow (redrawn w24 dd) os) (OB.out.below (below_regrown w24 dd os)).row2.2))
        have QC := Lib.hid (fun (dd : Nat) (os : Array Obj) => Calls.regrown_of (HVC.out (grow (redrawn w24 dd) os) (OC.out.below (below_regrown w24 dd os)).row2.2))
        have QR1 := Lib.hid (fun (dd : Nat) (os : Array Obj) => Calls.regrown_of (R1.out (grow (redrawn w24 dd) os)))
        have QR2 := Lib.hid (fun (dd : Nat) (os : Array Obj) => Calls.regrown_of (R2.out (grow (redrawn w24 dd) os)))
        have QR3 := Lib.hid (fun (dd : Nat) (os : Array Obj) => Calls.regrown_of (R3.out (grow (redrawn w24 dd) os)))
        have QR4 := Lib.hid (fun (dd : Nat) (os : Array Obj) => Calls.regrown_of (R4.out (grow (redrawn w24 dd) os)))
        have QR5 := Lib.hid (fun (dd : Nat) (os : Array Obj) => Calls.regrown_of (R5.out (grow (redrawn w24 dd) os)))
        have QC1 := Lib.hid (fun (dd : Nat) (os : Array Obj) => Calls.regrown_of (C1.out (grow (redrawn w24 dd) os)))
        have QC2 := Lib.hid (fun (dd : Nat) (os : Array Obj) => Calls.regrown_of (C2.out (grow (redrawn w24 dd) os)))
        obtain ⟨v0, v1, v2, v3, v4, v5, v6, v7, v8⟩ := HVV.out
        obtain ⟨s0, s1, s2, s3, s4, s5, s6, s7, s8, s9⟩ := HRM.out
        have e1 : (vx + vy == vb + vc) = true := by simpa using v0
        have e2 : (ru + rl == rs + rt) = true := by simpa using s0
        have e3 : (ru - rl == ar) = true := by simpa using s1
        have hc2 : (b1 = true ∧ cb = true) ∨ (b1 = false ∧ cb = b2) := by
          have h := HCC.out
          cases b1
          · exact .inr ⟨rfl, h⟩
          · exact .inl ⟨rfl, h⟩
        clear HCC
        have HBQ := Lib.hid (fun dq osq => HB.out.trans ((below_regrown w24 dq osq).mono HB.out.size))
        clear v0 s0 s1 HVX HVY HVB HVC OX OY OB OC HB V8 V9 V10 V12
        rcases hc2 with ⟨rfl, rfl⟩ | ⟨rfl, rfl⟩
        · have hE1 := HE1.out
          have hE2 := HE2.out
          refine wp_region_quiet_below (by kernel_rfl) (by kernel_rfl) ?_
          repeat (go_big_quiet_step ((first | (go_at_call_of 18 (Value.agg #[.int .i64 d, .int .i64 f, .slice ax n cx]); with_reducible exact QX.out _ _) | (go_at_call_of 18 (Value.agg #[.int .i64 d, .int .i64 f, .slice ay n cy]); with_reducible exact QY.out _ _) | (go_at_call_of 18 (Value.agg #[.int .i64 d, .int .i64 f, .slice a n c]); with_reducible exact QB.out _ _) | (go_at_call_of 18 (Value.agg #[.int .i64 d, .int .i64 f, .slice a2 n c2]); with_reducible exact QC.out _ _) | (go_at_call_of 19 (Value.string U); with_reducible exact QR1.out _ _) | (go_at_call_of 19 (Value.string L); with_reducible exact QR2.out _ _) | (go_at_call_of 19 (Value.string s); with_reducible exact QR3.out _ _) | (go_at_call_of 19 (Value.string t); with_reducible exact QR4.out _ _) | (go_at_call 20; with_reducible exact QR5.out _ _) | (go_at_call 21; with_reducible exact QC1.out _ _) | (go_at_call 21; with_reducible exact QC2.out _ _))))
          refine wpQuiet_nil ?_
          intro _ hw'
          obtain ⟨⟨dq, osq⟩, hw''⟩ := hw'
          subst hw''
          go_wp2
          go_ret
          exact ⟨rfl, HBQ.out dq osq⟩
        · have hE1 := HE1.out
          have hE2 := HE2.out
          refine wp_region_quiet_below (by kernel_rfl) (by kernel_rfl) ?_
          repeat (go_big_quiet_step ((first | (go_at_call_of 18 (Value.agg #[.int .i64 d, .int .i64 f, .slice ax n cx]); with_reducible exact QX.out _ _) | (go_at_call_of 18 (Value.agg #[.int .i64 d, .int .i64 f, .slice ay n cy]); with_reducible exact QY.out _ _) | (go_at_call_of 18 (Value.agg #[.int .i64 d, .int .i64 f, .slice a n c]); with_reducible exact QB.out _ _) | (go_at_call_of 18 (Value.agg #[.int .i64 d, .int .i64 f, .slice a2 n c2]); with_reducible exact QC.out _ _) | (go_at_call_of 19 (Value.string U); with_reducible exact QR1.out _ _) | (go_at_call_of 19 (Value.string L); with_reducible exact QR2.out _ _) | (go_at_call_of 19 (Value.string s); with_reducible exact QR3.out _ _) | (go_at_call_of 19 (Value.string t); with_reducible exact QR4.out _ _) | (go_at_call 20; with_reducible exact QR5.out _ _) | (go_at_call 21; with_reducible exact QC1.out _ _) | (go_at_call 21; with_reducible exact QC2.out _ _))))
          refine wpQuiet_nil ?_
          intro _ hw'
          obtain ⟨⟨dq, osq⟩, hw''⟩ := hw'
          subst hw''
          go_wp2
          go_ret
          exact ⟨rfl, HBQ.out dq osq⟩
        
      | true =>
        obtain rfl : z = true := by have h := HPQ.out; cases z <;> simp_all
        go_wp2_with fail
        refine (P1.out _).mono ?_
        rintro e w16 ⟨rfl, hb⟩
        have HB := Lib.hid (HB.out.trans (hb.mono HB.out.size)); clear hb
        go_wp2_with fail
        refine (Q1.out _).mono ?_
        rintro e w17 ⟨rfl, hb⟩
        have HB := Lib.hid (HB.out.trans (hb.mono HB.out.size)); clear hb
        go_wp2_with fail
        refine (Z1.out _).mono ?_
        rintro e w18 ⟨rfl, hb⟩
        have HB := Lib.hid (HB.out.trans (hb.mono HB.out.size)); clear hb
        clear xU xL xs xA
        go_wp2_with fail
        refine drawCards_get ca cl cc _ hm (rowIn_below HR.out HB.out) ?_
        intro d f n a c lb a2 c2 lc w20 hd4 hf4 hn6 nb nc hcb hcc hb ho ho2
        have HB := Lib.hid (HB.out.trans (hb.mono HB.out.size))
        have OB := Lib.hid ho
        have OC := Lib.hid ho2
        obtain ⟨lx, ly, vx, vy, vb, vc, hv⟩ := vols_of hcb hcc nb nc
        have hbo : bothB d f lb d f lc = true := both_iff.2 ⟨hcb, hcc, rfl, rfl, by omega⟩
        have HUC := Lib.hid (fun (w' : World) (x y : Nat) (h : Own w' x (.slice a n c) lb) (h2 : Own w' y (.slice a2 n c2) lc) => (upperC_impl d f d f x y n n c c2 a a2 lb lc w' (by omega) (by omega) hv.zb hv.zc h h2).mono fun _ _ q => show Gave2 w' d f lx true _ _ from hv.hx ▸ gave_both hbo q)
        have HLC := Lib.hid (fun (w' : World) (x y : Nat) (h : Own w' x (.slice a n c) lb) (h2 : Own w' y (.slice a2 n c2) lc) => (lowerC_impl d f d f x y n n c c2 a a2 lb lc w' (by omega) (by omega) hv.zb hv.zc h h2).mono fun _ _ q => show Gave2 w' d f ly true _ _ from hv.hy ▸ gave_both hbo q)
        have hvb := fun (w' : World) (h : Row w' a lb) => vol_spec d f a n c lb w' nb (by omega) hv.zb h
        have hvc := fun (w' : World) (h : Row w' a2 lc) => vol_spec d f a2 n c2 lc w' nc (by omega) hv.zc h
        have hvx := fun (a' : Option Addr) (c' : Nat) (w' : World) (h : Row w' a' lx) => vol_spec d f a' n c' lx w' hv.nx (by omega) hv.zx h
        have hvy := fun (a' : Option Addr) (c' : Nat) (w' : World) (h : Row w' a' ly) => vol_spec d f a' n c' ly w' hv.ny (by omega) hv.zy h
        rw [hv.b1] at hvb
        rw [hv.c1] at hvc
        rw [hv.x1] at hvx
        rw [hv.y1] at hvy
        have HVB := Lib.hid hvb
        have HVC := Lib.hid hvc
        have HVX := Lib.hid hvx
        have HVY := Lib.hid hvy
        have HNX := Lib.hid hv.nx
        have HNY := Lib.hid hv.ny
        have HVV := Lib.hid (show vx + vy = vb + vc ∧ -2560 ≤ vx ∧ vx ≤ 2560 ∧ -2560 ≤ vy ∧ vy ≤ 2560 ∧ -2560 ≤ vb ∧ vb ≤ 2560 ∧ -2560 ≤ vc ∧ vc ≤ 2560 from ⟨hv.su, hv.b⟩)
        clear hb ho ho2 hv hbo hvb hvc hvx hvy nb nc hcb hcc hd4 hf4
        go_wp2_with fail
        obtain ⟨W, hW, hv8, hv9, hbw, hsw⟩ := beginTwo w20 d f d f (.slice a n c) (.slice a2 n c2)
        rw [← hW]
        have V8 := Lib.hid hv8
        have V9 := Lib.hid hv9
        have OB := Lib.hid (OB.out.below hbw)
        have OC := Lib.hid (OC.out.below hbw)
        have HB := Lib.hid (HB.out.trans (hbw.mono HB.out.size))
        obtain ⟨k0, k1, k2⟩ := hv8.cells
        obtain ⟨m0, m1, m2⟩ := hv9.cells
        clear hW hv8 hv9 hbw hsw
        go_wp2_with fail
        clear k0 k1 k2 m0 m1 m2
        refine (HUC.out _ _ _ OB.out OC.out).mono ?_
        rintro e w21 ⟨ax, cx, rfl, hb, hox⟩
        rw [HNX.out] at hox ⊢
        have V8 := Lib.hid (V8.out.below hb)
        have V9 := Lib.hid (V9.out.below hb)
        have OB := Lib.hid (OB.out.below hb)
        have OC := Lib.hid (OC.out.below hb)
        have OX := Lib.hid hox
        have HB := Lib.hid (HB.out.trans (hb.mono HB.out.size))
        clear hb hox HUC
        have hv0 := Var.new w21 d f (.slice ax n cx)
        have hb := alloc_below w21 (.cells #[.int .i64 d, .int .i64 f, .slice ax n cx] 30)
        have V8 := Lib.hid (V8.out.below hb)
        have V9 := Lib.hid (V9.out.below hb)
        have OB := Lib.hid (OB.out.below hb)
        have OC := Lib.hid (OC.out.below hb)
        have OX := Lib.hid (OX.out.below hb)
        have HB := Lib.hid (HB.out.trans (hb.mono HB.out.size))
        have V10 := Lib.hid hv0
        clear hv0 hb
        obtain ⟨k0, k1, k2⟩ := V8.out.cells
        obtain ⟨m0, m1, m2⟩ := V9.out.cells
        go_wp2_with fail
        clear k0 k1 k2 m0 m1 m2
        generalize (w21.alloc (.cells #[.int .i64 d, .int .i64 f, .slice ax n cx] 30)) = w22 at *
        refine (HLC.out _ _ _ OB.out OC.out).mono ?_
        rintro e w23 ⟨ay, cy, rfl, hb, hoy⟩
        rw [HNY.out] at hoy ⊢
        have V8 := Lib.hid (V8.out.below hb)
        have V9 := Lib.hid (V9.out.below hb)
        have V10 := Lib.hid (V10.out.below hb)
        have OB := Lib.hid (OB.out.below hb)
        have OC := Lib.hid (OC.out.below hb)
        have OX := Lib.hid (OX.out.below hb)
        have OY := Lib.hid hoy
        have HB := Lib.hid (HB.out.trans (hb.mono HB.out.size))
        clear hb hoy HLC
        have hv0 := Var.new w23 d f (.slice ay n cy)
        have hb := alloc_below w23 (.cells #[.int .i64 d, .int .i64 f, .slice ay n cy] 30)
        have V8 := Lib.hid (V8.out.below hb)
        have V9 := Lib.hid (V9.out.below hb)
        have V10 := Lib.hid (V10.out.below hb)
        have OB := Lib.hid (OB.out.below hb)
        have OC := Lib.hid (OC.out.below hb)
        have OX := Lib.hid (OX.out.below hb)
        have OY := Lib.hid (OY.out.below hb)
        have HB := Lib.hid (HB.out.trans (hb.mono HB.out.size))
        have V12 := Lib.hid hv0
        clear hv0 hb
        go_wp2_with fail
        generalize (w23.alloc (.cells #[.int .i64 d, .int .i64 f, .slice ay n cy] 30)) = w24 at *
        generalize w21.heap.size = g10 at *
        generalize w23.heap.size = g12 at *
        have k0 := cell_regrown V10.out.cells.1
        have k1 := cell_regrown V10.out.cells.2.1
        have k2 := cell_regrown V10.out.cells.2.2
        have m0 := cell_regrown V12.out.cells.1
        have m1 := cell_regrown V12.out.cells.2.1
        have m2 := cell_regrown V12.out.cells.2.2
        have i0 := cell_regrown V8.out.cells.1
        have i1 := cell_regrown V8.out.cells.2.1
        have i2 := cell_regrown V8.out.cells.2.2
        have j0 := cell_regrown V9.out.cells.1
        have j1 := cell_regrown V9.out.cells.2.1
        have j2 := cell_regrown V9.out.cells.2.2
        have QX := Lib.hid (fun (dd : Nat) (os : Array Obj) => Calls.regrown_of (HVX.out ax cx (grow (redrawn w24 dd) os) (OX.out.below (below_regrown w24 dd os)).row2.2))
        have QY := Lib.hid (fun (dd : Nat) (os : Array Obj) => Calls.regrown_of (HVY.out ay cy (grow (redrawn w24 dd) os) (OY.out.below (below_regrown w24 dd os)).row2.2))
        have QB := Lib.hid (fun (dd : Nat) (os : Array Obj) => Calls.regrown_of (HVB.out (grow (redrawn w24 dd) os) (OB.out.below (below_regrown w24 dd os)).row2.2))
        have QC := Lib.hid (fun (dd : Nat) (os : Array Obj) => Calls.regrown_of (HVC.out (grow (redrawn w24 dd) os) (OC.out.below (below_regrown w24 dd os)).row2.2))
        have QR1 := Lib.hid (fun (dd : Nat) (os : Array Obj) => Calls.regrown_of (R1.out (grow (redrawn w24 dd) os)))
        have QR2 := Lib.hid (fun (dd : Nat) (os : Array Obj) => Calls.regrown_of (R2.out (grow (redrawn w24 dd) os)))
        have QR3 := Lib.hid (fun (dd : Nat) (os : Array Obj) => Calls.regrown_of (R3.out (grow (redrawn w24 dd) os)))
        have QR4 := Lib.hid (fun (dd : Nat) (os : Array Obj) => Calls.regrown_of (R4.out (grow (redrawn w24 dd) os)))
        have QR5 := Lib.hid (fun (dd : Nat) (os : Array Obj) => Calls.regrown_of (R5.out (grow (redrawn w24 dd) os)))
        have QC1 := Lib.hid (fun (dd : Nat) (os : Array Obj) => Calls.regrown_of (C1.out (grow (redrawn w24 dd) os)))
        have QC2 := Lib.hid (fun (dd : Nat) (os : Array Obj) => Calls.regrown_of (C2.out (grow (redrawn w24 dd) os)))
        obtain ⟨v0, v1, v2, v3, v4, v5, v6, v7, v8⟩ := HVV.out
        obtain ⟨s0, s1, s2, s3, s4, s5, s6, s7, s8, s9⟩ := HRM.out
        have e1 : (vx + vy == vb + vc) = true := by simpa using v0
        have e2 : (ru + rl == rs + rt) = true := by simpa using s0
        have e3 : (ru - rl == ar) = true := by simpa using s1
        have hc2 : (b1 = true ∧ cb = true) ∨ (b1 = false ∧ cb = b2) := by
          have h := HCC.out
          cases b1
          · exact .inr ⟨rfl, h⟩
          · exact .inl ⟨rfl, h⟩
        clear HCC
        have HBQ := Lib.hid (fun dq osq => HB.out.trans ((below_regrown w24 dq osq).mono HB.out.size))
        clear v0 s0 s1 HVX HVY HVB HVC OX OY OB OC HB V8 V9 V10 V12
        rcases hc2 with ⟨rfl, rfl⟩ | ⟨rfl, rfl⟩
        · have hE1 := HE1.out
          have hE2 := HE2.out
          refine wp_region_quiet_below (by kernel_rfl) (by kernel_rfl) ?_
          repeat (go_big_quiet_step ((first | (go_at_call_of 18 (Value.agg #[.int .i64 d, .int .i64 f, .slice ax n cx]); with_reducible exact QX.out _ _) | (go_at_call_of 18 (Value.agg #[.int .i64 d, .int .i64 f, .slice ay n cy]); with_reducible exact QY.out _ _) | (go_at_call_of 18 (Value.agg #[.int .i64 d, .int .i64 f, .slice a n c]); with_reducible exact QB.out _ _) | (go_at_call_of 18 (Value.agg #[.int .i64 d, .int .i64 f, .slice a2 n c2]); with_reducible exact QC.out _ _) | (go_at_call_of 19 (Value.string U); with_reducible exact QR1.out _ _) | (go_at_call_of 19 (Value.string L); with_reducible exact QR2.out _ _) | (go_at_call_of 19 (Value.string s); with_reducible exact QR3.out _ _) | (go_at_call_of 19 (Value.string t); with_reducible exact QR4.out _ _) | (go_at_call 20; with_reducible exact QR5.out _ _) | (go_at_call 21; with_reducible exact QC1.out _ _) | (go_at_call 21; with_reducible exact QC2.out _ _))))
          refine wpQuiet_nil ?_
          intro _ hw'
          obtain ⟨⟨dq, osq⟩, hw''⟩ := hw'
          subst hw''
          go_wp2
          go_ret
          exact ⟨rfl, HBQ.out dq osq⟩
        · have hE1 := HE1.out
          have hE2 := HE2.out
          refine wp_region_quiet_below (by kernel_rfl) (by kernel_rfl) ?_
          repeat (go_big_quiet_step ((first | (go_at_call_of 18 (Value.agg #[.int .i64 d, .int .i64 f, .slice ax n cx]); with_reducible exact QX.out _ _) | (go_at_call_of 18 (Value.agg #[.int .i64 d, .int .i64 f, .slice ay n cy]); with_reducible exact QY.out _ _) | (go_at_call_of 18 (Value.agg #[.int .i64 d, .int .i64 f, .slice a n c]); with_reducible exact QB.out _ _) | (go_at_call_of 18 (Value.agg #[.int .i64 d, .int .i64 f, .slice a2 n c2]); with_reducible exact QC.out _ _) | (go_at_call_of 19 (Value.string U); with_reducible exact QR1.out _ _) | (go_at_call_of 19 (Value.string L); with_reducible exact QR2.out _ _) | (go_at_call_of 19 (Value.string s); with_reducible exact QR3.out _ _) | (go_at_call_of 19 (Value.string t); with_reducible exact QR4.out _ _) | (go_at_call 20; with_reducible exact QR5.out _ _) | (go_at_call 21; with_reducible exact QC1.out _ _) | (go_at_call 21; with_reducible exact QC2.out _ _))))
          refine wpQuiet_nil ?_
          intro _ hw'
          obtain ⟨⟨dq, osq⟩, hw''⟩ := hw'
          subst hw''
          go_wp2
          go_ret
          exact ⟨rfl, HBQ.out dq osq⟩
        
end Go.Proofs.Ytnkcmilhchidiaa.Order
