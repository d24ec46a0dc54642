/- The walk of the law FnExactFirstFit (printed by wip/gen_introwlaw.py). -/
import Derived.Test.YtfhpbgmnekhfeaaFitSpec
import Derived.Test.YtfhpbgmnekhfeaaFitImpl
namespace Go.Proofs.Ytfhpbgmnekhfeaa.Sheet
open Go.ChangeShapes Go.WideShapes Go.ChangeAt Go.RowKit
open Go.Proofs.Ytfhpbgmnekhfeaa.Ints Go.Proofs.Ytfhpbgmnekhfeaa.Corner
set_option linter.unusedVariables false

/-- A row is kept by what writes into an older one. -/
theorem apartR {w w' : World} {base : Nat} {v v2 : Value} {l : List Int} (h : Own w base v l) (hne : ∀ b, v2.ownBlock = some b → b < base) (hg : w.grownBy w' v2.ownBlock) : Own w' base v l :=
  World.ownsRow.kept h hg (by
    cases hb : v.ownBlock with
    | none => exact .inl rfl
    | some b =>
      right
      intro e
      have h3 := hne b e.symm
      have h4 := (World.ownsRow.lt h b hb).1
      omega)
theorem own_cap {w : World} {base n c : Nat} {a : Option Addr} {l : List Int} (h : Own w base (.slice a n c) l) : n ≤ c := by
  obtain ⟨_, ⟨e, _⟩ | ⟨g, cap, cur, e, _, _, h1, _⟩⟩ := h
  · cases e; exact Nat.le_refl _
  · have e2 := Value.slice.inj e
    omega

set_option maxRecDepth 100000 in
set_option maxHeartbeats 4000000 in
theorem exactFirstFit (W : Int) (a : Option Addr) (c : Nat) (l : List Int) (w : World) (hm : l.length ≤ maxLen) (hr : ARow w a l) :
    Calls Try.prog 8 #[.int .i64 W, .slice a l.length c] w fun e w' => e = .returned (.bool true) ∧ Below w.heap.size w w' := by
  unfold maxLen at hm
  have HR := Lib.hid hr
  clear hr
  obtain ⟨N, hN⟩ : ∃ N, l.length = N := ⟨_, rfl⟩
  have HN := Lib.hid hN
  rw [hN] at hm ⊢
  clear hN
  by_cases hbig : 1048576 < N
  · have hd : decide (1048576 < N) = true := decide_eq_true hbig
    have hd2 : decide ((1048576 : Int) < (N : Int)) = true := decide_eq_true (by omega)
    go_enter Try.func8, Try.ntmps8
    go_wp2
    go_ret
    exact ⟨rfl, Below.refl _ _⟩
  · have hn1 : N ≤ 1048576 := by omega
    have hd : decide (1048576 < N) = false := decide_eq_false hbig
    have hd2 : decide ((1048576 : Int) < (N : Int)) = false := decide_eq_false (by omega)
    have HB := Lib.hid (Below.refl w.heap.size w)
    have hbd := ff_short W l
    have HSP := Lib.hid (fun a' c' w' (h : IRow w' a' l) (hc : N ≤ c') => ff_spec W a' N c' l w' HN.out hn1 h)
    have HIM := Lib.hid (fun a' c' w' (h : IRow w' a' l) (hc : N ≤ c') => ff_impl W a' N c' l w' HN.out hn1 hc h)
    unfold PostRow at HSP HIM
    obtain ⟨v, hv⟩ : ∃ v, ffV W l = v := ⟨_, rfl⟩
    rw [hv] at HSP HIM hbd
    clear hv
    obtain ⟨K, hK⟩ : ∃ K, v.length = K := ⟨_, rfl⟩
    have HK := Lib.hid hK
    rw [hK] at hbd
    clear hK
    have HTO := Lib.hid (fun w' (h : ARow w' a l) => (show Calls Try.prog 26 #[.slice a N c] w' _ by have h1 := to_at a c l w' (by rw [HN.out]; exact hn1) h; rw [HN.out] at h1; exact h1))
    have HEV := Lib.hid (fun a1 a2 c1 c2 w' h1 h2 => eq_yes K c1 c2 a1 a2 v HK.out (by unfold maxLen; omega) w' h1 h2)
    have HEX := Lib.hid (fun a1 a2 c1 c2 w' h1 h2 => eq_yes N c1 c2 a1 a2 l HN.out (by unfold maxLen; omega) w' h1 h2)
    have HMX := Lib.hid (fun base a' c' w' (h : Own w' base (.slice a' N c') l) => (show Calls Try.prog 28 #[.slice a' N c', .int .i64 1] w' (fun e w2 => e = .returned (.int .i64 ((1 + N : Nat) : Int)) ∧ Own w2 base (.slice a' N c') (marks 1 N) ∧ w'.grownBy w2 (Value.slice a' N c').ownBlock) by have h1 := mark_wide 1 (Nat.le_refl _) (by omega) base a' c' l (by rw [HN.out]; omega) w' (by rw [HN.out]; exact h); rw [HN.out] at h1; exact h1))
    have HMV := Lib.hid (fun base a' c' w' (h : Own w' base (.slice a' K c') v) => (show Calls Try.prog 28 #[.slice a' K c', .int .i64 1] w' (fun e w2 => e = .returned (.int .i64 ((1 + K : Nat) : Int)) ∧ Own w2 base (.slice a' K c') (marks 1 K) ∧ w'.grownBy w2 (Value.slice a' K c').ownBlock) by have h1 := mark_wide 1 (Nat.le_refl _) (by omega) base a' c' v (by rw [HK.out]; omega) w' (by rw [HK.out]; exact h); rw [HK.out] at h1; exact h1))
    have HHV := Lib.hid (fun a' c' w' h => held_wide a' K c' 1 (Nat.le_refl _) (by omega) (by omega) w' h)
    have h1N : ((1 + N : Nat) : Int) = 1 + (N : Int) := by omega
    have h1K : ((1 + K : Nat) : Int) = 1 + (K : Int) := by omega
    rw [h1N] at HMX
    rw [h1K] at HMV HHV
    clear h1N h1K hbig
    have hq0 : (0 : Int) ≤ (N : Int) := Int.natCast_nonneg _
    have hq1 : (0 : Int) ≤ (K : Int) := Int.natCast_nonneg _
    have hd3 : decide (1 + (N : Int) < 0) = false := decide_eq_false (by omega)
    have hd4 : decide (1 + (K : Int) < 0) = false := decide_eq_false (by omega)
    have hqq : ((1 + (K : Int)) != (1 + (K : Int))) = false := by simp
    go_enter Try.func8, Try.ntmps8
    go_wp2_with fail
    refine (HTO.out _ (HR.out.below HB.out)).mono ?_
    rintro e w1 ⟨vq, rfl, hb, ho⟩
    have hs_w1 : w.heap.size ≤ w1.heap.size := hb.size
    have HB := Lib.hid (HB.out.trans (hb.mono HB.out.size))
    clear hb
    obtain ⟨aq, cq, eq, _, _⟩ := ho.row
    rw [HN.out] at eq
    subst eq
    have Oq := Lib.hid ho
    have Lq := Lib.hid (fun b (e : (Value.slice aq N cq).ownBlock = some b) => ho.lt b e)
    clear ho
    go_wp2_with fail
    obtain ⟨_, _, ex_, r1_, _⟩ := Oq.out.row
    rw [HN.out] at ex_
    cases ex_
    have c1_ := own_cap Oq.out
    refine (HSP.out _ _ _ r1_ c1_).mono ?_
    clear r1_ c1_
    rintro e w2 ⟨vp, rfl, hb, ho⟩
    have Oq := Lib.hid (Oq.out.below hb)
    have hs_w2 : w1.heap.size ≤ w2.heap.size := hb.size
    have HB := Lib.hid (HB.out.trans (hb.mono HB.out.size))
    clear hb
    obtain ⟨ap, cp, ep, _, _⟩ := ho.row
    rw [HK.out] at ep
    subst ep
    have Op := Lib.hid ho
    have Lp := Lib.hid (fun b (e : (Value.slice ap K cp).ownBlock = some b) => ho.lt b e)
    clear ho
    go_wp2_with fail
    refine (HTO.out _ (HR.out.below HB.out)).mono ?_
    rintro e w3 ⟨vx, rfl, hb, ho⟩
    have Op := Lib.hid (Op.out.below hb)
    have hs_w3 : w2.heap.size ≤ w3.heap.size := hb.size
    have HB := Lib.hid (HB.out.trans (hb.mono HB.out.size))
    clear hb
    obtain ⟨ax, cx, ex, _, _⟩ := ho.row
    rw [HN.out] at ex
    subst ex
    have Ox := Lib.hid ho
    have Lx := Lib.hid (fun b (e : (Value.slice ax N cx).ownBlock = some b) => ho.lt b e)
    clear ho
    go_wp2_with fail
    obtain ⟨_, _, ex_, r1_, _⟩ := Ox.out.row
    rw [HN.out] at ex_
    cases ex_
    have c1_ := own_cap Ox.out
    refine (HIM.out _ _ _ r1_ c1_).mono ?_
    clear r1_ c1_
    rintro e w4 ⟨vg, rfl, hb, ho⟩
    have Op := Lib.hid (Op.out.below hb)
    have Ox := Lib.hid (Ox.out.below hb)
    have hs_w4 : w3.heap.size ≤ w4.heap.size := hb.size
    have HB := Lib.hid (HB.out.trans (hb.mono HB.out.size))
    clear hb
    obtain ⟨ag, cg, eg, _, _⟩ := ho.row
    rw [HK.out] at eg
    subst eg
    have Og := Lib.hid ho
    have Lg := Lib.hid (fun b (e : (Value.slice ag K cg).ownBlock = some b) => ho.lt b e)
    clear ho
    go_wp2_with fail
    obtain ⟨_, _, ex_, r1_, _⟩ := Og.out.row
    rw [HK.out] at ex_
    cases ex_
    obtain ⟨_, _, ex_, r2_, _⟩ := Op.out.row
    rw [HK.out] at ex_
    cases ex_
    refine (HEV.out _ _ _ _ _ r1_ r2_).mono ?_
    clear r1_ r2_
    rintro e wd ⟨rfl, q, rfl⟩
    have hb := drewN_below w4 q
    generalize w4.drewN q = w5 at *
    have Op := Lib.hid (Op.out.below hb)
    have Ox := Lib.hid (Ox.out.below hb)
    have Og := Lib.hid (Og.out.below hb)
    have hs_w5 : w4.heap.size ≤ w5.heap.size := hb.size
    have HB := Lib.hid (HB.out.trans (hb.mono HB.out.size))
    clear hb
    go_wp2_with fail
    refine (HTO.out _ (HR.out.below HB.out)).mono ?_
    rintro e w6 ⟨vy, rfl, hb, ho⟩
    have Op := Lib.hid (Op.out.below hb)
    have Ox := Lib.hid (Ox.out.below hb)
    have Og := Lib.hid (Og.out.below hb)
    have hs_w6 : w5.heap.size ≤ w6.heap.size := hb.size
    have HB := Lib.hid (HB.out.trans (hb.mono HB.out.size))
    clear hb
    obtain ⟨ay, cy, ey, _, _⟩ := ho.row
    rw [HN.out] at ey
    subst ey
    have Oy := Lib.hid ho
    have Ly := Lib.hid (fun b (e : (Value.slice ay N cy).ownBlock = some b) => ho.lt b e)
    clear ho
    go_wp2_with fail
    obtain ⟨_, _, ex_, r1_, _⟩ := Ox.out.row
    rw [HN.out] at ex_
    cases ex_
    obtain ⟨_, _, ex_, r2_, _⟩ := Oy.out.row
    rw [HN.out] at ex_
    cases ex_
    refine (HEX.out _ _ _ _ _ r1_ r2_).mono ?_
    clear r1_ r2_
    rintro e wd ⟨rfl, q, rfl⟩
    have hb := drewN_below w6 q
    generalize w6.drewN q = w7 at *
    have Op := Lib.hid (Op.out.below hb)
    have Ox := Lib.hid (Ox.out.below hb)
    have Og := Lib.hid (Og.out.below hb)
    have Oy := Lib.hid (Oy.out.below hb)
    have hs_w7 : w6.heap.size ≤ w7.heap.size := hb.size
    have HB := Lib.hid (HB.out.trans (hb.mono HB.out.size))
    clear hb
    go_wp2_with fail
    refine (HMX.out _ _ _ _ Ox.out).mono ?_
    rintro e w8 ⟨rfl, hmk, hg⟩
    have Op := Lib.hid (Op.out.apart Ox.out (fun b e => by have := (Lp.out b e).2; omega) hg)
    have Og := Lib.hid (apartR Og.out (fun b e => by have := (Lx.out b e).2; omega) hg)
    have HB := Lib.hid (HB.out.grown hg HB.out.size (fun b e => by have := (Lx.out b e).1; omega))
    have hs_w8 : w7.heap.size ≤ w8.heap.size := hg.size
    have Ox := Lib.hid hmk
    clear hmk hg
    go_wp2_with fail
    obtain ⟨_, _, ex_, r1_, _⟩ := Og.out.row
    rw [HK.out] at ex_
    cases ex_
    obtain ⟨_, _, ex_, r2_, _⟩ := Op.out.row
    rw [HK.out] at ex_
    cases ex_
    refine (HEV.out _ _ _ _ _ r1_ r2_).mono ?_
    clear r1_ r2_
    rintro e wd ⟨rfl, q, rfl⟩
    have hb := drewN_below w8 q
    generalize w8.drewN q = w9 at *
    have Op := Lib.hid (Op.out.below hb)
    have Og := Lib.hid (Og.out.below hb)
    have hs_w9 : w8.heap.size ≤ w9.heap.size := hb.size
    have HB := Lib.hid (HB.out.trans (hb.mono HB.out.size))
    clear hb
    go_wp2_with fail
    refine (HMV.out _ _ _ _ Og.out).mono ?_
    rintro e w10 ⟨rfl, hmk, hg⟩
    have Op := Lib.hid (Op.out.apart Og.out (fun b e => by have := (Lp.out b e).2; omega) hg)
    have HB := Lib.hid (HB.out.grown hg HB.out.size (fun b e => by have := (Lg.out b e).1; omega))
    have hs_w10 : w9.heap.size ≤ w10.heap.size := hg.size
    have Og := Lib.hid hmk
    clear hmk hg
    go_wp2_with fail
    obtain ⟨_, _, ex_, r1_, _⟩ := Og.out.row
    rw [marks_length] at ex_
    cases ex_
    refine (HHV.out _ _ _ r1_).mono ?_
    clear r1_
    rintro e wd ⟨rfl, q, rfl⟩
    have hb := drewN_below w10 q
    generalize w10.drewN q = w11 at *
    have Op := Lib.hid (Op.out.below hb)
    have Og := Lib.hid (Og.out.below hb)
    have hs_w11 : w10.heap.size ≤ w11.heap.size := hb.size
    have HB := Lib.hid (HB.out.trans (hb.mono HB.out.size))
    clear hb
    go_wp2_with fail
    refine (HTO.out _ (HR.out.below HB.out)).mono ?_
    rintro e w12 ⟨vu, rfl, hb, ho⟩
    have Op := Lib.hid (Op.out.below hb)
    have Og := Lib.hid (Og.out.below hb)
    have hs_w12 : w11.heap.size ≤ w12.heap.size := hb.size
    have HB := Lib.hid (HB.out.trans (hb.mono HB.out.size))
    clear hb
    obtain ⟨au, cu, eu, _, _⟩ := ho.row
    rw [HN.out] at eu
    subst eu
    have Ou := Lib.hid ho
    have Lu := Lib.hid (fun b (e : (Value.slice au N cu).ownBlock = some b) => ho.lt b e)
    clear ho
    go_wp2_with fail
    obtain ⟨_, _, ex_, r1_, _⟩ := Ou.out.row
    rw [HN.out] at ex_
    cases ex_
    have c1_ := own_cap Ou.out
    refine (HIM.out _ _ _ r1_ c1_).mono ?_
    clear r1_ c1_
    rintro e w13 ⟨vh, rfl, hb, ho⟩
    have Op := Lib.hid (Op.out.below hb)
    have Og := Lib.hid (Og.out.below hb)
    have Ou := Lib.hid (Ou.out.below hb)
    have hs_w13 : w12.heap.size ≤ w13.heap.size := hb.size
    have HB := Lib.hid (HB.out.trans (hb.mono HB.out.size))
    clear hb
    obtain ⟨ah, ch, eh, _, _⟩ := ho.row
    rw [HK.out] at eh
    subst eh
    have Oh := Lib.hid ho
    have Lh := Lib.hid (fun b (e : (Value.slice ah K ch).ownBlock = some b) => ho.lt b e)
    clear ho
    go_wp2_with fail
    obtain ⟨_, _, ex_, r1_, _⟩ := Oh.out.row
    rw [HK.out] at ex_
    cases ex_
    obtain ⟨_, _, ex_, r2_, _⟩ := Op.out.row
    rw [HK.out] at ex_
    cases ex_
    refine (HEV.out _ _ _ _ _ r1_ r2_).mono ?_
    clear r1_ r2_
    rintro e wd ⟨rfl, q, rfl⟩
    have hb := drewN_below w13 q
    generalize w13.drewN q = w14 at *
    have Op := Lib.hid (Op.out.below hb)
    have Og := Lib.hid (Og.out.below hb)
    have Oh := Lib.hid (Oh.out.below hb)
    have hs_w14 : w13.heap.size ≤ w14.heap.size := hb.size
    have HB := Lib.hid (HB.out.trans (hb.mono HB.out.size))
    clear hb
    go_wp2_with fail
    obtain ⟨_, _, ex_, r1_, _⟩ := Og.out.row
    rw [marks_length] at ex_
    cases ex_
    refine (HHV.out _ _ _ r1_).mono ?_
    clear r1_
    rintro e wd ⟨rfl, q, rfl⟩
    have hb := drewN_below w14 q
    generalize w14.drewN q = w15 at *
    have Op := Lib.hid (Op.out.below hb)
    have Og := Lib.hid (Og.out.below hb)
    have Oh := Lib.hid (Oh.out.below hb)
    have hs_w15 : w14.heap.size ≤ w15.heap.size := hb.size
    have HB := Lib.hid (HB.out.trans (hb.mono HB.out.size))
    clear hb
    go_wp2
    go_ret
    exact ⟨rfl, HB.out⟩
end Go.Proofs.Ytfhpbgmnekhfeaa.Sheet
