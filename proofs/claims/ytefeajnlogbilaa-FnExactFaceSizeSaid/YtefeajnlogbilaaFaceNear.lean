/- What impl.joinedTo returns (printed by wip/gen_near.py). -/
import Derived.Test.YtefeajnlogbilaaTileRow
import Derived.Test.YtefeajnlogbilaaFaceNearDef
import Derived.Test.YtefeajnlogbilaaAppAny
namespace Go.Proofs.Ytefeajnlogbilaa.Face
open Go.ChangeShapes Go.WideShapes Go.ChangeAt Go.RowKit
open Go.Proofs.Ytefeajnlogbilaa.Strip Go.Proofs.Ytefeajnlogbilaa.Strs Go.Proofs.Ytefeajnlogbilaa.Card
set_option linter.unusedVariables false

theorem lit_cells {w : World} {g : Nat} {p q : Int × Int} (h : w.heap[g]? = some (.cells #[.int .i64 p.1, .int .i64 p.2, .int .i64 q.1, .int .i64 q.2] tileT (0, 0))) :
    w.cell? ⟨g, 0, none⟩ = some (.int .i64 p.1) ∧ w.cell? ⟨g, 1, none⟩ = some (.int .i64 p.2) ∧ w.cell? ⟨g, 2, none⟩ = some (.int .i64 q.1) ∧ w.cell? ⟨g, 3, none⟩ = some (.int .i64 q.2) := by simp [World.cell?, h]

/-- Where the walk stands. -/
def JS (w : World) (B0 B1 b6 g base : Nat) (d f : Int) (a : Option Addr) (m c : Nat) (x y u v : Int) (s : ByteArray) (p q : Int × Int) (sl : Value) (res : List (Int × Int)) (wr : World) : Prop :=
  (w.heap.size ≤ B0 ∧ B0 < base ∧ B1 < base ∧ b6 < base ∧ base ≤ g ∧ g < wr.heap.size) ∧ Var wr B0 d f (.slice a m c) ∧ TVar wr B1 x y ∧ SVar wr b6 u v s ∧
    wr.heap[g]? = some (.cells #[.int .i64 p.1, .int .i64 p.2, .int .i64 q.1, .int .i64 q.2] tileT (0, 0)) ∧ sl.ownBlock ≠ some g ∧ TOwn wr base sl res ∧ Below w.heap.size w wr

section
variable {w wr w' : World} {B0 B1 b6 g base m c k cc : Nat} {d f x y u v : Int} {a av : Option Addr} {s : ByteArray} {p q : Int × Int} {sl : Value} {res : List (Int × Int)}
theorem JS.still (h : JS w B0 B1 b6 g base d f a m c x y u v s p q sl res wr) (hb : Below wr.heap.size wr w') : JS w B0 B1 b6 g base d f a m c x y u v s p q sl res w' := by
  obtain ⟨⟨h0, h1, h2, h3, h4, h5⟩, hv, ht, hs, hg, hn, ho, hbw⟩ := h
  exact ⟨⟨h0, h1, h2, h3, h4, Nat.lt_of_lt_of_le h5 hb.size⟩, hv.below hb, ht.below hb, hs.below hb, (hb.block g h5).trans hg, hn, ho.below hb, hbw.trans (hb.mono hbw.size)⟩

theorem JS.push (h : JS w B0 B1 b6 g base d f a m c x y u v s p q (.slice av k cc) res wr) (hk : res.length = k) (hk2 : k ≤ 100) (r : Int × Int) :
    ∃ gg cap w6, (∀ ty, (Builtin.append_ #[92, 92] ty #[.slice av k cc, .slice (some ⟨wr.heap.size, 0, none⟩) 1 1]).run Try.prog (wr.alloc (.cells #[.int .i64 r.1, .int .i64 r.2] tileT)) = .ok (.slice (some ⟨gg, 0, none⟩) (k + 1) cap) w6) ∧
      JS w B0 B1 b6 g base d f a m c x y u v s p q (.slice (some ⟨gg, 0, none⟩) (k + 1) cap) (res ++ [r]) w6 := by
  have hx := alloc_below wr (.cells #[.int .i64 r.1, .int .i64 r.2] tileT)
  obtain ⟨⟨h0, h1, h2, h3, h4, h5⟩, hv, ht, hs, hg, hn, ho, hbw⟩ := h.still hx
  obtain ⟨gg, cap, w6, hr6, ho6, hg6, hat⟩ := tpush (b := wr.heap.size) ho hk (heap_alloc_new wr _) (by omega) (by omega)
  have hne : ∀ b, b < base → some b ≠ (Value.slice av k cc).ownBlock := fun b hb e => by have := (ho.lt b e.symm).1; omega
  have hsz : (wr.alloc (.cells #[.int .i64 r.1, .int .i64 r.2] tileT)).heap.size = wr.heap.size + 1 := by simp
  have h5' : g < wr.heap.size := h.1.2.2.2.2.2
  refine ⟨gg, cap, w6, hr6, ⟨h0, h1, h2, h3, h4, Nat.lt_of_lt_of_le h5 hg6.size⟩, hv.grown hg6 (hne _ h1), ht.grown hg6 (hne _ h2), hs.grown hg6 (hne _ h3), (hg6.block g h5 (fun e => hn e.symm)).trans hg, fun e => ?_, ho6, ?_⟩
  · have e2 : gg = g := by simpa [Value.ownBlock] using e
    subst e2
    rcases hat with h6 | h6
    · exact hn h6
    · omega
  · exact hbw.grown hg6 hbw.size (fun j e => by have := (ho.lt j e).1; omega)
end

set_option maxRecDepth 100000 in
set_option maxHeartbeats 8000000 in
theorem near_impl (d f : Int) (n m c : Nat) (a : Option Addr) (l : List ByteArray) (x y : Int) (w : World) (hl : l.length = m) (hb : cardB d f l = true) (hn : (n : Int) = d + f) (ht : tileB l n x y = true) (hr : Row w a l) :
    Calls Try.prog 85 #[.agg #[.int .i64 d, .int .i64 f, .slice a m c], .agg #[.int .i64 x, .int .i64 y]] w fun e w' => ∃ av cv, e = .returned (.slice av (nearL l n x y).length cv) ∧ Below w.heap.size w w' ∧ TOwn w' w.heap.size (.slice av (nearL l n x y).length cv) (nearL l n x y) := by
  have hfr := card_frame hb
  have hm10 : m ≤ 10 := by have := (cardB_iff.1 hb).2.2.1; omega
  obtain ⟨hx0, hx1, hy0, hy1⟩ : 0 ≤ x ∧ x < 10 ∧ 0 ≤ y ∧ y < 16 := by unfold tileB at ht; simp only [decide_eq_true_eq] at ht; omega
  have HSP := Lib.hid (fun (x y : Int) (w' : World) (h : Row w' a l) => spot_impl d f n m c a l x y w' hl hb hn h)
  unfold spotV at HSP
  have e1 : (w.alloc (.cells #[.int .i64 d, .int .i64 f, .slice a m c] 26)).heap.size = w.heap.size + 1 := by simp
  have HV := Lib.hid ((Var.new w d f (.slice a m c)).below (alloc_below _ (.cells #[.int .i64 x, .int .i64 y] tileT)))
  have HT := Lib.hid (e1 ▸ TVar.new (w.alloc (.cells #[.int .i64 d, .int .i64 f, .slice a m c] 26)) x y)
  have HB := Lib.hid (((Below.refl w.heap.size w).alloc (Nat.le_refl _) (.cells #[.int .i64 d, .int .i64 f, .slice a m c] 26)).alloc (by simp) (.cells #[.int .i64 x, .int .i64 y] tileT))
  have HR := Lib.hid hr
  clear hr e1
  go_enter Try.func85, Try.ntmps85
  go_upto_region 2 with (fail)
  have HSZ := Lib.hid (show ((w.alloc (.cells #[.int .i64 d, .int .i64 f, .slice a m c] 26)).alloc (.cells #[.int .i64 x, .int .i64 y] tileT)).heap.size = w.heap.size + 1 + 1 by simp)
  generalize (w.alloc (.cells #[.int .i64 d, .int .i64 f, .slice a m c] 26)).alloc (.cells #[.int .i64 x, .int .i64 y] tileT) = W at *
  obtain ⟨k0, k1, k2⟩ := HV.out.cells
  obtain ⟨t0, t1⟩ := HT.out.cells
  go_wp2_with fail
  refine (HSP.out x y _ (HR.out.since (Nat.le_refl _) HB.out)).mono ?_
  rintro e w1 ⟨rfl, hb1⟩
  have hu : ∃ u v s, u = spF l n x y ∧ v = spD l n x y ∧ s = spS l n x y := ⟨_, _, _, rfl, rfl, rfl⟩
  obtain ⟨u, v, s, hu1, hu2, hu3⟩ := hu
  have HU := Lib.hid (show spF l n x y = u ∧ spD l n x y = v ∧ spS l n x y = s from ⟨hu1.symm, hu2.symm, hu3.symm⟩)
  rw [← hu1, ← hu2, ← hu3]
  clear hu1 hu2 hu3
  have hb2 := hb1.alloc hb1.size (.cells #[.int .i64 u, .int .i64 v, .string s] 68)
  have HV := Lib.hid (HV.out.below hb2)
  have HT := Lib.hid (HT.out.below hb2)
  have HS := Lib.hid (SVar.new w1 u v s)
  have HB := Lib.hid (HB.out.trans (hb2.mono HB.out.size))
  have HSZ := Lib.hid (show w.heap.size + 1 + 1 ≤ w1.heap.size by have := hb1.size; have := HSZ.out; omega)
  clear hb1 hb2 k0 k1 k2 t0 t1
  go_upto_region 3 with (fail)
  obtain ⟨b6, hb6⟩ : ∃ b6, w1.heap.size = b6 := ⟨_, rfl⟩
  have HSW := Lib.hid (show (w1.alloc (.cells #[.int .i64 u, .int .i64 v, .string s] 68)).heap.size = b6 + 1 by rw [← hb6]; simp)
  rw [hb6] at HS HSZ
  try rw [hb6]
  generalize w1.alloc (.cells #[.int .i64 u, .int .i64 v, .string s] 68) = W at *
  clear hb6
  obtain ⟨t0, t1⟩ := HT.out.cells
  have HJ : Hid (JS w w.heap.size (w.heap.size + 1) b6 W.heap.size (b6 + 1) d f a m c x y u v s (x, y - 1) (x, y + 1) (.slice none 0 0) [] (W.alloc (.cells #[.int .i64 x, .int .i64 (y - 1), .int .i64 x, .int .i64 (y + 1)] tileT))) := by
    have hb3 := alloc_below W (.cells #[.int .i64 x, .int .i64 (y - 1), .int .i64 x, .int .i64 (y + 1)] tileT)
    have h1 := HSW.out
    have h2 := HSZ.out
    exact Lib.hid ⟨⟨Nat.le_refl _, by omega, by omega, by omega, by omega, by simp⟩, HV.out.below hb3, HT.out.below hb3, HS.out.below hb3, heap_alloc_new W _, by simp [Value.ownBlock], TOwn.nil _ _, HB.out.trans (hb3.mono HB.out.size)⟩
  clear HV HT HS HB HSW HSZ

  obtain ⟨g, hg⟩ : ∃ g, W.heap.size = g := ⟨_, rfl⟩
  go_wp2_with fail
  rw [hg] at HJ
  try rw [hg]
  generalize (W.alloc (.cells #[.int .i64 x, .int .i64 (y - 1), .int .i64 x, .int .i64 (y + 1)] tileT)) = W2 at *
  clear hg t0 t1
  go_loopw [5, 28] (fun sl i wr => ∃ (j : Nat) (av : Option Addr) (cv k : Nat) (r : List (Int × Int)), j ≤ 2 ∧ k ≤ 10 ∧ sl = .slice av k cv ∧ i = .int .i64 (j : Int) ∧ Hid (r.length = k ∧ k ≤ 0 + j) ∧ Hid (r = [] ++ acc (letQ l n x y) [(x, y - 1), (x, y + 1)] j) ∧ Hid (JS w w.heap.size (w.heap.size + 1) b6 g (b6 + 1) d f a m c x y u v s (x, y - 1) (x, y + 1) (.slice av k cv) r wr)) (fun _ i _ => 2 - (intOf i).toNat)
  case atStart => exact ⟨0, none, 0, 0, [], by omega, by omega, rfl, rfl, Lib.hid ⟨rfl, by omega⟩, Lib.hid rfl, HJ⟩
  case round =>
    obtain ⟨j, av, cv, k, r, hj2, hk10, rfl, rfl, HK, HRES, HJ⟩ := hrel
    by_cases hj0 : j = 0
    · subst hj0
      obtain ⟨g0, g1, g2, g3⟩ := lit_cells HJ.out.2.2.2.2.1
      have HJ8 := Lib.hid (HJ.out.still (alloc_below wr (.cells #[.int .i64 (x), .int .i64 (y - 1)] tileT)))
      have HT8 := Lib.hid (TVar.new wr (x) (y - 1))
      go_upto_region 6 with (fail)
      obtain ⟨b8, hb8⟩ : ∃ b8, wr.heap.size = b8 := ⟨_, rfl⟩
      rw [hb8] at HT8
      try rw [hb8]
      generalize wr.alloc (.cells #[.int .i64 (x), .int .i64 (y - 1)] tileT) = W8 at *
      clear hb8 HJ g0 g1 g2 g3
      obtain ⟨k0, k1, k2⟩ := HJ8.out.2.1.cells
      obtain ⟨t0, t1⟩ := HT8.out.cells
      obtain ⟨p0, p1, p2⟩ := HJ8.out.2.2.2.1.cells
      have HSQ := Lib.hid (fun (w' : World) (h : Row w' a l) => HSP.out (x) (y - 1) w' h)
      have hfl := spot_letter (spF l n (x) (y - 1)) (spD l n (x) (y - 1)) (spS l n (x) (y - 1))
      have hQ : letQ l n x y (x, y - 1) = decide (spS l n (x) (y - 1) = s) := by unfold letQ; rw [HU.out.2.2]
      cases hq : letQ l n x y (x, y - 1) with
      | false =>
        have hstep := acc_no (Q := (letQ l n x y)) (c := [(x, y - 1), (x, y + 1)]) (j := 0) (p := (x, y - 1)) rfl hq
        rw [hq] at hQ
        have hdec := hQ.symm
        have hbeq : ((spS l n (x) (y - 1)).toList == s.toList) = false := by rw [toList_beq]; exact hdec
        generalize spF l n (x) (y - 1) = u2 at *
        generalize spD l n (x) (y - 1) = v2 at *
        generalize spS l n (x) (y - 1) = s2 at *
        clear hQ hdec hq
        go_region_law ((go_simp; go_at_call 55; refine (HSQ.out _ (HR.out.since (Nat.le_refl _) (HJ8.out.2.2.2.2.2.2.2).drew)).mono ?_; rintro e w3 ⟨rfl, hb3⟩; have HJ3 := Lib.hid (HJ8.out.still ((Below.refl W8.heap.size W8).drew.trans hb3)); have HT3 := Lib.hid (HT8.out.below ((Below.refl W8.heap.size W8).drew.trans hb3)); obtain ⟨q0, q1, q2⟩ := HJ3.out.2.2.2.1.cells; clear hb3))
        all_goals
          clear HSQ hfl k0 k1 k2 t0 t1 p0 p1 p2 q0 q1 q2 HJ8 HT8
          go_wp2_with fail
          go_roundw
          case rel => exact ⟨1, av, cv, k, r, by omega, by omega, rfl, by go_num, Lib.hid ⟨HK.out.1, by have := HK.out.2; omega⟩, Lib.hid (by rw [HRES.out, hstep]), HJ3⟩
          case measure => simp [intOf]
      | true =>
        have hstep := acc_yes (Q := (letQ l n x y)) (c := [(x, y - 1), (x, y + 1)]) (j := 0) (p := (x, y - 1)) rfl hq
        rw [hq] at hQ
        have hdec := hQ.symm
        have hbeq : ((spS l n (x) (y - 1)).toList == s.toList) = true := by rw [toList_beq]; exact hdec
        generalize spF l n (x) (y - 1) = u2 at *
        generalize spD l n (x) (y - 1) = v2 at *
        generalize spS l n (x) (y - 1) = s2 at *
        clear hQ hdec hq
        go_region_law ((go_simp; go_at_call 55; refine (HSQ.out _ (HR.out.since (Nat.le_refl _) (HJ8.out.2.2.2.2.2.2.2).drew)).mono ?_; rintro e w3 ⟨rfl, hb3⟩; have HJ3 := Lib.hid (HJ8.out.still ((Below.refl W8.heap.size W8).drew.trans hb3)); have HT3 := Lib.hid (HT8.out.below ((Below.refl W8.heap.size W8).drew.trans hb3)); obtain ⟨q0, q1, q2⟩ := HJ3.out.2.2.2.1.cells; clear hb3))
        all_goals
          clear HSQ hfl k0 k1 k2 t0 t1 p0 p1 p2 q0 q1 q2 HJ8 HT8
          obtain ⟨t0, t1⟩ := HT3.out.cells
          obtain ⟨gg, cap, w6, hr6, hj6⟩ := HJ3.out.push HK.out.1 (by omega) (x, y - 1)
          have HJ6 := Lib.hid hj6
          clear hj6
          go_wp2_with (at_builtin; refine Lib.wpList_append_run _ rfl _ _ _ _ rfl _ _ rfl rfl _ _ (hr6 _) ?_)
          go_roundw
          case rel => exact ⟨1, some ⟨gg, 0, none⟩, cap, k + 1, r ++ [(x, y - 1)], by omega, by have := HK.out.2; omega, rfl, by go_num, Lib.hid ⟨by rw [List.length_append, HK.out.1]; rfl, by have := HK.out.2; omega⟩, Lib.hid (by rw [HRES.out, hstep, List.append_assoc]), HJ6⟩
          case measure => simp [intOf]
    by_cases hj1 : j = 1
    · subst hj1
      obtain ⟨g0, g1, g2, g3⟩ := lit_cells HJ.out.2.2.2.2.1
      have HJ8 := Lib.hid (HJ.out.still (alloc_below wr (.cells #[.int .i64 (x), .int .i64 (y + 1)] tileT)))
      have HT8 := Lib.hid (TVar.new wr (x) (y + 1))
      go_upto_region 6 with (fail)
      obtain ⟨b8, hb8⟩ : ∃ b8, wr.heap.size = b8 := ⟨_, rfl⟩
      rw [hb8] at HT8
      try rw [hb8]
      generalize wr.alloc (.cells #[.int .i64 (x), .int .i64 (y + 1)] tileT) = W8 at *
      clear hb8 HJ g0 g1 g2 g3
      obtain ⟨k0, k1, k2⟩ := HJ8.out.2.1.cells
      obtain ⟨t0, t1⟩ := HT8.out.cells
      obtain ⟨p0, p1, p2⟩ := HJ8.out.2.2.2.1.cells
      have HSQ := Lib.hid (fun (w' : World) (h : Row w' a l) => HSP.out (x) (y + 1) w' h)
      have hfl := spot_letter (spF l n (x) (y + 1)) (spD l n (x) (y + 1)) (spS l n (x) (y + 1))
      have hQ : letQ l n x y (x, y + 1) = decide (spS l n (x) (y + 1) = s) := by unfold letQ; rw [HU.out.2.2]
      cases hq : letQ l n x y (x, y + 1) with
      | false =>
        have hstep := acc_no (Q := (letQ l n x y)) (c := [(x, y - 1), (x, y + 1)]) (j := 1) (p := (x, y + 1)) rfl hq
        rw [hq] at hQ
        have hdec := hQ.symm
        have hbeq : ((spS l n (x) (y + 1)).toList == s.toList) = false := by rw [toList_beq]; exact hdec
        generalize spF l n (x) (y + 1) = u2 at *
        generalize spD l n (x) (y + 1) = v2 at *
        generalize spS l n (x) (y + 1) = s2 at *
        clear hQ hdec hq
        go_region_law ((go_simp; go_at_call 55; refine (HSQ.out _ (HR.out.since (Nat.le_refl _) (HJ8.out.2.2.2.2.2.2.2).drew)).mono ?_; rintro e w3 ⟨rfl, hb3⟩; have HJ3 := Lib.hid (HJ8.out.still ((Below.refl W8.heap.size W8).drew.trans hb3)); have HT3 := Lib.hid (HT8.out.below ((Below.refl W8.heap.size W8).drew.trans hb3)); obtain ⟨q0, q1, q2⟩ := HJ3.out.2.2.2.1.cells; clear hb3))
        all_goals
          clear HSQ hfl k0 k1 k2 t0 t1 p0 p1 p2 q0 q1 q2 HJ8 HT8
          go_wp2_with fail
          go_roundw
          case rel => exact ⟨2, av, cv, k, r, by omega, by omega, rfl, by go_num, Lib.hid ⟨HK.out.1, by have := HK.out.2; omega⟩, Lib.hid (by rw [HRES.out, hstep]), HJ3⟩
          case measure => simp [intOf]
      | true =>
        have hstep := acc_yes (Q := (letQ l n x y)) (c := [(x, y - 1), (x, y + 1)]) (j := 1) (p := (x, y + 1)) rfl hq
        rw [hq] at hQ
        have hdec := hQ.symm
        have hbeq : ((spS l n (x) (y + 1)).toList == s.toList) = true := by rw [toList_beq]; exact hdec
        generalize spF l n (x) (y + 1) = u2 at *
        generalize spD l n (x) (y + 1) = v2 at *
        generalize spS l n (x) (y + 1) = s2 at *
        clear hQ hdec hq
        go_region_law ((go_simp; go_at_call 55; refine (HSQ.out _ (HR.out.since (Nat.le_refl _) (HJ8.out.2.2.2.2.2.2.2).drew)).mono ?_; rintro e w3 ⟨rfl, hb3⟩; have HJ3 := Lib.hid (HJ8.out.still ((Below.refl W8.heap.size W8).drew.trans hb3)); have HT3 := Lib.hid (HT8.out.below ((Below.refl W8.heap.size W8).drew.trans hb3)); obtain ⟨q0, q1, q2⟩ := HJ3.out.2.2.2.1.cells; clear hb3))
        all_goals
          clear HSQ hfl k0 k1 k2 t0 t1 p0 p1 p2 q0 q1 q2 HJ8 HT8
          obtain ⟨t0, t1⟩ := HT3.out.cells
          obtain ⟨gg, cap, w6, hr6, hj6⟩ := HJ3.out.push HK.out.1 (by omega) (x, y + 1)
          have HJ6 := Lib.hid hj6
          clear hj6
          go_wp2_with (at_builtin; refine Lib.wpList_append_run _ rfl _ _ _ _ rfl _ _ rfl rfl _ _ (hr6 _) ?_)
          go_roundw
          case rel => exact ⟨2, some ⟨gg, 0, none⟩, cap, k + 1, r ++ [(x, y + 1)], by omega, by have := HK.out.2; omega, rfl, by go_num, Lib.hid ⟨by rw [List.length_append, HK.out.1]; rfl, by have := HK.out.2; omega⟩, Lib.hid (by rw [HRES.out, hstep, List.append_assoc]), HJ6⟩
          case measure => simp [intOf]
    obtain rfl : j = 2 := by omega
    -- the second list
    have HR0 := Lib.hid (show r = acc (letQ l n x y) [(x, y - 1), (x, y + 1)] 2 from HRES.out)
    clear HRES
    obtain ⟨t0, t1⟩ := HJ.out.2.2.1.cells
    have HJ2 : Hid (JS w w.heap.size (w.heap.size + 1) b6 wr.heap.size (b6 + 1) d f a m c x y u v s (x - 1, y) (x + 1, y) (.slice av k cv) r (wr.alloc (.cells #[.int .i64 (x - 1), .int .i64 y, .int .i64 (x + 1), .int .i64 y] tileT))) := by
      have hb3 := alloc_below wr (.cells #[.int .i64 (x - 1), .int .i64 y, .int .i64 (x + 1), .int .i64 y] tileT)
      obtain ⟨⟨h0, h1, h2, h3, h4, h5⟩, hv, ht, hs, hg, hnn, ho, hbw⟩ := HJ.out
      exact Lib.hid ⟨⟨h0, h1, h2, h3, by omega, by simp⟩, hv.below hb3, ht.below hb3, hs.below hb3, heap_alloc_new wr _, fun e => by have := (ho.lt _ e).2; omega, ho.below hb3, hbw.trans (hb3.mono hbw.size)⟩
    clear HJ
    go_wp2_with fail
    clear t0 t1
    obtain ⟨g9, hg9⟩ : ∃ g9, wr.heap.size = g9 := ⟨_, rfl⟩
    rw [hg9] at HJ2
    try rw [hg9]
    generalize (wr.alloc (.cells #[.int .i64 (x - 1), .int .i64 y, .int .i64 (x + 1), .int .i64 y] tileT)) = W2' at *
    clear hg9
    have HK0 := Lib.hid (show k ≤ 2 by have := HK.out.2; omega)
    skip
    go_loopw [5, 58] (fun sl i wr => ∃ (j : Nat) (av : Option Addr) (cv k : Nat) (r : List (Int × Int)), j ≤ 2 ∧ k ≤ 10 ∧ sl = .slice av k cv ∧ i = .int .i64 (j : Int) ∧ Hid (r.length = k ∧ k ≤ 2 + j) ∧ Hid (r = acc (letQ l n x y) [(x, y - 1), (x, y + 1)] 2 ++ acc (eqQ l n x y) [(x - 1, y), (x + 1, y)] j) ∧ Hid (JS w w.heap.size (w.heap.size + 1) b6 g9 (b6 + 1) d f a m c x y u v s (x - 1, y) (x + 1, y) (.slice av k cv) r wr)) (fun _ i _ => 2 - (intOf i).toNat)
    case atStart => exact ⟨0, av, cv, k, r, by omega, by omega, rfl, rfl, Lib.hid ⟨HK.out.1, by have := HK0.out; omega⟩, Lib.hid (by rw [HR0.out]; simp [acc]), HJ2⟩
    case round =>
      clear HJ2 HK HK0 HR0 hk10 hj2
      obtain ⟨j, av, cv, k, r, hj2, hk10, rfl, rfl, HK, HRES, HJ⟩ := hrel
      by_cases hj0 : j = 0
      · subst hj0
        obtain ⟨g0, g1, g2, g3⟩ := lit_cells HJ.out.2.2.2.2.1
        have HJ8 := Lib.hid (HJ.out.still (alloc_below wr (.cells #[.int .i64 (x - 1), .int .i64 (y)] tileT)))
        have HT8 := Lib.hid (TVar.new wr (x - 1) (y))
        go_upto_region 12 with (fail)
        obtain ⟨b8, hb8⟩ : ∃ b8, wr.heap.size = b8 := ⟨_, rfl⟩
        rw [hb8] at HT8
        try rw [hb8]
        generalize wr.alloc (.cells #[.int .i64 (x - 1), .int .i64 (y)] tileT) = W8 at *
        clear hb8 HJ g0 g1 g2 g3
        obtain ⟨k0, k1, k2⟩ := HJ8.out.2.1.cells
        obtain ⟨t0, t1⟩ := HT8.out.cells
        obtain ⟨p0, p1, p2⟩ := HJ8.out.2.2.2.1.cells
        have HSQ := Lib.hid (fun (w' : World) (h : Row w' a l) => HSP.out (x - 1) (y) w' h)
        have hfl := fun w' : World => spot_equal (spF l n (x - 1) (y)) (spD l n (x - 1) (y)) u v (spS l n (x - 1) (y)) s w'
        have hQ : eqQ l n x y (x - 1, y) = decide (spF l n (x - 1) (y) = u ∧ spD l n (x - 1) (y) = v ∧ spS l n (x - 1) (y) = s) := by unfold eqQ eqB; rw [HU.out.1, HU.out.2.1, HU.out.2.2]
        cases hq : eqQ l n x y (x - 1, y) with
        | false =>
          have hstep := acc_no (Q := (eqQ l n x y)) (c := [(x - 1, y), (x + 1, y)]) (j := 0) (p := (x - 1, y)) rfl hq
          rw [hq] at hQ
          have hdec := hQ.symm
          rw [hdec] at hfl
          generalize spF l n (x - 1) (y) = u2 at *
          generalize spD l n (x - 1) (y) = v2 at *
          generalize spS l n (x - 1) (y) = s2 at *
          clear hQ hdec hq
          go_region_law ((go_simp; go_at_call 55; refine (HSQ.out _ (HR.out.since (Nat.le_refl _) (HJ8.out.2.2.2.2.2.2.2).drew)).mono ?_; rintro e w3 ⟨rfl, hb3⟩; have HJ3 := Lib.hid (HJ8.out.still ((Below.refl W8.heap.size W8).drew.trans hb3)); have HT3 := Lib.hid (HT8.out.below ((Below.refl W8.heap.size W8).drew.trans hb3)); obtain ⟨q0, q1, q2⟩ := HJ3.out.2.2.2.1.cells; clear hb3))
          all_goals
            clear HSQ hfl k0 k1 k2 t0 t1 p0 p1 p2 q0 q1 q2 HJ8 HT8
            go_wp2_with fail
            refine ⟨⟨_, _, _, _, _, _, _, _, _, _, _, _, _, _, _, _, ⟨1, av, cv, k, r, by omega, by omega, rfl, by go_num, Lib.hid ⟨HK.out.1, by have := HK.out.2; omega⟩, Lib.hid (by rw [HRES.out, hstep]), HJ3⟩, rfl⟩, ?_⟩
            simp [intOf]
        | true =>
          have hstep := acc_yes (Q := (eqQ l n x y)) (c := [(x - 1, y), (x + 1, y)]) (j := 0) (p := (x - 1, y)) rfl hq
          rw [hq] at hQ
          have hdec := hQ.symm
          rw [hdec] at hfl
          generalize spF l n (x - 1) (y) = u2 at *
          generalize spD l n (x - 1) (y) = v2 at *
          generalize spS l n (x - 1) (y) = s2 at *
          clear hQ hdec hq
          go_region_law ((go_simp; go_at_call 55; refine (HSQ.out _ (HR.out.since (Nat.le_refl _) (HJ8.out.2.2.2.2.2.2.2).drew)).mono ?_; rintro e w3 ⟨rfl, hb3⟩; have HJ3 := Lib.hid (HJ8.out.still ((Below.refl W8.heap.size W8).drew.trans hb3)); have HT3 := Lib.hid (HT8.out.below ((Below.refl W8.heap.size W8).drew.trans hb3)); obtain ⟨q0, q1, q2⟩ := HJ3.out.2.2.2.1.cells; clear hb3))
          all_goals
            clear HSQ hfl k0 k1 k2 t0 t1 p0 p1 p2 q0 q1 q2 HJ8 HT8
            obtain ⟨t0, t1⟩ := HT3.out.cells
            obtain ⟨gg, cap, w6, hr6, hj6⟩ := HJ3.out.push HK.out.1 (by omega) (x - 1, y)
            have HJ6 := Lib.hid hj6
            clear hj6
            go_wp2_with (at_builtin; refine Lib.wpList_append_run _ rfl _ _ _ _ rfl _ _ rfl rfl _ _ (hr6 _) ?_)
            refine ⟨⟨_, _, _, ⟨1, by omega, some ⟨gg, 0, none⟩, cap, k + 1, by have := HK.out.2; omega, rfl, rfl, r ++ [(x - 1, y)], Lib.hid ⟨by rw [List.length_append, HK.out.1]; rfl, by have := HK.out.2; omega⟩, Lib.hid (by rw [HRES.out, hstep, List.append_assoc]), HJ6⟩, rfl, rfl, rfl⟩, ?_⟩
            simp [intOf]
      by_cases hj1 : j = 1
      · subst hj1
        obtain ⟨g0, g1, g2, g3⟩ := lit_cells HJ.out.2.2.2.2.1
        have HJ8 := Lib.hid (HJ.out.still (alloc_below wr (.cells #[.int .i64 (x + 1), .int .i64 (y)] tileT)))
        have HT8 := Lib.hid (TVar.new wr (x + 1) (y))
        go_upto_region 12 with (fail)
        obtain ⟨b8, hb8⟩ : ∃ b8, wr.heap.size = b8 := ⟨_, rfl⟩
        rw [hb8] at HT8
        try rw [hb8]
        generalize wr.alloc (.cells #[.int .i64 (x + 1), .int .i64 (y)] tileT) = W8 at *
        clear hb8 HJ g0 g1 g2 g3
        obtain ⟨k0, k1, k2⟩ := HJ8.out.2.1.cells
        obtain ⟨t0, t1⟩ := HT8.out.cells
        obtain ⟨p0, p1, p2⟩ := HJ8.out.2.2.2.1.cells
        have HSQ := Lib.hid (fun (w' : World) (h : Row w' a l) => HSP.out (x + 1) (y) w' h)
        have hfl := fun w' : World => spot_equal (spF l n (x + 1) (y)) (spD l n (x + 1) (y)) u v (spS l n (x + 1) (y)) s w'
        have hQ : eqQ l n x y (x + 1, y) = decide (spF l n (x + 1) (y) = u ∧ spD l n (x + 1) (y) = v ∧ spS l n (x + 1) (y) = s) := by unfold eqQ eqB; rw [HU.out.1, HU.out.2.1, HU.out.2.2]
        cases hq : eqQ l n x y (x + 1, y) with
        | false =>
          have hstep := acc_no (Q := (eqQ l n x y)) (c := [(x - 1, y), (x + 1, y)]) (j := 1) (p := (x + 1, y)) rfl hq
          rw [hq] at hQ
          have hdec := hQ.symm
          rw [hdec] at hfl
          generalize spF l n (x + 1) (y) = u2 at *
          generalize spD l n (x + 1) (y) = v2 at *
          generalize spS l n (x + 1) (y) = s2 at *
          clear hQ hdec hq
          go_region_law ((go_simp; go_at_call 55; refine (HSQ.out _ (HR.out.since (Nat.le_refl _) (HJ8.out.2.2.2.2.2.2.2).drew)).mono ?_; rintro e w3 ⟨rfl, hb3⟩; have HJ3 := Lib.hid (HJ8.out.still ((Below.refl W8.heap.size W8).drew.trans hb3)); have HT3 := Lib.hid (HT8.out.below ((Below.refl W8.heap.size W8).drew.trans hb3)); obtain ⟨q0, q1, q2⟩ := HJ3.out.2.2.2.1.cells; clear hb3))
          all_goals
            clear HSQ hfl k0 k1 k2 t0 t1 p0 p1 p2 q0 q1 q2 HJ8 HT8
            go_wp2_with fail
            refine ⟨⟨_, _, _, _, _, _, _, _, _, _, _, _, _, _, _, _, ⟨2, av, cv, k, r, by omega, by omega, rfl, by go_num, Lib.hid ⟨HK.out.1, by have := HK.out.2; omega⟩, Lib.hid (by rw [HRES.out, hstep]), HJ3⟩, rfl⟩, ?_⟩
            simp [intOf]
        | true =>
          have hstep := acc_yes (Q := (eqQ l n x y)) (c := [(x - 1, y), (x + 1, y)]) (j := 1) (p := (x + 1, y)) rfl hq
          rw [hq] at hQ
          have hdec := hQ.symm
          rw [hdec] at hfl
          generalize spF l n (x + 1) (y) = u2 at *
          generalize spD l n (x + 1) (y) = v2 at *
          generalize spS l n (x + 1) (y) = s2 at *
          clear hQ hdec hq
          go_region_law ((go_simp; go_at_call 55; refine (HSQ.out _ (HR.out.since (Nat.le_refl _) (HJ8.out.2.2.2.2.2.2.2).drew)).mono ?_; rintro e w3 ⟨rfl, hb3⟩; have HJ3 := Lib.hid (HJ8.out.still ((Below.refl W8.heap.size W8).drew.trans hb3)); have HT3 := Lib.hid (HT8.out.below ((Below.refl W8.heap.size W8).drew.trans hb3)); obtain ⟨q0, q1, q2⟩ := HJ3.out.2.2.2.1.cells; clear hb3))
          all_goals
            clear HSQ hfl k0 k1 k2 t0 t1 p0 p1 p2 q0 q1 q2 HJ8 HT8
            obtain ⟨t0, t1⟩ := HT3.out.cells
            obtain ⟨gg, cap, w6, hr6, hj6⟩ := HJ3.out.push HK.out.1 (by omega) (x + 1, y)
            have HJ6 := Lib.hid hj6
            clear hj6
            go_wp2_with (at_builtin; refine Lib.wpList_append_run _ rfl _ _ _ _ rfl _ _ rfl rfl _ _ (hr6 _) ?_)
            refine ⟨⟨_, _, _, ⟨2, by omega, some ⟨gg, 0, none⟩, cap, k + 1, by have := HK.out.2; omega, rfl, rfl, r ++ [(x + 1, y)], Lib.hid ⟨by rw [List.length_append, HK.out.1]; rfl, by have := HK.out.2; omega⟩, Lib.hid (by rw [HRES.out, hstep, List.append_assoc]), HJ6⟩, rfl, rfl, rfl⟩, ?_⟩
            simp [intOf]
      obtain rfl : j = 2 := by omega
      have HF := Lib.hid (show r = nearL l n x y from HRES.out)
      clear HRES
      go_wp2
      go_ret
      have h1 := HF.out
      have h2 := HK.out.1
      subst h2
      subst h1
      exact ⟨av, cv, rfl, HJ.out.2.2.2.2.2.2.2, HJ.out.2.2.2.2.2.2.1.mono (by have := HJ.out.1; omega)⟩
end Go.Proofs.Ytefeajnlogbilaa.Face
