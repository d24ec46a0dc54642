/- What laws.FnCards returns: true at every draw. -/
import Derived.Test.YtpnmloemabligaaCardsMath
import Derived.Test.YtpnmloemabligaaAt2
import Derived.Test.YtpnmloemabligaaBig
namespace Go.Proofs.Ytpnmloemabligaa.Card
open Go.ChangeShapes Go.WideShapes Go.ChangeAt Go.RowKit
open Go.Proofs.Ytpnmloemabligaa.Strip Go.Proofs.Ytpnmloemabligaa.Strs Go.Proofs.Ytpnmloemabligaa.Draw
set_option linter.unusedVariables false

theorem card_field (x y : Int) (v : Value) : ∀ w : World, (Instr.field 26 (.agg #[.int .i64 x, .int .i64 y, v]) 2).run Try.prog w = .ok v w := fun _ => by kernel_rfl

/-- A card in a variable of its own, its strips in memory of the call's own. -/
def Held (w0 w : World) (b : Nat) (d f : Int) (a : Option Addr) (n c : Nat) (l : List ByteArray) : Prop := Var w b d f (.slice a n c) ∧ Own w w0.heap.size (.slice a n c) l ∧ l.length = n
theorem Held.below {w0 w w' : World} {b n c : Nat} {d f : Int} {a : Option Addr} {l : List ByteArray} (h : Held w0 w b d f a n c l) (hb : Below w.heap.size w w') : Held w0 w' b d f a n c l := ⟨h.1.below hb, h.2.1.below hb, h.2.2⟩
theorem Held.new {w0 w : World} {d f : Int} {a : Option Addr} {n c : Nat} {l : List ByteArray} (ho : Own w w0.heap.size (.slice a n c) l) (hl : l.length = n) :
    Held w0 (w.alloc (.cells #[.int .i64 d, .int .i64 f, .slice a n c] 26)) w.heap.size d f a n c l := ⟨Var.new w _ _ _, ho.below (alloc_below _ _), hl⟩
theorem Held.drewN {w0 w : World} {b n c q : Nat} {d f : Int} {a : Option Addr} {l : List ByteArray} (h : Held w0 w b d f a n c l) : Held w0 (w.drewN q) b d f a n c l := h.below (drewN_below _ _)
/-- The world behind a call and the laying of its card. -/
theorem next_below {w0 w w' : World} (hb : Below w0.heap.size w0 w) (h : Below w.heap.size w w') (o : Obj) : Below w0.heap.size w0 (w'.alloc o) :=
  (hb.trans (h.mono hb.size)).alloc (Nat.le_trans hb.size h.size) _
theorem next_old {w w' : World} (h : Below w.heap.size w w') (o : Obj) : Below w.heap.size w (w'.alloc o) := h.alloc h.size _

theorem Held.aside {w0 w : World} {b b2 n c : Nat} {d f d0 f0 d2 f2 : Int} {v0 u : Value} {a : Option Addr} {l : List ByteArray} (h : Held w0 w b d f a n c l) (hv : Var w b2 d0 f0 v0) (hne : b ≠ b2) : Held w0 (Card.set3 w b2 d2 f2 u) b d f a n c l :=
  ⟨h.1.other3 hne, Own.aside3 h.2.1 hv, h.2.2⟩
theorem Held.filled {w0 w : World} {b n c : Nat} {d f d0 f0 : Int} {v0 : Value} {a : Option Addr} {l : List ByteArray} (hv : Var w b d0 f0 v0) (ho : Own w w0.heap.size (.slice a n c) l) (hl : l.length = n) : Held w0 (Card.set3 w b d f (.slice a n c)) b d f a n c l :=
  ⟨hv.set3 _ _ _, Own.aside3 ho hv, hl⟩

set_option maxRecDepth 100000 in
set_option maxHeartbeats 8000000 in
theorem cards (ca : Option Addr) (cl cc : Nat) (w : World) (hm : cl ≤ maxLen) (hr : RowIn w ca cl) :
    Calls Try.prog 3 #[.slice ca cl cc] w fun e w' => e = .returned (.bool true) ∧ Below w.heap.size w w' := by
  by_cases hbig : 1048576 < cl
  · have hd : decide (1048576 < (cl : Int)) = true := by simp; omega
    go_enter Try.func3, Try.ntmps3
    go_wp2_with fail
    refine (big_at ca cl cc w hm).mono ?_
    rintro e w' ⟨rfl, rfl⟩
    rw [hd]
    go_wp2
    go_ret
    exact ⟨rfl, Below.refl _ _⟩
  · have hd : decide (1048576 < (cl : Int)) = false := by simp; omega
    have HR := Lib.hid hr; clear hr
    go_enter Try.func3, Try.ntmps3
    go_wp2_with fail
    refine (big_at ca cl cc w hm).mono ?_
    rintro e w' ⟨rfl, rfl⟩
    rw [hd]
    go_wp2_with fail
    refine drawCard_get ca cl cc w hm HR.out ?_
    intro d f a c l w1 hd4 hf4 hl6 hcb hb1 ho1
    obtain ⟨m, hlm⟩ : ∃ m, l.length = m := ⟨_, rfl⟩
    rw [hlm] at ho1 hl6 ⊢
    have hm1 : 1 ≤ m := by have := (cardB_iff.1 hcb).2.1; omega
    have HC := Lib.hid hcb; clear hcb
    have HL := Lib.hid hlm
    have HX := Lib.hid (Held.new (d := d) (f := f) ho1 hlm)
    have HB := Lib.hid (next_below (Below.refl _ _) hb1 (.cells #[.int .i64 d, .int .i64 f, .slice a m c] 26))
    clear hb1 ho1 hlm hd
    go_upto_region 4 with (fail)
    obtain ⟨b3, hb3⟩ : ∃ b3, w1.heap.size = b3 := ⟨_, rfl⟩
    rw [hb3] at HX ⊢
    generalize w1.alloc (.cells #[.int .i64 d, .int .i64 f, .slice a m c] 26) = W at *
    clear hb3
    obtain ⟨n0, hn0, hat0⟩ := at_fix ca cl cc 0 (by omega) W hm (HR.out.below HB.out (Nat.le_refl _))
    have HAT := Lib.hid hat0; clear hat0
    obtain ⟨k0, k1, k2⟩ := HX.out.1.cells
    obtain ⟨k, hk⟩ : ∃ k : Nat, k = n0 % (m + 1) := ⟨_, rfl⟩
    have hkm : k ≤ m := by have := Nat.mod_lt n0 (show 0 < m + 1 by omega); omega
    have ht : Int.tmod (n0 : Int) ((m : Int) + 1) = (k : Int) := by rw [hk, Int.tmod_eq_emod_of_nonneg (by omega)]; push_cast; rfl
    have hne : ((m : Int) + 1 != 0) = true := by simp; omega
    have heq : ((m : Int) + 1 == 0) = false := by simp; omega
    clear hk
    go_quiet ((go_at_call 13; refine qsame (HAT.out _)))
    have HX := Lib.hid (HX.out.drewN (q := nq))
    have HB := Lib.hid (HB.out.trans ((drewN_below W nq).mono HB.out.size))
    generalize W.drewN nq = W1 at *
    clear HAT ht hne heq k0 k1 k2
    obtain ⟨k0, k1, k2⟩ := HX.out.1.cells
    go_wp2_with fail
    refine (high_spec d f _).mono ?_
    rintro e w2 ⟨rfl, hb2⟩
    have HX := Lib.hid (HX.out.below hb2)
    have HB := Lib.hid (HB.out.trans (hb2.mono HB.out.size))
    have HG := Lib.hid (high_good (cardB_iff.1 HC.out).1)
    generalize (⟨(highL d f).toArray⟩ : ByteArray) = s at *
    clear hb2 k0 k1 k2
    obtain ⟨k0, k1, k2⟩ := HX.out.1.cells
    have HSZ := Lib.hid (good_size HG.out (cardB_iff.1 HC.out).1)
    -- the strip is put in
    go_wp2_with fail
    refine (put_impl d f w.heap.size m c a l k s _ (by omega) HX.out.2.1 (card_small HC.out) (by have := HSZ.out; omega)).mono ?_
    rw [(put_is HC.out (by rw [HL.out]; exact hl6) HG.out (by rw [HL.out]; exact hkm)).1, (put_is HC.out (by rw [HL.out]; exact hl6) HG.out (by rw [HL.out]; exact hkm)).2]
    rintro e w3 ⟨ap, cp, rfl, hb3, ho3⟩
    have HLP := Lib.hid (show (putIn l k s).length = m + 1 by rw [putIn_length _ _ _ (by rw [HL.out]; exact hkm), HL.out])
    have HX := Lib.hid (HX.out.below (next_old hb3 (.cells #[.int .i64 d, .int .i64 f, .slice ap (m + 1) cp] 26)))
    have hp := Held.new (w0 := w) (d := d) (f := f) (ho3.mono HB.out.size) rfl
    rw [HLP.out] at hp ⊢
    have HP := Lib.hid hp
    have HB := Lib.hid (next_below HB.out hb3 (.cells #[.int .i64 d, .int .i64 f, .slice ap (m + 1) cp] 26))
    obtain ⟨b6, hb6⟩ : ∃ b6, w3.heap.size = b6 := ⟨_, rfl⟩
    clear hb3 ho3 hp k0 k1 k2
    go_upto_region 7 with (fail)
    rw [hb6] at HP
    try rw [hb6]
    generalize w3.alloc (.cells #[.int .i64 d, .int .i64 f, .slice ap (m + 1) cp] 26) = W3 at *
    clear hb6
    obtain ⟨k0, k1, k2⟩ := HX.out.1.cells
    obtain ⟨p0, p1, p2⟩ := HP.out.1.cells
    have HPC := Lib.hid (putIn_card (k := k) HC.out (by rw [HL.out]; exact hl6) HG.out (by rw [HL.out]; exact hkm))
    -- and cut out
    go_wp2_with fail
    refine (cut_impl d f w.heap.size (m + 1) cp ap (putIn l k s) k _ (by omega) HP.out.2.1 (card_small HPC.out)).mono ?_
    rw [(cut_is HC.out (by rw [HL.out]; exact hl6) HG.out (by rw [HL.out]; exact hkm)).1, (cut_is HC.out (by rw [HL.out]; exact hl6) HG.out (by rw [HL.out]; exact hkm)).2]
    rintro e w4 ⟨aq, cq, rfl, hb4, ho4⟩
    have HX := Lib.hid (HX.out.below (next_old hb4 (.cells #[.int .i64 d, .int .i64 f, .slice aq m cq] 26)))
    have HP := Lib.hid (HP.out.below (next_old hb4 (.cells #[.int .i64 d, .int .i64 f, .slice aq m cq] 26)))
    have hq := Held.new (w0 := w) (d := d) (f := f) (ho4.mono HB.out.size) rfl
    rw [HL.out] at hq ⊢
    have HQ := Lib.hid hq
    have HB := Lib.hid (next_below HB.out hb4 (.cells #[.int .i64 d, .int .i64 f, .slice aq m cq] 26))
    obtain ⟨b8, hb8⟩ : ∃ b8, w4.heap.size = b8 := ⟨_, rfl⟩
    clear hb4 ho4 hq k0 k1 k2 p0 p1 p2
    go_upto_region 8 with (fail)
    rw [hb8] at HQ
    try rw [hb8]
    generalize w4.alloc (.cells #[.int .i64 d, .int .i64 f, .slice aq m cq] 26) = W4 at *
    clear hb8
    obtain ⟨k0, k1, k2⟩ := HX.out.1.cells
    obtain ⟨p0, p1, p2⟩ := HP.out.1.cells
    obtain ⟨q0, q1, q2⟩ := HQ.out.1.cells
    go_wp2_with fail
    refine (sameCard_impl d f d f aq a m m cq c l l _ HL.out HL.out (by omega) (by omega) HQ.out.2.1.row2.2 HX.out.2.1.row2.2).mono ?_
    rintro e w5 ⟨rfl, hb5⟩
    rw [same_self]
    have HX := Lib.hid (HX.out.below hb5)
    have HP := Lib.hid (HP.out.below hb5)
    have HB := Lib.hid (HB.out.trans (hb5.mono HB.out.size))
    clear hb5 k0 k1 k2 p0 p1 p2 q0 q1 q2 HQ
    obtain ⟨k0, k1, k2⟩ := HX.out.1.cells
    obtain ⟨p0, p1, p2⟩ := HP.out.1.cells
    obtain ⟨gp, rfl, _, hcp⟩ := HP.out.2.1.row2.2 k (by rw [HLP.out]; omega)
    have hsk : (putIn l k s)[k]'(by rw [HLP.out]; omega) = s := by
      unfold putIn
      have hk2 : (l.take k).length = k := by rw [List.length_take, HL.out]; omega
      rw [List.getElem_append_right (by omega)]
      simp [hk2]
    rw [hsk] at hcp
    clear hsk
    go_upto_region 10 with (fail)
    clear hcp p0 p1 p2 HP HPC HLP
    have HR5 := Lib.hid (HR.out.below HB.out (Nat.le_refl _))
    obtain ⟨n1, hn1, hat1⟩ := at_fix ca cl cc 1 (by omega) w5 hm HR5.out
    have HAT := Lib.hid hat1; clear hat1
    obtain ⟨i, hi⟩ : ∃ i : Nat, i = n1 % m := ⟨_, rfl⟩
    have him : i < m := by have := Nat.mod_lt n1 (show 0 < m by omega); omega
    have ht : Int.tmod (n1 : Int) (m : Int) = (i : Int) := by rw [hi, Int.tmod_eq_emod_of_nonneg (by omega)]; push_cast; rfl
    have hne : ((m : Int) != 0) = true := by simp; omega
    have heq : ((m : Int) == 0) = false := by simp; omega
    clear hi
    go_quiet ((go_at_call 13; refine qsame (HAT.out _)))
    have HX := Lib.hid (HX.out.drewN (q := nq))
    have HB := Lib.hid (HB.out.trans ((drewN_below w5 nq).mono HB.out.size))
    generalize w5.drewN nq = W5 at *
    clear HAT ht hne heq k0 k1 k2 HR5
    obtain ⟨k0, k1, k2⟩ := HX.out.1.cells
    -- a strip is exchanged
    go_wp2_with fail
    refine (with_impl d f w.heap.size m c a l i s _ (by omega) HX.out.2.1 (card_small HC.out) (by have := HSZ.out; omega)).mono ?_
    rw [(with_is HC.out HG.out (by rw [HL.out]; exact him)).1, (with_is HC.out HG.out (by rw [HL.out]; exact him)).2]
    rintro e w6 ⟨aw, cw, rfl, hb6, ho6⟩
    have HLW := Lib.hid (show (l.set i s).length = m by rw [List.length_set, HL.out])
    have HX := Lib.hid (HX.out.below (next_old hb6 (.cells #[.int .i64 d, .int .i64 f, .slice aw m cw] 26)))
    have hp := Held.new (w0 := w) (d := d) (f := f) (ho6.mono HB.out.size) rfl
    rw [HLW.out] at hp ⊢
    have HP := Lib.hid hp
    have HB := Lib.hid (next_below HB.out hb6 (.cells #[.int .i64 d, .int .i64 f, .slice aw m cw] 26))
    obtain ⟨b11, hb11⟩ : ∃ b11, w6.heap.size = b11 := ⟨_, rfl⟩
    clear hb6 ho6 hp k0 k1 k2
    go_upto_region 12 with (fail)
    rw [hb11] at HP
    try rw [hb11]
    generalize w6.alloc (.cells #[.int .i64 d, .int .i64 f, .slice aw m cw] 26) = W6 at *
    clear hb11
    have HWC := Lib.hid (set_card (k := i) HC.out HG.out)
    have HBK := Lib.hid (back_is HC.out HG.out (by rw [HL.out]; exact him))
    obtain ⟨k0, k1, k2⟩ := HX.out.1.cells
    obtain ⟨p0, p1, p2⟩ := HP.out.1.cells
    obtain ⟨gx, rfl, _, hcx⟩ := HX.out.2.1.row2.2 i (by rw [HL.out]; exact him)
    have HTS := Lib.hid (good_size ((cardB_iff.1 HC.out).2.2.2 _ (List.getElem_mem (show i < l.length by rw [HL.out]; exact him))) (cardB_iff.1 HC.out).1)
    generalize hti : l[i]'(by rw [HL.out]; exact him) = ti at *
    -- and back
    go_cut [13, 14] (fun s13 s14 wx => ∃ (b13 : Nat) (ax : Option Addr) (cx : Nat), s13 = .pointer (some ⟨b13, 0, none⟩) ∧ s14 = .bool true ∧ Hid (Held w wx b3 d f (some ⟨gx, 0, none⟩) m c l) ∧ Hid (Held w wx b11 d f aw m cw (l.set i s)) ∧ Hid (Held w wx b13 d f ax m cx l) ∧ Hid (Below w.heap.size w wx))
    case first =>
      have HCALL := Lib.hid (show ∀ wq : World, Below W6.heap.size W6 wq → Calls Try.prog 18 #[.agg #[.int .i64 d, .int .i64 f, .slice aw m cw], .int .i64 i, .string ti] wq fun e w7 => ∃ ax cx, e = .returned (.tuple #[.agg #[.int .i64 d, .int .i64 f, .slice ax m cx], .bool true]) ∧ Below wq.heap.size wq w7 ∧ Own w7 w.heap.size (.slice ax m cx) l from fun wq hq => by
        refine (with_impl d f w.heap.size m cw aw (l.set i s) i ti wq (by omega) (HP.out.below hq).2.1 (card_small HWC.out) (by have := HTS.out; omega)).mono ?_
        rw [HBK.out.1, HBK.out.2]
        rintro e w7 ⟨ax, cx, rfl, hb7, ho7⟩
        rw [HL.out] at ho7 ⊢
        exact ⟨ax, cx, rfl, hb7, ho7.mono (Nat.le_trans HB.out.size hq.size)⟩)
      have HV := Lib.hid (show Var (W6.alloc (.cells #[.int .i64 0, .int .i64 0, .slice none 0 0] 26)).drew W6.heap.size 0 0 (.slice none 0 0) from Var.new W6 0 0 (.slice none 0 0))
      have HA := Lib.hid (alloc_below W6 (.cells #[.int .i64 0, .int .i64 0, .slice none 0 0] 26))
      obtain ⟨y0, y1, y2⟩ := (HX.out.below HA.out).1.cells
      obtain ⟨z0, z1, z2⟩ := (HP.out.below HA.out).1.cells
      have hcy := HA.out.cell (p := ⟨gx, i, none⟩) (World.block_lt_of_cell? _ _ hcx)
      rw [hcx] at hcy
      go_region_law ((go_simp; go_at_call 18; first
        | (refine (HCALL.out (W6.alloc (.cells #[.int .i64 0, .int .i64 0, .slice none 0 0] 26)).drew HA.out.drew).mono ?_; rintro e w7 ⟨ax, cx, rfl, hb7, ho7⟩; have HV7 := Lib.hid (HV.out.below hb7); obtain ⟨v0, v1, v2⟩ := HV7.out.cells; have f0 := HV7.out.free 0; have f1 := HV7.out.free 1; have f2 := HV7.out.free 2; have HB7 := Lib.hid (show Below W6.heap.size W6 w7 from HA.out.drew.trans (hb7.mono HA.out.size)); have HO7 := Lib.hid ho7; clear hb7 ho7)
        | (refine (HCALL.out _ ((Below.refl _ _).drew)).mono ?_; rintro e w7 ⟨ax, cx, rfl, hb7, ho7⟩; have HB7 := Lib.hid (show Below W6.heap.size W6 w7 from (Below.refl W6.heap.size W6).drew.trans hb7); have HO7 := Lib.hid ho7; clear hb7 ho7)))
      all_goals
        go_wp2_with fail
        go_meet
        first
          | exact ⟨_, ax, cx, rfl, rfl, Lib.hid ((HX.out.below HB7.out).aside HV7.out (Nat.ne_of_lt HX.out.1.lt)), Lib.hid ((HP.out.below HB7.out).aside HV7.out (Nat.ne_of_lt HP.out.1.lt)), Lib.hid (Held.filled HV7.out HO7.out HL.out), Lib.hid (below_set3 (HB.out.trans (HB7.out.mono HB.out.size)) HB.out.size)⟩
          | exact ⟨_, ax, cx, rfl, rfl, Lib.hid (HX.out.below (next_old HB7.out _)), Lib.hid (HP.out.below (next_old HB7.out _)), Lib.hid (Held.new HO7.out HL.out), Lib.hid (next_below HB.out HB7.out _)⟩
    case rest =>
      obtain ⟨b13, ax, cx, rfl, rfl, HX, HP, HQ, HB⟩ := hcut
      obtain ⟨k0, k1, k2⟩ := HX.out.1.cells
      go_wp2_with fail
      have hp3 := plain3 (cardB_iff.1 HC.out).1
      refine (plain_impl d f 3 _).mono ?_
      unfold PlainPost
      rw [hp3.1]
      have HL3 := Lib.hid hp3.2
      clear hp3
      generalize plainL d f 3 = l3 at *
      generalize plainD d f 3 = d3
      generalize plainF d f 3 = f3
      rintro e w8 ⟨ay, cy, rfl, hb8, ho8⟩
      rw [HL3.out] at ho8 ⊢
      have HX := Lib.hid (HX.out.below (next_old hb8 (.cells #[.int .i64 d3, .int .i64 f3, .slice ay 3 cy] 26)))
      have HP := Lib.hid (HP.out.below (next_old hb8 (.cells #[.int .i64 d3, .int .i64 f3, .slice ay 3 cy] 26)))
      have HQ := Lib.hid (HQ.out.below (next_old hb8 (.cells #[.int .i64 d3, .int .i64 f3, .slice ay 3 cy] 26)))
      have HY := Lib.hid (Held.new (w0 := w) (d := d3) (f := f3) (ho8.mono HB.out.size) HL3.out)
      have HB := Lib.hid (next_below HB.out hb8 (.cells #[.int .i64 d3, .int .i64 f3, .slice ay 3 cy] 26))
      obtain ⟨b15, hb15⟩ : ∃ b15, w8.heap.size = b15 := ⟨_, rfl⟩
      clear hb8 ho8 k0 k1 k2
      go_upto_region 14 with (fail)
      rw [hb15] at HY
      try rw [hb15]
      generalize w8.alloc (.cells #[.int .i64 d3, .int .i64 f3, .slice ay 3 cy] 26) = W8 at *
      clear hb15
      obtain ⟨k0, k1, k2⟩ := HX.out.1.cells
      obtain ⟨p0, p1, p2⟩ := HP.out.1.cells
      obtain ⟨q0, q1, q2⟩ := HQ.out.1.cells
      go_wp2_with fail
      refine (sameCard_impl d f d f ax (some ⟨gx, 0, none⟩) m m cx c l l _ HL.out HL.out (by omega) (by omega) HQ.out.2.1.row2.2 HX.out.2.1.row2.2).mono ?_
      rintro e w9 ⟨rfl, hb9⟩
      rw [same_self]
      have HP := Lib.hid (HP.out.below hb9)
      have HY := Lib.hid (HY.out.below hb9)
      have HB := Lib.hid (HB.out.trans (hb9.mono HB.out.size))
      clear hb9 k0 k1 k2 p0 p1 p2 q0 q1 q2 HX HQ
      obtain ⟨p0, p1, p2⟩ := HP.out.1.cells
      go_wp2_with fail
      refine (ok_impl d f aw m cw (l.set i s) _ HLW.out (by omega) (card_small HWC.out) HP.out.2.1.row2.2).mono ?_
      rintro e w10 ⟨rfl, hb10⟩
      rw [HWC.out]
      have HY := Lib.hid (HY.out.below hb10)
      have HB := Lib.hid (HB.out.trans (hb10.mono HB.out.size))
      clear hb10 p0 p1 p2 HP
      obtain ⟨y0, y1, y2⟩ := HY.out.1.cells
      go_wp2_with fail
      refine (sample_impl _).mono ?_
      rintro e w11 ⟨ae, cs, rfl, hb11, ho11⟩
      have HY := Lib.hid (HY.out.below hb11)
      have HB := Lib.hid (HB.out.trans (hb11.mono HB.out.size))
      have HO := Lib.hid ho11
      clear hb11 ho11 y0 y1 y2
      go_wp2_with fail
      refine (ok_impl 3 4 ae _ cs sampleL _ rfl (by decide) (by decide) HO.out.row2.2).mono ?_
      rintro e w12 ⟨rfl, hb12⟩
      rw [show cardB 3 4 sampleL = true by decide]
      have HB := Lib.hid (HB.out.trans (hb12.mono HB.out.size))
      clear hb12
      go_wp2_with fail
      refine (sample_impl _).mono ?_
      rintro e w13 ⟨as2, cs2, rfl, hb13, ho13⟩
      have HB := Lib.hid (HB.out.trans (hb13.mono HB.out.size))
      clear hb13 ho13
      rw [show (sampleL.length) = 5 from rfl]
      have hfd := card_field 3 4 (.slice as2 5 cs2)
      go_wp2
      go_ret
      exact ⟨rfl, HB.out⟩
end Go.Proofs.Ytpnmloemabligaa.Card
