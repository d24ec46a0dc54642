/- Sliders in memory: what the laws' helpers on them return and leave alone. -/
import Derived.Test.YtmjknjgfcngacaaTri
namespace Go.Proofs.Ytmjknjgfcngacaa.SlR
open Go.ChangeShapes Go.WideShapes Go.ChangeAt Go.RowKit Go.Sort Go.Joins
open Go.Proofs.Ytmjknjgfcngacaa.Ints (grown_below grown_set grown_trans heap_set_at drewN_below)
open Go.Proofs.Ytmjknjgfcngacaa.Slide (T3 zero3)
open Go.Proofs.Ytmjknjgfcngacaa.Tri
set_option linter.unusedVariables false

theorem ret_int {k : IntKind} {a b : Int} (h : a = b) : Ending.returned (.int k a) = .returned (.int k b) := by rw [h]
theorem info_box : (Try.prog.info? 33).map (fun i => (i.zero, i.size, i.bytes)) = some (some (.agg #[.int .i64 0, .int .i64 0, .int .i64 0]), 3, 24) := by kernel_rfl
set_option maxRecDepth 100000 in
theorem to_box (x y z : Int) (w : World) : Calls Try.prog 20 #[.agg #[.int .i64 x, .int .i64 y, .int .i64 z]] w fun e w' => e = .returned (.agg #[.int .i64 x, .int .i64 y, .int .i64 z]) ∧ Below w.heap.size w w' := by
  go_enter Try.func20, Try.ntmps20
  go_wp2_with fail
  refine bodyPost_ret (v := .agg #[.int .i64 x, .int .i64 y, .int .i64 z]) (by simp [results, Try.results20, go_sem]) rfl ⟨rfl, ?_⟩
  exact (((Below.refl _ _).alloc (Nat.le_refl _) _).alloc (by simp) _).alloc (by simp; omega) _
set_option maxRecDepth 100000 in
theorem eq_box (x y z : Int) (w : World) : Calls Try.prog 22 #[.agg #[.int .i64 x, .int .i64 y, .int .i64 z], .agg #[.int .i64 x, .int .i64 y, .int .i64 z]] w fun e w' => e = .returned (.bool true) ∧ Below w.heap.size w w' := by
  have h1 : (x != x) = false := by simp
  have h2 : (y != y) = false := by simp
  have h3 : (z != z) = false := by simp
  go_enter Try.func22, Try.ntmps22
  go_wp2
  go_ret
  exact ⟨rfl, ((Below.refl _ _).alloc (Nat.le_refl _) _).alloc (by simp) _⟩

theorem lawBox_cells : Try.prog.cellsOf 40 = 3 := by kernel_rfl

set_option maxRecDepth 100000 in
theorem open_box {H : Type} {enc : TypeId × Value → H} {W : World} {r : Reach} {b0 : Nat} {spare : Nat → Bool} {held : Bool} {v : Value} {d : DataW H} {p : List MemPlace}
    (hv : Value.okWide Try.prog W r b0 40 v) (h : DataW.Trod enc Try.prog W 0 spare held 40 v d p) :
    ∃ x y z : Int, v = .agg #[.int .i64 x, .int .i64 y, .int .i64 z] ∧ (Lit.int .i64 x).wf = true ∧ (Lit.int .i64 y).wf = true ∧ (Lit.int .i64 z).wf = true := by
  obtain ⟨c0, c1, c2, y0, y1, y2, m, rfl, _, _, h0, h1, h2⟩ := open_agg3 Try.underlying40 (by kernel_rfl) lawBox_cells hv h
  obtain ⟨x, e0, _, w0⟩ := DataW.trod_int Try.underlying3 h0
  obtain ⟨y, e1, _, w1⟩ := DataW.trod_int Try.underlying3 h1
  obtain ⟨z, e2, _, w2⟩ := DataW.trod_int Try.underlying3 h2
  simp at e0 e1 e2
  subst e0 e1 e2
  exact ⟨x, y, z, rfl, by first | exact w0 | exact w0.2 | exact w0.1, by first | exact w1 | exact w1.2 | exact w1.1, by first | exact w2 | exact w2.2 | exact w2.1⟩
theorem sz_boxes (r : Int) (h0 : 0 ≤ r) (h1 : r ≤ 1048576) (a : Option Addr) (n c : Nat) (hn : n ≤ maxLen) (w : World) :
    Calls Try.prog 26 #[.slice a n c, .int .i64 r] w fun e w' => e = .returned (.int .i64 (if r - (n : Int) < 0 then -1 else r - (n : Int))) ∧ Below w.heap.size w w' := by
  unfold maxLen at hn
  have h2 : IntKind.i64.wrap (r - (n : Int)) = r - (n : Int) := by simp [IntKind.wrap, IntKind.signed, IntKind.bits]; omega
  by_cases hlt : r - (n : Int) < 0
  · rw [if_pos hlt]
    have hd : decide (r - (n : Int) < 0) = true := decide_eq_true hlt
    go_enter Try.func26, Try.ntmps26
    go_wp2
    go_ret
    exact ⟨rfl, Below.refl _ _⟩
  · rw [if_neg hlt]
    have hd : decide (r - (n : Int) < 0) = false := decide_eq_false hlt
    go_enter Try.func26, Try.ntmps26
    go_wp2
    go_ret
    exact ⟨rfl, Below.refl _ _⟩

set_option maxRecDepth 100000 in
theorem to_boxes (a : Option Addr) (c : Nat) (l : List T3) (w : World) (hn : l.length ≤ 1048576) (hr : ARow3 w a l) :
    Calls Try.prog 28 #[.slice a l.length c] w fun e w' => ∃ g, e = .returned (.slice (some ⟨g, 0, none⟩) l.length l.length) ∧ Below w.heap.size w w' ∧ OwnT 33 w' w.heap.size (.slice (some ⟨g, 0, none⟩) l.length l.length) l := by
  obtain ⟨i0, hi, hz0, hz1, hz2⟩ := info_parts info_box
  obtain ⟨w1, hmk, hown1, hg1⟩ := run_make_full (P := Try.prog) w w.heap.size 24 33 i0 _ 3 Try.underlying24 hi hz0 hz1 .i64 .i64 l.length (by rw [hz2]; omega) (by unfold maxLen; omega) (Nat.le_refl _)
  rw [made_boxes] at hown1
  have hb1 : Below w.heap.size w w1 := (Below.refl _ _).grown hg1 (Nat.le_refl _) (fun t e => by cases e)
  have ho1 : OwnT 33 w1 w.heap.size (.slice (some ⟨w.heap.size, 0, none⟩) l.length l.length) (filled3 l 0) := by
    rw [filled3_zero]
    unfold OwnT
    rw [List.length_replicate]; exact hown1
  have HB1 := Lib.hid hb1; clear hb1
  have HO1 := Lib.hid ho1; clear ho1 hown1 hg1
  have HR := Lib.hid hr; clear hr
  obtain ⟨n, hnl⟩ : ∃ n, l.length = n := ⟨_, rfl⟩
  rw [hnl] at hmk HO1 hn ⊢
  have HNL := Lib.hid hnl; clear hnl
  go_enter Try.func28, Try.ntmps28
  go_wp2_with fail
  go_loopw [4] (fun i wr => ∃ k : Nat, k ≤ n ∧ i = .int .i64 (k : Int) ∧ Hid (OwnT 33 wr w.heap.size (.slice (some ⟨w.heap.size, 0, none⟩) n n) (filled3 l k)) ∧ Hid (Below w.heap.size w wr)) (fun i _ => n - (intOf i).toNat)
  case atStart => exact ⟨0, Nat.zero_le _, rfl, HO1, HB1⟩
  case round =>
    obtain ⟨k, hk, rfl, HO, HB⟩ := hrel
    by_cases hlt : k < n
    · have hk0 : (0 : Int) ≤ (k : Int) := Int.natCast_nonneg _
      have hk1 : (k : Int) < (n : Int) := by omega
      obtain ⟨x, rfl, hxs, hc0, hc1, hc2⟩ := (HR.out.below HB.out) k (by rw [HNL.out]; exact hlt)
      have hkl : k < (filled3 l k).length := by rw [filled3_length _ _ (by rw [HNL.out]; omega), HNL.out]; exact hlt
      have hset := filled3_set l k (by rw [HNL.out]; exact hlt)
      generalize l[k]'_ = y at *
      obtain ⟨y0, y1, y2⟩ := y
      have HSET := Lib.hid hset
      clear hset
      go_wp2_with fail
      refine (to_box y0 y1 y2 _).mono ?_
      rintro e w2 ⟨rfl, hb2⟩
      have HO := Lib.hid (HO.out.below hb2)
      have HB := Lib.hid (HB.out.trans (hb2.mono HB.out.size))
      clear hb2 hc0 hc1 hc2
      obtain ⟨v0, v1, v2⟩ := HO.out.cell hkl
      have hf0 := HO.out.free (k * 3)
      have hf1 := HO.out.free (k * 3 + 1)
      have hf2 := HO.out.free (k * 3 + 2)
      have ho2 := HO.out.set y0 y1 y2 hkl
      rw [HSET.out] at ho2
      have HO2 := Lib.hid ho2
      have hb2 : Below w.heap.size w (setB w2 w.heap.size k y0 y1 y2) := HB.out.grown (grown_setB w2 w.heap.size k y0 y1 y2) HB.out.size (fun t e => by cases e; exact Nat.le_refl _)
      have HB2 := Lib.hid hb2
      clear ho2 hb2
      unfold setB at HO2 HB2
      generalize (filled3 l k)[k]'_ = old at *
      go_wp2_with fail
      exact ⟨⟨k + 1, by omega, by go_num, HO2, HB2⟩, by simp [intOf]; omega⟩
    · obtain rfl : k = n := by omega
      have hfa := filled3_all l
      rw [HNL.out] at hfa
      rw [hfa] at HO
      go_wp2
      go_ret
      exact ⟨_, rfl, HB.out, HO.out⟩

set_option maxRecDepth 100000 in
theorem eq_boxes (n ca cb : Nat) (a b : Option Addr) (l : List T3) (hl : l.length = n) (hm : n ≤ maxLen) (w : World) (ha : Row3 w a l) (hb : Row3 w b l) :
    Calls Try.prog 29 #[.slice a n ca, .slice b n cb] w fun e w' => e = .returned (.bool true) ∧ Below w.heap.size w w' := by
  unfold maxLen at hm
  have HL := Lib.hid hl; clear hl
  have HA := Lib.hid ha; clear ha
  have HBB := Lib.hid hb; clear hb
  go_enter Try.func29, Try.ntmps29
  go_wp2_with fail
  go_loopw [5] (fun i wr => ∃ k : Nat, k ≤ n ∧ i = .int .i64 k ∧ Hid (Below w.heap.size w wr)) (fun i _ => n - (intOf i).toNat)
  case atStart => exact ⟨0, Nat.zero_le _, rfl, Below.refl _ _⟩
  case round =>
    obtain ⟨k, hk, rfl, HB⟩ := hrel
    by_cases hlt : k < n
    · obtain ⟨ga, rfl, hga, ca0, ca1, ca2⟩ := (HA.out.below HB.out) k (by rw [HL.out]; exact hlt)
      obtain ⟨gb, rfl, hgb, cb0, cb1, cb2⟩ := (HBB.out.below HB.out) k (by rw [HL.out]; exact hlt)
      have ca0 := cell_regrown ca0
      have ca1 := cell_regrown ca1
      have ca2 := cell_regrown ca2
      have cb0 := cell_regrown cb0
      have cb1 := cell_regrown cb1
      have cb2 := cell_regrown cb2
      generalize l[k]'_ = y at *
      obtain ⟨y0, y1, y2⟩ := y
      have HX := Lib.hid (fun (dd : Nat) (os : Array Obj) => Calls.regrown_of (eq_box y0 y1 y2 (grow (redrawn wr dd) os)))
      have hk0 : (0 : Int) ≤ (k : Int) := Int.natCast_nonneg _
      have hk1 : (k : Int) < (n : Int) := by omega
      go_wp2_with fail
      refine wp_region_quiet_below (by kernel_rfl) (by kernel_rfl) ?_
      repeat (go_big_quiet_step ((go_at_call 22; exact HX.out _ _)))
      refine wpQuiet_nil ?_
      intro _ hw'
      obtain ⟨⟨dq, osq⟩, hw''⟩ := hw'
      subst hw''
      have hbr := below_regrown wr dq osq
      have HB := Lib.hid (HB.out.trans (hbr.mono HB.out.size))
      clear hbr ca0 ca1 ca2 cb0 cb1 cb2 hga hgb
      go_wp2
      go_roundw
      case rel => exact ⟨k + 1, by omega, by go_num, HB⟩
      case measure => simp [intOf]; omega
    · go_wp2
      go_ret
      exact ⟨rfl, HB.out⟩

set_option maxRecDepth 100000 in
theorem mark_boxes (k : Int) (hk1 : 1 ≤ k) (hk : k ≤ 4000000) (base : Nat) (a : Option Addr) (cap : Nat) (l : List T3) (hn : l.length ≤ 1048576) (w : World) (h : OwnT 33 w base (.slice a l.length cap) l) :
    Calls Try.prog 30 #[.slice a l.length cap, .int .i64 k] w fun e w' => e = .returned (.int .i64 (k + 3 * (l.length : Int))) ∧ OwnT 33 w' base (.slice a l.length cap) (marks3 k l.length) ∧ w.grownBy w' (Value.slice a l.length cap).ownBlock := by
  rcases h.shape with ⟨rfl, rfl, rfl⟩ | ⟨g, rfl⟩
  · have H := Lib.hid h; clear h
    go_enter Try.func30, Try.ntmps30
    go_wp2_with fail
    refine wp_loop_rounds 1 ?_
    rw [rounds_succ]
    go_wp2
    go_ret
    exact ⟨ret_int (by simp), H.out, World.grownBy.refl _ _⟩
  · obtain ⟨n, hnl⟩ : ∃ n, l.length = n := ⟨_, rfl⟩
    rw [hnl] at h hn ⊢
    have HNL := Lib.hid hnl; clear hnl
    have H := Lib.hid h; clear h
    go_enter Try.func30, Try.ntmps30
    go_wp2_with fail
    go_loopw [1, 5] (fun kv i wr => ∃ (j : Nat) (m : Int), j ≤ n ∧ i = .int .i64 j ∧ kv = .int .i64 m ∧ Hid (m = k + 3 * (j : Int)) ∧ Hid (OwnT 33 wr base (.slice (some ⟨g, 0, none⟩) n cap) (part3 k j l)) ∧ Hid (w.grownBy wr (some g))) (fun _ i _ => n - (intOf i).toNat)
    case atStart => exact ⟨0, k, Nat.zero_le _, rfl, rfl, Lib.hid (show k = k + 3 * ((0 : Nat) : Int) by omega), (by rw [part3_zero]; exact H.out), World.grownBy.refl _ _⟩
    case round =>
      obtain ⟨j, m, hj, rfl, rfl, HM, hmk, hgr⟩ := hrel
      by_cases hlt : j < n
      · have hj0 : (0 : Int) ≤ (j : Int) := Int.natCast_nonneg _
        have hj1 : (j : Int) < (n : Int) := by omega
        have hm0 : 1 ≤ m := by have := HM.out; omega
        have hm1 : m ≤ 8000000 := by have := HM.out; omega
        have hjl : j < (part3 k j l).length := by rw [part3_length _ _ _ (by rw [HNL.out]; omega), HNL.out]; exact hlt
        obtain ⟨v0, v1, v2⟩ := hmk.out.cell hjl
        have f0 := hmk.out.free (j * 3)
        have f1 := hmk.out.free (j * 3 + 1)
        have f2 := hmk.out.free (j * 3 + 2)
        generalize (part3 k j l)[j] = old at *
        have hs := hmk.out.set m (m + 1) (m + 1 + 1) hjl
        have e := part3_set k j l (by rw [HNL.out]; exact hlt)
        rw [← HM.out] at e
        rw [e] at hs
        unfold setB at hs
        have HM2 := Lib.hid hs; clear hs hjl e
        have hg2 := grown_trans hgr.out (grown_setB wr g j m (m + 1) (m + 1 + 1))
        unfold setB at hg2
        have HG2 := Lib.hid hg2; clear hg2
        go_wp2_with fail
        refine ⟨⟨j + 1, _, by omega, by go_num, rfl, ?_, HM2, HG2⟩, by simp [intOf]; omega⟩
        have := HM.out
        show _ = _
        rw [this]
        omega
      · obtain rfl : j = n := by omega
        go_wp2
        go_ret
        have e := HM.out
        refine ⟨ret_int (by omega), ?_, hgr.out⟩
        have h2 := hmk.out
        rw [← HNL.out, part3_all] at h2
        rw [HNL.out] at h2
        exact h2

set_option maxRecDepth 100000 in
theorem held_boxes (k : Int) (hk1 : 1 ≤ k) (hk : k ≤ 2000000) (a : Option Addr) (n cap : Nat) (hn : n ≤ 1048576) (w : World) (hr : Row3 w a (marks3 k n)) :
    Calls Try.prog 32 #[.slice a n cap, .int .i64 k] w fun e w' => e = .returned (.int .i64 (k + 3 * (n : Int))) ∧ Below w.heap.size w w' := by
  have HR := Lib.hid hr; clear hr
  go_enter Try.func32, Try.ntmps32
  go_wp2_with fail
  go_loopw [1, 5] (fun kv i wr => ∃ (j : Nat) (m : Int), j ≤ n ∧ i = .int .i64 j ∧ kv = .int .i64 m ∧ Hid (m = k + 3 * (j : Int)) ∧ Hid (Below w.heap.size w wr)) (fun _ i _ => n - (intOf i).toNat)
  case atStart => exact ⟨0, k, Nat.zero_le _, rfl, rfl, Lib.hid (show k = k + 3 * ((0 : Nat) : Int) by omega), Below.refl _ _⟩
  case round =>
    obtain ⟨j, m, hj, rfl, rfl, HM, HB⟩ := hrel
    by_cases hlt : j < n
    · have hj0 : (0 : Int) ≤ (j : Int) := Int.natCast_nonneg _
      have hj1 : (j : Int) < (n : Int) := by omega
      have hm0 : 1 ≤ m := by have := HM.out; omega
      have hm1 : m ≤ 8000000 := by have := HM.out; omega
      obtain ⟨g, rfl, hgs, c0, c1, c2⟩ := (HR.out.below HB.out) j (by rw [marks3_length]; exact hlt)
      rw [marks3_get, ← HM.out] at c0 c1 c2
      have hx0 : (m != m) = false := by simp
      have hx1 : ((m + 1) != (m + 1)) = false := by simp
      have hx2 : ((m + 1 + 1) != (m + 1 + 1)) = false := by simp
      go_wp2_with fail
      refine ⟨⟨j + 1, _, by omega, by go_num, rfl, ?_, HB⟩, by simp [intOf]; omega⟩
      have := HM.out
      show _ = _
      rw [this]
      omega
    · obtain rfl : j = n := by omega
      have e := HM.out
      go_wp2
      go_ret
      exact ⟨ret_int (by omega), HB.out⟩


set_option maxRecDepth 100000 in
theorem open_boxes {H : Type} {enc : TypeId × Value → H} {W : World} {a : Option Addr} {len cap : Nat} {d : DataW H} {p : List MemPlace}
    (h : DataW.Trod enc Try.prog W 0 (fun _ => true) true 50 (.slice a len cap) d p) : ∃ l, IsRow3 W a len l := by
  obtain ⟨fuel, hf⟩ := h
  rcases Go.Deep.open_slice Try.underlying50 hf with ⟨hcs, _⟩ | ⟨x, len', cap', m, n, D, Pl, hcs, _, hl, hm, hmm, _, hx⟩
  · simp [Value.cells] at hcs
    obtain ⟨rfl, rfl, rfl⟩ := hcs
    exact ⟨[], rfl, Nat.zero_le _, fun b hb => by simp at hb, fun j hj => by simp at hj⟩
  · simp [Value.cells] at hcs
    obtain ⟨rfl, rfl, rfl⟩ := hcs
    have hmm : m = cap := by simpa using hmm
    subst hmm
    obtain ⟨l, hll, hp⟩ := list_of (p := fun i b => x.block < W.heap.size ∧ ok3 b ∧ W.cell? (x.add (i * 3)) = some (.int .i64 b.1) ∧ W.cell? ⟨(x.add (i * 3)).block, (x.add (i * 3)).off + 1, none⟩ = some (.int .i64 b.2.1) ∧ W.cell? ⟨(x.add (i * 3)).block, (x.add (i * 3)).off + 2, none⟩ = some (.int .i64 b.2.2)) len fun i hi => by
      obtain ⟨cs, h1, h2⟩ := hx i (by omega)
      rw [lawBox_cells] at h1
      obtain ⟨_, hlen, hcell⟩ := World.cells?_some h1
      match cs, hlen with
      | [c0, c1, c2], _ =>
        obtain ⟨y0, y1, y2, n', g0, g1, g2⟩ := cells3 Try.underlying40 (by kernel_rfl) h2
        obtain ⟨x0, e0, _, w0⟩ := DataW.trod_int Try.underlying3 g0
        obtain ⟨x1, e1, _, w1⟩ := DataW.trod_int Try.underlying3 g1
        obtain ⟨x2, e2, _, w2⟩ := DataW.trod_int Try.underlying3 g2
        simp at e0 e1 e2
        subst e0 e1 e2
        have k0 := hcell 0 (by omega)
        have k1 := hcell 1 (by omega)
        have k2 := hcell 2 (by omega)
        have k0 : W.cell? (x.add (i * 3)) = some (.int .i64 x0) := by simpa [Addr.add] using k0
        rw [Go.Deep.add_add, add_step _ _ _ (by omega)] at k1 k2
        exact ⟨(x0, x1, x2), by have := World.block_lt_of_cell? _ _ k0; rwa [add_block] at this, ⟨by first | exact w0 | exact w0.2 | exact w0.1, by first | exact w1 | exact w1.2 | exact w1.1, by first | exact w2 | exact w2.2 | exact w2.1⟩, k0, k1, k2⟩
    exact ⟨l, hll, by omega, fun b hb => by
      obtain ⟨j, hj, rfl⟩ := List.mem_iff_getElem.1 hb
      exact (hp j hj).2.1, fun j hj => ⟨x, rfl, (hp j hj).1, (hp j hj).2.2⟩⟩
end Go.Proofs.Ytmjknjgfcngacaa.SlR
