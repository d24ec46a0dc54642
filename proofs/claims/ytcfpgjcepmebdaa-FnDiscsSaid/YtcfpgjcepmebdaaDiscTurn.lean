/- What TurnDisc returns, of the program and of the model (printed by wip/gen_disc4.py). -/
import Derived.Test.YtcfpgjcepmebdaaDiscCopy
import Derived.Test.YtcfpgjcepmebdaaDiscSeen
import Derived.StillTailTactics
import Derived.Deep.DeepCutAuto
import Derived.Deep.RegionHeld3
namespace Go.Proofs.Ytcfpgjcepmebdaa.Disc
open Go.ChangeShapes Go.WideShapes Go.ChangeAt Go.RowKit Go.Sort
open Go.Proofs.Ytcfpgjcepmebdaa.Ints
set_option linter.unusedVariables false

section
variable {w0 w' w'' : World} {p1 p2 p3 : Addr} {u1 u2 u3 : Value}
theorem th_next (h : w'.cell? p1 = some u1 ∧ w'.cell? p2 = some u2 ∧ w'.cell? p3 = some u3 ∧ Below w0.heap.size w0 w') (hb : Below w'.heap.size w' w'') :
    w''.cell? p1 = some u1 ∧ w''.cell? p2 = some u2 ∧ w''.cell? p3 = some u3 ∧ Below w0.heap.size w0 w'' := by
  obtain ⟨h1, h2, h3, h7⟩ := h
  have k : ∀ {p : Addr} {u : Value}, w'.cell? p = some u → w''.cell? p = some u := fun {p u} e => (hb.cell (p := p) (World.block_lt_of_cell? _ _ e)).trans e
  exact ⟨k h1, k h2, k h3, h7.trans (hb.mono h7.size)⟩
theorem th_drew (h : w'.cell? p1 = some u1 ∧ w'.cell? p2 = some u2 ∧ w'.cell? p3 = some u3 ∧ Below w0.heap.size w0 w') :
    w'.drew.cell? p1 = some u1 ∧ w'.drew.cell? p2 = some u2 ∧ w'.drew.cell? p3 = some u3 ∧ Below w0.heap.size w0 w'.drew := ⟨h.1, h.2.1, h.2.2.1, h.2.2.2.drew⟩
theorem th_below (h : w'.cell? p1 = some u1 ∧ w'.cell? p2 = some u2 ∧ w'.cell? p3 = some u3 ∧ Below w0.heap.size w0 w') : Below w0.heap.size w0 w' := h.2.2.2
theorem th_of (h : w0.cell? p1 = some u1 ∧ w0.cell? p2 = some u2 ∧ w0.cell? p3 = some u3 ∧ Below w0.heap.size w0 w0) (hb : Below w0.heap.size w0 w') :
    w'.cell? p1 = some u1 ∧ w'.cell? p2 = some u2 ∧ w'.cell? p3 = some u3 ∧ Below w0.heap.size w0 w' := th_next h hb
end
/-- A row of ints is not a disc's variable. -/
theorem own_var {w : World} {base b g N c : Nat} {n m : Int} {v : Value} {l : List Int} (h : Own w base (.slice (some ⟨g, 0, none⟩) N c) l) (hv : DVar w b n m v) : g ≠ b := by
  intro e
  subst e
  obtain ⟨hl, h1 | ⟨g', cap', cur, e, hg, hh, _⟩⟩ := h
  · cases h1.1
  · cases e
    unfold DVar at hv
    rw [hv] at hh
    have h2 := Option.some.inj hh
    injection h2 with _ h3 _
    exact absurd h3 (by decide)
theorem own_set {w : World} {base b g N c j : Nat} {n m : Int} {v u : Value} {l : List Int} (h : Own w base (.slice (some ⟨g, 0, none⟩) N c) l) (hv : DVar w b n m v) : Own (w.setCell ⟨b, j, none⟩ u) base (.slice (some ⟨g, 0, none⟩) N c) l :=
  World.ownsRow.kept h (grown_set w b j u) (by
    right
    intro e
    have e2 : g = b := by simpa [Value.ownBlock] using e
    exact own_var h hv e2)
/-- What stands when a result's variable has been filled. -/
theorem gave_set {w1 w : World} {B0 B B5 : Nat} {n0 m0 n m : Int} {v0 v : Value} {g N c : Nat} {l : List Int} (hb : Below B0 w w1) (hv : DVar w1 B n0 m0 v0) (hB : B0 ≤ B) (ho : Own w1 B0 (.slice (some ⟨g, 0, none⟩) N c) l) :
    DVar (set3 w1 B n m v) B n m v ∧ Below B0 w (set3 w1 B n m v) ∧ Own (set3 w1 B n m v) B0 (.slice (some ⟨g, 0, none⟩) N c) l :=
  ⟨hv.set3 n m v, below_set3 hb hB, own_set (own_set (own_set ho hv) (hv.set0 n)) ((hv.set0 n).set1 m)⟩

set_option maxRecDepth 100000 in
set_option maxHeartbeats 2000000 in
theorem turn_impl (n m b : Int) (g0 N c : Nat) (l : List Int) (w : World) (hl : l.length = N) (hn : N ≤ 1048576) (hr : IRow w (some ⟨g0, 0, none⟩) l) :
    Calls Try.prog 14 #[.agg #[.int .i64 n, .int .i64 m, .slice (some ⟨g0, 0, none⟩) N c], .int .i64 b] w (Gave w n (turnV n m l b) N l) := by
  obtain ⟨W, hW, hA, hv2, hb, hs⟩ := beginR w n m (some ⟨g0, 0, none⟩) N c l hr
  have HW := Lib.hid hW
  have HA := Lib.hid hA
  have HN := Lib.hid hl
  have HV2 := Lib.hid hv2
  have HB := Lib.hid hb
  have HS := Lib.hid hs
  have HCL := Lib.hid (fun w' (hb : Below W.heap.size W w') => clone_ints g0 N c l w' hl hn (hA.row.below hb))
  have HOK := Lib.hid (fun w h => ok_impl n m (some ⟨g0, 0, none⟩) N c l w hl hn h)
  have S0 : W.cell? ⟨w.heap.size, 0, none⟩ = some (.int .i64 n) ∧ W.cell? ⟨w.heap.size, 1, none⟩ = some (.int .i64 m) ∧ W.cell? ⟨w.heap.size, 2, none⟩ = some (.slice (some ⟨g0, 0, none⟩) N c) ∧ Below W.heap.size W W := ⟨hA.var.cells.1, hA.var.cells.2.1, hA.var.cells.2.2, Below.refl _ _⟩
  clear hW hA hv2 hb hr
  go_enter Try.func14, Try.ntmps14
  go_upto_region 1 with (fail)
  rw [HW.out]
  clear HW
  go_cut [5] (fun s5 wx => ∃ (b5 g c2 : Nat), s5 = .pointer (some ⟨b5, 0, none⟩) ∧ Hid (DVar wx b5 n m (.slice (some ⟨g, 0, none⟩) N c2)) ∧ Hid (Own wx W.heap.size (.slice (some ⟨g, 0, none⟩) N c2) l) ∧ Hid (Below W.heap.size W wx) ∧ W.heap.size ≤ b5)
  case first =>
    go_region_held3 (fun w' => w'.cell? ⟨w.heap.size, 0, none⟩ = some (.int .i64 n) ∧ w'.cell? ⟨w.heap.size, 1, none⟩ = some (.int .i64 m) ∧ w'.cell? ⟨w.heap.size, 2, none⟩ = some (.slice (some ⟨g0, 0, none⟩) N c) ∧ Below W.heap.size W w')
      (first | with_reducible exact S0 | with_reducible exact th_drew S0 | with_reducible exact th_next (by assumption) hb | with_reducible exact th_drew (by assumption) | with_reducible assumption | with_reducible exact th_next (by assumption) (alloc_below _ _) | with_reducible exact th_of S0 (HWZ.out.alloc HWZ.out.size _) | with_reducible exact th_of S0 (((HWZ.out.setCell (by first | exact HWZ.out.size | exact Nat.le_refl _ | (simp; done) | omega) _).setCell (by first | exact HWZ.out.size | exact Nat.le_refl _ | (simp; done) | omega) _).setCell (by first | exact HWZ.out.size | exact Nat.le_refl _ | (simp; done) | omega) _))
      ((first | (go_at_call 33; refine (HCL.out _ (th_below (by assumption))).mono ?_; rintro e wz ⟨gz, cz, rfl, hb, ho⟩; have hbz : Below W.heap.size W wz := Below.trans (th_below (by assumption)) (hb.mono (Below.size (th_below (by assumption)))); have HWZ := Lib.hid hbz; have OW := Lib.hid (ho.mono (base2 := W.heap.size) (Below.size (th_below (by assumption)))); clear ho; (first | (have hv0 := DVar.below (w := (W.alloc (.cells #[.int .i64 0, .int .i64 0, .slice none 0 0] 26)).drew) (b := W.heap.size) (DVar.new W 0 0 (.slice none 0 0)) hb; have HV := Lib.hid hv0; clear hv0) | skip); (first | (have hv_0 := HV.out.cells.1; have hv_1 := HV.out.cells.2.1; have hv_2 := HV.out.cells.2.2; have fv_0 := HV.out.free 0; have fv_1 := HV.out.free 1; have fv_2 := HV.out.free 2) | skip))))
    all_goals
      go_wp2_with fail
      go_meet
      refine ⟨_, gz, cz, rfl, ?_, ?_, ?_, ?_⟩
      · first | exact Lib.hid (DVar.new wz n m (.slice (some ⟨gz, 0, none⟩) N cz)) | exact Lib.hid (HV.out.set3 n m (.slice (some ⟨gz, 0, none⟩) N cz))
      · first | exact Lib.hid (OW.out.below (alloc_below _ _)) | exact Lib.hid (own_set (own_set (own_set OW.out HV.out) (HV.out.set0 n)) ((HV.out.set0 n).set1 m))
      · first | exact Lib.hid (HWZ.out.alloc HWZ.out.size _) | exact Lib.hid (((HWZ.out.setCell (by first | exact HWZ.out.size | exact Nat.le_refl _ | (simp; done) | omega) _).setCell (by first | exact HWZ.out.size | exact Nat.le_refl _ | (simp; done) | omega) _).setCell (by first | exact HWZ.out.size | exact Nat.le_refl _ | (simp; done) | omega) _)
      · first | exact HWZ.out.size | exact Nat.le_refl _ | (simp; done) | omega
  case rest =>
    obtain ⟨b5, g, c2, rfl, HX, HO0, HBW, hb5⟩ := hcut
    clear S0 HCL
    generalize wc = w4 at *
    have HA := Lib.hid (HA.out.below HBW.out)
    have HR := Lib.hid (HV2.out.below HBW.out)
    have HB4 := Lib.hid (HB.out.trans (HBW.out.mono HB.out.size))
    have HO := Lib.hid (HO0.out.mono (base2 := w.heap.size) HB.out.size)
    clear HV2 HBW HO0 HB
    obtain ⟨k0, k1, k2⟩ := HA.out.var.cells
    cases hok : discB n m l with
    | false =>
      have HTV := Lib.hid (show turnV n m l b = m by unfold turnV; rw [hok]; rfl)
      rw [hok] at HOK
      clear hok
      go_wp2_with fail
      refine (HOK.out _ HA.out.row).mono ?_
      rintro e w5 ⟨rfl, hb⟩
      have HX := Lib.hid (HX.out.below hb)
      have HA := Lib.hid (HA.out.below hb)
      have HR := Lib.hid (HR.out.below hb)
      have HO := Lib.hid (HO.out.below hb)
      have HB5 := Lib.hid (HB4.out.trans (hb.mono HB4.out.size))
      clear hb k0 k1 k2
      obtain ⟨k0, k1, k2⟩ := HA.out.var.cells
      obtain ⟨Z, hZ⟩ : ∃ Z, set3 w5 (w.heap.size + 1) n (m) (.slice (some ⟨g, 0, none⟩) N c2) = Z := ⟨_, rfl⟩
      obtain ⟨hz, hbz, hoz⟩ := gave_set (B5 := 0) (n := n) (m := (m)) (v := .slice (some ⟨g, 0, none⟩) N c2) HB5.out HR.out (by omega) HO.out
      rw [hZ] at hz hbz hoz
      unfold set3 at hZ
      obtain ⟨x0, x1, x2⟩ := HX.out.cells
      obtain ⟨p0, p1, p2⟩ := HR.out.cells
      have f0 := HR.out.free 0
      have f1 := HR.out.free 1
      have f2 := HR.out.free 2
      have HZ := Lib.hid hZ
      have HVZ := Lib.hid hz
      have HPOST : Hid (Gave w n (m) N l (.returned (.agg #[.int .i64 n, .int .i64 (m), .slice (some ⟨g, 0, none⟩) N c2])) Z) := Lib.hid ⟨g, c2, rfl, hbz, hoz⟩
      clear hZ hz hbz hoz
      go_wp2_with fail
      rw [HZ.out]
      clear HZ x0 x1 x2 p0 p1 p2 f0 f1 f2
      obtain ⟨z0, z1, z2⟩ := HVZ.out.cells
      refine bodyPost_ret (v := .agg #[.int .i64 n, .int .i64 (m), .slice (some ⟨g, 0, none⟩) N c2]) (by simp [results, Try.results14, go_sem, z0, z1, z2]) rfl ?_
      first | exact HPOST.out | (rw [HTV.out]; exact HPOST.out)
    | true =>
      rw [hok] at HOK
      by_cases hby : -1000 ≤ b ∧ b ≤ 1000
      · obtain ⟨t1, t2⟩ := turnV_in hok b
        have HTV := Lib.hid (show turnV n m l b = (m + b) % n by unfold turnV; rw [hok, decide_eq_true hby]; rfl)
        rw [HTV.out] at t1 t2
        obtain ⟨hN2, hN24, rfl, M, hM, rfl⟩ := nats_of (x := 0) hl hok
        have hd1 : decide (-1000 ≤ b) = true := decide_eq_true hby.1
        have hd2 : decide (b ≤ 1000) = true := decide_eq_true hby.2
        have hz : ((N : Int) == 0) = false := by simp; omega
        have hz2 : ((N : Int) != 0) = true := by simp; omega
        have hz3 : ¬ (N : Int) = 0 := by omega
        have hz4 : ¬ N = 0 := by omega
        have hz5 : (N == 0) = false := by simp; omega
        have ht := turn_impl_at (M : Int) b (N : Int) (by omega) (by omega)
        have hti := tmod_in b (N : Int) (by omega)
        obtain ⟨T, hT⟩ : ∃ T, Int.tmod b (N : Int) = T := ⟨_, rfl⟩
        rw [hT] at ht hti
        obtain ⟨S1, hS1⟩ : ∃ S1, (M : Int) + T = S1 := ⟨_, rfl⟩
        rw [hS1] at ht
        obtain ⟨S2, hS2⟩ : ∃ S2, S1 + (N : Int) = S2 := ⟨_, rfl⟩
        rw [hS2] at ht
        obtain ⟨r, hr⟩ : ∃ r, ((M : Int) + b) % (N : Int) = r := ⟨_, rfl⟩
        rw [hr] at ht t1 t2 HTV
        have e0 : IntKind.i64.wrap T = T := by rw [IntKind.wrap_i64]; omega
        have e1 : IntKind.i64.wrap ((M : Int) + T) = S1 := by rw [hS1, IntKind.wrap_i64]; omega
        have e2 : IntKind.i64.wrap (S1 + (N : Int)) = S2 := by rw [hS2, IntKind.wrap_i64]; omega
        have e3 : IntKind.i64.wrap r = r := by rw [IntKind.wrap_i64]; omega
        clear hS1 hS2 hr hok
        go_wp2_with fail
        refine (HOK.out _ HA.out.row).mono ?_
        rintro e w5 ⟨rfl, hb⟩
        have HX := Lib.hid (HX.out.below hb)
        have HA := Lib.hid (HA.out.below hb)
        have HR := Lib.hid (HR.out.below hb)
        have HO := Lib.hid (HO.out.below hb)
        have HB5 := Lib.hid (HB4.out.trans (hb.mono HB4.out.size))
        clear hb k0 k1 k2
        obtain ⟨k0, k1, k2⟩ := HA.out.var.cells
        obtain ⟨x0, x1, x2⟩ := HX.out.cells
        have f0 := HX.out.free 1
        go_wp2_with fail
        go_region_held3 (fun w' => w'.cell? ⟨w.heap.size, 0, none⟩ = some (.int .i64 (N : Int)) ∧ w'.cell? ⟨w.heap.size, 1, none⟩ = some (.int .i64 (M : Int)) ∧ w'.cell? ⟨w.heap.size, 2, none⟩ = some (.slice (some ⟨g0, 0, none⟩) N c))
          (first | exact ⟨k0, k1, k2⟩ | exact (HA.out.var.other (by omega)).cells | go_keep)
          (fail)
        clear k0 k1 k2 x0 x1 x2 f0
        have HSET : ∃ w6, (w5.setCell ⟨b5, 1, none⟩ (.int .i64 r)).drew = w6 ∧ DVar w6 b5 (N : Int) r (.slice (some ⟨g, 0, none⟩) N c2) ∧ DVar w6 (w.heap.size + 1) 0 0 (.slice none 0 0) ∧ Own w6 w.heap.size (.slice (some ⟨g, 0, none⟩) N c2) l ∧ Below w.heap.size w w6 :=
          ⟨_, rfl, HX.out.set1 r, HR.out.other (by omega), own_set HO.out HX.out, (HB5.out.setCell (p := ⟨b5, 1, none⟩) (by show w.heap.size ≤ b5; omega) _).drew⟩
        obtain ⟨w6, hw6, hx6, hr6, ho6, hb6⟩ := HSET
        rw [hw6]
        have HX := Lib.hid hx6
        have HR := Lib.hid hr6
        have HO := Lib.hid ho6
        have HB5 := Lib.hid hb6
        clear hw6 hx6 hr6 ho6 hb6
        obtain ⟨Z, hZ⟩ : ∃ Z, set3 w6 (w.heap.size + 1) (N : Int) (r) (.slice (some ⟨g, 0, none⟩) N c2) = Z := ⟨_, rfl⟩
        obtain ⟨hz, hbz, hoz⟩ := gave_set (B5 := 0) (n := (N : Int)) (m := (r)) (v := .slice (some ⟨g, 0, none⟩) N c2) HB5.out HR.out (by omega) HO.out
        rw [hZ] at hz hbz hoz
        unfold set3 at hZ
        obtain ⟨x0, x1, x2⟩ := HX.out.cells
        obtain ⟨p0, p1, p2⟩ := HR.out.cells
        have f0 := HR.out.free 0
        have f1 := HR.out.free 1
        have f2 := HR.out.free 2
        have HZ := Lib.hid hZ
        have HVZ := Lib.hid hz
        have HPOST : Hid (Gave w (N : Int) (r) N l (.returned (.agg #[.int .i64 (N : Int), .int .i64 (r), .slice (some ⟨g, 0, none⟩) N c2])) Z) := Lib.hid ⟨g, c2, rfl, hbz, hoz⟩
        clear hZ hz hbz hoz
        go_wp2_with fail
        rw [HZ.out]
        clear HZ x0 x1 x2 p0 p1 p2 f0 f1 f2
        obtain ⟨z0, z1, z2⟩ := HVZ.out.cells
        refine bodyPost_ret (v := .agg #[.int .i64 (N : Int), .int .i64 (r), .slice (some ⟨g, 0, none⟩) N c2]) (by simp [results, Try.results14, go_sem, z0, z1, z2]) rfl ?_
        first | exact HPOST.out | (rw [HTV.out]; exact HPOST.out)
      · have HTV := Lib.hid (show turnV n m l b = m by unfold turnV; rw [hok, decide_eq_false hby]; rfl)
        clear hok
        by_cases h1 : -1000 ≤ b
        · have hd1 : decide (-1000 ≤ b) = true := decide_eq_true h1
          have hd2 : decide (b ≤ 1000) = false := decide_eq_false fun h => hby ⟨h1, h⟩
          go_wp2_with fail
          refine (HOK.out _ HA.out.row).mono ?_
          rintro e w5 ⟨rfl, hb⟩
          have HX := Lib.hid (HX.out.below hb)
          have HA := Lib.hid (HA.out.below hb)
          have HR := Lib.hid (HR.out.below hb)
          have HO := Lib.hid (HO.out.below hb)
          have HB5 := Lib.hid (HB4.out.trans (hb.mono HB4.out.size))
          clear hb k0 k1 k2
          obtain ⟨k0, k1, k2⟩ := HA.out.var.cells
          obtain ⟨Z, hZ⟩ : ∃ Z, set3 w5 (w.heap.size + 1) n (m) (.slice (some ⟨g, 0, none⟩) N c2) = Z := ⟨_, rfl⟩
          obtain ⟨hz, hbz, hoz⟩ := gave_set (B5 := 0) (n := n) (m := (m)) (v := .slice (some ⟨g, 0, none⟩) N c2) HB5.out HR.out (by omega) HO.out
          rw [hZ] at hz hbz hoz
          unfold set3 at hZ
          obtain ⟨x0, x1, x2⟩ := HX.out.cells
          obtain ⟨p0, p1, p2⟩ := HR.out.cells
          have f0 := HR.out.free 0
          have f1 := HR.out.free 1
          have f2 := HR.out.free 2
          have HZ := Lib.hid hZ
          have HVZ := Lib.hid hz
          have HPOST : Hid (Gave w n (m) N l (.returned (.agg #[.int .i64 n, .int .i64 (m), .slice (some ⟨g, 0, none⟩) N c2])) Z) := Lib.hid ⟨g, c2, rfl, hbz, hoz⟩
          clear hZ hz hbz hoz
          go_wp2_with fail
          rw [HZ.out]
          clear HZ x0 x1 x2 p0 p1 p2 f0 f1 f2
          obtain ⟨z0, z1, z2⟩ := HVZ.out.cells
          refine bodyPost_ret (v := .agg #[.int .i64 n, .int .i64 (m), .slice (some ⟨g, 0, none⟩) N c2]) (by simp [results, Try.results14, go_sem, z0, z1, z2]) rfl ?_
          first | exact HPOST.out | (rw [HTV.out]; exact HPOST.out)
        · have hd1 : decide (-1000 ≤ b) = false := decide_eq_false h1
          go_wp2_with fail
          refine (HOK.out _ HA.out.row).mono ?_
          rintro e w5 ⟨rfl, hb⟩
          have HX := Lib.hid (HX.out.below hb)
          have HA := Lib.hid (HA.out.below hb)
          have HR := Lib.hid (HR.out.below hb)
          have HO := Lib.hid (HO.out.below hb)
          have HB5 := Lib.hid (HB4.out.trans (hb.mono HB4.out.size))
          clear hb k0 k1 k2
          obtain ⟨k0, k1, k2⟩ := HA.out.var.cells
          obtain ⟨Z, hZ⟩ : ∃ Z, set3 w5 (w.heap.size + 1) n (m) (.slice (some ⟨g, 0, none⟩) N c2) = Z := ⟨_, rfl⟩
          obtain ⟨hz, hbz, hoz⟩ := gave_set (B5 := 0) (n := n) (m := (m)) (v := .slice (some ⟨g, 0, none⟩) N c2) HB5.out HR.out (by omega) HO.out
          rw [hZ] at hz hbz hoz
          unfold set3 at hZ
          obtain ⟨x0, x1, x2⟩ := HX.out.cells
          obtain ⟨p0, p1, p2⟩ := HR.out.cells
          have f0 := HR.out.free 0
          have f1 := HR.out.free 1
          have f2 := HR.out.free 2
          have HZ := Lib.hid hZ
          have HVZ := Lib.hid hz
          have HPOST : Hid (Gave w n (m) N l (.returned (.agg #[.int .i64 n, .int .i64 (m), .slice (some ⟨g, 0, none⟩) N c2])) Z) := Lib.hid ⟨g, c2, rfl, hbz, hoz⟩
          clear hZ hz hbz hoz
          go_wp2_with fail
          rw [HZ.out]
          clear HZ x0 x1 x2 p0 p1 p2 f0 f1 f2
          obtain ⟨z0, z1, z2⟩ := HVZ.out.cells
          refine bodyPost_ret (v := .agg #[.int .i64 n, .int .i64 (m), .slice (some ⟨g, 0, none⟩) N c2]) (by simp [results, Try.results14, go_sem, z0, z1, z2]) rfl ?_
          first | exact HPOST.out | (rw [HTV.out]; exact HPOST.out)

set_option maxRecDepth 100000 in
set_option maxHeartbeats 2000000 in
theorem turn_spec (n m b : Int) (g0 N c : Nat) (l : List Int) (w : World) (hl : l.length = N) (hn : N ≤ 1048576) (hr : IRow w (some ⟨g0, 0, none⟩) l) :
    Calls Try.prog 23 #[.agg #[.int .i64 n, .int .i64 m, .slice (some ⟨g0, 0, none⟩) N c], .int .i64 b] w (Gave w n (turnV n m l b) N l) := by
  obtain ⟨W, hW, hA, hv2, hb, hs⟩ := beginR w n m (some ⟨g0, 0, none⟩) N c l hr
  have HW := Lib.hid hW
  have HA := Lib.hid hA
  have HN := Lib.hid hl
  have HV2 := Lib.hid hv2
  have HB := Lib.hid hb
  have HS := Lib.hid hs
  have HCL := Lib.hid (fun w' h => copy_spec n m g0 N c l w' hl hn h)
  have HOK := Lib.hid (fun w h => ok_spec n m (some ⟨g0, 0, none⟩) N c l w hl hn h)
  obtain ⟨k0, k1, k2⟩ := hA.var.cells
  clear hW hA hv2 hb hr
  go_enter Try.func23, Try.ntmps23
  go_wp2_with fail
  rw [HW.out]
  clear HW
  go_wp2_with fail
  refine (HCL.out _ HA.out.row).mono ?_
  rintro e w3 ⟨g, c2, rfl, hb, ho⟩
  have HA := Lib.hid (HA.out.below hb)
  have HR := Lib.hid (HV2.out.below hb)
  have HB3 := Lib.hid (HB.out.trans (hb.mono HB.out.size))
  have HO := Lib.hid (ho.mono (base2 := w.heap.size) HB.out.size)
  have hb5 : W.heap.size ≤ w3.heap.size := hb.size
  have hb4 := alloc_below w3 (.cells #[.int .i64 n, .int .i64 m, .slice (some ⟨g, 0, none⟩) N c2] 26)
  have HX := Lib.hid (DVar.new w3 n m (.slice (some ⟨g, 0, none⟩) N c2))
  have HA := Lib.hid (HA.out.below hb4)
  have HR := Lib.hid (HR.out.below hb4)
  have HO := Lib.hid (HO.out.below hb4)
  have HB4 := Lib.hid (HB3.out.trans (hb4.mono HB3.out.size))
  clear hb ho hb4 k0 k1 k2 HB HB3 HV2
  obtain ⟨k0, k1, k2⟩ := HA.out.var.cells
  obtain ⟨w4, hw4⟩ : ∃ w4, w3.alloc (.cells #[.int .i64 n, .int .i64 m, .slice (some ⟨g, 0, none⟩) N c2] 26) = w4 := ⟨_, rfl⟩
  rw [hw4] at HX HA HR HO HB4
  have HW4 := Lib.hid hw4
  clear hw4
  obtain ⟨b5, hb5e⟩ : ∃ b5, w3.heap.size = b5 := ⟨_, rfl⟩
  rw [hb5e] at HX hb5
  have HB5E := Lib.hid hb5e
  clear hb5e
  have HHEAD : Hid (True) := Lib.hid trivial
  cases hok : discB n m l with
  | false =>
    have HTV := Lib.hid (show turnV n m l b = m by unfold turnV; rw [hok]; rfl)
    rw [hok] at HOK
    clear hok
    go_wp2_with fail
    rw [HW4.out, HB5E.out]
    refine (HOK.out _ HA.out.row).mono ?_
    rintro e w5 ⟨rfl, hb⟩
    have HX := Lib.hid (HX.out.below hb)
    have HA := Lib.hid (HA.out.below hb)
    have HR := Lib.hid (HR.out.below hb)
    have HO := Lib.hid (HO.out.below hb)
    have HB5 := Lib.hid (HB4.out.trans (hb.mono HB4.out.size))
    clear hb k0 k1 k2
    obtain ⟨k0, k1, k2⟩ := HA.out.var.cells
    obtain ⟨Z, hZ⟩ : ∃ Z, set3 w5 (w.heap.size + 1) n (m) (.slice (some ⟨g, 0, none⟩) N c2) = Z := ⟨_, rfl⟩
    obtain ⟨hz, hbz, hoz⟩ := gave_set (B5 := 0) (n := n) (m := (m)) (v := .slice (some ⟨g, 0, none⟩) N c2) HB5.out HR.out (by omega) HO.out
    rw [hZ] at hz hbz hoz
    unfold set3 at hZ
    obtain ⟨x0, x1, x2⟩ := HX.out.cells
    obtain ⟨p0, p1, p2⟩ := HR.out.cells
    have f0 := HR.out.free 0
    have f1 := HR.out.free 1
    have f2 := HR.out.free 2
    have HZ := Lib.hid hZ
    have HVZ := Lib.hid hz
    have HPOST : Hid (Gave w n (m) N l (.returned (.agg #[.int .i64 n, .int .i64 (m), .slice (some ⟨g, 0, none⟩) N c2])) Z) := Lib.hid ⟨g, c2, rfl, hbz, hoz⟩
    clear hZ hz hbz hoz
    go_wp2_with fail
    rw [HZ.out]
    clear HZ x0 x1 x2 p0 p1 p2 f0 f1 f2
    obtain ⟨z0, z1, z2⟩ := HVZ.out.cells
    refine bodyPost_ret (v := .agg #[.int .i64 n, .int .i64 (m), .slice (some ⟨g, 0, none⟩) N c2]) (by simp [results, Try.results23, go_sem, z0, z1, z2]) rfl ?_
    first | exact HPOST.out | (rw [HTV.out]; exact HPOST.out)
  | true =>
    rw [hok] at HOK
    by_cases hby : -1000 ≤ b ∧ b ≤ 1000
    · obtain ⟨t1, t2⟩ := turnV_in hok b
      have HTV := Lib.hid (show turnV n m l b = (m + b) % n by unfold turnV; rw [hok, decide_eq_true hby]; rfl)
      rw [HTV.out] at t1 t2
      obtain ⟨hN2, hN24, rfl, M, hM, rfl⟩ := nats_of (x := 0) hl hok
      have hd1 : decide (-1000 ≤ b) = true := decide_eq_true hby.1
      have hd2 : decide (b ≤ 1000) = true := decide_eq_true hby.2
      have hz : ((N : Int) == 0) = false := by simp; omega
      have hz2 : ((N : Int) != 0) = true := by simp; omega
      have hz3 : ¬ (N : Int) = 0 := by omega
      have hz4 : ¬ N = 0 := by omega
      have hz5 : (N == 0) = false := by simp; omega
      have ht := turn_spec_at (M : Int) b (N : Int) (by omega)
      obtain ⟨S1, hS1⟩ : ∃ S1, (M : Int) + b = S1 := ⟨_, rfl⟩
      rw [hS1] at ht t1 t2 HTV
      have hti := tmod_in S1 (N : Int) (by omega)
      obtain ⟨T, hT⟩ : ∃ T, Int.tmod S1 (N : Int) = T := ⟨_, rfl⟩
      rw [hT] at ht hti
      obtain ⟨S2, hS2⟩ : ∃ S2, T + (N : Int) = S2 := ⟨_, rfl⟩
      rw [hS2] at ht
      obtain ⟨r, hr⟩ : ∃ r, S1 % (N : Int) = r := ⟨_, rfl⟩
      rw [hr] at ht t1 t2 HTV
      have e0 : IntKind.i64.wrap T = T := by rw [IntKind.wrap_i64]; omega
      have e1 : IntKind.i64.wrap ((M : Int) + b) = S1 := by rw [hS1, IntKind.wrap_i64]; omega
      have e2 : IntKind.i64.wrap (T + (N : Int)) = S2 := by rw [hS2, IntKind.wrap_i64]; omega
      have e3 : IntKind.i64.wrap r = r := by rw [IntKind.wrap_i64]; omega
      clear hS1 hS2 hr hok
      go_wp2_with fail
      rw [HW4.out, HB5E.out]
      refine (HOK.out _ HA.out.row).mono ?_
      rintro e w5 ⟨rfl, hb⟩
      have HX := Lib.hid (HX.out.below hb)
      have HA := Lib.hid (HA.out.below hb)
      have HR := Lib.hid (HR.out.below hb)
      have HO := Lib.hid (HO.out.below hb)
      have HB5 := Lib.hid (HB4.out.trans (hb.mono HB4.out.size))
      clear hb k0 k1 k2
      obtain ⟨k0, k1, k2⟩ := HA.out.var.cells
      go_wp2_with fail
      refine (in_at _ _ _ _).mono ?_
      rintro e w6 ⟨rfl, rfl⟩
      rw [decide_eq_true hby]
      obtain ⟨x0, x1, x2⟩ := HX.out.cells
      have f0 := HX.out.free 1
      go_wp2_with fail
      go_region_held3 (fun w' => w'.cell? ⟨w.heap.size, 0, none⟩ = some (.int .i64 (N : Int)) ∧ w'.cell? ⟨w.heap.size, 1, none⟩ = some (.int .i64 (M : Int)) ∧ w'.cell? ⟨w.heap.size, 2, none⟩ = some (.slice (some ⟨g0, 0, none⟩) N c))
        (first | exact ⟨k0, k1, k2⟩ | exact (HA.out.var.other (by omega)).cells | go_keep)
        (fail)
      clear k0 k1 k2 x0 x1 x2 f0
      have HSET : ∃ w6, (w5.setCell ⟨b5, 1, none⟩ (.int .i64 r)).drew = w6 ∧ DVar w6 b5 (N : Int) r (.slice (some ⟨g, 0, none⟩) N c2) ∧ DVar w6 (w.heap.size + 1) 0 0 (.slice none 0 0) ∧ Own w6 w.heap.size (.slice (some ⟨g, 0, none⟩) N c2) l ∧ Below w.heap.size w w6 :=
        ⟨_, rfl, HX.out.set1 r, HR.out.other (by omega), own_set HO.out HX.out, (HB5.out.setCell (p := ⟨b5, 1, none⟩) (by show w.heap.size ≤ b5; omega) _).drew⟩
      obtain ⟨w6, hw6, hx6, hr6, ho6, hb6⟩ := HSET
      rw [hw6]
      have HX := Lib.hid hx6
      have HR := Lib.hid hr6
      have HO := Lib.hid ho6
      have HB5 := Lib.hid hb6
      clear hw6 hx6 hr6 ho6 hb6
      obtain ⟨Z, hZ⟩ : ∃ Z, set3 w6 (w.heap.size + 1) (N : Int) (r) (.slice (some ⟨g, 0, none⟩) N c2) = Z := ⟨_, rfl⟩
      obtain ⟨hz, hbz, hoz⟩ := gave_set (B5 := 0) (n := (N : Int)) (m := (r)) (v := .slice (some ⟨g, 0, none⟩) N c2) HB5.out HR.out (by omega) HO.out
      rw [hZ] at hz hbz hoz
      unfold set3 at hZ
      obtain ⟨x0, x1, x2⟩ := HX.out.cells
      obtain ⟨p0, p1, p2⟩ := HR.out.cells
      have f0 := HR.out.free 0
      have f1 := HR.out.free 1
      have f2 := HR.out.free 2
      have HZ := Lib.hid hZ
      have HVZ := Lib.hid hz
      have HPOST : Hid (Gave w (N : Int) (r) N l (.returned (.agg #[.int .i64 (N : Int), .int .i64 (r), .slice (some ⟨g, 0, none⟩) N c2])) Z) := Lib.hid ⟨g, c2, rfl, hbz, hoz⟩
      clear hZ hz hbz hoz
      go_wp2_with fail
      rw [HZ.out]
      clear HZ x0 x1 x2 p0 p1 p2 f0 f1 f2
      obtain ⟨z0, z1, z2⟩ := HVZ.out.cells
      refine bodyPost_ret (v := .agg #[.int .i64 (N : Int), .int .i64 (r), .slice (some ⟨g, 0, none⟩) N c2]) (by simp [results, Try.results23, go_sem, z0, z1, z2]) rfl ?_
      first | exact HPOST.out | (rw [HTV.out]; exact HPOST.out)
    · have HTV := Lib.hid (show turnV n m l b = m by unfold turnV; rw [hok, decide_eq_false hby]; rfl)
      clear hok
      go_wp2_with fail
      rw [HW4.out, HB5E.out]
      refine (HOK.out _ HA.out.row).mono ?_
      rintro e w5 ⟨rfl, hb⟩
      have HX := Lib.hid (HX.out.below hb)
      have HA := Lib.hid (HA.out.below hb)
      have HR := Lib.hid (HR.out.below hb)
      have HO := Lib.hid (HO.out.below hb)
      have HB5 := Lib.hid (HB4.out.trans (hb.mono HB4.out.size))
      clear hb k0 k1 k2
      obtain ⟨k0, k1, k2⟩ := HA.out.var.cells
      go_wp2_with fail
      refine (in_at _ _ _ _).mono ?_
      rintro e w6 ⟨rfl, rfl⟩
      rw [decide_eq_false hby]
      obtain ⟨Z, hZ⟩ : ∃ Z, set3 w5 (w.heap.size + 1) n (m) (.slice (some ⟨g, 0, none⟩) N c2) = Z := ⟨_, rfl⟩
      obtain ⟨hz, hbz, hoz⟩ := gave_set (B5 := 0) (n := n) (m := (m)) (v := .slice (some ⟨g, 0, none⟩) N c2) HB5.out HR.out (by omega) HO.out
      rw [hZ] at hz hbz hoz
      unfold set3 at hZ
      obtain ⟨x0, x1, x2⟩ := HX.out.cells
      obtain ⟨p0, p1, p2⟩ := HR.out.cells
      have f0 := HR.out.free 0
      have f1 := HR.out.free 1
      have f2 := HR.out.free 2
      have HZ := Lib.hid hZ
      have HVZ := Lib.hid hz
      have HPOST : Hid (Gave w n (m) N l (.returned (.agg #[.int .i64 n, .int .i64 (m), .slice (some ⟨g, 0, none⟩) N c2])) Z) := Lib.hid ⟨g, c2, rfl, hbz, hoz⟩
      clear hZ hz hbz hoz
      go_wp2_with fail
      rw [HZ.out]
      clear HZ x0 x1 x2 p0 p1 p2 f0 f1 f2
      obtain ⟨z0, z1, z2⟩ := HVZ.out.cells
      refine bodyPost_ret (v := .agg #[.int .i64 n, .int .i64 (m), .slice (some ⟨g, 0, none⟩) N c2]) (by simp [results, Try.results23, go_sem, z0, z1, z2]) rfl ?_
      first | exact HPOST.out | (rw [HTV.out]; exact HPOST.out)
end Go.Proofs.Ytcfpgjcepmebdaa.Disc
