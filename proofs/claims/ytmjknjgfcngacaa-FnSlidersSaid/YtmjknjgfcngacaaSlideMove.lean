/- What moveSlider, areSliders and IsSpent (of the program and of the model) return and leave alone. -/
import Derived.Test.YtmjknjgfcngacaaSlidePull
import Derived.Deep.QuietTactic
import Derived.BigQuiet
import Derived.Lib.QuietBelow
namespace Go.Proofs.Ytmjknjgfcngacaa.Slide
open Go.ChangeShapes Go.WideShapes Go.ChangeAt Go.RowKit Go.Sort
open Go.Proofs.Ytmjknjgfcngacaa.Tri
open Go.Proofs.Ytmjknjgfcngacaa.Strip (in_at)
open Go.Proofs.Ytmjknjgfcngacaa.Ints (grown_below grown_set grown_trans heap_set_at drewN_below)
set_option linter.unusedVariables false

theorem nowV_near (s : T3) (q : Int) : -200 ≤ nowV s q - s.2.2 ∧ nowV s q - s.2.2 ≤ 200 := by
  unfold nowV
  split
  · rename_i h
    have := okS_iff.1 h.1
    (repeat' split) <;> omega
  · omega

set_option maxRecDepth 100000 in
set_option maxHeartbeats 2000000 in
theorem move_impl (q : Int) (base g n c j : Nat) (l : List T3) (w : World) (h : OwnT 33 w base (.slice (some ⟨g, 0, none⟩) n c) l) (hj : j < l.length) :
    Calls Try.prog 43 #[.pointer (some ⟨g, j * 3, none⟩), .int .i64 q] w fun e w' => e = .returned (.int .i64 (nowV l[j] q - l[j].2.2)) ∧ OwnT 33 w' base (.slice (some ⟨g, 0, none⟩) n c) (l.set j (pullS l[j] q)) ∧ w.grownBy w' (some g) := by
  obtain ⟨k0, k1, k2⟩ := h.cell hj
  have hg : g < w.heap.size := (h.lt g rfl).2
  have hset : ∀ w1, Below w.heap.size w w1 → OwnT 33 w1 base (.slice (some ⟨g, 0, none⟩) n c) l ∧ (∀ x y z : Int, OwnT 33 (setB w1 g j x y z) base (.slice (some ⟨g, 0, none⟩) n c) (l.set j (x, y, z)) ∧ w.grownBy (setB w1 g j x y z) (some g)) := fun w1 hb =>
    ⟨h.below hb, fun x y z => ⟨(h.below hb).set x y z hj, grown_trans (grown_below hb (some g)) (grown_setB w1 g j x y z)⟩⟩
  have HSET := Lib.hid hset
  have hcell : ∀ w1, OwnT 33 w1 base (.slice (some ⟨g, 0, none⟩) n c) l → w1.cell? ⟨g, j * 3, none⟩ = some (.int .i64 l[j].1) ∧ w1.cell? ⟨g, j * 3 + 1, none⟩ = some (.int .i64 l[j].2.1) ∧ w1.cell? ⟨g, j * 3 + 2, none⟩ = some (.int .i64 l[j].2.2) := fun w1 h1 => h1.cell hj
  have HP := Lib.hid (fun x y z => pull_impl x y z q)
  have hne := nowV_near l[j] q
  have hpu : pullS l[j] q = (l[j].1, l[j].2.1, nowV l[j] q) := rfl
  rw [hpu]
  clear hset h hpu
  generalize l[j] = s at *
  obtain ⟨x, y, z⟩ := s
  simp only at k0 k1 k2 hne hcell
  have HC := Lib.hid hcell
  clear hcell
  have hw : IntKind.i64.wrap (nowV (x, y, z) q - z) = nowV (x, y, z) q - z := by rw [IntKind.wrap_i64]; omega
  have HP := Lib.hid (HP.out x y z)
  generalize nowV (x, y, z) q = v at *
  clear hne
  go_enter Try.func43, Try.ntmps43
  go_wp2_with fail
  refine (HP.out _).mono ?_
  rintro e w1 ⟨rfl, hb⟩
  obtain ⟨ho, hs⟩ := HSET.out w1 hb
  obtain ⟨c0, c1, c2⟩ := HC.out w1 ho
  have f0 := ho.free (j * 3)
  have f1 := ho.free (j * 3 + 1)
  have f2 := ho.free (j * 3 + 2)
  obtain ⟨hs1, hs2⟩ := hs x y v
  have d2 : (setB w1 g j x y v).cell? ⟨g, j * 3 + 2, none⟩ = some (.int .i64 v) := by
    have := (hs1.cell (j := j) (by rw [List.length_set]; exact hj)).2.2
    simpa using this
  have HS1 := Lib.hid hs1
  have HS2 := Lib.hid hs2
  unfold setB at d2 HS1 HS2
  clear k0 k1 k2 hb ho hs hs1 hs2 hg
  go_wp2_with fail
  go_ret
  exact ⟨rfl, HS1.out, HS2.out⟩
/-- All of a beginning, and one more. -/
theorem all_take {p : T3 → Bool} {l : List T3} {k : Nat} (hk : k < l.length) (h : (l.take k).all p = true) (h2 : p l[k] = true) : (l.take (k + 1)).all p = true := by
  rw [List.take_succ_eq_append_getElem hk, List.all_append, h]; simp [h2]
theorem all_bad {p : T3 → Bool} {l : List T3} {k : Nat} (hk : k < l.length) (h : p l[k] = false) : l.all p = false := by
  cases hc : l.all p with
  | false => rfl
  | true => rw [List.all_eq_true] at hc; rw [hc _ (List.getElem_mem hk)] at h; cases h
/-- Does Now stand at an end? -/
def endS (s : T3) : Bool := decide (s.2.2 = s.1) || decide (s.2.2 = s.2.1)
theorem spent_and (l : List T3) (h : l.all endS = true) : spentB l = l.all okS := by
  unfold spentB
  rw [Bool.eq_iff_iff, List.all_eq_true, List.all_eq_true]
  rw [List.all_eq_true] at h
  constructor
  · intro h2 s hs
    have := h2 s hs
    rw [Bool.and_eq_true] at this
    exact this.1
  · intro h2 s hs
    have e : (decide (s.2.2 = s.1) || decide (s.2.2 = s.2.1)) = true := h s hs
    rw [h2 s hs, e]; rfl
theorem spent_bad {l : List T3} {k : Nat} (hk : k < l.length) (h : (okS l[k] && endS l[k]) = false) : spentB l = false := all_bad (p := fun s => okS s && endS s) hk h

set_option maxRecDepth 100000 in
set_option maxHeartbeats 2000000 in
theorem are_impl (a : Option Addr) (n c : Nat) (l : List T3) (w : World) (hl : l.length = n) (hn : n ≤ 1048576) (hr : Row3 w a l) :
    Calls Try.prog 42 #[.slice a n c] w fun e w' => e = .returned (.bool (l.all okS)) ∧ Below w.heap.size w w' := by
  have HL := Lib.hid hl; clear hl
  have HR := Lib.hid hr; clear hr
  go_enter Try.func42, Try.ntmps42
  go_wp2_with fail
  go_loopw [7] (fun i wr => ∃ k : Nat, k ≤ n ∧ i = .int .i64 (k : Int) ∧ Hid ((l.take k).all okS = true) ∧ Hid (Below w.heap.size w wr)) (fun i _ => n - (intOf i).toNat)
  case atStart => exact ⟨0, Nat.zero_le _, rfl, Lib.hid (by rw [List.take_zero]; rfl), Lib.hid (Below.refl _ _)⟩
  case round =>
    obtain ⟨k, hk, rfl, HA, HB⟩ := hrel
    by_cases hlt : k < n
    · have hk0 : (0 : Int) ≤ (k : Int) := Int.natCast_nonneg _
      have hk1 : (k : Int) < (n : Int) := by omega
      have hkl : k < l.length := by rw [HL.out]; exact hlt
      obtain ⟨g, rfl, hg, c0, c1, c2⟩ := (HR.out.below HB.out) k hkl
      have HT := Lib.hid (fun h => all_take (p := okS) hkl HA.out h)
      have HF := Lib.hid (fun h => all_bad (p := okS) hkl h)
      have HO := Lib.hid (fun x y z => ok_impl x y z)
      generalize l[k] = s at *
      obtain ⟨x, y, z⟩ := s
      simp only at c0 c1 c2
      have hv := VarT.new (T := 33) wr (x, y, z)
      have hb := alloc_below wr (.cells #[.int .i64 x, .int .i64 y, .int .i64 z] 33)
      have HB := Lib.hid (HB.out.trans (hb.mono HB.out.size))
      have HO := Lib.hid (HO.out x y z)
      cases hok : okS (x, y, z) with
      | false =>
        rw [hok] at HO
        obtain ⟨m0, m1, m2⟩ := hv.cells
        simp only at m0 m1 m2
        clear hb hv
        have HF := Lib.hid (HF.out hok)
        clear HT hok
        go_wp2_with fail
        refine (HO.out _).mono ?_
        rintro e w2 ⟨rfl, hb⟩
        have HB := Lib.hid (HB.out.trans (hb.mono HB.out.size))
        clear hb m0 m1 m2
        go_wp2
        go_ret
        rw [HF.out]
        exact ⟨rfl, HB.out⟩
      | true =>
        rw [hok] at HO
        obtain ⟨m0, m1, m2⟩ := hv.cells
        simp only at m0 m1 m2
        clear hb hv
        have HT := Lib.hid (HT.out hok)
        clear HF hok
        go_wp2_with fail
        refine (HO.out _).mono ?_
        rintro e w2 ⟨rfl, hb⟩
        have HB := Lib.hid (HB.out.trans (hb.mono HB.out.size))
        clear hb m0 m1 m2
        go_wp2_with fail
        exact ⟨⟨k + 1, by omega, by go_num, HT, HB⟩, by simp [intOf]; omega⟩
    · obtain rfl : k = n := by omega
      have hfin : l.take k = l := by rw [← HL.out]; exact List.take_length
      rw [hfin] at HA
      go_wp2
      go_ret
      rw [HA.out]
      exact ⟨rfl, HB.out⟩

set_option maxRecDepth 100000 in
set_option maxHeartbeats 2000000 in
theorem spent_impl (a : Option Addr) (n c : Nat) (l : List T3) (w : World) (hl : l.length = n) (hn : n ≤ 1048576) (hr : Row3 w a l) :
    Calls Try.prog 18 #[.slice a n c] w fun e w' => e = .returned (.bool (spentB l)) ∧ Below w.heap.size w w' := by
  have HL := Lib.hid hl; clear hl
  have HR := Lib.hid hr; clear hr
  go_enter Try.func18, Try.ntmps18
  go_wp2_with fail
  go_loopw [7] (fun i wr => ∃ k : Nat, k ≤ n ∧ i = .int .i64 (k : Int) ∧ Hid ((l.take k).all endS = true) ∧ Hid (Below w.heap.size w wr)) (fun i _ => n - (intOf i).toNat)
  case atStart => exact ⟨0, Nat.zero_le _, rfl, Lib.hid (by rw [List.take_zero]; rfl), Lib.hid (Below.refl _ _)⟩
  case round =>
    obtain ⟨k, hk, rfl, HA, HB⟩ := hrel
    by_cases hlt : k < n
    · have hk0 : (0 : Int) ≤ (k : Int) := Int.natCast_nonneg _
      have hk1 : (k : Int) < (n : Int) := by omega
      have hkl : k < l.length := by rw [HL.out]; exact hlt
      obtain ⟨g, rfl, hg, c0, c1, c2⟩ := (HR.out.below HB.out) k hkl
      have HT := Lib.hid (fun h => all_take (p := endS) hkl HA.out h)
      have HF := Lib.hid (fun h => spent_bad hkl h)
      generalize l[k] = s at *
      obtain ⟨x, y, z⟩ := s
      simp only at c0 c1 c2
      have hv := VarT.new (T := 33) wr (x, y, z)
      have hb := alloc_below wr (.cells #[.int .i64 x, .int .i64 y, .int .i64 z] 33)
      have HB := Lib.hid (HB.out.trans (hb.mono HB.out.size))
      obtain ⟨m0, m1, m2⟩ := hv.cells
      simp only at m0 m1 m2
      clear hb hv
      by_cases h1 : z = x
      · have e1 : (z != x) = false := by simp [h1]
        have HT := Lib.hid (HT.out (by unfold endS; simp [h1]))
        clear HF h1
        go_wp2_with fail
        exact ⟨⟨k + 1, by omega, by go_num, HT, HB⟩, by simp [intOf]; omega⟩
      · have e1 : (z != x) = true := by simp [h1]
        by_cases h2 : z = y
        · have e2 : (z != y) = false := by simp [h2]
          have HT := Lib.hid (HT.out (by unfold endS; simp [h2]))
          clear HF h1 h2
          go_wp2_with fail
          exact ⟨⟨k + 1, by omega, by go_num, HT, HB⟩, by simp [intOf]; omega⟩
        · have e2 : (z != y) = true := by simp [h2]
          have HF := Lib.hid (HF.out (by unfold endS; simp [h1, h2]))
          clear HT h1 h2
          go_wp2_with fail
          go_ret
          rw [HF.out]
          exact ⟨rfl, HB.out⟩
    · obtain rfl : k = n := by omega
      have hfin : l.take k = l := by rw [← HL.out]; exact List.take_length
      rw [hfin] at HA
      have HS := Lib.hid (spent_and l HA.out)
      have HX := Lib.hid (fun w' h => are_impl a k c l w' HL.out hn h)
      go_wp2_with fail
      refine (HX.out _ (HR.out.below HB.out)).mono ?_
      rintro e w2 ⟨rfl, hb⟩
      have HB := Lib.hid (HB.out.trans (hb.mono HB.out.size))
      clear hb
      go_wp2
      go_ret
      rw [HS.out]
      exact ⟨rfl, HB.out⟩

set_option maxRecDepth 100000 in
set_option maxHeartbeats 2000000 in
theorem spent_spec (a : Option Addr) (n c : Nat) (l : List T3) (w : World) (hl : l.length = n) (hn : n ≤ 1048576) (hr : Row3 w a l) :
    Calls Try.prog 33 #[.slice a n c] w fun e w' => e = .returned (.bool (spentB l)) ∧ Below w.heap.size w w' := by
  have HL := Lib.hid hl; clear hl
  have HR := Lib.hid hr; clear hr
  go_enter Try.func33, Try.ntmps33
  go_wp2_with fail
  go_loopw [3] (fun i wr => ∃ k : Nat, k ≤ n ∧ i = .int .i64 (k : Int) ∧ Hid ((l.take k).all (fun s => okS s && endS s) = true) ∧ Hid (Below w.heap.size w wr)) (fun i _ => n - (intOf i).toNat)
  case atStart => exact ⟨0, Nat.zero_le _, rfl, Lib.hid (by rw [List.take_zero]; rfl), Lib.hid (Below.refl _ _)⟩
  case round =>
    obtain ⟨k, hk, rfl, HA, HB⟩ := hrel
    by_cases hlt : k < n
    · have hk0 : (0 : Int) ≤ (k : Int) := Int.natCast_nonneg _
      have hk1 : (k : Int) < (n : Int) := by omega
      have hkl : k < l.length := by rw [HL.out]; exact hlt
      obtain ⟨g, rfl, hg, c0, c1, c2⟩ := (HR.out.below HB.out) k hkl
      have HT := Lib.hid (fun h => all_take (p := fun s => okS s && endS s) hkl HA.out h)
      have HF := Lib.hid (fun h => spent_bad hkl h)
      generalize l[k] = s at *
      obtain ⟨x, y, z⟩ := s
      simp only at c0 c1 c2
      have c0 := cell_regrown c0
      have c1 := cell_regrown c1
      have c2 := cell_regrown c2
      have HO := Lib.hid (fun w => ok_spec x y z w)
      cases hok : okS (x, y, z) with
      | false =>
        rw [hok] at HO
        have HX := Lib.hid (fun (dd : Nat) (os : Array Obj) => Calls.regrown_of (HO.out (grow (redrawn wr dd) os)))
        have HF := Lib.hid (HF.out (by rw [hok]; rfl))
        clear HT HO hok
        go_wp2_with fail
        refine wp_region_quiet_below (by kernel_rfl) (by kernel_rfl) ?_
        repeat (go_big_quiet_step ((go_at_call 13; exact HX.out _ _)))
        refine wpQuiet_nil ?_
        intro _ hw'
        obtain ⟨⟨dq, osq⟩, hw''⟩ := hw'
        subst hw''
        have hbr := below_regrown wr dq osq
        have HB := Lib.hid (HB.out.trans (hbr.mono HB.out.size))
        clear hbr c0 c1 c2 hg
        go_wp2
        go_ret
        rw [HF.out]
        exact ⟨rfl, HB.out⟩
      | true =>
        rw [hok] at HO
        have HX := Lib.hid (fun (dd : Nat) (os : Array Obj) => Calls.regrown_of (HO.out (grow (redrawn wr dd) os)))
        by_cases h1 : z = x
        · have e1 : (z != x) = false := by simp [h1]
          have HT := Lib.hid (HT.out (by show (okS (x, y, z) && endS (x, y, z)) = true; rw [hok]; unfold endS; simp [h1]))
          clear HF HO hok h1
          go_wp2_with fail
          refine wp_region_quiet_below (by kernel_rfl) (by kernel_rfl) ?_
          repeat (go_big_quiet_step ((go_at_call 13; exact HX.out _ _)))
          refine wpQuiet_nil ?_
          intro _ hw'
          obtain ⟨⟨dq, osq⟩, hw''⟩ := hw'
          subst hw''
          have hbr := below_regrown wr dq osq
          have HB := Lib.hid (HB.out.trans (hbr.mono HB.out.size))
          clear hbr c0 c1 c2 hg
          go_wp2
          go_roundw
          case rel => exact ⟨k + 1, by omega, by go_num, HT, HB⟩
          case measure => simp [intOf]; omega
        · have e1 : (z != x) = true := by simp [h1]
          by_cases h2 : z = y
          · have e2 : (z != y) = false := by simp [h2]
            have HT := Lib.hid (HT.out (by show (okS (x, y, z) && endS (x, y, z)) = true; rw [hok]; unfold endS; simp [h2]))
            clear HF HO hok h1 h2
            go_wp2_with fail
            refine wp_region_quiet_below (by kernel_rfl) (by kernel_rfl) ?_
            repeat (go_big_quiet_step ((go_at_call 13; exact HX.out _ _)))
            refine wpQuiet_nil ?_
            intro _ hw'
            obtain ⟨⟨dq, osq⟩, hw''⟩ := hw'
            subst hw''
            have hbr := below_regrown wr dq osq
            have HB := Lib.hid (HB.out.trans (hbr.mono HB.out.size))
            clear hbr c0 c1 c2 hg
            go_wp2
            go_roundw
            case rel => exact ⟨k + 1, by omega, by go_num, HT, HB⟩
            case measure => simp [intOf]; omega
          · have e2 : (z != y) = true := by simp [h2]
            have HF := Lib.hid (HF.out (by rw [hok]; unfold endS; simp [h1, h2]))
            clear HT HO hok h1 h2
            go_wp2_with fail
            refine wp_region_quiet_below (by kernel_rfl) (by kernel_rfl) ?_
            repeat (go_big_quiet_step ((go_at_call 13; exact HX.out _ _)))
            refine wpQuiet_nil ?_
            intro _ hw'
            obtain ⟨⟨dq, osq⟩, hw''⟩ := hw'
            subst hw''
            have hbr := below_regrown wr dq osq
            have HB := Lib.hid (HB.out.trans (hbr.mono HB.out.size))
            clear hbr c0 c1 c2 hg
            go_wp2
            go_ret
            rw [HF.out]
            exact ⟨rfl, HB.out⟩
    · obtain rfl : k = n := by omega
      have hfin : l.take k = l := by rw [← HL.out]; exact List.take_length
      rw [hfin] at HA
      go_wp2
      go_ret
      rw [show spentB l = true from HA.out]
      exact ⟨rfl, HB.out⟩
end Go.Proofs.Ytmjknjgfcngacaa.Slide
