/- What spec.PlainCard returns. -/
import Derived.Test.YtofljefeimmabaaPlainImpl
import Derived.Test.YtofljefeimmabaaAppAny
namespace Go.Proofs.Ytofljefeimmabaa.Card
open Go.ChangeShapes Go.WideShapes Go.ChangeAt Go.RowKit
open Go.Proofs.Ytofljefeimmabaa.Strip Go.Proofs.Ytofljefeimmabaa.Strs
set_option linter.unusedVariables false

theorem plain_count {d f n : Int} {s : ByteArray} {k : Nat} (hs : flatS d f = s) (h1 : (k : Int) ≤ 11) (h2 : k = 0 ∨ (k : Int) ≤ n) (hend : ¬ ((k : Int) < n ∧ (k : Int) ≤ 10)) : plainB d f n = cardB d f (List.replicate k s) := by
  unfold plainB
  subst hs
  by_cases hn : 1 ≤ n ∧ n ≤ 10
  · have e : n.toNat = k := by omega
    rw [decide_eq_true hn, e]; simp
  · have e1 : cardB d f (List.replicate k (flatS d f)) = false := cardB_len (by rw [List.length_replicate]; omega)
    rw [decide_eq_false hn, e1]; rfl
theorem plain_same {d f n : Int} {s : ByteArray} {k : Nat} (hs : flatS d f = s) (h1 : (k : Int) ≤ 11) (h2 : k = 0 ∨ (k : Int) ≤ n) (hend : ¬ ((k : Int) < n ∧ (k : Int) ≤ 10)) (hb : plainB d f n = true) : List.replicate k s = List.replicate n.toNat (flatS d f) := by
  unfold plainB at hb
  simp only [Bool.and_eq_true, decide_eq_true_eq] at hb
  subst hs
  have e : n.toNat = k := by omega
  rw [e]

set_option maxRecDepth 100000 in
set_option maxHeartbeats 2000000 in
theorem plain_spec (d f n : Int) (w : World) : Calls Try.prog 26 #[.int .i64 d, .int .i64 f, .int .i64 n] w (PlainPost w d f n) := by
  obtain ⟨i0, hi, hz0, hz1, hz2⟩ := info_parts info_str16
  have HFL := Lib.hid (show ∀ w' : World, Calls Try.prog 51 #[.int .i64 d, .int .i64 f] w' fun e w'' => e = .returned (.string (flatS d f)) ∧ Below w'.heap.size w' w'' from fun w' => flat_spec d f w')
  have HSZ := Lib.hid (flatS_size d f)
  generalize hfs : flatS d f = s at HFL HSZ
  have HFS := Lib.hid hfs; clear hfs
  go_enter Try.func26, Try.ntmps26
  go_wp2_with fail
  have hv0 := (Var.new w 0 0 (.slice none 0 0)).below (alloc_below _ (.cells #[.int .i64 d, .int .i64 f, .slice none 0 0] 26))
  have hv1 := Var.new (w.alloc (.cells #[.int .i64 0, .int .i64 0, .slice none 0 0] 26)) d f (.slice none 0 0)
  rw [show (w.alloc (.cells #[.int .i64 0, .int .i64 0, .slice none 0 0] 26)).heap.size = w.heap.size + 1 by simp] at hv1
  have hb := ((Below.refl w.heap.size w).alloc (Nat.le_refl _) (.cells #[.int .i64 0, .int .i64 0, .slice none 0 0] 26)).alloc (by simp) (.cells #[.int .i64 d, .int .i64 f, .slice none 0 0] 26)
  have HV0 := Lib.hid hv0
  have HV1 := Lib.hid hv1
  have HB := Lib.hid hb
  clear hv0 hv1 hb
  generalize ((w.alloc (.cells #[.int .i64 0, .int .i64 0, .slice none 0 0] 26)).alloc (.cells #[.int .i64 d, .int .i64 f, .slice none 0 0] 26)) = W at *
  go_loopw [9] (fun i wr => ∃ (k : Nat) (a : Option Addr) (c : Nat), (k : Int) ≤ 11 ∧ i = .int .i64 (k : Int) ∧ Hid (k = 0 ∨ (k : Int) ≤ n) ∧ Hid (Var wr w.heap.size 0 0 (.slice none 0 0)) ∧ Hid (Var wr (w.heap.size + 1) d f (.slice a k c)) ∧ Hid (Own wr w.heap.size (.slice a k c) (List.replicate k s)) ∧ Hid (Below w.heap.size w wr)) (fun i _ => 11 - (intOf i).toNat)
  case atStart => exact ⟨0, none, 0, by omega, rfl, .inl rfl, HV0, HV1, Own.nil _ _, HB⟩
  case round =>
    obtain ⟨k, a, c, hk11, rfl, HK, V0, V1, HO, HBR⟩ := hrel
    have hk0 : (0 : Int) ≤ (k : Int) := Int.natCast_nonneg _
    by_cases hgo : (k : Int) < n ∧ (k : Int) ≤ 10
    · obtain ⟨h1, h2⟩ := hgo
      have hd1 : decide ((k : Int) < n) = true := decide_eq_true h1
      have hd2 : decide ((k : Int) ≤ 10) = true := decide_eq_true h2
      have HK2 := Lib.hid (show k + 1 = 0 ∨ ((k + 1 : Nat) : Int) ≤ n from .inr (by omega))
      obtain ⟨k0, k1, k2⟩ := V1.out.cells
      have HPUSH := Lib.hid (show ∀ w5 : World, Var w5 w.heap.size 0 0 (.slice none 0 0) → Var w5 (w.heap.size + 1) d f (.slice a k c) → Own w5 w.heap.size (.slice a k c) (List.replicate k s) → Below w.heap.size w w5 → ∃ gg cap w6, (∀ ty, (Builtin.append_ #[24, 24] ty #[.slice a k c, .slice (some ⟨w5.heap.size, 0, none⟩) 1 1]).run Try.prog (w5.alloc (.cells #[.string s] 9)) = .ok (.slice (some ⟨gg, 0, none⟩) (k + 1) cap) w6) ∧ Var w6 w.heap.size 0 0 (.slice none 0 0) ∧ Var w6 (w.heap.size + 1) d f (.slice a k c) ∧ Below w.heap.size w w6 ∧ Own w6 w.heap.size (.slice (some ⟨gg, 0, none⟩) (k + 1) cap) (List.replicate (k + 1) s) from fun w5 v50 v51 o5 b5 => by
        have hx := alloc_below w5 (.cells #[.string s] 9)
        have hbx := b5.alloc b5.size (.cells #[.string s] 9)
        have ox := o5.below hx
        obtain ⟨gg, cap, w6, hr6, ho6, hg6⟩ := push_own (w := w5.alloc (.cells #[.string s] 9)) (b := w5.heap.size) (s := s) ox (heap_alloc_new w5 (.cells #[.string s] 9)) (by omega) hbx.size
        refine ⟨gg, cap, w6, hr6, (v50.below hx).written ox hg6, (v51.below hx).written ox hg6, ox.write_below hbx (Nat.le_refl _) hbx.size hg6, ?_⟩
        rw [List.replicate_succ']
        exact ho6)
      go_wp2_with fail
      go_region_law ((first | (go_simp; go_at_call 51; refine (HFL.out _).mono ?_; rintro e w5 ⟨rfl, hb5'⟩; have hb5 := undrew hb5'; have V50 := Lib.hid (V0.out.below hb5); have V51 := Lib.hid (V1.out.below hb5); have O5 := Lib.hid (HO.out.below hb5); have B5 := Lib.hid (HBR.out.trans (hb5.mono HBR.out.size)); obtain ⟨q0, q1, q2⟩ := V51.out.cells; obtain ⟨qa0, qa1, qa2⟩ := ((V51.out.below (alloc_below w5 (.cells #[.string s] 9))).cells); clear hb5 hb5') | (obtain ⟨gg, cap, w6, hr6, v60, v61, b6, o6⟩ := HPUSH.out w5 V50.out V51.out O5.out B5.out; refine step_append_run rfl (.tmp 23) (.tmp 27) _ _ rfl _ _ (by rfl) (by rfl) hr6 ?_; have V60 := Lib.hid v60; have V61 := Lib.hid v61; have B6 := Lib.hid b6; have O6 := Lib.hid o6; obtain ⟨r0, r1, r2⟩ := v61.cells; have fr := v61.free 2; clear hr6 v60 v61 b6 o6)))
      all_goals
        go_wp2
        go_roundw
        case rel => exact ⟨k + 1, some ⟨gg, 0, none⟩, cap, by omega, by go_num, HK2, Lib.hid (V60.out.other (by omega)), Lib.hid (V61.out.set1 _), Lib.hid (Own.aside O6.out V61.out), Lib.hid (B6.out.setCell (by show w.heap.size ≤ w.heap.size + 1; omega) _)⟩
        case measure => simp [intOf]; omega
    · have HPB := Lib.hid (plain_count HFS.out hk11 HK.out hgo)
      have HSM := Lib.hid (fun hb => plain_same HFS.out hk11 HK.out hgo hb)
      have hg2 : ¬ (k : Int) < n ∨ (k : Int) < n ∧ ¬ (k : Int) ≤ 10 := by omega
      have hlen : (List.replicate k s).length = k := List.length_replicate ..
      have hgood : ∀ t ∈ List.replicate k s, t.size ≤ 1048576 := fun t ht => by rw [List.eq_of_mem_replicate ht]; have := HSZ.out; omega
      have HLEN := Lib.hid hlen
      have HGOOD := Lib.hid hgood
      clear hlen hgood hgo
      obtain ⟨k0, k1, k2⟩ := V1.out.cells
      generalize List.replicate k s = l at *
      by_cases hlt : (k : Int) < n
      all_goals
        first | (have hd1 : decide ((k : Int) < n) = true := by simpa using hlt) | (have hd1 : decide ((k : Int) < n) = false := by simpa using hlt)
        first | (have hd3 : ¬ (k : Int) < n := hlt) | (have hd3 : ¬ (k : Int) ≤ 10 := by omega)
        clear hg2 hlt
        go_wp2_with fail
        refine (ok_spec d f a k c l _ HLEN.out (by omega) HGOOD.out HO.out.row2.2).mono ?_
        rintro e w5 ⟨rfl, hb5⟩
        have HV := Lib.hid (V0.out.below hb5)
        have HVC := Lib.hid (V1.out.below hb5)
        have HO5 := Lib.hid (HO.out.below hb5)
        have HB5 := Lib.hid (HBR.out.trans (hb5.mono HBR.out.size))
        rw [← HLEN.out] at HO5 HVC
        clear hb5
        cases hc : cardB d f l with
        | true =>
          have HC := Lib.hid (HPB.out.trans hc)
          clear hc
          obtain ⟨g0, g1, g2⟩ := HVC.out.cells
          have hx : ∃ Z, Z = Card.set3 w5 w.heap.size d f (.slice a l.length c) ∧ Var Z w.heap.size d f (.slice a l.length c) ∧ Below w.heap.size w Z ∧ Own Z w.heap.size (.slice a l.length c) l := ⟨_, rfl, HV.out.set3 _ _ _, below_set3 HB5.out (Nat.le_refl _), (Own.aside3 HO5.out HV.out).mono (Nat.le_refl _)⟩
          obtain ⟨Z, hZ, hz1, hz2, hz3⟩ := hx
          unfold set3 at hZ
          obtain ⟨p0, p1, p2⟩ := HV.out.cells
          have f0 := HV.out.free 0
          have f1 := HV.out.free 1
          have f2 := HV.out.free 2
          have HZZ := Lib.hid hZ
          have HZ1 := Lib.hid hz1
          have HZ2 := Lib.hid hz2
          have HZ3 := Lib.hid hz3
          clear hZ hz1 hz2 hz3
          go_wp2_with fail
          clear g0 g1 g2
          rw [← HZZ.out]
          clear HZZ p0 p1 p2 f0 f1 f2
          obtain ⟨z0, z1, z2⟩ := HZ1.out.cells
          refine bodyPost_ret (v := .tuple #[.agg #[.int .i64 d, .int .i64 f, .slice a l.length c], .bool true]) (by simp [results, Try.results26, go_sem, z0, z1, z2]) rfl ?_
          exact plain_yes HC.out (HSM.out HC.out) HZ2.out HZ3.out
        | false =>
          have HC := Lib.hid (HPB.out.trans hc)
          clear hc
          have hx : ∃ Z, Z = Card.set3 w5 w.heap.size 0 0 (.slice none 0 0) ∧ Var Z w.heap.size 0 0 (.slice none 0 0) ∧ Below w.heap.size w Z := ⟨_, rfl, HV.out.set3 _ _ _, below_set3 HB5.out (Nat.le_refl _)⟩
          obtain ⟨Z, hZ, hz1, hz2⟩ := hx
          unfold set3 at hZ
          obtain ⟨p0, p1, p2⟩ := HV.out.cells
          have f0 := HV.out.free 0
          have f1 := HV.out.free 1
          have f2 := HV.out.free 2
          have HZZ := Lib.hid hZ
          have HZ1 := Lib.hid hz1
          have HZ2 := Lib.hid hz2
          clear hZ hz1 hz2
          go_wp2_with fail
          rw [← HZZ.out]
          clear HZZ p0 p1 p2 f0 f1 f2
          obtain ⟨z0, z1, z2⟩ := HZ1.out.cells
          refine bodyPost_ret (v := .tuple #[.agg #[.int .i64 0, .int .i64 0, .slice none 0 0], .bool false]) (by simp [results, Try.results26, go_sem, z0, z1, z2]) rfl ?_
          exact plain_no HC.out HZ2.out
end Go.Proofs.Ytofljefeimmabaa.Card
