/- What the model of chapter 11 returns: CanAdd (printed by wip/gen_boxspec.py). -/
import Derived.Test.YtekmladindlmoaaBoxVar
namespace Go.Proofs.Ytekmladindlmoaa.Box
open Go.ChangeShapes Go.WideShapes Go.ChangeAt Go.RowKit Go.Sort
open Go.Proofs.Ytekmladindlmoaa.Strip Go.Proofs.Ytekmladindlmoaa.Strs Go.Proofs.Ytekmladindlmoaa.Card Go.Proofs.Ytekmladindlmoaa.Corner Go.Proofs.Ytekmladindlmoaa.Kerf Go.Proofs.Ytekmladindlmoaa.Order Go.Proofs.Ytekmladindlmoaa.Flip
set_option linter.unusedVariables false

set_option maxRecDepth 100000 in
set_option maxHeartbeats 2000000 in
theorem canAdd_out (d f : Int) (F L A : Int) (base n c : Nat) (a : Option Addr) (l : List ByteArray) (w : World) (hn : n ≤ 1048576) (h : Own w base (.slice a n c) l) (hz : ∀ s ∈ l, s.size ≤ 1048576) (hA0 : -9223372036854775808 ≤ A) (hA1 : A ≤ 9223372036854775807) (hr : rangeB d f l F L = false) :
    Calls Try.prog 24 #[.agg #[.int .i64 d, .int .i64 f, .slice a n c], .agg #[.int .i64 F, .int .i64 L, .int .i64 A]] w (fun e w' => e = .returned (.bool (boxB 100 d f l F L A)) ∧ Below w.heap.size w w') := by
  obtain ⟨W, hW, hv1, hv2, hb, hs0⟩ := beginCB w d f (.slice a n c) F L A
  have hoW : Own W base (.slice a n c) l := by rw [hW]; exact (h.below (alloc_below _ _)).below (alloc_below _ _)
  have HN := Lib.hid h.row2.1
  have HOW := Lib.hid hoW
  have HV1 := Lib.hid hv1
  have HV2 := Lib.hid hv2
  have HB := Lib.hid hb
  have HS := Lib.hid hs0
  have HZ := Lib.hid hz
  have HW := Lib.hid hW
  have HLT := Lib.hid (fun b e => (h.lt b e).2)
  clear hv1 hv2 hb hs0 hz hW hoW h
  go_enter Try.func24, Try.ntmps24
  go_wp2_with fail
  rw [← HW.out]
  clear HW
  obtain ⟨k0, k1, k2⟩ := HV1.out.cells
  obtain ⟨m0, m1, m2⟩ := HV2.out.cells
  go_wp2_with fail
  clear k0 k1 k2 m0 m1 m2
  refine (range_spec d f a n c l F L A _ HN.out.symm hn HZ.out HOW.out.row2.2).mono ?_
  rintro e w1 ⟨rfl, hb1⟩
  have HB1 := Lib.hid (HB.out.trans (hb1.mono HB.out.size))
  have HE := Lib.hid (box_out (x := 100) (A := A) hr).1
  rw [hr]
  clear hr hb1
  go_wp2
  go_ret
  rw [HE.out]
  exact ⟨rfl, HB1.out⟩

set_option maxRecDepth 100000 in
set_option maxHeartbeats 2000000 in
theorem canAdd_in (d f : Int) (i0 j0 : Nat) (A : Int) (base n c : Nat) (a : Option Addr) (l : List ByteArray) (w : World) (hn : n ≤ 1048576) (h : Own w base (.slice a n c) l) (hz : ∀ s ∈ l, s.size ≤ 1048576) (hA0 : -9223372036854775808 ≤ A) (hA1 : A ≤ 9223372036854775807) (hr : rangeB d f l (i0 : Int) (j0 : Int) = true) (hij : i0 ≤ j0) (hj : j0 < n) :
    Calls Try.prog 24 #[.agg #[.int .i64 d, .int .i64 f, .slice a n c], .agg #[.int .i64 (i0 : Int), .int .i64 (j0 : Int), .int .i64 A]] w (fun e w' => e = .returned (.bool (boxB 100 d f l (i0 : Int) (j0 : Int) A)) ∧ Below w.heap.size w w') := by
  obtain ⟨W, hW, hv1, hv2, hb, hs0⟩ := beginCB w d f (.slice a n c) i0 j0 A
  have hoW : Own W base (.slice a n c) l := by rw [hW]; exact (h.below (alloc_below _ _)).below (alloc_below _ _)
  have HN := Lib.hid h.row2.1
  have HOW := Lib.hid hoW
  have HV1 := Lib.hid hv1
  have HV2 := Lib.hid hv2
  have HB := Lib.hid hb
  have HS := Lib.hid hs0
  have HZ := Lib.hid hz
  have HW := Lib.hid hW
  have HLT := Lib.hid (fun b e => (h.lt b e).2)
  clear hv1 hv2 hb hs0 hz hW hoW h
  go_enter Try.func24, Try.ntmps24
  go_wp2_with fail
  rw [← HW.out]
  clear HW
  obtain ⟨k0, k1, k2⟩ := HV1.out.cells
  obtain ⟨m0, m1, m2⟩ := HV2.out.cells
  go_wp2_with fail
  clear k0 k1 k2 m0 m1 m2
  refine (range_spec d f a n c l (i0 : Int) (j0 : Int) A _ HN.out.symm hn HZ.out HOW.out.row2.2).mono ?_
  rintro e w1 ⟨rfl, hb1⟩
  have HV1 := Lib.hid (HV1.out.below hb1)
  have HV2 := Lib.hid (HV2.out.below hb1)
  have HOW := Lib.hid (HOW.out.below hb1)
  have HB1 := Lib.hid (HB.out.trans (hb1.mono HB.out.size))
  have HR := Lib.hid hr
  rw [hr]
  clear hr hb1 HB
  obtain ⟨m0, m1, m2⟩ := HV2.out.cells
  go_wp2_with fail
  clear m0 m1 m2
  go_loopw [5] (fun i wr => ∃ k : Nat, i0 ≤ k ∧ k ≤ j0 + 1 ∧ i = .int .i64 (k : Int) ∧ Hid (Var wr w.heap.size d f (.slice a n c)) ∧ Hid (BVar wr (w.heap.size + 1) i0 j0 A) ∧ Hid (Own wr base (.slice a n c) l) ∧ Hid (Below w.heap.size w wr) ∧ Hid (∀ m (hm : m < l.length), i0 ≤ m → m < k → cornerB 100 l[m].data.toList A = true)) (fun i _ => j0 + 1 - (intOf i).toNat)
  case atStart => exact ⟨i0, Nat.le_refl _, by omega, rfl, HV1, HV2, HOW, HB1, fun m _ h1 h2 => by omega⟩
  case round =>
    obtain ⟨k, hk0, hk, rfl, HV1, HV2, HOW, HB, HG⟩ := hrel
    obtain ⟨m0, m1, m2⟩ := HV2.out.cells
    by_cases hlt : k < j0 + 1
    · have hk1 : k ≤ j0 := by omega
      have hk2 : (0 : Int) ≤ (k : Int) := Int.natCast_nonneg _
      have hk3 : (k : Int) < (n : Int) := by omega
      have hk4 : k < n := by omega
      have hkl : k < l.length := by have := HN.out; omega
      obtain ⟨g, hg⟩ : ∃ g, a = some ⟨g, 0, none⟩ := by
        rcases HOW.out.shape with ⟨_, _, e⟩ | h
        · rw [e] at hkl; simp at hkl
        · exact h
      subst hg
      have HX := Lib.hid (fun (dd : Nat) (os : Array Obj) => Calls.regrown_of (valley_spec l[k] A (grow (redrawn wr dd) os) (HZ.out _ (List.getElem_mem hkl)) hA0 hA1))
      have hcell := cell_regrown (HOW.out.cell hkl)
      obtain ⟨k0, k1, k2⟩ := HV1.out.cells
      have k0 := cell_regrown k0
      have k1 := cell_regrown k1
      have k2 := cell_regrown k2
      have q0 := cell_regrown m0
      have q1 := cell_regrown m1
      have q2 := cell_regrown m2
      have HBAD := Lib.hid (fun hc => box_bad (x := 100) (d := d) (f := f) (i := i0) (j := j0) (A := A) k hkl hk0 hlt hc)
      have HNEXT := Lib.hid (fun (hc : cornerB 100 l[k].data.toList A = true) => show ∀ m (hm : m < l.length), i0 ≤ m → m < k + 1 → cornerB 100 l[m].data.toList A = true from fun m hm h1 h2 => by
        by_cases e : m = k
        · subst e; exact hc
        · exact HG.out m hm h1 (by omega))
      generalize l[k] = s at *
      go_wp2_with fail
      refine wp_region_quiet_below (by kernel_rfl) (by kernel_rfl) ?_
      repeat (go_big_quiet_step ((go_at_call 52; exact HX.out _ _)))
      refine wpQuiet_nil ?_
      intro _ hw'
      obtain ⟨⟨dq, osq⟩, hw''⟩ := hw'
      subst hw''
      have hbr := below_regrown wr dq osq
      have HV1 := Lib.hid (HV1.out.below hbr)
      have HV2 := Lib.hid (HV2.out.below hbr)
      have HOW := Lib.hid (HOW.out.below hbr)
      have HB := Lib.hid (HB.out.trans (hbr.mono HB.out.size))
      clear hbr k0 k1 k2 q0 q1 q2 m0 m1 m2 hcell HX
      generalize (grow (redrawn wr dq) osq) = w5 at *
      cases hc : cornerB 100 s.data.toList A with
      | true =>
        have HC := Lib.hid (HNEXT.out hc)
        clear hc HBAD HNEXT HG
        go_wp2_with fail
        go_roundw
        case rel => exact ⟨k + 1, by omega, by omega, by go_num, HV1, HV2, HOW, HB, HC⟩
        case measure => simp [intOf]; omega
      | false =>
        have HE := Lib.hid (HBAD.out hc)
        clear HBAD HNEXT hc
        go_wp2
        go_ret
        rw [HE.out.1]
        exact ⟨rfl, HB.out⟩
    · obtain rfl : k = j0 + 1 := by omega
      have HE := Lib.hid (box_good HR.out HG.out)
      have hk1 : ¬ (j0 + 1 ≤ j0) := by omega
      go_wp2
      go_ret
      rw [HE.out.1]
      exact ⟨rfl, HB.out⟩

set_option maxRecDepth 100000 in
set_option maxHeartbeats 2000000 in
theorem canAdd_spec (d f : Int) (F L A : Int) (base n c : Nat) (a : Option Addr) (l : List ByteArray) (w : World) (hn : n ≤ 1048576) (h : Own w base (.slice a n c) l) (hz : ∀ s ∈ l, s.size ≤ 1048576) (hA0 : -9223372036854775808 ≤ A) (hA1 : A ≤ 9223372036854775807) :
    Calls Try.prog 24 #[.agg #[.int .i64 d, .int .i64 f, .slice a n c], .agg #[.int .i64 F, .int .i64 L, .int .i64 A]] w (fun e w' => e = .returned (.bool (boxB 100 d f l F L A)) ∧ Below w.heap.size w w') := by
  have hl := h.row2.1
  cases hr : rangeB d f l F L with
  | true =>
    obtain ⟨i, j, rfl, rfl, hij, hj, hc⟩ := range_nats hr
    exact canAdd_in d f i j A base n c a l w hn h hz hA0 hA1 hr hij (by omega)
  | false => exact canAdd_out d f F L A base n c a l w hn h hz hA0 hA1 hr
end Go.Proofs.Ytekmladindlmoaa.Box
