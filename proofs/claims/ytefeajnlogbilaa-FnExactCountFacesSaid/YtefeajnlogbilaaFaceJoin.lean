/- What the model's l06Joined and AreJoined return. -/
import Derived.Test.YtefeajnlogbilaaFaceSpec
namespace Go.Proofs.Ytefeajnlogbilaa.Face
open Go.ChangeShapes Go.WideShapes Go.ChangeAt Go.RowKit
open Go.Proofs.Ytefeajnlogbilaa.Strip Go.Proofs.Ytefeajnlogbilaa.Strs Go.Proofs.Ytefeajnlogbilaa.Card
set_option linter.unusedVariables false

theorem byte_eq2 {a b : UInt8} (h : a = b) : ((a.toNat : Int) == (b.toNat : Int)) = true := by subst h; simp
theorem byte_ne2 {a b : UInt8} (h : a ≠ b) : ((a.toNat : Int) == (b.toNat : Int)) = false := by
  simp only [beq_eq_false_iff_ne, ne_eq, Int.natCast_inj]
  exact fun e => h (UInt8.toNat_inj.mp e)

/-- Two tiles of two strips: the same step, the same letter, as many steps forward before them. -/
def jrB (sa sb : ByteArray) (i j : Nat) : Bool := decide (i = j) && (decide (sa.data.toList.getD i 0 = sb.data.toList.getD j 0) && decide (cnt 102 (sa.data.toList.take i) = cnt 102 (sb.data.toList.take j)))

theorem get_getD (s : ByteArray) (i : Nat) (h : i < s.size) : s[i] = s.data.toList.getD i 0 := by
  have hl : i < s.data.toList.length := by simpa using h
  rw [List.getD, List.getElem?_eq_getElem hl, Option.getD_some]
  simp
  rfl

set_option maxRecDepth 100000 in
set_option maxHeartbeats 1000000 in
theorem jrow_spec (d f : Int) (g m c k k2 i j : Nat) (sa sb : ByteArray) (w : World) (hk2 : k2 = k + 1) (hk : k2 < m) (hm : m ≤ 1048576) (hi : i < sa.size) (hj : j < sb.size) (hza : sa.size ≤ 1048576) (hzb : sb.size ≤ 1048576)
    (ca : w.cell? ⟨g, k, none⟩ = some (.string sa)) (cb : w.cell? ⟨g, k2, none⟩ = some (.string sb)) :
    Calls Try.prog 67 #[.agg #[.int .i64 d, .int .i64 f, .slice (some ⟨g, 0, none⟩) m c], .int .i64 (k : Int), .int .i64 (i : Int), .int .i64 (j : Int)] w fun e w' => e = .returned (.bool (jrB sa sb i j)) ∧ Below w.heap.size w w' := by
  have hb := alloc_below w (.cells #[.int .i64 d, .int .i64 f, .slice (some ⟨g, 0, none⟩) m c] 26)
  have HV := Lib.hid (Var.new w d f (.slice (some ⟨g, 0, none⟩) m c))
  have ca1 := (hb.cell (p := ⟨g, k, none⟩) (World.block_lt_of_cell? _ _ ca)).trans ca
  have cb1 := (hb.cell (p := ⟨g, k2, none⟩) (World.block_lt_of_cell? _ _ cb)).trans cb
  have HB := Lib.hid hb
  clear ca cb hb
  obtain ⟨k0, k1, k22⟩ := HV.out.cells
  have hix : (k : Int) + 1 = (k2 : Int) := by omega
  have hkm : (k : Int) < (m : Int) := by omega
  have hkm2 : (k2 : Int) < (m : Int) := by omega
  have hkm3 : (m : Int) ≤ 1048576 := by omega
  have hi2 : (i : Int) < (sa.size : Int) := by omega
  have hj2 : (j : Int) < (sb.size : Int) := by omega
  have hi3 : i ≤ sa.size := by omega
  have hj3 : j ≤ sb.size := by omega
  have hsa : (sa.extract 0 i).size ≤ 1048576 := by simp; omega
  have hsb : (sb.extract 0 j).size ≤ 1048576 := by simp; omega
  have hta := take_str sa i
  have htb := take_str sb j
  unfold jrB
  rw [← get_getD sa i hi, ← get_getD sb j hj, ← hta, ← htb]
  clear hta htb hk2
  by_cases hij : i = j
  · subst hij
    by_cases hl : sa[i] = sb[i]
    · have hd := byte_eq2 hl
      have HC1 := Lib.hid (fun w0 : World => count_int (sa.extract 0 i) 102 (by omega) w0 hsa)
      have HC2 := Lib.hid (fun w0 : World => count_int (sb.extract 0 i) 102 (by omega) w0 hsb)
      have hval : (decide (i = i) && (decide (sa[i] = sb[i]) && decide (cnt 102 (sa.extract 0 i).data.toList = cnt 102 (sb.extract 0 i).data.toList))) = ((cnt 102 (sa.data.toList.take i) : Int) == (cnt 102 (sb.data.toList.take i) : Int)) := by
        rw [decide_eq_true hl, Bool.eq_iff_iff]
        simp
        omega
      rw [hval]
      clear hval hl
      go_enter Try.func67, Try.ntmps67
      go_upto_region 3 with (fail)
      generalize w.alloc (.cells #[.int .i64 d, .int .i64 f, .slice (some ⟨g, 0, none⟩) m c] 26) = W at *
      go_quiet ((go_at_call 62; first | with_reducible refine qsame (HC1.out _) | with_reducible refine qsame (HC2.out _)))
      go_wp2
      go_ret
      exact ⟨rfl, HB.out.trans ((drewN_below _ _).mono HB.out.size)⟩
    · have hd := byte_ne2 hl
      have hval : (decide (i = i) && (decide (sa[i] = sb[i]) && decide (cnt 102 (sa.extract 0 i).data.toList = cnt 102 (sb.extract 0 i).data.toList))) = false := by rw [decide_eq_false hl]; simp
      rw [hval]
      clear hval hl
      go_enter Try.func67, Try.ntmps67
      go_upto_region 3 with (fail)
      generalize w.alloc (.cells #[.int .i64 d, .int .i64 f, .slice (some ⟨g, 0, none⟩) m c] 26) = W at *
      go_quiet (fail)
      go_wp2
      go_ret
      exact ⟨rfl, HB.out.trans ((drewN_below _ _).mono HB.out.size)⟩
  · have hd : ((i : Int) == (j : Int)) = false := by simp; omega
    have hval : (decide (i = j) && (decide (sa[i] = sb[j]) && decide (cnt 102 (sa.extract 0 i).data.toList = cnt 102 (sb.extract 0 j).data.toList))) = false := by rw [decide_eq_false hij]; rfl
    rw [hval]
    clear hval
    go_enter Try.func67, Try.ntmps67
    go_upto_region 3 with (fail)
    generalize w.alloc (.cells #[.int .i64 d, .int .i64 f, .slice (some ⟨g, 0, none⟩) m c] 26) = W at *
    go_quiet (fail)
    go_wp2
    go_ret
    exact ⟨rfl, HB.out.trans ((drewN_below _ _).mono HB.out.size)⟩

theorem eqB_at {d f : Int} {l : List ByteArray} {n : Nat} (hb : cardB d f l = true) (hn : (n : Int) = d + f) {k i j : Nat} (hk : k + 1 < l.length) (hi : i < n) (hj : j < n) :
    eqB l n k i ((k : Int) + 1) j = jrB l[k] l[k + 1] i j := by
  have hfr := card_frame hb
  have hn1 : 1 ≤ n := by omega
  obtain ⟨h1, h2, h3⟩ := strip_good hb hn (show k < l.length by omega)
  obtain ⟨g1, g2, g3⟩ := strip_good hb hn hk
  have t1 : tileB l n (k : Int) (i : Int) = true := decide_eq_true (by omega)
  have t2 : tileB l n ((k : Int) + 1) (j : Int) = true := decide_eq_true (by omega)
  have hk1 : ((k : Int) + 1).toNat = k + 1 := by omega
  unfold eqB spF spD spS jrB
  rw [if_pos t1, if_pos t1, if_pos t1, if_pos t2, if_pos t2, if_pos t2, hk1, Int.toNat_natCast, Int.toNat_natCast, Int.toNat_natCast, h3, g3]
  have s1 := cnt_sum (l[k].data.toList.take i) (okL_take _ _ (stripB_ok h1))
  have s2 := cnt_sum (l[k + 1].data.toList.take j) (okL_take _ _ (stripB_ok g1))
  have q1 : l[k].data.toList.length = l[k].size := by simp
  have q2 : l[k + 1].data.toList.length = l[k + 1].size := by simp
  have e1 : (l[k].data.toList.take i).length = i := by rw [List.length_take, q1]; omega
  have e2 : (l[k + 1].data.toList.take j).length = j := by rw [List.length_take, q2]; omega
  rw [e1] at s1
  rw [e2] at s2
  rw [Bool.eq_iff_iff]
  simp only [decide_eq_true_eq, Bool.and_eq_true, one_inj]
  constructor
  · rintro ⟨x1, x2, x3⟩
    exact ⟨by omega, x3, by omega⟩
  · rintro ⟨x1, x2, x3⟩
    exact ⟨by omega, by omega, x2⟩

theorem tile_next {l : List ByteArray} {n : Nat} {k i j : Int} (h : tileB l n k i = true) : tileB l n (k + 1) j = (decide (k ≤ (l.length : Int) - 2) && decide (0 ≤ j ∧ j ≤ (n : Int) - 1)) := by
  unfold tileB at *
  simp only [decide_eq_true_eq] at h
  rw [Bool.eq_iff_iff]
  simp only [decide_eq_true_eq, Bool.and_eq_true]
  omega

set_option maxRecDepth 100000 in
set_option maxHeartbeats 1000000 in
theorem joined_spec (d f : Int) (a : Option Addr) (m c : Nat) (l : List ByteArray) (k i j : Int) (w : World) (hl : l.length = m) (hm : m ≤ 1048576) (hz : ∀ s ∈ l, s.size ≤ 1048576) (hr : Row w a l) :
    Calls Try.prog 35 #[.agg #[.int .i64 d, .int .i64 f, .slice a m c], .int .i64 k, .int .i64 i, .int .i64 j] w fun e w' => e = .returned (.bool (jnB d f l k i j)) ∧ Below w.heap.size w w' := by
  have HB := Lib.hid (alloc_below w (.cells #[.int .i64 d, .int .i64 f, .slice a m c] 26))
  have HV := Lib.hid (Var.new w d f (.slice a m c))
  have HR := Lib.hid (hr.below HB.out)
  have HOK := Lib.hid (fun (w' : World) (h : Row w' a l) => ok_spec d f a m c l w' hl hm hz h)
  obtain ⟨k00, k01, k02⟩ := HV.out.cells
  cases hb : cardB d f l with
  | false =>
    have hv : jnB d f l k i j = false := by unfold jnB; rw [hb]; rfl
    rw [hv]
    rw [hb] at HOK
    clear hr hb hz hv
    go_enter Try.func35, Try.ntmps35
    go_wp2_with fail
    refine (HOK.out _ HR.out).mono ?_
    rintro e w1 ⟨rfl, hb1⟩
    have HB := Lib.hid (HB.out.trans (hb1.mono HB.out.size))
    clear hb1
    go_wp2
    go_ret
    exact ⟨rfl, HB.out⟩
  | true =>
    rw [hb] at HOK
    have hfr := card_frame hb
    have hlm2 : (m : Int) ≤ 10 := by have := (cardB_iff.1 hb).2.2.1; omega
    have hm0 : (0 : Int) ≤ (m : Int) := Int.natCast_nonneg _
    have hdf : (((d + f).toNat : Nat) : Int) = d + f := by omega
    have go : ∀ (b1 b2 b3 r : Bool), decide (0 ≤ k ∧ k ≤ (m : Int) - 2) = b1 → decide (0 ≤ i ∧ i ≤ d + f - 1) = b2 → decide (0 ≤ j ∧ j ≤ d + f - 1) = b3 → (b1 = true → b2 = true → b3 = true → ∀ w', Row w' a l → Calls Try.prog 67 #[.agg #[.int .i64 d, .int .i64 f, .slice a m c], .int .i64 k, .int .i64 i, .int .i64 j] w' fun e w'' => e = .returned (.bool r) ∧ Below w'.heap.size w' w'') →
        Calls Try.prog 35 #[.agg #[.int .i64 d, .int .i64 f, .slice a m c], .int .i64 k, .int .i64 i, .int .i64 j] w fun e w' => e = .returned (.bool (b1 && (b2 && (b3 && r)))) ∧ Below w.heap.size w w' := by
      intro b1 b2 b3 r h1 h2 h3 hj
      clear hb hr hz hdf
      cases b1 with
      | false =>
        go_enter Try.func35, Try.ntmps35
        go_wp2_with fail
        refine (HOK.out _ HR.out).mono ?_
        rintro e w1 ⟨rfl, hb1⟩
        have HB := Lib.hid (HB.out.trans (hb1.mono HB.out.size))
        obtain ⟨k0, k1, k2⟩ := (HV.out.below hb1).cells
        clear hb1
        go_wp2_with fail
        refine (in_at _ 0 _ _).mono ?_
        rintro e w' ⟨rfl, rfl⟩
        rw [h1]
        go_wp2
        go_ret
        exact ⟨rfl, HB.out⟩
      | true =>
        cases b2 with
        | false =>
          go_enter Try.func35, Try.ntmps35
          go_wp2_with fail
          refine (HOK.out _ HR.out).mono ?_
          rintro e w1 ⟨rfl, hb1⟩
          have HB := Lib.hid (HB.out.trans (hb1.mono HB.out.size))
          obtain ⟨k0, k1, k2⟩ := (HV.out.below hb1).cells
          clear hb1
          go_wp2_with fail
          refine (in_at _ 0 _ _).mono ?_
          rintro e w' ⟨rfl, rfl⟩
          rw [h1]
          go_wp2_with fail
          refine (in_at _ 0 _ _).mono ?_
          rintro e w' ⟨rfl, rfl⟩
          rw [h2]
          go_wp2
          go_ret
          exact ⟨rfl, HB.out⟩
        | true =>
          cases b3 with
          | false =>
            go_enter Try.func35, Try.ntmps35
            go_wp2_with fail
            refine (HOK.out _ HR.out).mono ?_
            rintro e w1 ⟨rfl, hb1⟩
            have HB := Lib.hid (HB.out.trans (hb1.mono HB.out.size))
            obtain ⟨k0, k1, k2⟩ := (HV.out.below hb1).cells
            clear hb1
            go_wp2_with fail
            refine (in_at _ 0 _ _).mono ?_
            rintro e w' ⟨rfl, rfl⟩
            rw [h1]
            go_wp2_with fail
            refine (in_at _ 0 _ _).mono ?_
            rintro e w' ⟨rfl, rfl⟩
            rw [h2]
            go_wp2_with fail
            refine (in_at _ 0 _ _).mono ?_
            rintro e w' ⟨rfl, rfl⟩
            rw [h3]
            go_wp2
            go_ret
            exact ⟨rfl, HB.out⟩
          | true =>
            have HJ := Lib.hid (hj rfl rfl rfl)
            clear hj
            go_enter Try.func35, Try.ntmps35
            go_wp2_with fail
            refine (HOK.out _ HR.out).mono ?_
            rintro e w1 ⟨rfl, hb1⟩
            have HR := Lib.hid (HR.out.below hb1)
            have HB := Lib.hid (HB.out.trans (hb1.mono HB.out.size))
            obtain ⟨k0, k1, k2⟩ := (HV.out.below hb1).cells
            clear hb1
            go_wp2_with fail
            refine (in_at _ 0 _ _).mono ?_
            rintro e w' ⟨rfl, rfl⟩
            rw [h1]
            go_wp2_with fail
            refine (in_at _ 0 _ _).mono ?_
            rintro e w' ⟨rfl, rfl⟩
            rw [h2]
            go_wp2_with fail
            refine (in_at _ 0 _ _).mono ?_
            rintro e w' ⟨rfl, rfl⟩
            rw [h3]
            go_wp2_with fail
            refine (HJ.out _ HR.out).mono ?_
            rintro e w2 ⟨rfl, hb2⟩
            have HB := Lib.hid (HB.out.trans (hb2.mono HB.out.size))
            clear hb2
            go_wp2
            go_ret
            exact ⟨rfl, HB.out⟩
    have hval : jnB d f l k i j = (decide (0 ≤ k ∧ k ≤ (m : Int) - 2) && (decide (0 ≤ i ∧ i ≤ d + f - 1) && (decide (0 ≤ j ∧ j ≤ d + f - 1) && eqB l (d + f).toNat k i (k + 1) j))) := by
      unfold jnB
      rw [hb, Bool.true_and]
      cases ht : tileB l (d + f).toNat k i with
      | false =>
        have hno : (decide (0 ≤ k ∧ k ≤ (m : Int) - 2) && decide (0 ≤ i ∧ i ≤ d + f - 1)) = false := by
          unfold tileB at ht
          rw [decide_eq_false_iff_not] at ht
          rw [Bool.and_eq_false_iff]
          simp only [decide_eq_false_iff_not]
          omega
        rw [← Bool.and_assoc, hno]
        rfl
      | true =>
        cases h2 : tileB l (d + f).toNat (k + 1) j with
        | false =>
          rw [eqB_out (by omega) ht h2]
          simp
        | true =>
          have e1 : decide (0 ≤ k ∧ k ≤ (m : Int) - 2) = true := by unfold tileB at ht h2; simp only [decide_eq_true_eq] at ht h2 ⊢; omega
          have e2 : decide (0 ≤ i ∧ i ≤ d + f - 1) = true := by unfold tileB at ht h2; simp only [decide_eq_true_eq] at ht h2 ⊢; omega
          have e3 : decide (0 ≤ j ∧ j ≤ d + f - 1) = true := by unfold tileB at ht h2; simp only [decide_eq_true_eq] at ht h2 ⊢; omega
          rw [e1, e2, e3]
          rfl
    rw [hval]
    refine go _ _ _ _ rfl rfl rfl (fun h1 h2 h3 w' hrw => ?_)
    simp only [decide_eq_true_eq] at h1 h2 h3
    obtain ⟨kk, rfl⟩ := Int.eq_ofNat_of_zero_le h1.1
    obtain ⟨ii, rfl⟩ := Int.eq_ofNat_of_zero_le h2.1
    obtain ⟨jj, rfl⟩ := Int.eq_ofNat_of_zero_le h3.1
    have hkk : kk + 1 < l.length := by omega
    obtain ⟨g, rfl, _, hc1⟩ := hrw kk (by omega)
    obtain ⟨g', hg', _, hc2⟩ := hrw (kk + 1) hkk
    cases hg'
    obtain ⟨x1, x2, x3⟩ := strip_good hb hdf (show kk < l.length by omega)
    obtain ⟨y1, y2, y3⟩ := strip_good hb hdf hkk
    rw [eqB_at hb hdf hkk (by omega) (by omega)]
    exact jrow_spec d f g m c kk (kk + 1) ii jj _ _ w' rfl (by omega) hm (by omega) (by omega) (by omega) (by omega) hc1 hc2
end Go.Proofs.Ytefeajnlogbilaa.Face
