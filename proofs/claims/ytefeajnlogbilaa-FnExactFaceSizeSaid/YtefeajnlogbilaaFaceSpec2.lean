/- What FaceOf, CountFaces and FaceSize of the model return. -/
import Derived.Test.YtefeajnlogbilaaFaceLabel
import Derived.Test.YtefeajnlogbilaaFaceImpl
namespace Go.Proofs.Ytefeajnlogbilaa.Face
open Go.ChangeShapes Go.WideShapes Go.ChangeAt Go.RowKit
open Go.Proofs.Ytefeajnlogbilaa.Strip Go.Proofs.Ytefeajnlogbilaa.Strs Go.Proofs.Ytefeajnlogbilaa.Card Go.Proofs.Ytefeajnlogbilaa.Faces
set_option linter.unusedVariables false

section
variable {l : List ByteArray} {n m : Nat} {g : Nat → Nat}
theorem lab_num (hn : 1 ≤ n) (hl : l.length = m) (hg : Full (net l n hn) g) {t : Nat} (ht : t < m * n) : num (lab l n) t = num g t := num_congr (lab_full l n hn) hg (by show t < l.length * n; rw [hl]; exact ht)
theorem lab_rank (hn : 1 ≤ n) (hl : l.length = m) (hg : Full (net l n hn) g) : rank (lab l n) (m * n) = rank g (m * n) := rank_congr (fun t ht => (lab_full l n hn).unique hg (by show t < l.length * n; rw [hl]; exact ht))
theorem many_congr {g g' : Nat → Nat} {face : Int} : ∀ {b : Nat}, (∀ t, t < b → num g t = num g' t) → many g face b = many g' face b
  | 0, _ => rfl
  | b + 1, h => by simp only [many]; rw [many_congr (fun t ht => h t (by omega)), h b (by omega)]
theorem rank_max (hn : 1 ≤ n) (hl : l.length = m) (hg : Full (net l n hn) g) {t : Nat} (ht : t < m * n) : max ((rank g t : Nat) : Int) (((num g t : Nat) : Int) + 1) = ((rank g (t + 1) : Nat) : Int) := by
  by_cases h : g t = t
  · have e1 := num_first h
    have e2 : rank g (t + 1) = rank g t + 1 := by simp only [rank]; rw [if_pos h]
    rw [e1, e2]; omega
  · have e1 : num g t < rank g t := rank_lt g (by have := hg.le (x := t) (by show t < l.length * n; rw [hl]; exact ht); omega) (hg.fixed (by show t < l.length * n; rw [hl]; exact ht))
    have e2 : rank g (t + 1) = rank g t := by simp only [rank]; rw [if_neg h]; rfl
    rw [e2]; omega
end

set_option maxRecDepth 100000 in
set_option maxHeartbeats 1000000 in
theorem cf_spec (d f : Int) (a : Option Addr) (m c : Nat) (l : List ByteArray) (w : World) (hl : l.length = m) (hm : m ≤ 1048576) (hz : ∀ s ∈ l, s.size ≤ 1048576) (hr : Row w a l) :
    Calls Try.prog 39 #[.agg #[.int .i64 d, .int .i64 f, .slice a m c]] w fun e w' => e = .returned (.int .i64 (cfV d f l)) ∧ Below w.heap.size w w' := by
  have HB := Lib.hid (alloc_below w (.cells #[.int .i64 d, .int .i64 f, .slice a m c] 26))
  have HV := Lib.hid (Var.new w d f (.slice a m c))
  have HR := Lib.hid (hr.below HB.out)
  have HOK := Lib.hid (fun (w' : World) (h : Row w' a l) => ok_spec d f a m c l w' hl hm hz h)
  unfold cfV
  cases hb : cardB d f l with
  | false =>
    rw [hb] at HOK
    clear hr hb hz
    go_enter Try.func39, Try.ntmps39
    go_wp2_with fail
    refine (HOK.out _ HR.out).mono ?_
    rintro e w1 ⟨rfl, hb1⟩
    have HB := Lib.hid (HB.out.trans (hb1.mono HB.out.size))
    clear hb1
    go_wp2
    go_ret
    exact ⟨rfl, HB.out⟩
  | true =>
    rw [hb] at HOK
    have hfr := card_frame hb
    have hm10 : m ≤ 10 := by have := (cardB_iff.1 hb).2.2.1; omega
    have hn1 : 1 ≤ (d + f).toNat := by omega
    have hM1 : m * (d + f).toNat ≤ 160 := Nat.mul_le_mul hm10 (show (d + f).toNat ≤ 16 by omega)
    have HLAB := Lib.hid (fun (w' : World) (h : Row w' a l) => label_spec d f (d + f).toNat m c a l w' hl hb (by omega) hn1 h)
    rw [if_pos rfl, hl]
    have HRE := Lib.hid (fun (g : Nat → Nat) (h : Full (net l (d + f).toNat hn1) g) => lab_rank hn1 hl h)
    have HMX := Lib.hid (fun (g : Nat → Nat) (h : Full (net l (d + f).toNat hn1) g) (t : Nat) (ht : t < m * (d + f).toNat) => rank_max hn1 hl h ht)
    generalize m * (d + f).toNat = M at *
    generalize lab l (d + f).toNat = lb at *
    clear hr hb hz
    go_enter Try.func39, Try.ntmps39
    go_wp2_with fail
    refine (HOK.out _ HR.out).mono ?_
    rintro e w1 ⟨rfl, hb1⟩
    have HR := Lib.hid (HR.out.below hb1)
    have HB := Lib.hid (HB.out.trans (hb1.mono HB.out.size))
    obtain ⟨k0, k1, k2⟩ := (HV.out.below hb1).cells
    clear hb1
    go_wp2_with fail
    refine (HLAB.out _ HR.out).mono ?_
    rintro e w2 ⟨H, g, rfl, hb2, ho2, hfull⟩
    have HB := Lib.hid (HB.out.trans (hb2.mono HB.out.size))
    have HO := Lib.hid ho2
    have HFULL := Lib.hid hfull
    clear hb2 ho2 hfull k0 k1 k2
    go_wp2_with fail
    go_loopw [3, 5] (fun x i wr => ∃ t : Nat, t ≤ M ∧ x = .int .i64 ((rank g t : Nat) : Int) ∧ i = .int .i64 (t : Int) ∧ wr = w2) (fun _ i _ => M - (intOf i).toNat)
    case atStart => exact ⟨0, Nat.zero_le _, rfl, rfl, rfl⟩
    case round =>
      obtain ⟨t, htM, rfl, rfl, rfl⟩ := hrel
      have ht0 : (0 : Int) ≤ (t : Int) := Int.natCast_nonneg _
      by_cases hlt : t < M
      · have hlt2 : (t : Int) < (M : Int) := by omega
        have cn := HO.out.cell (j := t) (by rw [gl_length]; exact hlt)
        rw [gl_get] at cn
        have hmx := HMX.out g HFULL.out t hlt
        have hr1 := rank_le g t
        have hnum : ((num g t : Nat) : Int) ≤ 160 := by
          have := rank_le g (t + 1)
          omega
        go_wp2_with fail
        exact ⟨⟨t + 1, by omega, by first | rfl | trivial, by go_num, by first | rfl | trivial⟩, by simp [intOf]; omega⟩
      · have HTM := Lib.hid (show t = M by omega)
        have hyd : decide ((t : Int) < (M : Int)) = false := decide_eq_false (by omega)
        go_wp2
        go_ret
        have HRX := Lib.hid (HRE.out g HFULL.out)
        exact ⟨by first | (rw [HRX.out, HTM.out]; done) | (rw [HRX.out, HTM.out]; rfl), HB.out⟩

set_option maxRecDepth 100000 in
set_option maxHeartbeats 1000000 in
theorem fs_spec (d f : Int) (a : Option Addr) (m c : Nat) (l : List ByteArray) (face : Int) (w : World) (hl : l.length = m) (hm : m ≤ 1048576) (hz : ∀ s ∈ l, s.size ≤ 1048576) (hr : Row w a l) :
    Calls Try.prog 40 #[.agg #[.int .i64 d, .int .i64 f, .slice a m c], .int .i64 face] w fun e w' => e = .returned (.int .i64 (fsV d f l face)) ∧ Below w.heap.size w w' := by
  have HB := Lib.hid (alloc_below w (.cells #[.int .i64 d, .int .i64 f, .slice a m c] 26))
  have HV := Lib.hid (Var.new w d f (.slice a m c))
  have HR := Lib.hid (hr.below HB.out)
  have HOK := Lib.hid (fun (w' : World) (h : Row w' a l) => ok_spec d f a m c l w' hl hm hz h)
  unfold fsV
  cases hb : cardB d f l with
  | false =>
    rw [hb] at HOK
    clear hr hb hz
    go_enter Try.func40, Try.ntmps40
    go_wp2_with fail
    refine (HOK.out _ HR.out).mono ?_
    rintro e w1 ⟨rfl, hb1⟩
    have HB := Lib.hid (HB.out.trans (hb1.mono HB.out.size))
    clear hb1
    go_wp2
    go_ret
    exact ⟨rfl, HB.out⟩
  | true =>
    rw [hb] at HOK
    have hfr := card_frame hb
    have hm10 : m ≤ 10 := by have := (cardB_iff.1 hb).2.2.1; omega
    have hn1 : 1 ≤ (d + f).toNat := by omega
    have hM1 : m * (d + f).toNat ≤ 160 := Nat.mul_le_mul hm10 (show (d + f).toNat ≤ 16 by omega)
    have HLAB := Lib.hid (fun (w' : World) (h : Row w' a l) => label_spec d f (d + f).toNat m c a l w' hl hb (by omega) hn1 h)
    rw [if_pos rfl, hl]
    have HRE := Lib.hid (fun (g : Nat → Nat) (h : Full (net l (d + f).toNat hn1) g) => many_congr (face := face) (b := m * (d + f).toNat) (fun t ht => lab_num hn1 hl h ht))
    generalize m * (d + f).toNat = M at *
    generalize lab l (d + f).toNat = lb at *
    clear hr hb hz
    go_enter Try.func40, Try.ntmps40
    go_wp2_with fail
    refine (HOK.out _ HR.out).mono ?_
    rintro e w1 ⟨rfl, hb1⟩
    have HR := Lib.hid (HR.out.below hb1)
    have HB := Lib.hid (HB.out.trans (hb1.mono HB.out.size))
    obtain ⟨k0, k1, k2⟩ := (HV.out.below hb1).cells
    clear hb1
    go_wp2_with fail
    refine (HLAB.out _ HR.out).mono ?_
    rintro e w2 ⟨H, g, rfl, hb2, ho2, hfull⟩
    have HB := Lib.hid (HB.out.trans (hb2.mono HB.out.size))
    have HO := Lib.hid ho2
    have HFULL := Lib.hid hfull
    clear hb2 ho2 hfull k0 k1 k2
    go_wp2_with fail
    go_loopw [5, 7] (fun x i wr => ∃ t : Nat, t ≤ M ∧ x = .int .i64 ((many g face t : Nat) : Int) ∧ i = .int .i64 (t : Int) ∧ many g face t ≤ t ∧ wr = w2) (fun _ i _ => M - (intOf i).toNat)
    case atStart => exact ⟨0, Nat.zero_le _, rfl, rfl, Nat.le_refl _, rfl⟩
    case round =>
      obtain ⟨t, htM, rfl, rfl, hle, rfl⟩ := hrel
      have ht0 : (0 : Int) ≤ (t : Int) := Int.natCast_nonneg _
      by_cases hlt : t < M
      · have hlt2 : (t : Int) < (M : Int) := by omega
        have cn := HO.out.cell (j := t) (by rw [gl_length]; exact hlt)
        rw [gl_get] at cn
        by_cases hv : ((num g t : Nat) : Int) = face
        · have hbe : (((num g t : Nat) : Int) == face) = true := beq_iff_eq.2 hv
          have HST := Lib.hid (show many g face (t + 1) = many g face t + 1 by simp only [many]; rw [if_pos hv])
          clear hv
          go_wp2_with fail
          exact ⟨⟨t + 1, by omega, by rw [HST.out]; first | go_num | rfl, by go_num, by rw [HST.out]; omega, by first | rfl | trivial⟩, by simp [intOf]; omega⟩
        · have hbe : (((num g t : Nat) : Int) == face) = false := by simpa using hv
          have HST := Lib.hid (show many g face (t + 1) = many g face t by simp only [many]; rw [if_neg hv]; rfl)
          clear hv
          go_wp2_with fail
          exact ⟨⟨t + 1, by omega, by rw [HST.out], by go_num, by rw [HST.out]; omega, by first | rfl | trivial⟩, by simp [intOf]; omega⟩
      · have HTM := Lib.hid (show t = M by omega)
        have hyd : decide ((t : Int) < (M : Int)) = false := decide_eq_false (by omega)
        go_wp2
        go_ret
        have HRX := Lib.hid (HRE.out g HFULL.out)
        exact ⟨by first | (rw [HRX.out, HTM.out]; done) | (rw [HRX.out, HTM.out]; rfl), HB.out⟩

set_option maxRecDepth 100000 in
set_option maxHeartbeats 1000000 in
theorem fc_spec (d f : Int) (a : Option Addr) (m c : Nat) (l : List ByteArray) (w : World) (k i : Int) (hl : l.length = m) (hm : m ≤ 1048576) (hz : ∀ s ∈ l, s.size ≤ 1048576) (hr : Row w a l) :
    Calls Try.prog 38 #[.agg #[.int .i64 d, .int .i64 f, .slice a m c], .int .i64 k, .int .i64 i] w fun e w' => e = .returned (.int .i64 (fcV d f l k i)) ∧ Below w.heap.size w w' := by
  have HB := Lib.hid (alloc_below w (.cells #[.int .i64 d, .int .i64 f, .slice a m c] 26))
  have HV := Lib.hid (Var.new w d f (.slice a m c))
  have HR := Lib.hid (hr.below HB.out)
  have HOK := Lib.hid (fun (w' : World) (h : Row w' a l) => ok_spec d f a m c l w' hl hm hz h)
  cases hb : cardB d f l with
  | false =>
    have hv : fcV d f l k i = -1 := by unfold fcV; rw [hb]; rfl
    rw [hv]
    rw [hb] at HOK
    clear hr hb hz hv
    go_enter Try.func38, Try.ntmps38
    go_wp2_with fail
    refine (HOK.out _ HR.out).mono ?_
    rintro e w1 ⟨rfl, hb1⟩
    have HB := Lib.hid (HB.out.trans (hb1.mono HB.out.size))
    clear hb1
    go_wp2
    go_ret
    exact ⟨rfl, HB.out⟩
  | true =>
    rw [hb] at HOK
    have hfr := card_frame hb
    have hm10 : m ≤ 10 := by have := (cardB_iff.1 hb).2.2.1; omega
    have hm11 : (m : Int) ≤ 10 := by omega
    have hn1 : 1 ≤ (d + f).toNat := by omega
    have hn16 : (d + f).toNat ≤ 16 := by omega
    have hM1 : m * (d + f).toNat ≤ 160 := Nat.mul_le_mul hm10 hn16
    have hdn : (((d + f).toNat : Nat) : Int) = d + f := by omega
    have HLAB := Lib.hid (fun (w' : World) (h : Row w' a l) => label_spec d f (d + f).toNat m c a l w' hl hb (by omega) hn1 h)
    have hti := tile_iff hfr hl k i
    by_cases hk : 0 ≤ k ∧ k ≤ (m : Int) - 1
    · have hk' : decide (0 ≤ k ∧ k ≤ (m : Int) - 1) = true := decide_eq_true hk
      by_cases hi : 0 ≤ i ∧ i ≤ d + f - 1
      · have hi' : decide (0 ≤ i ∧ i ≤ d + f - 1) = true := decide_eq_true hi
        have ht : tileB l (d + f).toNat k i = true := by rw [hti, hk', hi']; rfl
        obtain ⟨t, htM, e1, e2, e3⟩ := tile_mk hn1 ht
        have hv : fcV d f l k i = ((num (lab l (d + f).toNat) t : Nat) : Int) := by
          unfold fcV
          rw [hb, ht, Bool.and_self, if_pos (rfl : (true : Bool) = true), ← e3, Int.toNat_natCast]
        rw [hv]
        rw [hl] at htM
        rw [hdn] at e3
        have HRE := Lib.hid (fun (g : Nat → Nat) (h : Full (net l (d + f).toNat hn1) g) => lab_num hn1 hl h htM)
        have hpos : k * (d + f) + i = (t : Int) := e3.symm
        have hpos2 : k * (d + f) = (t : Int) - i := by omega
        have ht160 : (t : Int) ≤ 160 := by omega
        generalize hlb : lab l (d + f).toNat = lb at *
        have hMx : (t : Int) < ((m * (d + f).toNat : Nat) : Int) := by omega
        generalize hMM : m * (d + f).toNat = M at *
        clear hr hb hz hv hti ht e1 e2 e3 hlb hMM
        go_enter Try.func38, Try.ntmps38
        go_wp2_with fail
        refine (HOK.out _ HR.out).mono ?_
        rintro e w1 ⟨rfl, hb1⟩
        have HR := Lib.hid (HR.out.below hb1)
        have HB := Lib.hid (HB.out.trans (hb1.mono HB.out.size))
        have HV := Lib.hid (HV.out.below hb1)
        obtain ⟨k0, k1, k2⟩ := HV.out.cells
        clear hb1
        go_wp2_with fail
        refine (in_at _ 0 _ _).mono ?_
        rintro e w' ⟨rfl, rfl⟩
        rw [hk']
        go_wp2_with fail
        refine (in_at _ 0 _ _).mono ?_
        rintro e w' ⟨rfl, rfl⟩
        rw [hi']
        go_upto_region 3 with (fail)
        have hw1 : IntKind.i64.wrap (d + f) = d + f := by rw [IntKind.wrap_i64]; omega
        have hw2 : IntKind.i64.wrap (k * (d + f)) = (t : Int) - i := by rw [hpos2, IntKind.wrap_i64]; omega
        have hw3 : IntKind.i64.wrap ((t : Int) - i) = (t : Int) - i := by rw [IntKind.wrap_i64]; omega
        have hw4 : IntKind.i64.wrap ((t : Int) - i + i) = (t : Int) := by rw [IntKind.wrap_i64]; omega
        have hw5 : IntKind.i64.wrap (t : Int) = (t : Int) := by rw [IntKind.wrap_i64]; omega
        have ht0 : (0 : Int) ≤ (t : Int) := Int.natCast_nonneg _
        clear hpos
        go_region_law ((go_simp; go_at_call 70; refine (HLAB.out _ (HR.out.below (Below.refl w1.heap.size w1).drew)).mono ?_; rintro e w2 ⟨H, g, rfl, hb2, ho2, hfull⟩; have HB2 := Lib.hid (HB.out.trans (((Below.refl w1.heap.size w1).drew.trans hb2).mono HB.out.size)); obtain ⟨q0, q1, q2⟩ := (HV.out.below ((Below.refl w1.heap.size w1).drew.trans hb2)).cells; have cn := ho2.cell (j := t) (by rw [gl_length]; omega); rw [gl_get] at cn; have HRX := Lib.hid (HRE.out g hfull); clear hb2 ho2 hfull))
        all_goals
          go_wp2
          go_ret
          exact ⟨by first | (rw [HRX.out]; done) | (rw [HRX.out]; rfl), HB2.out⟩
      · have hi' : decide (0 ≤ i ∧ i ≤ d + f - 1) = false := decide_eq_false hi
        have ht : tileB l (d + f).toNat k i = false := by rw [hti, hk', hi']; rfl
        have hv : fcV d f l k i = -1 := by unfold fcV; rw [hb, ht]; rfl
        rw [hv]
        clear hr hb hz hv hti ht HLAB hdn
        go_enter Try.func38, Try.ntmps38
        go_wp2_with fail
        refine (HOK.out _ HR.out).mono ?_
        rintro e w1 ⟨rfl, hb1⟩
        have HB := Lib.hid (HB.out.trans (hb1.mono HB.out.size))
        obtain ⟨k0, k1, k2⟩ := (HV.out.below hb1).cells
        clear hb1
        go_wp2_with fail
        refine (in_at _ 0 _ _).mono ?_
        rintro e w' ⟨rfl, rfl⟩
        rw [hk']
        go_wp2_with fail
        refine (in_at _ 0 _ _).mono ?_
        rintro e w' ⟨rfl, rfl⟩
        rw [hi']
        go_wp2
        go_ret
        exact ⟨rfl, HB.out⟩
    · have hk' : decide (0 ≤ k ∧ k ≤ (m : Int) - 1) = false := decide_eq_false hk
      have ht : tileB l (d + f).toNat k i = false := by rw [hti, hk']; rfl
      have hv : fcV d f l k i = -1 := by unfold fcV; rw [hb, ht]; rfl
      rw [hv]
      clear hr hb hz hv hti ht HLAB hdn
      go_enter Try.func38, Try.ntmps38
      go_wp2_with fail
      refine (HOK.out _ HR.out).mono ?_
      rintro e w1 ⟨rfl, hb1⟩
      have HB := Lib.hid (HB.out.trans (hb1.mono HB.out.size))
      obtain ⟨k0, k1, k2⟩ := (HV.out.below hb1).cells
      clear hb1
      go_wp2_with fail
      refine (in_at _ 0 _ _).mono ?_
      rintro e w' ⟨rfl, rfl⟩
      rw [hk']
      go_wp2
      go_ret
      exact ⟨rfl, HB.out⟩
end Go.Proofs.Ytefeajnlogbilaa.Face
