/- What laws.FnFaces returns: true at every draw. -/
import Derived.Test.YtefeajnlogbilaaFaceImpl
import Derived.Test.YtefeajnlogbilaaDrawCard3
import Derived.Test.YtefeajnlogbilaaAt2
import Derived.Test.YtefeajnlogbilaaBig
import Derived.Deep.DeepCutAuto
import Derived.IntWalk
import Derived.Deep.RegionHeld3
namespace Go.Proofs.Ytefeajnlogbilaa.Face
open Go.ChangeShapes Go.WideShapes Go.ChangeAt Go.RowKit
open Go.Proofs.Ytefeajnlogbilaa.Strip Go.Proofs.Ytefeajnlogbilaa.Strs Go.Proofs.Ytefeajnlogbilaa.Card Go.Proofs.Ytefeajnlogbilaa.Faces Go.Proofs.Ytefeajnlogbilaa.Draw
set_option linter.unusedVariables false

/-- A card in a variable of its own, its strips in memory of the call's own. -/
def At3 (w0 w : World) (b : Nat) (d f : Int) (a : Option Addr) (n c : Nat) (l : List ByteArray) : Prop := Var w b d f (.slice a n c) ∧ Strs.Own w w0.heap.size (.slice a n c) l ∧ Below w0.heap.size w0 w
theorem At3.below {w0 w w' : World} {b n c : Nat} {d f : Int} {a : Option Addr} {l : List ByteArray} (h : At3 w0 w b d f a n c l) (hb : Below w.heap.size w w') : At3 w0 w' b d f a n c l := ⟨h.1.below hb, h.2.1.below hb, h.2.2.trans (hb.mono h.2.2.size)⟩
theorem At3.row {w0 w : World} {b n c : Nat} {d f : Int} {a : Option Addr} {l : List ByteArray} (h : At3 w0 w b d f a n c l) : Row w a l := h.2.1.row2.2

theorem sum_mono (g : Nat → Nat) (b : Nat) {x y : Nat} (h : x ≤ y) : Faces.sum g b x ≤ Faces.sum g b y := by
  induction y with
  | zero => obtain rfl : x = 0 := by omega
            exact Nat.le_refl _
  | succ y ih =>
    by_cases e : x = y + 1
    · subst e; exact Nat.le_refl _
    · exact Nat.le_trans (ih (by omega)) (by simp only [Faces.sum]; omega)

theorem div_at {n k i : Nat} (hn : 1 ≤ n) (hi : i < n) : (k * n + i) / n = k ∧ (k * n + i) % n = i := by
  rw [Nat.mul_comm k n, Nat.mul_add_div hn, Nat.div_eq_of_lt hi, Nat.add_zero, Nat.mul_add_mod, Nat.mod_eq_of_lt hi]
  exact ⟨rfl, rfl⟩
theorem letter_at {l : List ByteArray} {n k i : Nat} (hn : 1 ≤ n) (hi : i < n) : letter l n (k * n + i) = (stripL l k).getD i 0 := by
  unfold letter
  rw [(div_at hn hi).1, (div_at hn hi).2]
theorem byte_y {a b : UInt8} (h : a = b) : ((a.toNat : Int) == (b.toNat : Int)) = true := by subst h; simp
theorem byte_n {a b : UInt8} (h : a ≠ b) : ((a.toNat : Int) == (b.toNat : Int)) = false := by
  simp only [beq_eq_false_iff_ne, ne_eq, Int.natCast_inj]
  exact fun e => h (UInt8.toNat_inj.mp e)
theorem at_getD (s : ByteArray) (i : Nat) (h : i < s.size) : s[i] = s.data.toList.getD i 0 := by
  have hl : i < s.data.toList.length := by simpa using h
  rw [List.getD, List.getElem?_eq_getElem hl, Option.getD_some]
  simp
  rfl
/-- Tiles that follow each other with one letter are joined. -/
theorem c_at {l : List ByteArray} {n k i : Nat} (hn : 1 ≤ n) (hi : i + 1 < n) (h : (stripL l k).getD (i + 1) 0 = (stripL l k).getD i 0) : (net l n hn).c (k * n + (i + 1)) = true := by
  show (decide (1 ≤ (k * n + (i + 1)) % n) && (letter l n (k * n + (i + 1)) == letter l n (k * n + (i + 1) - 1))) = true
  rw [(div_at hn hi).2, show k * n + (i + 1) - 1 = k * n + i by omega, letter_at hn hi, letter_at hn (show i < n by omega), h]
  simp
/-- Tiles of strips side by side at one place with one letter are joined. -/
theorem e_at {l : List ByteArray} {n k i : Nat} (hn : 1 ≤ n) (hi : i < n) (hk : k + 1 < l.length) (h : eqB l n k i ((k : Int) + 1) i = true) : (net l n hn).e ((k + 1) * n + i) = true := by
  have hM : k * n + i < l.length * n := pos_of (by omega) hi
  have hM2 : (k + 1) * n + i < l.length * n := pos_of hk hi
  have e1 := px_of (k := k) hn hi
  have e2 := px_of (k := k + 1) hn hi
  have e3 : ((k : Int) + 1) = ((k + 1 : Nat) : Int) := by push_cast; rfl
  unfold eqB at h
  rw [e3, ← e1.1, ← e1.2, ← e2.1] at h
  have h2 : py n (k * n + i) = py n ((k + 1) * n + i) := by rw [e1.2, e2.2]
  rw [(sp_at hn hM).1, (sp_at hn hM).2.1, (sp_at hn hM).2.2, h2, (sp_at hn hM2).1, (sp_at hn hM2).2.1, (sp_at hn hM2).2.2] at h
  simp only [decide_eq_true_eq, one_inj] at h
  have e4 : (k + 1) * n + i - n = k * n + i := by rw [Nat.add_mul]; omega
  show (decide (n ≤ (k + 1) * n + i) && ((letter l n ((k + 1) * n + i) == letter l n ((k + 1) * n + i - n)) && decide (fwd l n ((k + 1) * n + i) = fwd l n ((k + 1) * n + i - n)))) = true
  rw [e4, decide_eq_true (show n ≤ (k + 1) * n + i by rw [Nat.add_mul]; omega), h.2.2]
  simp
  omega

theorem nat_rem (a b : Nat) : Int.tmod (a : Int) (b : Int) = ((a % b : Nat) : Int) := by
  rw [Int.tmod_eq_emod_of_nonneg (by omega)]; rfl

set_option maxRecDepth 100000 in
set_option maxHeartbeats 8000000 in
theorem faces (ca : Option Addr) (cl cc : Nat) (w : World) (hm : cl ≤ maxLen) (hr : RowIn w ca cl) :
    Calls Try.prog 3 #[.slice ca cl cc] w fun e w' => e = .returned (.bool true) ∧ Below w.heap.size w w' := by
  by_cases hbig : 1048576 < cl
  · have hd : decide (1048576 < (cl : Int)) = true := by simp; omega
    go_enter Try.func3, Try.ntmps3
    go_wp2_with fail
    refine (big_at ca cl cc w hm).mono ?_
    rintro e w' ⟨rfl, rfl⟩
    rw [hd]
    go_wp2
    go_ret
    exact ⟨rfl, Below.refl _ _⟩
  · have hd : decide (1048576 < (cl : Int)) = false := by simp; omega
    have HR := Lib.hid hr; clear hr
    go_enter Try.func3, Try.ntmps3
    go_wp2_with fail
    refine (big_at ca cl cc w hm).mono ?_
    rintro e w' ⟨rfl, rfl⟩
    rw [hd]
    go_wp2_with fail
    refine drawCard_get ca cl cc w hm HR.out ?_
    intro d f a c l w1 hd4 hf4 hl6 hcb hb1 ho1
    obtain ⟨m, hlm⟩ : ∃ m, l.length = m := ⟨_, rfl⟩
    rw [hlm] at ho1 hl6 ⊢
    obtain ⟨gs, rfl⟩ : ∃ gs, a = some ⟨gs, 0, none⟩ := by
      obtain ⟨gs, e, _⟩ := ho1.row2.2 0 (by have := (cardB_iff.1 hcb).2.1; omega)
      exact ⟨gs, e⟩
    have hm1 : 1 ≤ m := by have := (cardB_iff.1 hcb).2.1; omega
    have hfr := card_frame hcb
    obtain ⟨n, hn⟩ : ∃ n, (d + f).toNat = n := ⟨_, rfl⟩
    have hdn : d + f = (n : Int) := by omega
    have hn1 : 1 ≤ n := by omega
    have hn8 : n ≤ 8 := by omega
    have hz : ∀ s ∈ l, s.size ≤ 1048576 := fun s hs => by
      obtain ⟨j, hj, rfl⟩ := List.getElem_of_mem hs
      have := (strip_good (n := n) hcb hdn.symm hj).2.1
      omega
    obtain ⟨M, hM⟩ : ∃ M, m * n = M := ⟨_, rfl⟩
    have hM48 : M ≤ 48 := by rw [← hM]; exact Nat.mul_le_mul hl6 hn8
    have hM0 : 1 ≤ M := by rw [← hM]; exact Nat.mul_le_mul hm1 hn1
    have hmn : (m : Int) * (n : Int) = (M : Int) := by rw [← hM]; push_cast; rfl
    have hM2 : (M : Int) ≤ 48 := by omega
    obtain ⟨g, hgl⟩ : ∃ g, lab l n = g := ⟨_, rfl⟩
    have hfull : Full (net l n hn1) g := by rw [← hgl]; exact lab_full l n hn1
    have hNm : (net l n hn1).m = M := by show l.length * n = M; rw [hlm, hM]
    have hlM : l.length * n = M := by rw [hlm, hM]
    have HTC := Lib.hid (fun (w' : World) (h : Row w' (some ⟨gs, 0, none⟩) l) => by
      have q := count_impl d f (some ⟨gs, 0, none⟩) m c l w' hlm (by omega) hz h
      rw [show tcV d f l = (M : Int) by unfold tcV; rw [if_pos hcb, hlm, hdn, hmn]] at q
      exact q)
    have HCF := Lib.hid (fun (w' : World) (h : Row w' (some ⟨gs, 0, none⟩) l) => by
      have q := cf_impl d f (some ⟨gs, 0, none⟩) m c l w' hlm (by omega) hz h
      rw [show cfV d f l = ((rank g M : Nat) : Int) by unfold cfV; rw [if_pos hcb, hn, hlM, hgl]] at q
      exact q)
    have HFS := Lib.hid (fun (face : Int) (w' : World) (h : Row w' (some ⟨gs, 0, none⟩) l) => by
      have q := fs_impl d f (some ⟨gs, 0, none⟩) m c l face w' hlm (by omega) hz h
      rw [show fsV d f l face = ((many g face M : Nat) : Int) by unfold fsV; rw [if_pos hcb, hn, hlM, hgl]] at q
      exact q)
    have HFC := Lib.hid (fun (k i : Nat) (hk : k < m) (hi : i < n) (w' : World) (h : Row w' (some ⟨gs, 0, none⟩) l) => by
      have q := fc_impl d f (some ⟨gs, 0, none⟩) m c l w' (k : Int) (i : Int) (wf_of (by omega) (by omega)) (wf_of (by omega) (by omega)) hlm (by omega) hz h
      have ht : tileB l n (k : Int) (i : Int) = true := decide_eq_true (by omega)
      rw [show fcV d f l k i = ((num g (k * n + i) : Nat) : Int) by
        unfold fcV
        rw [hcb, hn, ht, Bool.and_self, if_pos (rfl : (true : Bool) = true), hgl, show ((k : Int) * (n : Int) + (i : Int)).toNat = k * n + i from by
          have : ((k : Int) * (n : Int) + (i : Int)) = ((k * n + i : Nat) : Int) := by push_cast; rfl
          rw [this, Int.toNat_natCast]]] at q
      exact q)
    have HPL := Lib.hid (fun (k i : Int) (w' : World) (h : Row w' (some ⟨gs, 0, none⟩) l) => by
      have q := place_impl d f (some ⟨gs, 0, none⟩) m c l k i w' hlm (by omega) hz h
      rw [show plF d f l k i = spF l n k i by unfold plF; rw [if_pos hcb, hn], show plD d f l k i = spD l n k i by unfold plD; rw [if_pos hcb, hn], show plS d f l k i = spS l n k i by unfold plS; rw [if_pos hcb, hn]] at q
      exact q)
    have HJN := Lib.hid (fun (k i j : Int) (w' : World) (h : Row w' (some ⟨gs, 0, none⟩) l) => by
      have q := joined_impl d f (some ⟨gs, 0, none⟩) m c l k i j w' hlm (by omega) hz h
      rw [show jnB d f l k i j = (tileB l n k i && eqB l n k i (k + 1) j) by unfold jnB; rw [hcb, hn, Bool.true_and]] at q
      exact q)
    have HSUM := Lib.hid (show Faces.sum g M (rank g M) = M by have := sum_all hfull M (by rw [hNm]; exact Nat.le_refl _); rw [hNm] at this; exact this)
    have HPOS := Lib.hid (fun (q : Nat) (hq : q < rank g M) => (show 1 ≤ many g (q : Int) M by
      obtain ⟨x, hx, h1, h2⟩ := rank_hit g M q hq
      exact many_pos hx (by rw [num_first h1, h2])))
    have HNONE := Lib.hid (show many g ((rank g M : Nat) : Int) M = 0 by have := many_none (f := ((rank g M : Nat) : Int)) hfull (by rw [hNm]; exact Int.le_refl _) M (by rw [hNm]; exact Nat.le_refl _); exact this)
    have HLT := Lib.hid (fun (t : Nat) (ht : t < M) => num_lt hfull (t := t) (b := M) (by rw [hNm]; exact ht) ht)
    have HCE := Lib.hid (fun (t : Nat) (ht : t < M) (h : (net l n hn1).c t = true) => (show num g (t - 1) = num g t by unfold num; rw [(hfull.2 t (by rw [hNm]; exact ht)).1 h]))
    have HEE := Lib.hid (fun (t : Nat) (ht : t < M) (h : (net l n hn1).e t = true) => (show num g (t - n) = num g t by unfold num; rw [(hfull.2 t (by rw [hNm]; exact ht)).2 h]; rfl))
    have HZERO := Lib.hid (show num g 0 = 0 by unfold num; rw [show g 0 = 0 by have := hfull.le (x := 0) (by rw [hNm]; exact hM0); omega]; rfl)
    have HRK := rank_le g M
    have HSTR := Lib.hid (fun (k : Nat) (hk : k < l.length) => strip_good (n := n) hcb hdn.symm hk)
    have HBOTH := Lib.hid (fun (t : Nat) (ht : t < l.length * n) => both_sum (n := n) hcb hdn.symm ht)
    have HX := Lib.hid (show At3 w (w1.alloc (.cells #[.int .i64 d, .int .i64 f, .slice (some ⟨gs, 0, none⟩) m c] 26)) w1.heap.size d f (some ⟨gs, 0, none⟩) m c l from ⟨Var.new w1 _ _ _, ho1.below (alloc_below _ _), hb1.alloc hb1.size _⟩)
    clear hb1 ho1 hcb hz hgl hn
    generalize rank g M = R at *
    go_upto_region 4 with (fail)
    obtain ⟨b3, hb3⟩ : ∃ b3, w1.heap.size = b3 := ⟨_, rfl⟩
    rw [hb3] at HX
    try rw [hb3]
    generalize w1.alloc (.cells #[.int .i64 d, .int .i64 f, .slice (some ⟨gs, 0, none⟩) m c] 26) = W at *
    clear hb3
    obtain ⟨k0, k1, k2⟩ := HX.out.1.cells
    go_wp2_with fail
    refine (HTC.out _ HX.out.row).mono ?_
    rintro e w2 ⟨rfl, hb2⟩
    have HX := Lib.hid (HX.out.below hb2)
    clear hb2 k0 k1 k2 HTC
    obtain ⟨k0, k1, k2⟩ := HX.out.1.cells
    go_wp2_with fail
    refine (HCF.out _ HX.out.row).mono ?_
    rintro e w3 ⟨rfl, hb3⟩
    have HX := Lib.hid (HX.out.below hb3)
    clear hb3 k0 k1 k2 HCF
    go_wp2_with fail
    trace_state
    go_loopw [6, 7] (fun sm q wr => ∃ p : Nat, p ≤ R ∧ sm = .int .i64 ((Faces.sum g M p : Nat) : Int) ∧ q = .int .i64 (p : Int) ∧ Hid (At3 w wr b3 d f (some ⟨gs, 0, none⟩) m c l)) (fun _ q _ => R - (intOf q).toNat)
    case atStart => exact ⟨0, Nat.zero_le _, rfl, rfl, HX⟩
    case round =>
      clear HX
      obtain ⟨p, hpR, rfl, rfl, HX⟩ := hrel
      have hp0 : (0 : Int) ≤ (p : Int) := Int.natCast_nonneg _
      by_cases hlt : p < R
      · have hlt2 : (p : Int) < (R : Int) := by omega
        obtain ⟨k0, k1, k2⟩ := HX.out.1.cells
        have hpos := HPOS.out p hlt
        have hs1 : Faces.sum g M (p + 1) = Faces.sum g M p + many g (p : Int) M := rfl
        have hs2 := sum_mono g M (x := p + 1) (y := R) (by omega)
        rw [HSUM.out, hs1] at hs2
        generalize hsz : many g (p : Int) M = sz at *
        have HSZ := Lib.hid hsz
        have HS1 := Lib.hid hs1
        generalize Faces.sum g M p = sp at *
        have hsz1 : ¬ ((sz : Nat) : Int) < 1 := by omega
        have hsz2 : decide (((sz : Nat) : Int) < 1) = false := decide_eq_false hsz1
        clear hs1 hsz
        go_wp2_with fail
        refine (HFS.out (p : Int) _ HX.out.row).mono ?_
        rintro e w4 ⟨rfl, hb4⟩
        rw [HSZ.out]
        have HX := Lib.hid (HX.out.below hb4)
        clear hb4 k0 k1 k2
        go_wp2_with fail
        exact ⟨⟨p + 1, by omega, by rw [HS1.out]; first | go_num | rfl, by go_num, HX⟩, by simp [intOf]; omega⟩
      · have hpe : p = R := by omega
        have hyd : decide ((p : Int) < (R : Int)) = false := decide_eq_false (by omega)
        have hsum : Faces.sum g M p = M := by rw [hpe]; exact HSUM.out
        rw [hsum]
        clear hsum hlt
        go_upto_region 14 with (fail)
        obtain ⟨n0, hn0, hat0⟩ := at_fix ca cl cc 0 (by omega) wr hm (HR.out.below HX.out.2.2 (Nat.le_refl _))
        have HAT := Lib.hid hat0; clear hat0
        obtain ⟨k0, k1, k2⟩ := HX.out.1.cells
        have ht := nat_rem n0 m
        obtain ⟨k, hk⟩ : ∃ k, n0 % m = k := ⟨_, rfl⟩
        have hkm : k < m := by rw [← hk]; exact Nat.mod_lt n0 (by omega)
        rw [hk] at ht
        have hne : ((m : Int) != 0) = true := by simp; omega
        have heq : ((m : Int) == 0) = false := by simp; omega
        clear hk
        go_quiet ((go_at_call 19; refine qsame (HAT.out _)))
        have HX := Lib.hid (HX.out.below (drewN_below wr nq))
        generalize wr.drewN nq = W1 at *
        clear HAT ht hne heq k0 k1 k2
        go_upto_region 15 with (fail)
        obtain ⟨n1, hn1', hat1⟩ := at_fix ca cl cc 1 (by omega) W1 hm (HR.out.below HX.out.2.2 (Nat.le_refl _))
        have HAT := Lib.hid hat1; clear hat1
        obtain ⟨k0, k1, k2⟩ := HX.out.1.cells
        have ht := nat_rem n1 n
        obtain ⟨i, hi⟩ : ∃ i, n1 % n = i := ⟨_, rfl⟩
        have hin : i < n := by rw [← hi]; exact Nat.mod_lt n1 (by omega)
        rw [hi] at ht
        have hne : ((n : Int) != 0) = true := by simp; omega
        have heq : ((n : Int) == 0) = false := by simp; omega
        clear hi
        go_quiet ((go_at_call 19; refine qsame (HAT.out _)))
        have HX := Lib.hid (HX.out.below (drewN_below W1 nq))
        generalize W1.drewN nq = W2 at *
        clear HAT ht hne heq k0 k1 k2
        obtain ⟨k0, k1, k2⟩ := HX.out.1.cells
        have hkl : k < l.length := by rw [hlm]; exact hkm
        have htM : k * n + i < M := by rw [← hM]; exact pos_of hkm hin
        obtain ⟨s1, s2, s3⟩ := HSTR.out k hkl
        -- the face of the tile
        go_wp2_with fail
        refine (HFC.out k i hkm hin _ HX.out.row).mono ?_
        rintro e w5 ⟨rfl, hb5⟩
        have HX := Lib.hid (HX.out.below hb5)
        clear hb5 k0 k1 k2
        have hnl := HLT.out _ htM
        obtain ⟨a0, ha0⟩ : ∃ a0, num g (k * n + i) = a0 := ⟨_, rfl⟩
        rw [ha0] at hnl
        rw [ha0]
        have HA := Lib.hid ha0
        clear ha0
        obtain ⟨k0, k1, k2⟩ := HX.out.1.cells
        go_wp2_with fail
        refine (HPL.out (k : Int) (i : Int) _ HX.out.row).mono ?_
        rintro e w6 ⟨rfl, hb6⟩
        have HX := Lib.hid (HX.out.below hb6)
        clear hb6 k0 k1 k2
        obtain ⟨k0, k1, k2⟩ := HX.out.1.cells
        obtain ⟨gs', hgs, _, hcell⟩ := HX.out.row k hkl
        cases hgs
        have hplace : spF l n k i + spD l n k i = (i : Int) ∧ spS l n k i = ⟨#[(stripL l k).getD i 0]⟩ ∧ 0 ≤ spF l n k i ∧ 0 ≤ spD l n k i := by
          have q := sp_at (l := l) hn1 (t := k * n + i) (by rw [hlM]; exact htM)
          have b := (HBOTH.out (k * n + i) (by rw [hlM]; exact htM)).2.2
          rw [(px_of hn1 hin).1, (px_of hn1 hin).2] at q
          have b2 := b.trans (div_at hn1 hin).2
          refine ⟨by rw [q.1, q.2.1]; omega, by rw [q.2.2, letter_at hn1 hin], by rw [q.1]; omega, by rw [q.2.1]; omega⟩
        obtain ⟨huv, hch, hu0, hv0⟩ := hplace
        rw [s3] at hch
        have HU := Lib.hid (show spF l n k i = spF l n k i ∧ spD l n k i = spD l n k i from ⟨rfl, rfl⟩)
        obtain ⟨u, hu⟩ : ∃ u, spF l n (k : Int) (i : Int) = u := ⟨_, rfl⟩
        obtain ⟨v, hv⟩ : ∃ v, spD l n (k : Int) (i : Int) = v := ⟨_, rfl⟩
        obtain ⟨ch, hc⟩ : ∃ ch, spS l n (k : Int) (i : Int) = ch := ⟨_, rfl⟩
        have HUVC := Lib.hid (show spF l n (k : Int) (i : Int) = u ∧ spD l n (k : Int) (i : Int) = v ∧ spS l n (k : Int) (i : Int) = ch from ⟨hu, hv, hc⟩)
        rw [hu, hv, hc]
        rw [hu, hv] at huv
        rw [hu] at hu0
        rw [hv] at hv0
        rw [hc] at hch
        clear hu hv hc HU
        have hsi : i < (l[k]).size := by omega
        have hex := extract_one l[k] i hsi
        rw [← hch] at hex
        have HG := Lib.hid (show stripL l k = (l[k]).data.toList from s3)
        generalize hsk : l[k] = sk at *
        have hsz1 : sk.size ≤ 1048576 := by omega
        obtain ⟨i2, hii⟩ : ∃ i2 : Nat, i2 = i + 1 := ⟨_, rfl⟩
        have hix : (i : Int) + 1 = (i2 : Int) := by omega
        have hi4 : i2 ≤ sk.size := by omega
        have hi6 : i ≤ i2 := by omega
        have hi7 : (i : Int) ≤ (i2 : Int) := by omega
        have hi8 : (i2 : Int) ≤ (sk.size : Int) := by omega
        have hi9 : (i : Int) < (sk.size : Int) := by omega
        rw [← hii] at hex
        have hkm2 : (k : Int) < (m : Int) := by omega
        have hin2 : (i : Int) < (n : Int) := by omega
        have hm6 : (m : Int) ≤ 6 := by omega
        have hn82 : (n : Int) ≤ 8 := by omega
        have hge : decide ((R : Int) ≤ (a0 : Int)) = false := decide_eq_false (by omega)
        have hge2 : ((a0 : Nat) : Int) < (R : Int) := by omega
        have hcc : (ch.toList == ch.toList) = true := by simp
        have HS2 := Lib.hid (show sk.size = n from s2)
        clear hii hch s1 s2 s3
        go_upto_region 20 with (fail)
        have HF0 := Lib.hid (fun (w' : World) (h : Row w' (some ⟨gs, 0, none⟩) l) => (show Calls Try.prog 20 #[.agg #[.int .i64 d, .int .i64 f, .slice (some ⟨gs, 0, none⟩) m c], .int .i64 0, .int .i64 0] w' fun e w'' => e = .returned (.int .i64 0) ∧ Below w'.heap.size w' w'' from by
          have q := HFC.out 0 0 (by omega) (by omega) w' h
          rw [show 0 * n + 0 = 0 by omega, HZERO.out] at q
          exact q))
        have HTB := Lib.hid (show tileB l n (k : Int) (i : Int) = true from decide_eq_true (by omega))
        go_cut [139] (fun s wx => s = .bool false ∧ Hid (At3 w wx b3 d f (some ⟨gs, 0, none⟩) m c l))
        case first =>
          by_cases hi0 : i = 0
          · have z1 : decide (0 < (i : Int)) = false := decide_eq_false (by omega)
            have z2 : ¬ (0 < (i : Int)) := by omega
            have z3 : ¬ 0 < i := by omega
            clear hi0
            go_quiet (fail)
            go_wp2_with fail
            go_meet
            exact ⟨rfl, Lib.hid (HX.out.below (drewN_below w6 nq))⟩
          · obtain ⟨i1, hi1⟩ : ∃ i1 : Nat, i1 + 1 = i := ⟨i - 1, by omega⟩
            have z1 : decide (0 < (i : Int)) = true := decide_eq_true (by omega)
            have z2 : 0 < (i : Int) := by omega
            have z3 : 0 < i := by omega
            have z4 : (i : Int) - 1 = (i1 : Int) := by omega
            have z5 : i1 < sk.size := by omega
            have z6 : (i1 : Int) < (sk.size : Int) := by omega
            have z7 : i < sk.size := by omega
            have z8 : i1 < n := by omega
            by_cases hlet : sk[i1]'z5 = sk[i]'z7
            · have hby := byte_y hlet
              have e0 : num g (k * n + i1) = a0 := by
                have q := HCE.out (k * n + (i1 + 1)) (by rw [hi1]; exact htM) (c_at hn1 (by omega) (by rw [HG.out, hi1, ← at_getD sk i z7, ← at_getD sk i1 z5]; exact hlet.symm))
                rw [show k * n + (i1 + 1) - 1 = k * n + i1 by omega, hi1] at q
                exact q.trans HA.out
              have HE0 := Lib.hid e0
              clear hi0 hi1 e0 hlet
              have HXd := Lib.hid (HX.out.below (Below.refl w6.heap.size w6).drew)
              obtain ⟨d0, d1, d2⟩ := HXd.out.1.cells
              have d3 := (Below.refl w6.heap.size w6).drew.cell (p := ⟨gs, k, none⟩) (World.block_lt_of_cell? _ _ hcell)
              rw [hcell] at d3
              have zp : (0 : Int) ≤ (i1 : Int) := Int.natCast_nonneg _
              have zt : ((i : Int) - 1).toNat = i1 := by omega
              have zw : IntKind.i64.wrap ((i : Int) - 1) = (i1 : Int) := by rw [z4]; exact IntWalk.i64_in _ (by omega)
              have zw2 : IntKind.i64.wrap (i1 : Int) = (i1 : Int) := IntWalk.i64_in _ (by omega)
              go_region_held3 (fun w' => w'.cell? ⟨b3, 0, none⟩ = some (.int .i64 d) ∧ w'.cell? ⟨b3, 1, none⟩ = some (.int .i64 f) ∧ w'.cell? ⟨b3, 2, none⟩ = some (.slice (some ⟨gs, 0, none⟩) m c) ∧ w'.cell? ⟨gs, k, none⟩ = some (.string sk) ∧ Hid (At3 w w' b3 d f (some ⟨gs, 0, none⟩) m c l)) (first | exact ⟨d0, d1, d2, d3, HXd⟩ | exact ⟨q0, q1, q2, q3, HX7⟩ | go_keep)
                (first | (go_at_call 20; refine (HFC.out k i1 hkm z8 _ ?_).mono ?_; exact HXd.out.row; rintro e w7 ⟨rfl, hb7⟩; rw [HE0.out]; have hbb : Below w6.heap.size w6 w7 := ((Below.refl w6.heap.size w6).drew.trans hb7); have HX7 := Lib.hid (HX.out.below hbb); obtain ⟨q0, q1, q2⟩ := HX7.out.1.cells; have q3 := hbb.cell (p := ⟨gs, k, none⟩) (World.block_lt_of_cell? _ _ hcell); rw [hcell] at q3; clear hb7 hbb))
              all_goals
                go_wp2_with fail
                go_meet
                exact ⟨rfl, HX7⟩
            · have hby := byte_n hlet
              clear hi0 hi1 hlet
              go_quiet (fail)
              go_wp2_with fail
              go_meet
              exact ⟨rfl, Lib.hid (HX.out.below (drewN_below w6 nq))⟩
        case rest =>
          clear k0 k1 k2 hcell HX
          obtain ⟨rfl, HX⟩ := hcut
          obtain ⟨k0, k1, k2⟩ := HX.out.1.cells
          by_cases hk1 : k + 1 < m
          · have y1 : (k : Int) + 1 < (m : Int) := by omega
            have y2 : decide ((k : Int) + 1 < (m : Int)) = true := decide_eq_true y1
            have HFD := Lib.hid (fun (w' : World) (h : Row w' (some ⟨gs, 0, none⟩) l) (hj : eqB l n k i ((k : Int) + 1) i = true) => (show Calls Try.prog 20 #[.agg #[.int .i64 d, .int .i64 f, .slice (some ⟨gs, 0, none⟩) m c], .int .i64 ((k : Int) + 1), .int .i64 (i : Int)] w' fun e w'' => e = .returned (.int .i64 (a0 : Int)) ∧ Below w'.heap.size w' w'' from by
              have q := HFC.out (k + 1) i hk1 hin w' h
              have r := HEE.out ((k + 1) * n + i) (by rw [← hM]; exact pos_of hk1 hin) (e_at hn1 hin (by rw [hlm]; exact hk1) hj)
              rw [show (k + 1) * n + i - n = k * n + i by rw [Nat.add_mul]; omega, HA.out] at r
              rw [← r] at q
              exact q))
            go_wp2_with fail
            refine (HPL.out ((k : Int) + 1) (i : Int) _ HX.out.row).mono ?_
            rintro e w7 ⟨rfl, hb7⟩
            have HX := Lib.hid (HX.out.below hb7)
            clear hb7 k0 k1 k2
            obtain ⟨jb, hjb⟩ : ∃ jb, eqB l n k i ((k : Int) + 1) i = jb := ⟨_, rfl⟩
            have HJB := Lib.hid hjb
            unfold eqB at hjb
            rw [HUVC.out.1, HUVC.out.2.1, HUVC.out.2.2] at hjb
            generalize spF l n ((k : Int) + 1) (i : Int) = u2 at *
            generalize spD l n ((k : Int) + 1) (i : Int) = v2 at *
            generalize spS l n ((k : Int) + 1) (i : Int) = ch2 at *
            have hJ : jb = ((u2 == u) && ((v2 == v) && (ch2.toList == ch.toList))) := by
              rw [← hjb, toList_beq]
              have c1 : (u2 == u) = decide (u = u2) := by rw [Bool.eq_iff_iff]; simp only [beq_iff_eq, decide_eq_true_eq]; exact eq_comm
              have c2 : (v2 == v) = decide (v = v2) := by rw [Bool.eq_iff_iff]; simp only [beq_iff_eq, decide_eq_true_eq]; exact eq_comm
              have c3 : decide (ch2 = ch) = decide (ch = ch2) := by rw [Bool.eq_iff_iff]; simp only [decide_eq_true_eq]; exact eq_comm
              rw [c1, c2, c3]
              simp only [Bool.decide_and]
            clear hjb
            go_upto_region 24 with (fail)
            go_cut [18] (fun s wx => s = .bool jb ∧ Hid (At3 w wx b3 d f (some ⟨gs, 0, none⟩) m c l))
            case first =>
              cases e1 : (u2 == u) with
              | false =>
                rw [e1, Bool.false_and] at hJ
                subst hJ
                go_wp2_with fail
                go_meet
                exact ⟨rfl, HX⟩
              | true =>
                cases e2 : (v2 == v) with
                | false =>
                  rw [e1, e2, Bool.true_and, Bool.false_and] at hJ
                  subst hJ
                  go_wp2_with fail
                  go_meet
                  exact ⟨rfl, HX⟩
                | true =>
                  rw [e1, e2, Bool.true_and, Bool.true_and] at hJ
                  generalize he3 : (ch2.toList == ch.toList) = b3x at *
                  subst hJ
                  go_wp2_with fail
                  go_meet
                  exact ⟨rfl, HX⟩
            case rest =>
              clear HX hJ
              obtain ⟨rfl, HX⟩ := hcut
              obtain ⟨k0, k1, k2⟩ := HX.out.1.cells
              cases jb with
              | false =>
                go_wp2_with fail
                refine (HJN.out (k : Int) (i : Int) (i : Int) _ HX.out.row).mono ?_
                rw [HTB.out, HJB.out, Bool.true_and]
                rintro e w8 ⟨rfl, hb8⟩
                have HX := Lib.hid (HX.out.below hb8)
                clear hb8 k0 k1 k2
                go_upto_region 27 with (fail)
                obtain ⟨k0, k1, k2⟩ := HX.out.1.cells
                go_wp2_with fail
                refine (HF0.out _ HX.out.row).mono ?_
                rintro e w8 ⟨rfl, hb8⟩
                have HX := Lib.hid (HX.out.below hb8)
                clear hb8 k0 k1 k2
                obtain ⟨k0, k1, k2⟩ := HX.out.1.cells
                go_wp2_with fail
                refine (HFS.out (R : Int) _ HX.out.row).mono ?_
                rintro e w9 ⟨rfl, hb9⟩
                rw [HNONE.out]
                have HX := Lib.hid (HX.out.below hb9)
                clear hb9 k0 k1 k2
                go_wp2
                go_ret
                exact ⟨rfl, HX.out.2.2⟩
              | true =>
                go_wp2_with fail
                refine (HJN.out (k : Int) (i : Int) (i : Int) _ HX.out.row).mono ?_
                rw [HTB.out, HJB.out, Bool.true_and]
                rintro e w8 ⟨rfl, hb8⟩
                have HX := Lib.hid (HX.out.below hb8)
                clear hb8 k0 k1 k2
                obtain ⟨k0, k1, k2⟩ := HX.out.1.cells
                go_wp2_with fail
                refine (HFD.out _ HX.out.row HJB.out).mono ?_
                rintro e w9 ⟨rfl, hb9⟩
                have HX := Lib.hid (HX.out.below hb9)
                clear hb9 k0 k1 k2
                go_upto_region 27 with (fail)
                obtain ⟨k0, k1, k2⟩ := HX.out.1.cells
                go_wp2_with fail
                refine (HF0.out _ HX.out.row).mono ?_
                rintro e w8 ⟨rfl, hb8⟩
                have HX := Lib.hid (HX.out.below hb8)
                clear hb8 k0 k1 k2
                obtain ⟨k0, k1, k2⟩ := HX.out.1.cells
                go_wp2_with fail
                refine (HFS.out (R : Int) _ HX.out.row).mono ?_
                rintro e w9 ⟨rfl, hb9⟩
                rw [HNONE.out]
                have HX := Lib.hid (HX.out.below hb9)
                clear hb9 k0 k1 k2
                go_wp2
                go_ret
                exact ⟨rfl, HX.out.2.2⟩
          · have y1 : ¬ (k : Int) + 1 < (m : Int) := by omega
            have y2 : decide ((k : Int) + 1 < (m : Int)) = false := decide_eq_false y1
            go_upto_region 27 with (fail)
            clear k0 k1 k2
            obtain ⟨k0, k1, k2⟩ := HX.out.1.cells
            go_wp2_with fail
            refine (HF0.out _ HX.out.row).mono ?_
            rintro e w8 ⟨rfl, hb8⟩
            have HX := Lib.hid (HX.out.below hb8)
            clear hb8 k0 k1 k2
            obtain ⟨k0, k1, k2⟩ := HX.out.1.cells
            go_wp2_with fail
            refine (HFS.out (R : Int) _ HX.out.row).mono ?_
            rintro e w9 ⟨rfl, hb9⟩
            rw [HNONE.out]
            have HX := Lib.hid (HX.out.below hb9)
            clear hb9 k0 k1 k2
            go_wp2
            go_ret
            exact ⟨rfl, HX.out.2.2⟩
end Go.Proofs.Ytefeajnlogbilaa.Face
