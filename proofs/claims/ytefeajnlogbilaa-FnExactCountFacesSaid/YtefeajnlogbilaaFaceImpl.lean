/- What FaceOf, CountFaces and FaceSize of the program return. -/
import Derived.Test.YtefeajnlogbilaaFacesOf
import Derived.Laws.IdiomRangeMap
namespace Go.Proofs.Ytefeajnlogbilaa.Face
open Go.ChangeShapes Go.WideShapes Go.ChangeAt Go.RowKit Go.Maps
open Go.Proofs.Ytefeajnlogbilaa.Strip Go.Proofs.Ytefeajnlogbilaa.Strs Go.Proofs.Ytefeajnlogbilaa.Card Go.Proofs.Ytefeajnlogbilaa.Faces
set_option linter.unusedVariables false

/-- The faces of a card as labels. -/
noncomputable def lab (l : List ByteArray) (n : Nat) : Nat → Nat := if hn : 1 ≤ n then label (net l n hn) else fun t => t
theorem lab_full (l : List ByteArray) (n : Nat) (hn : 1 ≤ n) : Full (net l n hn) (lab l n) := by
  unfold lab
  rw [dif_pos hn]
  exact label_full _
noncomputable def fcV (d f : Int) (l : List ByteArray) (k i : Int) : Int := if (cardB d f l && tileB l (d + f).toNat k i) = true then ((num (lab l (d + f).toNat) (k * ((d + f).toNat : Int) + i).toNat : Nat) : Int) else -1
noncomputable def cfV (d f : Int) (l : List ByteArray) : Int := if cardB d f l = true then ((rank (lab l (d + f).toNat) (l.length * (d + f).toNat) : Nat) : Int) else 0
noncomputable def fsV (d f : Int) (l : List ByteArray) (face : Int) : Int := if cardB d f l = true then ((many (lab l (d + f).toNat) face (l.length * (d + f).toNat) : Nat) : Int) else 0

section
variable (d f : Int) (a : Option Addr) (m c : Nat) (l : List ByteArray) (w : World)

set_option maxRecDepth 100000 in
theorem cf_impl (hl : l.length = m) (hm : m ≤ 1048576) (hz : ∀ s ∈ l, s.size ≤ 1048576) (hr : Row w a l) :
    Calls Try.prog 17 #[.agg #[.int .i64 d, .int .i64 f, .slice a m c]] w fun e w' => e = .returned (.int .i64 (cfV d f l)) ∧ Below w.heap.size w w' := by
  have HB := Lib.hid (alloc_below w (.cells #[.int .i64 d, .int .i64 f, .slice a m c] 26))
  have HR := Lib.hid (hr.below HB.out)
  unfold cfV
  cases hb : cardB d f l with
  | false =>
    have HF := Lib.hid (fun (w' : World) (h : Row w' a l) => faces_no d f m c a l w' hl hm hz hb h)
    clear hr hz hb
    go_enter Try.func17, Try.ntmps17
    go_wp2_with fail
    refine (HF.out _ HR.out).mono ?_
    rintro e w1 ⟨rfl, hb1⟩
    have HB := Lib.hid (HB.out.trans (hb1.mono HB.out.size))
    clear hb1
    go_wp2
    go_ret
    exact ⟨rfl, HB.out⟩
  | true =>
    have hfr := card_frame hb
    have HF := Lib.hid (fun (w' : World) (h : Row w' a l) => faces_impl d f (d + f).toNat m c a l (lab l (d + f).toNat) w' hl hz hb (by omega) (by omega) (lab_full l _ (by omega)) h)
    rw [if_pos rfl, hl]
    clear hr hz hb
    go_enter Try.func17, Try.ntmps17
    go_wp2_with fail
    refine (HF.out _ HR.out).mono ?_
    rintro e w1 ⟨bm, N, rfl, hb1, _, _⟩
    have HB := Lib.hid (HB.out.trans (hb1.mono HB.out.size))
    clear hb1
    go_wp2
    go_ret
    exact ⟨rfl, HB.out⟩

set_option maxRecDepth 100000 in
theorem fc_impl (k i : Int) (hk : wf k) (hi : wf i) (hl : l.length = m) (hm : m ≤ 1048576) (hz : ∀ s ∈ l, s.size ≤ 1048576) (hr : Row w a l) :
    Calls Try.prog 20 #[.agg #[.int .i64 d, .int .i64 f, .slice a m c], .int .i64 k, .int .i64 i] w fun e w' => e = .returned (.int .i64 (fcV d f l k i)) ∧ Below w.heap.size w w' := by
  have HB := Lib.hid (alloc_below w (.cells #[.int .i64 d, .int .i64 f, .slice a m c] 26))
  have HR := Lib.hid (hr.below HB.out)
  cases hb : cardB d f l with
  | false =>
    have HF := Lib.hid (fun (w' : World) (h : Row w' a l) => faces_no d f m c a l w' hl hm hz hb h)
    have hv : fcV d f l k i = -1 := by unfold fcV; rw [hb]; rfl
    rw [hv]
    have HN := Lib.hid (fun w' : World => Maps.look_nil (w := w') (t := numT) true tile_keyed Try.underlying61 (zero_int w') (tk_key hk hi))
    unfold tv at HN
    clear hr hz hb hv
    go_enter Try.func20, Try.ntmps20
    go_wp2_with fail
    refine (HF.out _ HR.out).mono ?_
    rintro e w1 ⟨rfl, hb1⟩
    have HB := Lib.hid (HB.out.trans (hb1.mono HB.out.size))
    have hnil := HN.out w1
    try rw [if_pos (rfl : (true : Bool) = true)] at hnil
    clear hb1
    go_wp2
    go_ret
    exact ⟨rfl, HB.out⟩
  | true =>
    have hfr := card_frame hb
    have hm10 : m ≤ 10 := by have := (cardB_iff.1 hb).2.2.1; omega
    have hM1 : m * (d + f).toNat ≤ 160 := Nat.mul_le_mul hm10 (show (d + f).toNat ≤ 16 by omega)
    have hn1 : 1 ≤ (d + f).toNat := by omega
    have HF := Lib.hid (fun (w' : World) (h : Row w' a l) => faces_impl d f (d + f).toNat m c a l (lab l (d + f).toNat) w' hl hz hb (by omega) hn1 (lab_full l _ hn1) h)
    cases ht : tileB l (d + f).toNat k i with
    | false =>
      have hv : fcV d f l k i = -1 := by unfold fcV; rw [hb, ht]; rfl
      rw [hv]
      have HOUT := Lib.hid (show ∀ t, t < m * (d + f).toNat → ¬ (k = px (d + f).toNat t ∧ i = py (d + f).toNat t) from fun t h ⟨e1, e2⟩ => by
        have := tile_at (l := l) (n := (d + f).toNat) hn1 (t := t) (by rw [hl]; exact h)
        rw [← e1, ← e2, ht] at this
        cases this)
      clear hr hz hb hv ht
      go_enter Try.func20, Try.ntmps20
      go_wp2_with fail
      refine (HF.out _ HR.out).mono ?_
      rintro e w1 ⟨bm, N, rfl, hb1, _, hmap⟩
      have HB := Lib.hid (HB.out.trans (hb1.mono HB.out.size))
      obtain ⟨cc, hlook⟩ := hmap.look_out (by omega) hk hi HOUT.out
      clear hb1 hmap
      go_wp2
      go_ret
      exact ⟨rfl, HB.out⟩
    | true =>
      obtain ⟨t, htM, e1, e2, e3⟩ := tile_mk hn1 ht
      have hv : fcV d f l k i = ((num (lab l (d + f).toNat) t : Nat) : Int) := by
        unfold fcV
        rw [hb, ht, Bool.and_self, if_pos (rfl : (true : Bool) = true), ← e3, Int.toNat_natCast]
      rw [hv]
      rw [hl] at htM
      have HE := Lib.hid (show k = px (d + f).toNat t ∧ i = py (d + f).toNat t from ⟨e1, e2⟩)
      clear hr hz hb hv ht e1 e2 e3
      go_enter Try.func20, Try.ntmps20
      go_wp2_with fail
      refine (HF.out _ HR.out).mono ?_
      rintro e w1 ⟨bm, N, rfl, hb1, _, hmap⟩
      have HB := Lib.hid (HB.out.trans (hb1.mono HB.out.size))
      obtain ⟨cc, hlook, hcc⟩ := hmap.look hn1 (by omega) htM
      rw [← HE.out.1, ← HE.out.2] at hlook
      have hce : cc = ((num (lab l (d + f).toNat) t : Nat) : Int) := hcc rfl
      have HCE := Lib.hid hce
      clear hb1 hmap hcc hce
      go_wp2
      go_ret
      exact ⟨by rw [HCE.out]; rfl, HB.out⟩
end

/-! ### how many tiles bear a number -/
def cntB (p : Nat → Bool) : Nat → Nat
  | 0 => 0
  | t + 1 => cntB p t + (if p t = true then 1 else 0)
theorem cntB_le (p : Nat → Bool) : ∀ M, cntB p M ≤ M
  | 0 => Nat.le_refl _
  | t + 1 => by have := cntB_le p t; simp only [cntB]; split <;> omega
theorem cntB_same {p q : Nat → Bool} : ∀ {M : Nat}, (∀ t, t < M → p t = q t) → cntB p M = cntB q M
  | 0, _ => rfl
  | t + 1, h => by simp only [cntB]; rw [cntB_same (fun s hs => h s (by omega)), h t (by omega)]
theorem cntB_add {p q : Nat → Bool} {u : Nat} : ∀ {M : Nat}, (∀ t, t < M → t ≠ u → p t = q t) → u < M → p u = false → q u = true → cntB q M = cntB p M + 1
  | 0, _, hu, _, _ => by omega
  | t + 1, h, hu, hp, hq => by
    simp only [cntB]
    by_cases e : t = u
    · subst e
      rw [hp, hq, cntB_same (p := q) (q := p) (fun s hs => (h s (by omega) (by omega)).symm)]
      simp
    · rw [cntB_add (fun s hs hn => h s (by omega) hn) (by omega) hp hq, h t (by omega) e]
      omega
theorem cntB_none {p : Nat → Bool} {M : Nat} (h : ∀ t, t < M → p t = false) : cntB p M = 0 := by
  rw [cntB_same h]
  induction M with
  | zero => rfl
  | succ t ih => simp only [cntB]; rw [ih (fun s hs => h s (by omega))]; rfl
theorem many_cnt (g : Nat → Nat) (face : Int) : ∀ M, many g face M = cntB (fun t => decide (((num g t : Nat) : Int) = face)) M
  | 0 => rfl
  | t + 1 => by simp only [many, cntB, many_cnt g face t, decide_eq_true_eq]

/-- What has been counted: the tiles whose entry is no longer to come. -/
def past (n : Nat) (v : Nat → Int) (face : Int) (left : Lit → Bool) (t : Nat) : Bool := !left (tkey n t) && decide (v t = face)

theorem past_step {n M : Nat} {v : Nat → Int} {face : Int} {left : Lit → Bool} (hn : 1 ≤ n) (hM : M ≤ 1000000) {u : Nat} (hu : u < M) (hl : left (tkey n u) = true) :
    cntB (past n v face (fun z => left z && !z.sameKey (tkey n u))) M = cntB (past n v face left) M + (if v u = face then 1 else 0) := by
  have hother : ∀ t, t < M → t ≠ u → (tkey n t).sameKey (tkey n u) = false := fun t ht hne => sameKey_ne (fun e => hne (tkey_inj hn (by omega) (by omega) e))
  have hself : (tkey n u).sameKey (tkey n u) = true := WideAt.sameKey_self (tk_lit (wf_px n u (by omega)).1 (wf_px n u (by omega)).2)
  by_cases h : v u = face
  · rw [if_pos h]
    refine cntB_add (u := u) (fun t ht hne => ?_) hu ?_ ?_
    · show (!left (tkey n t) && decide (v t = face)) = (!(left (tkey n t) && !(tkey n t).sameKey (tkey n u)) && decide (v t = face))
      rw [hother t ht hne]; simp
    · unfold past; rw [hl]; rfl
    · show (!(left (tkey n u) && !(tkey n u).sameKey (tkey n u)) && decide (v u = face)) = true
      rw [hself]; simp [h]
  · rw [if_neg h, Nat.add_zero]
    refine cntB_same (fun t ht => ?_)
    by_cases e : t = u
    · subst e; unfold past; simp [h]
    · show (!(left (tkey n t) && !(tkey n t).sameKey (tkey n u)) && decide (v t = face)) = (!left (tkey n t) && decide (v t = face))
      rw [hother t ht e]; simp

set_option maxRecDepth 100000 in
set_option maxHeartbeats 1000000 in
theorem fs_impl (d f : Int) (a : Option Addr) (m c : Nat) (l : List ByteArray) (face : Int) (w : World) (hl : l.length = m) (hm : m ≤ 1048576) (hz : ∀ s ∈ l, s.size ≤ 1048576) (hr : Row w a l) :
    Calls Try.prog 18 #[.agg #[.int .i64 d, .int .i64 f, .slice a m c], .int .i64 face] w fun e w' => e = .returned (.int .i64 (fsV d f l face)) ∧ Below w.heap.size w w' := by
  have HB := Lib.hid (alloc_below w (.cells #[.int .i64 d, .int .i64 f, .slice a m c] 26))
  have HR := Lib.hid (hr.below HB.out)
  unfold fsV
  cases hb : cardB d f l with
  | false =>
    have HF := Lib.hid (fun (w' : World) (h : Row w' a l) => faces_no d f m c a l w' hl hm hz hb h)
    clear hr hz hb
    go_enter Try.func18, Try.ntmps18
    go_wp2_with fail
    refine (HF.out _ HR.out).mono ?_
    rintro e w1 ⟨rfl, hb1⟩
    have HB := Lib.hid (HB.out.trans (hb1.mono HB.out.size))
    clear hb1
    have hrg := run_range_nilMap (P := Try.prog) w1 numT tileT intT Try.underlying61
    have hnx : ∀ ty, (Instr.next (.pointer (some ⟨w1.heap.size, 0, none⟩)) false ty).run Try.prog (w1.alloc (.mapIter none 0 #[] 0)) = _ := fun ty => run_next_nilMap w1 ty 0 0 #[]
    go_wp2
    refine wp_loop_rounds 1 ?_
    rw [rounds_succ]
    go_wp2
    go_ret
    exact ⟨rfl, HB.out.alloc HB.out.size _⟩
  | true =>
    have hfr := card_frame hb
    have hm10 : m ≤ 10 := by have := (cardB_iff.1 hb).2.2.1; omega
    have hM1 : m * (d + f).toNat ≤ 160 := Nat.mul_le_mul hm10 (show (d + f).toNat ≤ 16 by omega)
    have hn1 : 1 ≤ (d + f).toNat := by omega
    have HF := Lib.hid (fun (w' : World) (h : Row w' a l) => faces_impl d f (d + f).toNat m c a l (lab l (d + f).toNat) w' hl hz hb (by omega) hn1 (lab_full l _ hn1) h)
    rw [if_pos rfl, hl, many_cnt]
    clear hr hz hb
    go_enter Try.func18, Try.ntmps18
    go_wp2_with fail
    refine (HF.out _ HR.out).mono ?_
    rintro e w1 ⟨bm, N, rfl, hb1, hbm, D, hown, hhas, hat⟩
    have HB := Lib.hid (HB.out.trans (hb1.mono HB.out.size))
    have hbm2 : w.heap.size ≤ bm := Nat.le_trans (by simp) hbm
    have HHAS := Lib.hid hhas
    have HAT := Lib.hid hat
    clear hb1 hhas hat hbm
    go_wp2_with (first
      | (at_range; refine wpList_range_own _ rfl _ numT rfl tileT intT tile_keyed Try.underlying61 _ bm N D rfl hown ?_; intro w0 hrg0 hg0 hs0)
      | go_in)
    go_frame
    have HB0 := Lib.hid (HB.out.grown hg0 HB.out.size (fun j e => by cases e))
    have hr1 : w.heap.size ≤ w1.heap.size := HB.out.size
    go_loopw [7] (fun cnt wr => ∃ (left : Lit → Bool) (k : Nat), cnt = .int .i64 ((cntB (past (d + f).toNat (fun t => ((num (lab l (d + f).toNat) t : Nat) : Int)) face left) (m * (d + f).toNat) : Nat) : Int) ∧ Hid (∀ kl, left kl = true → Maps.has D kl = true) ∧ Hid (wr.ranges Try.prog tileT (plainElem Try.prog intT) bm w1.heap.size N D left k) ∧ Hid (Below w.heap.size w wr)) (fun _ wr => wr.rangeLeft bm w1.heap.size)
    case atStart => exact ⟨_, _, by rw [cntB_none (fun t ht => by unfold past; rw [(HHAS.out _).2 ⟨t, ht, by simp, rfl⟩]; rfl)]; rfl, Lib.hid (fun kl h => h), Lib.hid hrg0, HB0⟩
    case round =>
      obtain ⟨left, k, rfl, HL, HRG, HBW⟩ := hrel
      have hle := cntB_le (past (d + f).toNat (fun t => ((num (lab l (d + f).toNat) t : Nat) : Int)) face left) (m * (d + f).toNat)
      have HCN := Lib.hid hle
      generalize hcq : cntB (past (d + f).toNat (fun t => ((num (lab l (d + f).toNat) t : Nat) : Int)) face left) (m * (d + f).toNat) = cq at *
      have HCQ := Lib.hid hcq
      clear hcq
      go_wp2_with (first
        | (at_next; refine wpList_next_ranges _ rfl _ rfl tileT tile_keyed (plainElem Try.prog intT) (fun v : Value => v) (Value.int .i64) (fun key kl _ => ⟨key, rfl⟩) (fun v y h => by obtain ⟨q, e, _⟩ := plainElem_int_inv Try.underlying3 h; exact ⟨q, e⟩) bm w1.heap.size N D left k rfl HRG.out ?_ ?_)
        | go_in)
      · intro _ hl0
        have hfin : cq = cntB (fun t => decide (((num (lab l (d + f).toNat) t : Nat) : Int) = face)) (m * (d + f).toNat) := by
          rw [← HCQ.out]
          exact cntB_same (fun t ht => by unfold past; rw [hl0]; rfl)
        have HFIN := Lib.hid hfin
        clear hfin
        go_wp2
        go_ret
        exact ⟨by rw [← HFIN.out]; rfl, HBW.out⟩
      · intro x cc kl y yp w2 k2 hkey hlk hR hat hrg1 hlt1 hg1 hs1 hen
        obtain ⟨u, huM, _, rfl⟩ := (HHAS.out kl).1 (HL.out kl hlk)
        obtain ⟨a1, e1, e2, _⟩ := plainElem_int_inv Try.underlying3 hR
        have hcv : ((num (lab l (d + f).toNat) u : Nat) : Int) = cc := by
          have h1 := hat (.lit (.int .i64 0))
          have e3 : y = .lit (.int .i64 a1) := congrArg Prod.fst e2
          rw [HAT.out u huM (by simp), e3] at h1
          have h2 : cc = a1 := by simpa using e1
          have h3 : ((num (lab l (d + f).toNat) u : Nat) : Int) = a1 := by simpa using h1
          omega
        have hstep := past_step (M := m * (d + f).toNat) (v := fun t => ((num (lab l (d + f).toNat) t : Nat) : Int)) (face := face) (left := left) hn1 (by omega) huM hlk
        rw [HCQ.out] at hstep
        have HRG1 := Lib.hid hrg1
        have HLT := Lib.hid hlt1
        have HL1 := Lib.hid (show ∀ z, (left z && !z.sameKey (tkey (d + f).toNat u)) = true → Maps.has D z = true from fun z h => HL.out z (by rw [Bool.and_eq_true] at h; exact h.1))
        have HBW1 := Lib.hid (HBW.out.grown hg1 HBW.out.size (fun j e => by cases e; omega))
        clear hkey hR hat hrg1 hlt1 hg1 e1 e2
        by_cases hv : cc = face
        · rw [if_pos (by show _ = face; rw [hcv]; exact hv)] at hstep
          have HST := Lib.hid hstep
          have hbe : (cc == face) = true := by simpa using hv
          clear hstep hcv
          go_wp2_with fail
          exact ⟨⟨fun z => left z && !z.sameKey (tkey (d + f).toNat u), k2, by rw [HST.out]; first | go_num | rfl, HL1, HRG1, HBW1⟩, by rw [HRG1.out.left_eq, HRG.out.left_eq]; exact HLT.out⟩
        · rw [if_neg (by show ¬ _ = face; rw [hcv]; exact hv)] at hstep
          have HST := Lib.hid hstep
          have hbe : (cc == face) = false := by simpa using hv
          clear hstep hcv
          go_wp2_with fail
          exact ⟨⟨fun z => left z && !z.sameKey (tkey (d + f).toNat u), k2, by rw [HST.out]; first | go_num | rfl, HL1, HRG1, HBW1⟩, by rw [HRG1.out.left_eq, HRG.out.left_eq]; exact HLT.out⟩
end Go.Proofs.Ytefeajnlogbilaa.Face
