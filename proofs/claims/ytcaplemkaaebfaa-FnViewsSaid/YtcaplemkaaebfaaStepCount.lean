/- What CountSteps returns: the model's. -/
import Derived.Test.YtcaplemkaaebfaaViewTopSpec
namespace Go.Proofs.Ytcaplemkaaebfaa.View
open Go.ChangeShapes Go.WideShapes Go.ChangeAt Go.RowKit
open Go.Proofs.Ytcaplemkaaebfaa.Strip Go.Proofs.Ytcaplemkaaebfaa.Ints Go.Proofs.Ytcaplemkaaebfaa.Corner Go.Proofs.Ytcaplemkaaebfaa.Strs Go.Proofs.Ytcaplemkaaebfaa.Card Go.Proofs.Ytcaplemkaaebfaa.Kerf Go.Proofs.Ytcaplemkaaebfaa.Order
set_option linter.unusedVariables false

/-- The heights of strip i. -/
def rowAt (l : List ByteArray) (i : Nat) : List Int := htsL (l.getD i ⟨#[]⟩).data.toList
theorem rowAt_in {l : List ByteArray} {i : Nat} (h : i < l.length) : rowAt l i = htsL l[i].data.toList := by unfold rowAt; simp [List.getD, h]
/-- At how many squares strips i and i + 1 differ; the same of all pairs as far as the k-th. -/
def stC (f : Int) (l : List ByteArray) (i : Nat) : Int := difN (rowAt l i) (rowAt l (i + 1)) f.toNat
def stT (f : Int) (l : List ByteArray) (k : Nat) : Int := sumN k (stC f l)
/-- What CountSteps returns. -/
def csV (d f : Int) (l : List ByteArray) : Int := if cardB d f l = true then stT f l (l.length - 1) else -1
theorem stT_succ (f : Int) (l : List ByteArray) (k : Nat) : stT f l (k + 1) = stT f l k + difN (rowAt l k) (rowAt l (k + 1)) f.toNat := rfl
theorem stT_in (f : Int) (hf : f ≤ 8) (l : List ByteArray) (k : Nat) : 0 ≤ stT f l k ∧ stT f l k ≤ 8 * k := by
  induction k with
  | zero => exact ⟨Int.le_refl _, Int.le_refl _⟩
  | succ k ih =>
    have h := difN_in (rowAt l k) (rowAt l (k + 1)) f.toNat
    rw [stT_succ]
    omega
theorem card_frame {d f : Int} {l : List ByteArray} (h : cardB d f l = true) : 1 ≤ d ∧ d ≤ 8 ∧ 1 ≤ f ∧ f ≤ 8 := by
  have := (cardB_iff.1 h).1
  unfold frameB at this
  exact of_decide_eq_true this
theorem card_cnt {d f : Int} {l : List ByteArray} (h : cardB d f l = true) (s : ByteArray) (hs : s ∈ l) : (cnt 100 s.data.toList : Int) = d ∧ (cnt 102 s.data.toList : Int) = f := by
  have h1 := (cardB_iff.1 h).2.2.2 s hs
  have h2 := card_strip h s hs
  unfold goodB at h1
  rw [decide_eq_true_eq] at h1
  unfold numV at h1
  rw [h2] at h1
  exact h1
theorem card_row {d f : Int} {l : List ByteArray} (h : cardB d f l = true) (s : ByteArray) (hs : s ∈ l) : (htsL s.data.toList).length = f.toNat := by
  rw [htsL_length (card_strip h s hs)]
  have := (card_cnt h s hs).2
  omega
theorem card_deep {d f : Int} {l : List ByteArray} (h : cardB d f l = true) (s : ByteArray) (hs : s ∈ l) : (dpsL s.data.toList).length = d.toNat := by
  rw [dpsL_length (card_strip h s hs)]
  have := (card_cnt h s hs).1
  omega
theorem difN_next (a b : List Int) (t : Nat) (ha : t < a.length) (hb : t < b.length) : difN a b (t + 1) = difN a b t + (if a[t] = b[t] then 0 else 1) := by
  rw [difN_succ]
  simp [List.getD, ha, hb]

set_option maxRecDepth 100000 in
set_option maxHeartbeats 4000000 in
theorem steps_spec (d f : Int) (a : Option Addr) (m c : Nat) (l : List ByteArray) (w : World) (hl : l.length = m) (hm : m ≤ 1048576) (hz : ∀ s ∈ l, s.size ≤ 1048576) (hr : Row w a l) :
    Calls Try.prog 37 #[.agg #[.int .i64 d, .int .i64 f, .slice a m c]] w fun e w' => e = .returned (.int .i64 (csV d f l)) ∧ Below w.heap.size w w' := by
  have HBa := Lib.hid (alloc_below w (.cells #[.int .i64 d, .int .i64 f, .slice a m c] 26))
  have HVa := Lib.hid (Var.new w d f (.slice a m c))
  have HR0 := Lib.hid hr
  have HR := Lib.hid (hr.below HBa.out)
  have HOK := Lib.hid (fun (w' : World) (h : Row w' a l) => ok_spec d f a m c l w' hl hm hz h)
  have HL := Lib.hid hl
  have HZ := Lib.hid hz
  unfold csV
  cases hb : cardB d f l with
  | false =>
    rw [hb] at HOK
    clear hr hb hz hl
    go_enter Try.func37, Try.ntmps37
    go_wp2_with fail
    refine (HOK.out _ HR.out).mono ?_
    rintro e w1 ⟨rfl, hb1⟩
    have HBb := Lib.hid (HBa.out.trans (hb1.mono HBa.out.size))
    clear hb1
    go_wp2
    go_ret
    exact ⟨rfl, HBb.out⟩
  | true =>
    rw [hb] at HOK
    have hlen : m ≤ 10 := by have := (cardB_iff.1 hb).2.2.1; omega
    have hlen1 : 1 ≤ m := by have := (cardB_iff.1 hb).2.1; omega
    obtain ⟨_, _, f1, f8⟩ := card_frame hb
    have HCD := Lib.hid hb
    obtain ⟨F, hF⟩ : ∃ F, f.toNat = F := ⟨_, rfl⟩
    have HF := Lib.hid hF
    have hF8 : F ≤ 8 := by omega
    simp only [if_true]
    rw [hl]
    clear hr hb hz hl hF
    go_enter Try.func37, Try.ntmps37
    go_wp2_with fail
    refine (HOK.out _ HR.out).mono ?_
    rintro e w1 ⟨rfl, hb1⟩
    have HBb := Lib.hid (HBa.out.trans (hb1.mono HBa.out.size))
    have HVb := Lib.hid (HVa.out.below hb1)
    clear hb1 HR HOK HBa HVa
    go_wp2_with fail
    go_loopw [3, 4] (fun x i wr => ∃ j : Nat, j < m ∧ i = .int .i64 ((j + 1 : Nat) : Int) ∧ x = .int .i64 (stT f l j) ∧ Hid (Var wr w.heap.size d f (.slice a m c)) ∧ Hid (Below w.heap.size w wr)) (fun _ i _ => m - (intOf i).toNat)
    case atStart => exact ⟨0, by omega, rfl, rfl, HVb, HBb⟩
    case round =>
      rename World => wq
      clear HVb HBb
      obtain ⟨j, hj, rfl, rfl, HV, HB⟩ := hrel
      obtain ⟨k0, k1, k2⟩ := HV.out.cells
      obtain ⟨p0, p1⟩ := stT_in f f8 l j
      obtain ⟨j1, hj1⟩ : ∃ j1, j + 1 = j1 := ⟨_, rfl⟩
      rw [hj1]
      have hjx : (j1 : Int) - 1 = (j : Int) := by omega
      have hj10 : (0 : Int) ≤ (j1 : Int) := Int.natCast_nonneg _
      have hj0 : (0 : Int) ≤ (j : Int) := Int.natCast_nonneg _
      have HJ1 := Lib.hid hj1
      by_cases hlt : j1 < m
      · have hl1 : (j1 : Int) < (m : Int) := by omega
        have hl0 : (j : Int) < (m : Int) := by omega
        have hjl : j < l.length := by rw [HL.out]; omega
        have hjl1 : j1 < l.length := by rw [HL.out]; exact hlt
        obtain ⟨g, rfl, _, c0⟩ := Row.at HR0.out HB.out j hjl
        have HCA := Lib.hid (fun (w' : World) (h : Below w.heap.size w w') => Row.at HR0.out h j1 hjl1)
        have hm0 := List.getElem_mem hjl
        have hm1 := List.getElem_mem hjl1
        have HA := Lib.hid (fun w' : World => tops_see l[j] w' (HZ.out _ hm0) (card_strip HCD.out _ hm0))
        have HBB := Lib.hid (fun w' : World => tops_see l[j1] w' (HZ.out _ hm1) (card_strip HCD.out _ hm1))
        have hla := card_row HCD.out _ hm0
        have hlb := card_row HCD.out _ hm1
        rw [HF.out] at hla hlb
        have hnx : stT f l j1 = stT f l j + difN (htsL l[j].data.toList) (htsL l[j1].data.toList) F := by
          have h := stT_succ f l j
          rw [HF.out, hj1, rowAt_in hjl, rowAt_in hjl1] at h
          exact h
        have HNX := Lib.hid hnx
        have HLA := Lib.hid hla
        have HLB := Lib.hid hlb
        clear hnx hj1 hm0 hm1 hla hlb
        generalize htsL l[j].data.toList = ra at *
        generalize htsL l[j1].data.toList = rb at *
        generalize l[j] = s at *
        generalize l[j1] = t at *
        generalize stT f l j = N at *
        have hN : N ≤ 80 := by omega
        go_wp2_with fail
        refine (HA.out _).mono ?_
        rintro e w2 ⟨va, rfl, hb, hoa⟩
        have HV2 := Lib.hid (HV.out.below hb)
        have HB2 := Lib.hid (HB.out.trans (hb.mono HB.out.size))
        have HOA := Lib.hid hoa
        clear hb hoa HV k0 k1 k2 c0
        obtain ⟨k0, k1, k2⟩ := HV2.out.cells
        obtain ⟨g', e, _, c1⟩ := HCA.out _ HB2.out
        cases e
        obtain ⟨aa, ca, rfl, _, _⟩ := HOA.out.row
        rw [HLA.out] at HOA ⊢
        go_wp2_with fail
        refine (HBB.out _).mono ?_
        rintro e w3 ⟨vb, rfl, hb, hob⟩
        have HV3 := Lib.hid (HV2.out.below hb)
        have HB3 := Lib.hid (HB2.out.trans (hb.mono HB2.out.size))
        have HOA3 := Lib.hid (HOA.out.below hb)
        have HOB3 := Lib.hid hob
        clear hb hob HV2 k0 k1 k2 c1 HB HB2 HOA HA HBB HCA
        obtain ⟨ab, cb, rfl, _, _⟩ := HOB3.out.row
        rw [HLB.out] at HOB3 ⊢
        obtain ⟨_, _, e1, r1, _⟩ := HOA3.out.row
        rw [HLA.out] at e1
        cases e1
        obtain ⟨_, _, e2, r2, _⟩ := HOB3.out.row
        rw [HLB.out] at e2
        cases e2
        have HRA := Lib.hid r1
        have HRB := Lib.hid r2
        clear r1 r2 HOA3 HOB3
        go_wp2_with fail
        go_loopw [3, 7] (fun x i w4 => ∃ u q : Nat, u ≤ F ∧ i = .int .i64 (u : Int) ∧ x = .int .i64 (N + difN ra rb u) ∧ w4 = w3.drewN q) (fun _ i _ => F - (intOf i).toNat)
        case atStart => exact ⟨0, 0, Nat.zero_le _, rfl, by rw [show difN ra rb 0 = 0 from rfl, Int.add_zero], rfl⟩
        case round =>
          obtain ⟨u, q, hu, rfl, rfl, rfl⟩ := hrel
          have hd := difN_in ra rb u
          by_cases hlu : u < F
          · have ja : u < ra.length := by rw [HLA.out]; exact hlu
            have jb : u < rb.length := by rw [HLB.out]; exact hlu
            obtain ⟨g1, rfl, _, hca⟩ := HRA.out u ja
            obtain ⟨g2, rfl, _, hcb⟩ := HRB.out u jb
            have HST := Lib.hid (difN_next ra rb u ja jb)
            generalize ra[u] = x at *
            generalize rb[u] = y at *
            obtain ⟨M, hM⟩ : ∃ M, N + difN ra rb u = M := ⟨_, rfl⟩
            have hM0 : 0 ≤ M := by omega
            have hM1 : M ≤ 200 := by omega
            rw [hM]
            have HM := Lib.hid hM
            have hk0 : (0 : Int) ≤ (u : Int) := Int.natCast_nonneg _
            have hk1 : (u : Int) < (F : Int) := by omega
            clear ja jb hM hd
            by_cases hxy : x = y
            · have hq : (x != y) = false := by simpa using hxy
              have HS2 := Lib.hid (HST.out.trans (by rw [if_pos hxy]))
              clear hxy
              go_wp2_with fail
              go_quiet (fail)
              go_wp2
              go_roundw
              case rel => exact ⟨u + 1, _, by omega, by go_num, by rw [HS2.out, Int.add_zero, HM.out], rfl⟩
              case measure => simp [intOf]; omega
            · have hq : (x != y) = true := by simpa using hxy
              have HS2 := Lib.hid (HST.out.trans (by rw [if_neg hxy]))
              clear hxy
              go_wp2_with fail
              go_quiet (fail)
              go_wp2
              go_roundw
              case rel => exact ⟨u + 1, _, by omega, by go_num, by rw [HS2.out, ← Int.add_assoc, HM.out], rfl⟩
              case measure => simp [intOf]; omega
          · obtain rfl : u = F := by omega
            have hb := Ints.drewN_below w3 q
            have HV4 := Lib.hid (HV3.out.below hb)
            have HB4 := Lib.hid (HB3.out.trans (hb.mono HB3.out.size))
            clear hb
            rw [← HNX.out]
            go_wp2
            go_roundw
            case rel => exact ⟨j1, by omega, by go_num, rfl, HV4, HB4⟩
            case measure => simp [intOf]; omega
      · have hd : decide ((j1 : Int) < (m : Int)) = false := by simp; omega
        have hmj : m - 1 = j := by omega
        have HMJ := Lib.hid hmj
        clear hjx hmj
        go_wp2
        go_ret
        exact ⟨by rw [HMJ.out]; rfl, HB.out⟩
end Go.Proofs.Ytcaplemkaaebfaa.View
