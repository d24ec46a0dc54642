/- What CountSteps returns: the program's. -/
import Derived.Test.YtbdeppbbgokfhaaStepCount
import Derived.Test.YtbdeppbbgokfhaaViewTop
namespace Go.Proofs.Ytbdeppbbgokfhaa.View
open Go.ChangeShapes Go.WideShapes Go.ChangeAt Go.RowKit
open Go.Proofs.Ytbdeppbbgokfhaa.Strip Go.Proofs.Ytbdeppbbgokfhaa.Ints Go.Proofs.Ytbdeppbbgokfhaa.Corner Go.Proofs.Ytbdeppbbgokfhaa.Strs Go.Proofs.Ytbdeppbbgokfhaa.Card Go.Proofs.Ytbdeppbbgokfhaa.Kerf Go.Proofs.Ytbdeppbbgokfhaa.Order
set_option linter.unusedVariables false

set_option maxRecDepth 100000 in
set_option maxHeartbeats 4000000 in
theorem steps_impl (d f : Int) (a : Option Addr) (m c : Nat) (l : List ByteArray) (w : World) (hl : l.length = m) (hm : m ≤ 1048576) (hz : ∀ s ∈ l, s.size ≤ 1048576) (hr : Row w a l) :
    Calls Try.prog 22 #[.agg #[.int .i64 d, .int .i64 f, .slice a m c]] w fun e w' => e = .returned (.int .i64 (csV d f l)) ∧ Below w.heap.size w w' := by
  have HBa := Lib.hid (alloc_below w (.cells #[.int .i64 d, .int .i64 f, .slice a m c] 26))
  have HVa := Lib.hid (Var.new w d f (.slice a m c))
  have HR0 := Lib.hid hr
  have HR := Lib.hid (hr.below HBa.out)
  have HOK := Lib.hid (fun (w' : World) (h : Row w' a l) => ok_impl d f a m c l w' hl hm hz h)
  have HTOP := Lib.hid (fun (w' : World) (h : Row w' a l) => top_impl d f a m c l w' hl hm hz h)
  have HL := Lib.hid hl
  unfold csV
  cases hb : cardB d f l with
  | false =>
    rw [hb] at HOK
    clear hr hb hz hl
    go_enter Try.func22, Try.ntmps22
    go_wp2_with fail
    refine (HOK.out _ HR.out).mono ?_
    rintro e w1 ⟨rfl, hb1⟩
    have HBb := Lib.hid (HBa.out.trans (hb1.mono HBa.out.size))
    clear hb1
    go_wp2
    go_ret
    exact ⟨rfl, HBb.out⟩
  | true =>
    rw [hb] at HOK
    have hlen : m ≤ 10 := by have := (cardB_iff.1 hb).2.2.1; omega
    have hlen1 : 1 ≤ m := by have := (cardB_iff.1 hb).2.1; omega
    obtain ⟨_, _, f1, f8⟩ := card_frame hb
    have HCD := Lib.hid hb
    obtain ⟨F, hF⟩ : ∃ F, f.toNat = F := ⟨_, rfl⟩
    have HF := Lib.hid hF
    have hF8 : F ≤ 8 := by omega
    have hvv : topV d f l = rowsV htsL l := by unfold topV; rw [hb]; rfl
    rw [hvv] at HTOP
    have HRL := Lib.hid (show (rowsV htsL l).length = m by rw [rowsV_length, hl])
    simp only [if_true]
    rw [hl]
    clear hr hb hz hl hF hvv
    go_enter Try.func22, Try.ntmps22
    go_wp2_with fail
    refine (HOK.out _ HR.out).mono ?_
    rintro e w1 ⟨rfl, hb1⟩
    have HBb := Lib.hid (HBa.out.trans (hb1.mono HBa.out.size))
    have HVb := Lib.hid (HVa.out.below hb1)
    clear hb1 HR HOK HBa HVa
    obtain ⟨k0, k1, k2⟩ := HVb.out.cells
    go_wp2_with fail
    refine (HTOP.out _ (HR0.out.since (Nat.le_refl _) HBb.out)).mono ?_
    rintro e w2 ⟨v, vs, rfl, hb2, ho2⟩
    have HB2 := Lib.hid (HBb.out.trans (hb2.mono HBb.out.size))
    obtain ⟨av, cv, rfl, hrow, _⟩ := ho2.row
    rw [HRL.out]
    have HROW := Lib.hid hrow
    clear hb2 ho2 hrow k0 k1 k2 HVb HBb HTOP
    go_wp2_with fail
    go_loop [3, 5] (fun x i => ∃ j : Nat, j < m ∧ i = .int .i64 ((j + 1 : Nat) : Int) ∧ x = .int .i64 (stT f l j)) (fun _ i => m - (intOf i).toNat)
    case atStart => exact ⟨0, by omega, rfl, rfl⟩
    case round =>
      obtain ⟨j, hj, rfl, rfl⟩ := hrel
      obtain ⟨p0, p1⟩ := stT_in f f8 l j
      obtain ⟨j1, hj1⟩ : ∃ j1, j + 1 = j1 := ⟨_, rfl⟩
      rw [hj1]
      have hjx : (j1 : Int) - 1 = (j : Int) := by omega
      have hj10 : (0 : Int) ≤ (j1 : Int) := Int.natCast_nonneg _
      have hj0 : (0 : Int) ≤ (j : Int) := Int.natCast_nonneg _
      have HJ1 := Lib.hid hj1
      by_cases hlt : j1 < m
      · have hl1 : (j1 : Int) < (m : Int) := by omega
        have hl0 : (j : Int) < (m : Int) := by omega
        have hjl : j < l.length := by rw [HL.out]; omega
        have hjl1 : j1 < l.length := by rw [HL.out]; exact hlt
        obtain ⟨g, a0, c0, rfl, hc0, hr0, _⟩ := HROW.out j _ (rowsV_at htsL l j hjl)
        obtain ⟨g', a1, c1, e, hc1, hr1, _⟩ := HROW.out j1 _ (rowsV_at htsL l j1 hjl1)
        cases e
        have hla := card_row HCD.out _ (List.getElem_mem hjl)
        have hlb := card_row HCD.out _ (List.getElem_mem hjl1)
        rw [HF.out] at hla hlb
        have hnx : stT f l j1 = stT f l j + difN (htsL l[j].data.toList) (htsL l[j1].data.toList) F := by
          have h := stT_succ f l j
          rw [HF.out, hj1, rowAt_in hjl, rowAt_in hjl1] at h
          exact h
        have HNX := Lib.hid hnx
        rw [hla] at hc0
        rw [hlb] at hc1
        have HLA := Lib.hid hla
        have HLB := Lib.hid hlb
        have HRA := Lib.hid hr0
        have HRB := Lib.hid hr1
        clear hnx hj1 hla hlb hr0 hr1
        generalize htsL l[j].data.toList = ra at *
        generalize htsL l[j1].data.toList = rb at *
        generalize stT f l j = N at *
        have hN : N ≤ 80 := by omega
        go_wp2_with fail
        go_loop [3, 24] (fun x i => ∃ u : Nat, u ≤ F ∧ i = .int .i64 (u : Int) ∧ x = .int .i64 (N + difN ra rb u)) (fun _ i => F - (intOf i).toNat)
        case atStart => exact ⟨0, Nat.zero_le _, rfl, by rw [show difN ra rb 0 = 0 from rfl, Int.add_zero]⟩
        case round =>
          obtain ⟨u, hu, rfl, rfl⟩ := hrel
          have hd := difN_in ra rb u
          by_cases hlu : u < F
          · have ja : u < ra.length := by rw [HLA.out]; exact hlu
            have jb : u < rb.length := by rw [HLB.out]; exact hlu
            obtain ⟨g1, rfl, _, hca⟩ := HRA.out u ja
            obtain ⟨g2, rfl, _, hcb⟩ := HRB.out u jb
            have HST := Lib.hid (difN_next ra rb u ja jb)
            generalize ra[u] = x at *
            generalize rb[u] = y at *
            obtain ⟨M, hM⟩ : ∃ M, N + difN ra rb u = M := ⟨_, rfl⟩
            have hM0 : 0 ≤ M := by omega
            have hM1 : M ≤ 200 := by omega
            rw [hM]
            have HM := Lib.hid hM
            have hk0 : (0 : Int) ≤ (u : Int) := Int.natCast_nonneg _
            have hk1 : (u : Int) < (F : Int) := by omega
            clear ja jb hM hd
            by_cases hxy : x = y
            · have hq : (y != x) = false := by simpa using hxy.symm
              have HS2 := Lib.hid (HST.out.trans (by rw [if_pos hxy]))
              clear hxy
              go_wp2
              go_roundw
              case rel => exact ⟨u + 1, by omega, by go_num, by rw [HS2.out, Int.add_zero, HM.out]⟩
              case measure => simp [intOf]; omega
            · have hq : (y != x) = true := by simpa using fun e : y = x => hxy e.symm
              have HS2 := Lib.hid (HST.out.trans (by rw [if_neg hxy]))
              clear hxy
              go_wp2
              go_roundw
              case rel => exact ⟨u + 1, by omega, by go_num, by rw [HS2.out, ← Int.add_assoc, HM.out]⟩
              case measure => simp [intOf]; omega
          · obtain rfl : u = F := by omega
            rw [← HNX.out]
            go_wp2
            go_roundw
            case rel => exact ⟨j1, by omega, by go_num, rfl⟩
            case measure => simp [intOf]; omega
      · have hd : decide ((j1 : Int) < (m : Int)) = false := by simp; omega
        have hmj : m - 1 = j := by omega
        have HMJ := Lib.hid hmj
        clear hjx hmj
        go_wp2
        go_ret
        exact ⟨by rw [HMJ.out]; rfl, HB2.out⟩
end Go.Proofs.Ytbdeppbbgokfhaa.View
