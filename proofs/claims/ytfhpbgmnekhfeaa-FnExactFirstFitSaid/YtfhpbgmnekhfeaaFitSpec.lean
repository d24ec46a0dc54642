/- What the model of chapter 19 returns: FirstFit. -/
import Derived.Test.YtfhpbgmnekhfeaaFitRow
import Derived.BigQuiet
import Derived.Deep.RegionHeld3
namespace Go.Proofs.Ytfhpbgmnekhfeaa.Sheet
open Go.ChangeShapes Go.WideShapes Go.ChangeAt Go.RowKit
open Go.Proofs.Ytfhpbgmnekhfeaa.Strip Go.Proofs.Ytfhpbgmnekhfeaa.Ints Go.Proofs.Ytfhpbgmnekhfeaa.Corner
set_option linter.unusedVariables false

set_option maxRecDepth 100000 in
set_option maxHeartbeats 4000000 in
theorem ff_spec (W : Int) (a : Option Addr) (n c : Nat) (l : List Int) (w : World) (hl : l.length = n) (hn : n ≤ 1048576) (hr : IRow w a l) :
    Calls Try.prog 25 #[.int .i64 W, .slice a n c] w (PostRow w (ffV W l)) := by
  unfold PostRow
  have HM := Lib.hid (made_none w w.heap.size (Nat.le_refl _))
  have HBa := Lib.hid (below_alloc w (.cells #[] 3))
  by_cases hW : 1 ≤ W ∧ W ≤ 1000
  · have qW := decide_eq_true hW
    by_cases h30 : 30 < n
    · rw [rowsB_frame (fun h => by omega)]
      have q30 : decide (30 < n) = true := decide_eq_true h30
      have q30i : decide ((30 : Int) < (n : Int)) = true := decide_eq_true (by omega)
      clear hW hl hr
      go_enter Try.func25, Try.ntmps25
      go_wp2_with fail
      refine (in_at W 1 1000 _).mono ?_
      rintro e w' ⟨rfl, rfl⟩
      rw [qW]
      clear qW
      go_wp2
      go_ret
      exact ⟨_, rfl, HBa.out, HM.out⟩
    · have q30 : decide (30 < n) = false := decide_eq_false h30
      have q30i : decide ((30 : Int) < (n : Int)) = false := decide_eq_false (by omega)
      have HL := Lib.hid hl
      have HN := Lib.hid (show n ≤ 30 by omega)
      have HR := Lib.hid hr
      have HW := Lib.hid hW
      have HT0 : Hid (Two ((w.alloc (.cells #[] 3)).alloc (.cells #[] 3)) w.heap.size (.slice (some ⟨w.heap.size, 0, none⟩) 0 0) (.slice (some ⟨w.heap.size + 1, 0, none⟩) 0 0) (nums W (l.take 0)) (lefts W (l.take 0))) :=
        Lib.hid ⟨HM.out.below (below_alloc _ _), (by show Own _ _ _ ([] : List Int); have h := made_none (w.alloc (.cells #[] 3)) w.heap.size (by simp); simpa using h), fun b e e2 => by simp [Value.ownBlock] at e e2; omega⟩
      have HB0 := Lib.hid (HBa.out.trans ((below_alloc (w.alloc (.cells #[] 3)) (.cells #[] 3)).mono HBa.out.size))
      clear hW hl hr h30
      go_enter Try.func25, Try.ntmps25
      go_wp2_with fail
      refine (in_at W 1 1000 _).mono ?_
      rintro e w' ⟨rfl, rfl⟩
      rw [qW]
      clear qW
      go_wp2_with fail
      clear q30 q30i HM HBa
      generalize ((w.alloc (.cells #[] 3)).alloc (.cells #[] 3)) = w1 at *
      go_loopw [5, 6, 7] (fun o v i wr => ∃ k : Nat, k ≤ n ∧ i = .int .i64 (k : Int) ∧ Hid (Two wr w.heap.size o v (nums W (l.take k)) (lefts W (l.take k))) ∧ Hid (Below w.heap.size w wr) ∧ Hid (∀ x ∈ l.take k, 1 ≤ x ∧ x ≤ W)) (fun _ _ i _ => n - (intOf i).toNat)
      case atStart => exact ⟨0, Nat.zero_le _, rfl, HT0, HB0, Lib.hid (by simp)⟩
      case round =>
        clear HT0 HB0
        obtain ⟨k, hk, rfl, HT, HB, HA⟩ := hrel
        by_cases hlt : k < n
        · have k0 : (0 : Int) ≤ (k : Int) := Int.natCast_nonneg _
          have k1 : (k : Int) < (n : Int) := by omega
          have hkl : k < l.length := by rw [HL.out]; exact hlt
          have HKL := Lib.hid hkl
          obtain ⟨ga, rfl, hga, hca0⟩ := HR.out k hkl
          have hca : wr.cell? ⟨ga, k, none⟩ = some (.int .i64 l[k]) := (HB.out.cell (p := ⟨ga, k, none⟩) hga).trans hca0
          have HGA := Lib.hid hga
          clear hga
          by_cases hx : 1 ≤ l[k] ∧ l[k] ≤ W
          · have HX := Lib.hid hx
            have qx := decide_eq_true hx
            have HA2 : Hid (∀ y ∈ l.take (k + 1), 1 ≤ y ∧ y ≤ W) := Lib.hid (fun y hy => by
              rw [List.take_succ_eq_append_getElem hkl] at hy
              rcases List.mem_append.1 hy with h | h
              · exact HA.out y h
              · simp at h; subst h; exact hx)
            obtain ⟨J, hS⟩ := spot_of HW.out hkl (by rw [HL.out]; exact HN.out) HA.out
            have HS := Lib.hid hS
            have HSL := Lib.hid (nums_length W l k (by omega))
            have HCA := Lib.hid hca0
            obtain ⟨hx0, hx1⟩ := hx
            have hJN := hS.le
            clear hS HA hca0
            obtain ⟨L2, hL2⟩ : ∃ L2, lefts W (l.take (k + 1)) = L2 := ⟨_, rfl⟩
            obtain ⟨S2, hS2⟩ : ∃ S2, nums W (l.take (k + 1)) = S2 := ⟨_, rfl⟩
            rw [hL2, hS2] at HS
            have HES := Lib.hid hS2
            have HEL := Lib.hid hL2
            clear hL2 hS2
            generalize lefts W (l.take k) = L at *
            generalize nums W (l.take k) = S at *
            generalize l[k] = x at *
            obtain ⟨a6, c6, e6, _, _⟩ := HT.out.b.row
            obtain ⟨a5, c5, e5, _, _⟩ := HT.out.a.row
            rw [HSL.out] at e5
            subst e5
            obtain ⟨N, hN⟩ : ∃ N, L.length = N := ⟨_, rfl⟩
            have HLN := Lib.hid hN
            rw [hN] at e6 hJN
            subst e6
            clear hN
            have HJN := Lib.hid hJN
            have hN30 : N ≤ 30 := by rw [← HLN.out]; exact HS.out.few
            clear hJN
            go_wp2_with fail
            refine (in_at x 1 W _).mono ?_
            rintro e w' ⟨rfl, rfl⟩
            rw [qx]
            clear qx
            go_wp2_with fail
            clear hca
            rename World => wq
            go_loopw [8] (fun i wr => ∃ j : Nat, j ≤ J ∧ i = .int .i64 (j : Int) ∧ Hid (Two wr w.heap.size (.slice a5 k c5) (.slice a6 N c6) S L) ∧ Hid (Below w.heap.size w wr)) (fun i _ => J - (intOf i).toNat)
            case atStart => exact ⟨0, Nat.zero_le _, rfl, HT, HB⟩
            case round =>
              clear HT HB
              obtain ⟨j, hj, rfl, HT, HB⟩ := hrel
              have hca : wr.cell? ⟨ga, k, none⟩ = some (.int .i64 x) := (HB.out.cell (p := ⟨ga, k, none⟩) HGA.out).trans HCA.out
              have j0 : (0 : Int) ≤ (j : Int) := Int.natCast_nonneg _
              by_cases hjN : j < N
              · have j1 : (j : Int) < (N : Int) := by omega
                have j2 : decide (j < N) = true := decide_eq_true hjN
                have j3 : decide ((j : Int) < (N : Int)) = true := decide_eq_true j1
                have hjL : j < L.length := by rw [HLN.out]; exact hjN
                obtain ⟨g6, rfl⟩ : ∃ g6, a6 = some ⟨g6, 0, none⟩ := by
                  obtain ⟨g, c', e⟩ := own_form HT.out.b (by omega)
                  exact ⟨g, (Value.slice.inj e).1⟩
                have hcl := HT.out.b.cell hjL
                obtain ⟨r0, r1⟩ := HS.out.rng j hjL
                by_cases hjJ : j < J
                · have hlt := HS.out.bad j hjL hjJ
                  generalize L[j] = y at *
                  have q1 : decide (y < x) = true := decide_eq_true hlt
                  clear hlt hjL
                  go_wp2_with fail
                  go_quiet (fail)
                  have HT2 := Lib.hid (HT.out.below (drewN_below wr nq))
                  have HB2 := Lib.hid (HB.out.trans ((drewN_below wr nq).mono HB.out.size))
                  clear hcl hca
                  go_wp2
                  go_roundw
                  case rel => exact ⟨j + 1, by omega, by go_num, HT2, HB2⟩
                  case measure => simp [intOf]; omega
                · obtain rfl : j = J := by omega
                  have hlt := HS.out.fit hjL
                  have hi := HS.out.inn hjL
                  have hset := fun (w' : World) (h : Two w' w.heap.size (.slice a5 k c5) (.slice (some ⟨g6, 0, none⟩) N c6) S L) => h.swap.set hjL (L[j] - x)
                  have hcel := fun (w' : World) (h : Two w' w.heap.size (.slice a5 k c5) (.slice (some ⟨g6, 0, none⟩) N c6) S L) => h.b.cell hjL
                  generalize L[j] = y at *
                  have HSET := Lib.hid hset
                  have HCEL := Lib.hid hcel
                  have HI := Lib.hid hi
                  have q1 : decide (y < x) = false := decide_eq_false (by omega)
                  have q2 : ((j : Int) == (N : Int)) = false := by simp; omega
                  have q2b : (j == N) = false := by simp; omega
                  have e1 : IntKind.i64.wrap (y - x) = y - x := by rw [IntKind.wrap_i64]; omega
                  clear hlt hjL hi hset hcel
                  go_wp2_with fail
                  go_quiet (fail)
                  have HT2 := Lib.hid (HT.out.below (drewN_below wr nq))
                  have HB2 := Lib.hid (HB.out.trans ((drewN_below wr nq).mono HB.out.size))
                  clear hcl hca HT HB
                  generalize wr.drewN nq = w5 at *
                  have hca : w5.cell? ⟨ga, k, none⟩ = some (.int .i64 x) := (HB2.out.cell (p := ⟨ga, k, none⟩) HGA.out).trans HCA.out
                  have hcl := HCEL.out _ HT2.out
                  have hfr := HT2.out.b.free j
                  have HT3 := Lib.hid (HSET.out _ HT2.out)
                  clear HT2
                  go_wp2_with fail
                  go_region
                  have HT4 := Lib.hid (HT3.out.1.swap.below ((Below.refl _ _).drew))
                  have HB4 := Lib.hid ((HB2.out.trans (HT3.out.2.mono (Nat.le_refl _))).drew)
                  clear HT3 HB2 hcl hca hfr
                  generalize (w5.setCell ⟨g6, j, none⟩ (.int .i64 (y - x))).drew = w6 at *
                  obtain ⟨g8, c8, w8, hrun, ht, hb⟩ := HT4.out.push (j : Int) (by rw [HSL.out]; have := HN.out; omega) HB4.out.size
                  rw [HSL.out] at hrun ht
                  rw [HI.out, ← HS.out.num] at ht
                  have HR8 := Lib.hid hrun
                  have HT8 := Lib.hid ht
                  have HB8 := Lib.hid (HB4.out.trans (hb.mono (Nat.le_refl _)))
                  clear hrun ht hb
                  go_wp2_with (at_builtin; refine Lib.wpList_append_run _ rfl _ _ _ _ rfl _ _ rfl rfl _ _ (HR8.out _) ?_)
                  go_roundw
                  case rel => exact ⟨k + 1, by omega, by go_num, by rw [HES.out, HEL.out]; exact HT8, HB8, HA2⟩
                  case measure => simp [intOf]; omega
              · obtain rfl : j = J := by have := HJN.out; omega
                obtain rfl : j = N := by have := HJN.out; omega
                have j2 : decide (j < j) = false := decide_eq_false (by omega)
                have j3 : decide ((j : Int) < (j : Int)) = false := decide_eq_false (by omega)
                have q2 : ((j : Int) == (j : Int)) = true := by simp
                have q2b : (j == j) = true := by simp
                have e1 : IntKind.i64.wrap (W - x) = W - x := by rw [IntKind.wrap_i64]; have := HW.out; omega
                have e2 : (j : Int) < (j : Int) + 1 := by omega
                go_wp2_with fail
                go_quiet (fail)
                have HT2 := Lib.hid (HT.out.below (drewN_below wr nq))
                have HB2 := Lib.hid (HB.out.trans ((drewN_below wr nq).mono HB.out.size))
                clear hca HT HB j2 j3
                generalize wr.drewN nq = w4 at *
                obtain ⟨g6, c7, w5, hrun, ht, hb⟩ := HT2.out.swap.push W (by rw [HLN.out]; have := HS.out.few; rw [HLN.out] at this; omega) HB2.out.size
                rw [HLN.out] at hrun ht
                have HR7 := Lib.hid hrun
                have HT7 := Lib.hid ht
                have HB7 := Lib.hid (HB2.out.trans (hb.mono (Nat.le_refl _)))
                have hjL : j < (L ++ [W]).length := by rw [List.length_append, HLN.out]; simp
                have hgt : (L ++ [W])[j] = W := by rw [List.getElem_append_right (by rw [HLN.out]; exact Nat.le_refl _)]; simp
                have hset := (HT7.out.set hjL (W - x))
                rw [HS.out.new HLN.out.symm] at hset
                have hcl := HT7.out.a.cell hjL
                rw [hgt] at hcl
                have hfr := HT7.out.a.free j
                have hca : w5.cell? ⟨ga, k, none⟩ = some (.int .i64 x) := (HB7.out.cell (p := ⟨ga, k, none⟩) HGA.out).trans HCA.out
                have HT3 := Lib.hid hset
                have HB2 := HB7
                clear hrun ht hb hset hjL hgt HT2 HT7 HB7
                go_wp2_with (at_builtin; refine Lib.wpList_append_run _ rfl _ _ _ _ rfl _ _ rfl rfl _ _ (HR7.out _) ?_)
                go_wp2_with fail
                go_region
                have HT4 := Lib.hid (HT3.out.1.swap.below ((Below.refl _ _).drew))
                have HB4 := Lib.hid ((HB2.out.trans (HT3.out.2.mono (Nat.le_refl _))).drew)
                clear HT3 HB2 hcl hca hfr
                generalize (w5.setCell ⟨g6, j, none⟩ (.int .i64 (W - x))).drew = w6 at *
                obtain ⟨g8, c8, w8, hrun, ht, hb⟩ := HT4.out.push (j : Int) (by rw [HSL.out]; have := HN.out; omega) HB4.out.size
                rw [HSL.out] at hrun ht
                rw [← HS.out.num] at ht
                have HR8 := Lib.hid hrun
                have HT8 := Lib.hid ht
                have HB8 := Lib.hid (HB4.out.trans (hb.mono (Nat.le_refl _)))
                clear hrun ht hb
                go_wp2_with (at_builtin; refine Lib.wpList_append_run _ rfl _ _ _ _ rfl _ _ rfl rfl _ _ (HR8.out _) ?_)
                go_roundw
                case rel => exact ⟨k + 1, by omega, by go_num, by rw [HES.out, HEL.out]; exact HT8, HB8, HA2⟩
                case measure => simp [intOf]; omega
          · have HE := Lib.hid (rowsB_bad k hkl hx)
            have qx := decide_eq_false hx
            have HM := Lib.hid (made_none wr w.heap.size HB.out.size)
            have HB2 := Lib.hid (HB.out.alloc HB.out.size (.cells #[] 3))
            clear hca0
            generalize l[k] = x at *
            clear hx
            go_wp2_with fail
            refine (in_at x 1 W _).mono ?_
            rintro e w' ⟨rfl, rfl⟩
            rw [qx]
            clear qx
            go_wp2
            go_ret
            exact ⟨_, rfl, HB2.out, by rw [HE.out]; exact HM.out⟩
        · obtain rfl : k = n := by omega
          have hta : l.take k = l := by rw [← HL.out]; exact List.take_length
          have hown := HT.out.a
          have hall := HA.out
          rw [hta] at hown hall
          have HE := Lib.hid (rowsB_good ⟨HW.out, by rw [HL.out]; exact HN.out⟩ hall)
          have HO := Lib.hid hown
          clear hown hta hall
          go_wp2
          go_ret
          exact ⟨_, rfl, HB.out, by rw [HE.out]; exact HO.out⟩
  · have qW := decide_eq_false hW
    rw [rowsB_frame (fun h => hW h.1)]
    clear hW hl hr
    go_enter Try.func25, Try.ntmps25
    go_wp2_with fail
    refine (in_at W 1 1000 _).mono ?_
    rintro e w' ⟨rfl, rfl⟩
    rw [qW]
    clear qW
    go_wp2
    go_ret
    exact ⟨_, rfl, HBa.out, HM.out⟩
end Go.Proofs.Ytfhpbgmnekhfeaa.Sheet
