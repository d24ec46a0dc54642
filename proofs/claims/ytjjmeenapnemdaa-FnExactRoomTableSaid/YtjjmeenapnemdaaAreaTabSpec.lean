/- What the model of chapter 9 returns: RoomTable. -/
import Derived.Test.YtjjmeenapnemdaaAreaRows
import Derived.Test.YtjjmeenapnemdaaAreaTable
namespace Go.Proofs.Ytjjmeenapnemdaa.Area
open Go.ChangeShapes Go.WideShapes Go.ChangeAt Go.RowKit
open Go.Proofs.Ytjjmeenapnemdaa.Strip Go.Proofs.Ytjjmeenapnemdaa.Ints Go.Proofs.Ytjjmeenapnemdaa.Corner Go.Proofs.Ytjjmeenapnemdaa.Order
set_option linter.unusedVariables false

set_option maxRecDepth 100000 in
set_option maxHeartbeats 4000000 in
theorem table_spec (d f : Int) (w : World) :
    Calls Try.prog 31 #[.int .i64 d, .int .i64 f] w (PostRow w (tabL d f)) := by
  obtain ⟨i0, hi, hz0, hz1, hz2⟩ := info_parts info_row
  cases hf : frameB d f with
  | false =>
    have hz : tabL d f = [] := by unfold tabL; rw [hf]; rfl
    rw [hz]
    go_enter Try.func31, Try.ntmps31
    go_wp2_with fail
    refine (frame_spec _ _ _).mono ?_
    rintro e w' ⟨rfl, rfl⟩
    rw [hf]
    go_wp2
    go_ret
    exact ⟨_, rfl, (Below.refl _ _).alloc (Nat.le_refl _) _, own_of_arr (l := []) (Nat.le_refl _) (Nat.zero_le _) (heap_alloc_new _ _)⟩
  | true =>
    have hz : tabL d f = tabN d.toNat f.toNat := by unfold tabL; rw [hf]; rfl
    rw [hz]
    obtain ⟨q1, q2, q3, q4⟩ := frameB_iff.mp hf
    obtain ⟨D, rfl⟩ := Int.eq_ofNat_of_zero_le (show 0 ≤ d by omega)
    obtain ⟨F, rfl⟩ := Int.eq_ofNat_of_zero_le (show 0 ≤ f by omega)
    have HF := Lib.hid hf
    have h64 : D * F ≤ 8 * 8 := Nat.mul_le_mul (by omega) (by omega)
    obtain ⟨N, hN⟩ : ∃ N, D * F = N := ⟨_, rfl⟩
    have HTAB := Lib.hid (show tabN D F = rowS (N + 1) F D by unfold tabN rowS; rw [hN])
    have hxy : (D : Int) * (F : Int) = (N : Int) := by rw [← hN]; simp
    rw [hN] at h64
    have HXY := Lib.hid hxy
    clear hz hf hN hxy
    show Calls _ _ _ _ (PostRow w (tabN D F))
    go_enter Try.func31, Try.ntmps31
    go_wp2_with fail
    refine (frame_spec _ _ _).mono ?_
    rintro e w' ⟨rfl, rfl⟩
    rw [HF.out]
    go_wp2_with fail
    have HO := Lib.hid (Own2.made w w.heap.size (Nat.le_refl _))
    have HB := Lib.hid ((Below.refl w.heap.size w).alloc (Nat.le_refl _) (.cells #[] 26))
    generalize w.alloc (.cells #[] 26) = W0 at *
    go_loopw [5, 6] (fun v i wr => ∃ (u : Nat) (vs : List Value), u ≤ D + 1 ∧ i = .int .i64 (u : Int) ∧ Hid (Own2 wr w.heap.size v vs (rowsS (N + 1) 0 u)) ∧ Hid (Below w.heap.size w wr)) (fun _ i _ => D + 1 - (intOf i).toNat)
    case atStart => exact ⟨0, [], Nat.zero_le _, rfl, HO, HB⟩
    case round =>
      clear HO HB
      obtain ⟨u, vs, hu, rfl, HO, HB⟩ := hrel
      have hu0 : (0 : Int) ≤ (u : Int) := Int.natCast_nonneg _
      obtain ⟨av, cv, rfl, _, _⟩ := HO.out.row
      rw [rowsS_length]
      rw [rowsS_length] at HO
      by_cases hlt : u ≤ D
      · have hu1 : (u : Int) ≤ (D : Int) := by omega
        have hxy := HXY.out
        have hN0 : (0 : Int) ≤ (N : Int) := Int.natCast_nonneg _
        have hN1 : (N : Int) ≤ 64 := by omega
        obtain ⟨W1, hmk, ha1, hb1⟩ := make_ints wr (N + 1) (by omega)
        have hmk := hmk ((N : Int) + 1) (by omega)
        have hc := ha1.cell (j := 0) (x := 0) (by rw [List.getElem?_replicate, if_pos (by omega)])
        have hfz := ha1.free 0
        have ha := ha1.set 0 1
        rw [rowS_zero u (by omega)] at ha
        have HGS := Lib.hid (show wr.heap.size < W1.heap.size from ha1.lt)
        have HBW := Lib.hid (hb1.setCell (p := ⟨wr.heap.size, 0, none⟩) (Nat.le_refl _) (.int .i64 1))
        have HS := Lib.hid HB.out.size
        have HA := Lib.hid ha
        clear ha ha1 hb1
        have hw2 : ((W1.setCell ⟨wr.heap.size, 0, none⟩ (.int .i64 1)).alloc (.cells #[.slice (some ⟨wr.heap.size, 0, none⟩) (N + 1) (N + 1)] 26)).heap[W1.heap.size]? = some (.cells #[.slice (some ⟨wr.heap.size, 0, none⟩) (N + 1) (N + 1)] 26 (0, 0)) := by
          have h := heap_alloc_new (W1.setCell ⟨wr.heap.size, 0, none⟩ (.int .i64 1)) (.cells #[.slice (some ⟨wr.heap.size, 0, none⟩) (N + 1) (N + 1)] 26)
          simpa using h
        have HW2 := Lib.hid hw2
        have HBA := Lib.hid (HBW.out.alloc HBW.out.size (.cells #[.slice (some ⟨wr.heap.size, 0, none⟩) (N + 1) (N + 1)] 26))
        have hown : Own (W1.setCell ⟨wr.heap.size, 0, none⟩ (.int .i64 1)) w.heap.size (.slice (some ⟨wr.heap.size, 0, none⟩) (N + 1) (N + 1)) (rowS (N + 1) 0 u) := by
          have h := own_of_arr (base := w.heap.size) HS.out (by rw [rowS_length]; unfold maxLen; omega) HA.out
          rw [rowS_length] at h
          exact h
        have HOW := Lib.hid (hown.alloc (.cells #[.slice (some ⟨wr.heap.size, 0, none⟩) (N + 1) (N + 1)] 26))
        have hout := (HO.out.below HBW.out).outer
        rw [rowsS_length] at hout
        have HOUT := Lib.hid hout
        clear hw2 hown hout
        go_wp2_with (at_builtin; refine wpList_append_lies _ rfl _ _ 63 rfl w.heap.size 26 i0 _ 1 24 Try.underlying63 hi hz0 hz1 hz2 rfl (by decide) _ u vs rfl (HOUT.out.alloc _) ⟨W1.heap.size, 0, none⟩ 1 1 [.slice (some ⟨wr.heap.size, 0, none⟩) (N + 1) (N + 1)] rfl rfl (World.news_of_block HW2.out) (by simp [Value.oneCell']) (by decide) (by unfold maxLen; omega) (by omega) (by have h1 := HS.out; have h2 := HGS.out; simp; omega) _ rfl ?_)
        intro g2 cap2 w2 hown2 hgrow2 hg2 hlt2
        have HO2 := Lib.hid (HO.out.push (k := wr.heap.size) (l := rowS (N + 1) 0 u) rfl (Nat.le_refl _) (by have h2 := HGS.out; simp; omega) HBA.out HOW.out (by rw [rowsS_length]; exact hown2) hgrow2 (hg2.imp id fun h => by simpa using h))
        rw [rowsS_length, ← rowsS_next] at HO2
        have HB2 := Lib.hid ((HB.out.trans (HBA.out.mono HS.out)).grown hgrow2 (by have h1 := HS.out; have h2 := HGS.out; simp; omega) (fun t e => (World.ownsRow.lt HO.out.outer t e).1))
        clear hown2 hgrow2 hg2 hlt2 hmk hc hfz hxy
        go_wp2
        exact ⟨⟨u + 1, _, by omega, by go_num, HO2, HB2⟩, by simp [intOf]; omega⟩
      · obtain rfl : u = D + 1 := by omega
        have hu1 : ¬ (((D + 1 : Nat) : Int) ≤ (D : Int)) := by omega
        go_wp2_with fail
        go_loopw [5, 8] (fun v i wr => ∃ (k : Nat) (vs : List Value), k ≤ F ∧ i = .int .i64 ((k + 1 : Nat) : Int) ∧ Hid (Own2 wr w.heap.size v vs (rowsS (N + 1) k (D + 1))) ∧ Hid (Below w.heap.size w wr)) (fun _ i _ => F + 1 - (intOf i).toNat)
        case atStart => exact ⟨0, vs, Nat.zero_le _, rfl, HO, HB⟩
        case round =>
          rename World => wq
          clear HO HB hu1
          obtain ⟨k, vs, hk, rfl, HO, HB⟩ := hrel
          obtain ⟨av, cv, rfl, _, _⟩ := HO.out.row
          rw [rowsS_length]
          rw [rowsS_length] at HO
          have hk0 : (0 : Int) ≤ (k : Int) := Int.natCast_nonneg _
          rw [show ((k + 1 : Nat) : Int) = (k : Int) + 1 from by omega]
          by_cases hlk : k < F
          · have hk1 : (k : Int) + 1 ≤ (F : Int) := by omega
            have HS := Lib.hid HB.out.size
            obtain ⟨B, hB⟩ : ∃ B, wq.heap.size = B := ⟨_, rfl⟩
            have HV0 := Lib.hid (Own2.made wq wq.heap.size (Nat.le_refl _))
            have HB0 := Lib.hid ((Below.refl wq.heap.size wq).alloc (Nat.le_refl _) (.cells #[] 26))
            go_wp2_with fail
            generalize wq.alloc (.cells #[] 26) = WT at *
            rw [hB] at HV0 HB0 HS
            have HBE := Lib.hid hB
            clear hB
            go_loopw [9, 10] (fun v i w3 => ∃ (u : Nat) (vsn : List Value), u ≤ D + 1 ∧ i = .int .i64 (u : Int) ∧ Hid (Own2 w3 B v vsn (rowsS (N + 1) (k + 1) u)) ∧ Hid (Below B wq w3)) (fun _ i _ => D + 1 - (intOf i).toNat)
            case atStart => exact ⟨0, [], Nat.zero_le _, rfl, HV0, HB0⟩
            case round =>
              rename World => w3
              clear HV0 HB0
              obtain ⟨u, vsn, hu, rfl, HV, HBV⟩ := hrel
              have hu0 : (0 : Int) ≤ (u : Int) := Int.natCast_nonneg _
              obtain ⟨an, cn, rfl, _, _⟩ := HV.out.row
              rw [rowsS_length]
              rw [rowsS_length] at HV
              by_cases hlu : u ≤ D
              · have hu1 : (u : Int) ≤ (D : Int) := by omega
                have hxy := HXY.out
                have hN0 : (0 : Int) ≤ (N : Int) := Int.natCast_nonneg _
                have hN1 : (N : Int) ≤ 64 := by omega
                obtain ⟨W1, hmk, ha1, hb1⟩ := make_ints w3 (N + 1) (by omega)
                have hmk := hmk ((N : Int) + 1) (by omega)
                rw [← rowQ_zero (N + 1) (k + 1) u] at ha1
                have HGS := Lib.hid (show w3.heap.size < W1.heap.size from ha1.lt)
                have HA := Lib.hid ha1
                have HBW := Lib.hid hb1
                have HSB := Lib.hid (show B ≤ w3.heap.size by have := HBV.out.size; rw [HBE.out] at this; exact this)
                clear ha1 hb1
                go_wp2_with fail
--LOOP
                obtain ⟨G, hG⟩ : ∃ G, w3.heap.size = G := ⟨_, rfl⟩
                have HGE := Lib.hid hG
                rw [hG] at HA HBW HGS HSB ⊢
                clear hG hmk hxy
                go_loopw [12] (fun i wr => ∃ q : Nat, q ≤ N + 1 ∧ i = .int .i64 (q : Int) ∧ Hid (ArrT wr G 3 (rowQ (N + 1) (k + 1) u q)) ∧ Hid (Below G w3 wr)) (fun i _ => N + 1 - (intOf i).toNat)
                case atStart => exact ⟨0, Nat.zero_le _, rfl, HA, HBW⟩
                case round =>
                  clear HA HBW HGS
                  obtain ⟨q, hq, rfl, HAQ, HB4_⟩ := hrel
                  have hq0 : (0 : Int) ≤ (q : Int) := Int.natCast_nonneg _
                  by_cases hql : q < N + 1
                  · have hq1 : (q : Int) < (N : Int) + 1 := by omega
                    have HBR := Lib.hid (show Below wq.heap.size wq wr by rw [HBE.out]; exact HBV.out.trans (HB4_.out.mono HSB.out))
                    by_cases hle : u ≤ q
                    · have hle1 : (u : Int) ≤ (q : Int) := by omega
                      have h0 := HAQ.out.cell (rowQ_at (k + 1) u q hql)
                      rw [if_neg (by omega)] at h0
                      obtain ⟨gt, gr, cr, rfl, ht1, ht2⟩ := row2_cells ((row2_of HO.out).below HBR.out) (rowsS_at (N + 1) k (show u < D + 1 by omega)) (rowS_at (M := N + 1) (r := q - u) k u (by omega))
                      rw [rowS_length] at ht1
                      have hfz := HAQ.out.free q
                      have hb1 := rt_small (u := u) (f := k) (q - u) (by omega) (by omega)
                      have HST := Lib.hid (show ∀ U, u = U + 1 → (rt u (k + 1) q : Int) = (rt u k (q - u) : Int) + (rt U (k + 1) q : Int) from fun U e => by
                        subst e
                        rw [rt_step, if_pos hle]
                        omega)
                      have HSZ := Lib.hid (show u = 0 → (rt u (k + 1) q : Int) = (rt u k (q - u) : Int) from fun e => by
                        subst e
                        rw [rt_u0, rt_u0, Nat.sub_zero])
                      have ha := HAQ.out
                      rw [rowH_none] at ha
                      have ha := ha.set q (rt u k (q - u) : Int)
                      rw [rowH_put _ _ hql] at ha
                      have HA4 := Lib.hid ha
                      have HB4 := Lib.hid (HB4_.out.setCell (p := ⟨G, q, none⟩) (Nat.le_refl _) (.int .i64 (rt u k (q - u) : Int)))
                      obtain ⟨j, hj⟩ : ∃ j, q - u = j := ⟨_, rfl⟩
                      rw [hj] at ht2 hb1 HST HSZ HA4 HB4
                      have hjj : (q : Int) - (u : Int) = (j : Int) := by omega
                      have hj0 : (0 : Int) ≤ (j : Int) := Int.natCast_nonneg _
                      have hj1 : (j : Int) < (N : Int) + 1 := by omega
                      have e1 : IntKind.i64.wrap ((q : Int) - (u : Int)) = (j : Int) := by rw [IntWalk.i64_in _ (by omega)]; exact hjj
                      clear ha hj hjj
                      generalize rt u k j = x at *
                      have e2 : IntKind.i64.wrap (0 + (x : Int)) = (x : Int) := by rw [IntWalk.i64_in _ (by omega)]; omega
                      have e3 : IntKind.i64.wrap (x : Int) = (x : Int) := IntWalk.i64_in _ (by omega)
                      go_wp2_with fail
                      go_region
                      have HA5 : Hid (ArrT (wr.setCell ⟨G, q, none⟩ (.int .i64 (x : Int))).drew G 3 (rowH (N + 1) (k + 1) u q (x : Int))) := HA4
                      have HB5 := Lib.hid HB4.out.drew
                      clear h0 ht1 ht2 hfz e1 e2 e3 HA4 HB4
                      generalize (wr.setCell ⟨G, q, none⟩ (.int .i64 (x : Int))).drew = W5 at *
                      rcases Nat.eq_zero_or_pos u with hz | hz
                      · have hz1 : decide (0 < (u : Int)) = false := by rw [hz]; rfl
                        have hz2 : decide (0 < u) = false := by rw [hz]; rfl
                        have ha := HA5.out
                        rw [rowH_done (HSZ.out hz)] at ha
                        have HAD := Lib.hid ha
                        have HBD := HB5
                        clear ha hz HA5
                        clear HAQ HBR
                        go_wp2
                        go_roundw
                        case rel => exact ⟨q + 1, by omega, by go_num, HAD, HBD⟩
                        case measure => simp [intOf]; omega
                      · obtain ⟨U, hU⟩ : ∃ U, u = U + 1 := ⟨u - 1, by omega⟩
                        have hU1 : U < u := by omega
                        have hU0 : (0 : Int) ≤ (U : Int) := Int.natCast_nonneg _
                        have hU2 : (U : Int) < (u : Int) := by omega
                        have e0 : IntKind.i64.wrap ((u : Int) - 1) = (U : Int) := by rw [IntWalk.i64_in _ (by omega)]; omega
                        have hst0 := Lib.hid (HST.out U hU)
                        clear hU
                        have h5 := HA5.out.cell (rowH_here (k + 1) u (x : Int) hql)
                        obtain ⟨gn, gm, cm, rfl, hn1, hn2⟩ := row2_cells ((row2_of HV.out).below (by rw [HGE.out]; exact HB5.out)) (rowsS_at (N + 1) (k + 1) hU1) (rowS_at (k + 1) U hql)
                        rw [rowS_length] at hn1
                        have hfz := HA5.out.free q
                        have hb5 := rt_small (u := U) (f := k + 1) q (by omega) (by omega)
                        have hst : (rt u (k + 1) q : Int) = (x : Int) + (rt U (k + 1) q : Int) := by exact hst0.out
                        have ha := HA5.out.set q ((x : Int) + (rt U (k + 1) q : Int))
                        rw [rowH_put _ _ hql, rowH_done hst] at ha
                        have HA6 := Lib.hid ha
                        have HB6 := Lib.hid (HB5.out.setCell (p := ⟨G, q, none⟩) (Nat.le_refl _) (.int .i64 ((x : Int) + (rt U (k + 1) q : Int))))
                        clear ha hst
                        generalize rt U (k + 1) q = y at *
                        have e4 : IntKind.i64.wrap ((x : Int) + (y : Int)) = (x : Int) + (y : Int) := IntWalk.i64_in _ (by omega)
                        go_wp2_with fail
                        go_region
                        have HAD : Hid (ArrT (W5.setCell ⟨G, q, none⟩ (.int .i64 ((x : Int) + (y : Int)))).drew G 3 (rowQ (N + 1) (k + 1) u (q + 1))) := HA6
                        have HBD := Lib.hid HB6.out.drew
                        clear h5 hn1 hn2 hfz e4 HA6 HB6 HA5 HB5
                        generalize (W5.setCell ⟨G, q, none⟩ (.int .i64 ((x : Int) + (y : Int)))).drew = W6 at *
                        clear HAQ HBR
                        go_wp2
                        go_roundw
                        case rel => exact ⟨q + 1, by omega, by go_num, HAD, HBD⟩
                        case measure => simp [intOf]; omega
                    · have hle1 : ¬ ((u : Int) ≤ (q : Int)) := by omega
                      have ha := HAQ.out
                      rw [rowH_none] at ha
                      have HA5 := Lib.hid ha
                      have HB5 := HB4_
                      clear ha
                      obtain ⟨U, hU⟩ : ∃ U, u = U + 1 := ⟨u - 1, by omega⟩
                      have hz : 0 < u := by omega
                      have hz1 : (0 : Int) < (u : Int) := by omega
                      have hU1 : U < u := by omega
                      have hU0 : (0 : Int) ≤ (U : Int) := Int.natCast_nonneg _
                      have hU2 : (U : Int) < (u : Int) := by omega
                      have e0 : IntKind.i64.wrap ((u : Int) - 1) = (U : Int) := by rw [IntWalk.i64_in _ (by omega)]; omega
                      have hst0 := Lib.hid (show (rt u (k + 1) q : Int) = 0 + (rt U (k + 1) q : Int) by
                        subst hU
                        rw [rt_step, if_neg (by omega)]
                        omega)
                      clear hU
                      have h5 := HA5.out.cell (rowH_here (k + 1) u 0 hql)
                      obtain ⟨gn, gm, cm, rfl, hn1, hn2⟩ := row2_cells ((row2_of HV.out).below (by rw [HGE.out]; exact HB5.out)) (rowsS_at (N + 1) (k + 1) hU1) (rowS_at (k + 1) U hql)
                      rw [rowS_length] at hn1
                      have hfz := HA5.out.free q
                      have hb5 := rt_small (u := U) (f := k + 1) q (by omega) (by omega)
                      have hst : (rt u (k + 1) q : Int) = 0 + (rt U (k + 1) q : Int) := by exact hst0.out
                      have ha := HA5.out.set q (0 + (rt U (k + 1) q : Int))
                      rw [rowH_put _ _ hql, rowH_done hst] at ha
                      have HA6 := Lib.hid ha
                      have HB6 := Lib.hid (HB5.out.setCell (p := ⟨G, q, none⟩) (Nat.le_refl _) (.int .i64 (0 + (rt U (k + 1) q : Int))))
                      clear ha hst
                      generalize rt U (k + 1) q = y at *
                      have hzy : (0 : Int) + (y : Int) = (y : Int) := by omega
                      rw [hzy] at HA6 HB6
                      clear hzy
                      have e3 : IntKind.i64.wrap (y : Int) = (y : Int) := IntWalk.i64_in _ (by omega)
                      have e4 : IntKind.i64.wrap (0 + (y : Int)) = 0 + (y : Int) := IntWalk.i64_in _ (by omega)
                      go_wp2_with fail
                      go_region
                      have HAD : Hid (ArrT (wr.setCell ⟨G, q, none⟩ (.int .i64 (y : Int))).drew G 3 (rowQ (N + 1) (k + 1) u (q + 1))) := HA6
                      have HBD := Lib.hid HB6.out.drew
                      clear h5 hn1 hn2 hfz e3 e4 HA6 HB6 HA5 HB5
                      generalize (wr.setCell ⟨G, q, none⟩ (.int .i64 (y : Int))).drew = W6 at *
                      clear HAQ HBR
                      go_wp2
                      go_roundw
                      case rel => exact ⟨q + 1, by omega, by go_num, HAD, HBD⟩
                      case measure => simp [intOf]; omega
                  · have hq1 : ¬ ((q : Int) < (N : Int) + 1) := by omega
                    obtain rfl : q = N + 1 := by omega
                    have ha := HAQ.out
                    rw [rowQ_all] at ha
                    have HAR := Lib.hid ha
                    have HGR := Lib.hid (show G < wr.heap.size from ha.lt)
                    clear ha HAQ
                    have hw2 : (wr.alloc (.cells #[.slice (some ⟨G, 0, none⟩) (N + 1) (N + 1)] 26)).heap[wr.heap.size]? = some (.cells #[.slice (some ⟨G, 0, none⟩) (N + 1) (N + 1)] 26 (0, 0)) := heap_alloc_new wr (.cells #[.slice (some ⟨G, 0, none⟩) (N + 1) (N + 1)] 26)
                    have HW2 := Lib.hid hw2
                    have HBA := Lib.hid (show Below w3.heap.size w3 (wr.alloc (.cells #[.slice (some ⟨G, 0, none⟩) (N + 1) (N + 1)] 26)) by rw [HGE.out]; exact HB4_.out.alloc (by have := HGR.out; omega) (.cells #[.slice (some ⟨G, 0, none⟩) (N + 1) (N + 1)] 26))
                    have hown : Own wr B (.slice (some ⟨G, 0, none⟩) (N + 1) (N + 1)) (rowS (N + 1) (k + 1) u) := by
                      have h := own_of_arr (base := B) HSB.out (by rw [rowS_length]; unfold maxLen; omega) HAR.out
                      rw [rowS_length] at h
                      exact h
                    have HOW := Lib.hid (hown.alloc (.cells #[.slice (some ⟨G, 0, none⟩) (N + 1) (N + 1)] 26))
                    have hout := (HV.out.below (by rw [HGE.out]; exact HB4_.out)).outer
                    rw [rowsS_length] at hout
                    have HOUT := Lib.hid hout
                    clear hw2 hown hout
                    go_wp2_with (at_builtin; refine wpList_append_lies _ rfl _ _ 63 rfl B 26 i0 _ 1 24 Try.underlying63 hi hz0 hz1 hz2 rfl (by decide) _ u vsn rfl (HOUT.out.alloc _) ⟨wr.heap.size, 0, none⟩ 1 1 [.slice (some ⟨G, 0, none⟩) (N + 1) (N + 1)] rfl rfl (World.news_of_block HW2.out) (by simp [Value.oneCell']) (by decide) (by unfold maxLen; omega) (by omega) (by have h1 := HSB.out; have h2 := HGR.out; simp; omega) _ rfl ?_)
                    intro g2 cap2 w2 hown2 hgrow2 hg2 hlt2
                    have HO2 := Lib.hid (HV.out.push (k := G) (l := rowS (N + 1) (k + 1) u) rfl (by rw [HGE.out]; exact Nat.le_refl _) (by have h2 := HGR.out; simp; omega) HBA.out HOW.out (by rw [rowsS_length]; exact hown2) hgrow2 (hg2.imp id fun h => by simpa using h))
                    rw [rowsS_length, ← rowsS_next] at HO2
                    have HB2 := Lib.hid ((HBV.out.trans (HBA.out.mono (by rw [HGE.out]; exact HSB.out))).grown hgrow2 (by have h1 := HSB.out; have h2 := HGR.out; simp; omega) (fun t e => (World.ownsRow.lt HV.out.outer t e).1))
                    clear hown2 hgrow2 hg2 hlt2
                    go_wp2
                    go_roundw
                    case rel => exact ⟨u + 1, _, by omega, by go_num, HO2, HB2⟩
                    case measure => simp [intOf]; omega
              · obtain rfl : u = D + 1 := by omega
                have hu1 : ¬ (((D + 1 : Nat) : Int) ≤ (D : Int)) := by omega
                have HVM := Lib.hid (HV.out.mono HS.out)
                have HBM := Lib.hid (HB.out.trans (HBV.out.mono HS.out))
                go_wp2
                exact ⟨⟨k + 1, vsn, by omega, by rw [show ((k + 1 + 1 : Nat) : Int) = (k : Int) + 1 + 1 from by omega], HVM, HBM⟩, by simp [intOf]; omega⟩
          · obtain rfl : k = F := by omega
            have hk1 : ¬ ((k : Int) + 1 ≤ (k : Int)) := by omega
            have hDD := rowsS_at (N + 1) k (show D < D + 1 by omega)
            obtain ⟨uv, huv⟩ := HO.out.val hDD
            obtain ⟨g, aj, cj, rfl, hc, _, _⟩ := row2_of HO.out D _ hDD
            have hcu := HO.out.at huv
            have HIN := Lib.hid (HO.out.inner D uv _ huv hDD)
            have hD0 : (0 : Int) ≤ (D : Int) := Int.natCast_nonneg _
            have hD1 : (D : Int) < (D : Int) + 1 := by omega
            clear hc huv hDD HO
            go_wp2
            go_ret
            exact ⟨uv, rfl, HB.out, by rw [HTAB.out]; exact HIN.out⟩
end Go.Proofs.Ytjjmeenapnemdaa.Area
