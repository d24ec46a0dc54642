/- What the program of chapter 9 returns: countRooms. -/
import Derived.Test.YtjjmeenapnemdaaAreaFlat
import Derived.Deep.MidRow
import Derived.Laws.CopyOwn
namespace Go.Proofs.Ytjjmeenapnemdaa.Area
open Go.ChangeShapes Go.WideShapes Go.ChangeAt Go.RowKit
open Go.Proofs.Ytjjmeenapnemdaa.Strip Go.Proofs.Ytjjmeenapnemdaa.Ints Go.Proofs.Ytjjmeenapnemdaa.Corner Go.Proofs.Ytjjmeenapnemdaa.Order
set_option linter.unusedVariables false

theorem zero65 : ∃ zs : Array Value, (∀ w, (zeroValue 51).run Try.prog w = .ok (.agg zs) w) ∧ zs = (icells (List.replicate 65 0)).toArray := ⟨_, fun w => by kernel_rfl, rfl⟩
theorem zero585 : ∃ zs : Array Value, (∀ w, (zeroValue 68).run Try.prog w = .ok (.agg zs) w) ∧ zs = (icells (List.replicate 585 0)).toArray := ⟨_, fun w => by kernel_rfl, rfl⟩

set_option maxRecDepth 100000 in
set_option maxHeartbeats 4000000 in
theorem rooms_impl (D F : Nat) (hd1 : 1 ≤ D) (hd8 : D ≤ 8) (hf1 : 1 ≤ F) (hf8 : F ≤ 8) (w : World) :
    Calls Try.prog 40 #[.int .i64 (D : Int), .int .i64 (F : Int)] w fun e w' => e = .returned (.agg (icells (rowR D F)).toArray) ∧ Below w.heap.size w w' := by
  obtain ⟨z1, hz1, he1⟩ := zero65
  obtain ⟨z2, hz2, he2⟩ := zero585
  have HE1 := Lib.hid he1
  have HE2 := Lib.hid he2
  clear he1 he2
  have hk1 := hz1 w
  have hk2 := hz2 (w.alloc (.cells z1 51))
  clear hz1 hz2
  go_enter Try.func40, Try.ntmps40
  go_wp2_with fail
  clear hk1 hk2
  have hr0 : ArrT (w.alloc (.cells z1 51)) w.heap.size 51 (List.replicate 65 0) := by
    unfold ArrT
    rw [← HE1.out]
    exact heap_alloc_new w _
  have HB := Lib.hid (((Below.refl w.heap.size w).alloc (Nat.le_refl _) (.cells z1 51)).alloc (by simp) (.cells z2 68))
  have hb1 := (Below.refl (w.alloc (.cells z1 51)).heap.size (w.alloc (.cells z1 51))).alloc (Nat.le_refl _) (.cells z2 68)
  have HR := Lib.hid (hr0.below hb1)
  have ha0 : ArrT ((w.alloc (.cells z1 51)).alloc (.cells z2 68)) (w.heap.size + 1) 68 (flatG (hd0 0)) := by
    rw [hd0_zero]
    unfold ArrT
    rw [← HE2.out]
    exact heap_alloc2_new w _ _
  have HA := Lib.hid ha0
  have hne : w.heap.size ≠ w.heap.size + 1 := by omega
  have hle : w.heap.size ≤ w.heap.size + 1 := by omega
  have HNE := Lib.hid hne
  have HLE := Lib.hid hle
  clear hr0 ha0 hb1 HE1 HE2 hne hle
  generalize (w.alloc (.cells z1 51)).alloc (.cells z2 68) = W0 at *
  obtain ⟨B, hB⟩ : ∃ B, w.heap.size + 1 = B := ⟨_, rfl⟩
  rw [hB] at HA HNE HLE ⊢
  clear hB
  have HRB := Lib.hid (Nat.le_refl w.heap.size)
  obtain ⟨R, hR⟩ : ∃ R, w.heap.size = R := ⟨_, rfl⟩
  rw [hR] at HR HB HNE HLE ⊢
  have HRE := Lib.hid hR
  clear HRB hR
  go_loopw [10] (fun i wr => ∃ k : Nat, k ≤ 9 ∧ i = .int .i64 (k : Int) ∧ Hid (ArrT wr B 68 (flatG (hd0 k))) ∧ Hid (ArrT wr R 51 (List.replicate 65 0)) ∧ Hid (Below R w wr)) (fun i _ => 9 - (intOf i).toNat)
  case atStart => exact ⟨0, Nat.zero_le _, rfl, HA, HR, HB⟩
  case round =>
    clear HA HR HB
    obtain ⟨k, hk, rfl, HA, HR, HB⟩ := hrel
    by_cases hlt : k < 9
    · have hk0 : (0 : Int) ≤ (k : Int) := Int.natCast_nonneg _
      have hk1 : (k : Int) < 9 := by omega
      have hc := HA.out.cell (flatG_at (hd0 k) k 0 hlt (by omega))
      rw [Nat.add_zero] at hc
      have hfz := HA.out.free (k * 65)
      have ha := HA.out.set (k * 65) 1
      rw [hd0_next k hlt] at ha
      have HA2 := Lib.hid ha
      have HR2 := Lib.hid (HR.out.other (c := B) (j := k * 65) (x := .int .i64 1) HNE.out)
      have HB2 := Lib.hid (HB.out.setCell (p := ⟨B, k * 65, none⟩) HLE.out (.int .i64 1))
      clear ha HA HR HB
      go_wp2
      exact ⟨⟨k + 1, by omega, by go_num, HA2, HR2, HB2⟩, by simp [intOf]; omega⟩
    · obtain rfl : k = 9 := by omega
      have ha := HA.out
      rw [bs_zero F] at ha
      have HA := Lib.hid ha
      clear ha
      go_wp2_with fail
      go_loopw [7] (fun i wr => ∃ u : Nat, u ≤ D ∧ i = .int .i64 ((u + 1 : Nat) : Int) ∧ Hid (ArrT wr B 68 (flatG (bs F u))) ∧ Hid (ArrT wr R 51 (List.replicate 65 0)) ∧ Hid (Below R w wr)) (fun i _ => D + 1 - (intOf i).toNat)
      case atStart => exact ⟨0, Nat.zero_le _, rfl, HA, HR, HB⟩
      case round =>
        clear HA HR HB
        obtain ⟨u, hu, rfl, HA, HR, HB⟩ := hrel
        by_cases hlu : u < D
        · obtain ⟨h, hh⟩ : ∃ h, u + 1 = h := ⟨_, rfl⟩
          rw [hh]
          have hh0 : (0 : Int) ≤ (h : Int) := Int.natCast_nonneg _
          have hh1 : (h : Int) ≤ (D : Int) := by omega
          have hh8 : (h : Int) ≤ 8 := by omega
          have HH := Lib.hid hh
          have ha := HA.out
          rw [tv_first F u] at ha
          have HA := Lib.hid ha
          clear ha hh
          go_wp2_with fail
          go_loopw [8] (fun i wr => ∃ m : Nat, m ≤ F ∧ i = .int .i64 ((m + 1 : Nat) : Int) ∧ Hid (ArrT wr B 68 (flatG (tv F u (m + 1) 0))) ∧ Hid (ArrT wr R 51 (List.replicate 65 0)) ∧ Hid (Below R w wr)) (fun i _ => F + 1 - (intOf i).toNat)
          case atStart => exact ⟨0, Nat.zero_le _, rfl, HA, HR, HB⟩
          case round =>
            clear HA HR HB
            obtain ⟨m, hm, rfl, HA, HR, HB⟩ := hrel
            by_cases hlm : m < F
            · obtain ⟨N, hN⟩ : ∃ N, m + 1 = N := ⟨_, rfl⟩
              rw [hN]
              have hN0 : (0 : Int) ≤ (N : Int) := Int.natCast_nonneg _
              have hN1 : (N : Int) ≤ (F : Int) := by omega
              have hN9 : (N : Int) < 9 := by omega
              have hm0 : (0 : Int) ≤ (m : Int) := Int.natCast_nonneg _
              have hm9 : (m : Int) < 9 := by omega
              have HN := Lib.hid hN
              have ha := HA.out
              rw [tv_begin F u m] at ha
              have HA := Lib.hid ha
              clear ha hN
              go_wp2_with fail
              go_loopw [9] (fun i wr => ∃ j : Nat, j + (u + 1) ≤ 65 ∧ i = .int .i64 ((j + (u + 1) : Nat) : Int) ∧ Hid (ArrT wr B 68 (flatG (tv F u (m + 1) (j + (u + 1))))) ∧ Hid (ArrT wr R 51 (List.replicate 65 0)) ∧ Hid (Below R w wr)) (fun i _ => 65 - (intOf i).toNat)
              case atStart => exact ⟨0, by omega, by rw [Nat.zero_add, HH.out], by rw [Nat.zero_add]; exact HA, HR, HB⟩
              case round =>
                clear HA HR HB
                obtain ⟨j, hj, rfl, HA, HR, HB⟩ := hrel
                by_cases hlj : j + (u + 1) < 65
                · have h1 := HA.out.cell (flatG_at _ (m + 1) (j + (u + 1)) (by omega) hlj)
                  rw [tv_old (by omega)] at h1
                  have h2 := HA.out.cell (flatG_at _ m j (by omega) (by omega))
                  rw [tv_new (by omega)] at h2
                  have hfz := HA.out.free ((m + 1) * 65 + (j + (u + 1)))
                  have ha := HA.out.set ((m + 1) * 65 + (j + (u + 1))) ((rt u (m + 1) (j + (u + 1)) : Int) + (rt (u + 1) m j : Int))
                  rw [tv_next (by omega) hf8 hlj] at ha
                  have HA2 := Lib.hid ha
                  have HR2 := Lib.hid (HR.out.other (c := B) (j := (m + 1) * 65 + (j + (u + 1))) (x := .int .i64 ((rt u (m + 1) (j + (u + 1)) : Int) + (rt (u + 1) m j : Int))) HNE.out)
                  have HB2 := Lib.hid (HB.out.setCell (p := ⟨B, (m + 1) * 65 + (j + (u + 1)), none⟩) HLE.out (.int .i64 ((rt u (m + 1) (j + (u + 1)) : Int) + (rt (u + 1) m j : Int))))
                  have hx := rt_small (u := u) (f := m + 1) (j + (u + 1)) (by omega) (by omega)
                  have hy := rt_small (u := u + 1) (f := m) j (by omega) (by omega)
                  clear ha HA HR HB
                  generalize rt u (m + 1) (j + (u + 1)) = x at *
                  generalize rt (u + 1) m j = y at *
                  rw [HN.out] at h1 hfz HA2 HR2 HB2
                  obtain ⟨r, hr⟩ : ∃ r, j + (u + 1) = r := ⟨_, rfl⟩
                  have hjr : j + h = r := by have := HH.out; omega
                  rw [hr] at h1 hfz HA2 HR2 HB2 hlj ⊢
                  have HRR := Lib.hid hr
                  have hr0 : (0 : Int) ≤ (r : Int) := Int.natCast_nonneg _
                  have hr1 : (r : Int) < 65 := by omega
                  have hr2 : (r : Int) ≤ 64 := by omega
                  have hj0 : (0 : Int) ≤ (j : Int) := Int.natCast_nonneg _
                  have hj1 : (j : Int) < 65 := by omega
                  have e1 : IntKind.i64.wrap ((N : Int) - 1) = (m : Int) := by rw [IntWalk.i64_in _ (by omega)]; have := HN.out; omega
                  have e2 : IntKind.i64.wrap ((r : Int) - (h : Int)) = (j : Int) := by rw [IntWalk.i64_in _ (by omega)]; omega
                  have e3 : IntKind.i64.wrap ((x : Int) + (y : Int)) = (x : Int) + (y : Int) := IntWalk.i64_in _ (by omega)
                  clear hr hjr
                  go_wp2_with fail
                  go_region
                  clear h1 h2 hfz e1 e2 e3
                  have HA3 : Hid (ArrT (wr.setCell ⟨B, N * 65 + r, none⟩ (.int .i64 ((x : Int) + (y : Int)))).drew B 68 (flatG (tv F u N (r + 1)))) := HA2
                  have HR3 : Hid (ArrT (wr.setCell ⟨B, N * 65 + r, none⟩ (.int .i64 ((x : Int) + (y : Int)))).drew R 51 (List.replicate 65 0)) := HR2
                  have HB3 := Lib.hid HB2.out.drew
                  clear HA2 HR2 HB2
                  generalize (wr.setCell ⟨B, N * 65 + r, none⟩ (.int .i64 ((x : Int) + (y : Int)))).drew = W4 at *
                  go_wp2
                  go_roundw
                  case rel => exact ⟨j + 1, by have := HRR.out; omega, by rw [← HRR.out]; go_num, by rw [HN.out, show j + 1 + (u + 1) = r + 1 from by have := HRR.out; omega]; exact HA3, HR3, HB3⟩
                  case measure => simp [intOf]; omega
                · have hje : j + (u + 1) = 65 := by omega
                  have ha := HA.out
                  rw [hje, tv_end F u (m + 1)] at ha
                  have HA2 := Lib.hid ha
                  rw [hje]
                  clear ha HA hje
                  go_wp2
                  exact ⟨⟨m + 1, by omega, by rw [show ((m + 1 + 1 : Nat) : Int) = (N : Int) + 1 from by have := HN.out; omega], HA2, HR, HB⟩, by simp [intOf]; omega⟩
            · obtain rfl : m = F := by omega
              have ha := HA.out
              rw [tv_last m u] at ha
              have HA2 := Lib.hid ha
              clear ha HA
              have hmm : ¬ (((m + 1 : Nat) : Int) ≤ (m : Int)) := by omega
              go_wp2
              exact ⟨⟨u + 1, by omega, by rw [show ((u + 1 + 1 : Nat) : Int) = (h : Int) + 1 from by have := HH.out; omega], HA2, HR, HB⟩, by simp [intOf]; omega⟩
        · obtain rfl : u = D := by omega
          have huu : ¬ (((u + 1 : Nat) : Int) ≤ (u : Int)) := by omega
          have hrg : World.rangeAt wr B (F * 65) (icells (rowR u F)) := by
            intro r v hv
            have hr65 : r < 65 := by have := (List.getElem?_eq_some_iff.1 hv).1; rwa [icells_length, rowR_length] at this
            rw [HA.out.cell (bs_row hf8 r hr65)]
            have h2 := rowR_get u F r hr65
            unfold icells at hv
            rw [List.getElem?_map, h2] at hv
            exact hv
          have HRG := Lib.hid hrg
          have hF0 : (0 : Int) ≤ (F : Int) := Int.natCast_nonneg _
          have hF9 : (F : Int) < 9 := by omega
          have HSZ := Lib.hid (show (icells (rowR u F)).length = 65 by rw [icells_length, rowR_length])
          have HONE := Lib.hid (show (icells (rowR u F)).toArray.all (·.oneCell') = true by
            rw [Array.all_eq_true_iff_forall_mem]
            intro v hv
            unfold icells at hv
            simp at hv
            obtain ⟨x, _, rfl⟩ := hv
            rfl)
          have HSZ0 := Lib.hid (show (icells (List.replicate 65 0)).toArray.size = 65 by simp [icells])
          clear hrg
          obtain ⟨cs, hcs⟩ : ∃ cs, icells (rowR u F) = cs := ⟨_, rfl⟩
          rw [hcs] at HRG HSZ HONE
          have HCS := Lib.hid hcs
          clear hcs
          have HR' : Hid (wr.heap[R]? = some (.cells (icells (List.replicate 65 0)).toArray 51 (0, 0))) := HR
          have HFIN := Lib.hid (setRow_heap wr R _ cs.toArray _ _ HR'.out)
          have HB5 := Lib.hid (below_setRow HB.out (Nat.le_refl R) cs.toArray)
          have hi65 : (Try.prog.info? 51).map (·.size) = some cs.length := by rw [HSZ.out]; kernel_rfl
          have HI65 := Lib.hid hi65
          clear hi65 HA HR HB
          go_wp2_with ((first | (with_reducible refine wpList_load_mid rfl 51 (.tmp 49) rfl B (F * 65) rfl cs _ HRG.out Try.underlying51 rfl HI65.out ?_) | (with_reducible refine wpList_store_row rfl 51 (.tmp 4) (.tmp 50) rfl R cs.toArray rfl rfl 51 (icells (List.replicate 65 0)).toArray HR'.out (by simpa using HI65.out) (by rw [HSZ0.out]; simpa using HSZ.out.symm) HONE.out ?_)))
          have hR : Ending.returned (.agg cs.toArray) = Ending.returned (.agg (icells (rowR u F)).toArray) := by rw [HCS.out]
          have hsz : (Try.prog.info? 51).map (·.size) = some cs.toArray.size := by simpa using HI65.out
          exact bodyPost_ret (v := .agg cs.toArray) (results_cell_row (p := 4) (ty := 51) rfl _ _ R 51 cs.toArray (0, 0) _ rfl HFIN.out Try.underlying51 rfl hsz) rfl ⟨hR, by rw [HRE.out]; exact HB5.out⟩
end Go.Proofs.Ytjjmeenapnemdaa.Area
