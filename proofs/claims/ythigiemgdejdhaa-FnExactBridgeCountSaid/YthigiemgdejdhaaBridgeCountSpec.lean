/- What BridgeCount of the model returns (printed by wip/gen_bcountspec.py: the loops are those of CountAbove). -/
import Derived.Test.YthigiemgdejdhaaTabCount
import Derived.Test.YthigiemgdejdhaaAreaUpSpec
namespace Go.Proofs.Ythigiemgdejdhaa.Tab
open Go.ChangeShapes Go.WideShapes Go.ChangeAt Go.RowKit
open Go.Proofs.Ythigiemgdejdhaa.Strip Go.Proofs.Ythigiemgdejdhaa.Ints Go.Proofs.Ythigiemgdejdhaa.Corner Go.Proofs.Ythigiemgdejdhaa.Kerf Go.Proofs.Ythigiemgdejdhaa.Order Go.Proofs.Ythigiemgdejdhaa.Area
set_option linter.unusedVariables false

theorem span_two (l : List UInt8) (n : Nat) (hn : l.length = n) (p q : Int) : spanB l p q = (stripB l && decide (1 ≤ q ∧ q ≤ (n : Int)) && decide (0 ≤ p ∧ p ≤ q - 1)) := by
  unfold spanB
  rw [hn, Bool.and_assoc]
  congr 1
  rw [Bool.eq_iff_iff, Bool.and_eq_true]
  simp only [decide_eq_true_eq]
  omega

set_option maxRecDepth 100000 in
set_option maxHeartbeats 4000000 in
theorem bcount_spec (o : ByteArray) (p q : Int) (w : World) (hm : o.size ≤ 1048576) :
    Calls Try.prog 4 #[.string o, .int .i64 p, .int .i64 q] w fun e w' => e = .returned (.int .i64 (countV o.data.toList p q)) ∧ Below w.heap.size w w' := by
  have hsp := span_two o.data.toList o.size (by simp) p q
  have hst := fun w => is_spec o w hm
  cases hs : stripB o.data.toList with
  | false =>
    rw [hs] at hsp hst
    rw [show countV o.data.toList p q = 0 from by unfold countV; rw [hsp]; rfl]
    have HIS := Lib.hid hst
    clear hst hs hsp
    go_enter Try.func4, Try.ntmps4
    go_wp2_with fail
    refine (HIS.out _).mono ?_
    rintro e w1 ⟨rfl, rfl⟩
    go_wp2
    go_ret
    exact ⟨rfl, Below.refl _ _⟩
  | true =>
    rw [hs, Bool.true_and] at hsp
    rw [hs] at hst
    have HIS := Lib.hid hst
    clear hst
    have hi1 := fun w => in_at q 1 (o.size : Int) w
    by_cases h1 : 1 ≤ q ∧ q ≤ (o.size : Int)
    · rw [decide_eq_true h1] at hi1 hsp
      rw [Bool.true_and] at hsp
      have HI1 := Lib.hid hi1
      clear hi1
      obtain ⟨h1a, h1b⟩ := h1
      have hi2 := fun w => in_at p 0 (q - 1) w
      by_cases h2 : 0 ≤ p ∧ p ≤ q - 1
      · rw [decide_eq_true h2] at hi2 hsp
        have HI2 := Lib.hid hi2
        clear hi2
        obtain ⟨h2a, h2b⟩ := h2
        rw [show countV o.data.toList p q = (aboveN (partL o.data.toList p.toNat q.toNat) : Int) from by unfold countV; rw [hsp]; rfl]
        obtain ⟨P, rfl⟩ : ∃ P : Nat, p = (P : Int) := ⟨p.toNat, by omega⟩
        obtain ⟨Q, rfl⟩ : ∃ Q : Nat, q = (Q : Int) := ⟨q.toNat, by omega⟩
        rw [Int.toNat_natCast, Int.toNat_natCast, ← part_text]
        have hok := part_ok (stripB_ok hs) P Q
        have hc1 := part_cnt o.data.toList P Q 100
        have hc2 := part_cnt o.data.toList P Q 102
        rw [← part_text] at hok hc1 hc2
        have hfr := stripB_frame hs
        unfold frameB at hfr
        simp only [decide_eq_true_eq] at hfr
        have hP0 : (0 : Int) ≤ (P : Int) := Int.natCast_nonneg _
        have hP1 : (P : Int) ≤ (Q : Int) := by omega
        have hQ1 : (Q : Int) ≤ (o.size : Int) := by omega
        have hsz0 : (o.extract P Q).size ≤ o.size := by rw [ByteArray.size_extract]; omega
        have hcf := fun w => count_spec (o.extract P Q) 102 w (by omega)
        have hbd : cnt 100 (o.extract P Q).data.toList ≤ 8 ∧ cnt 102 (o.extract P Q).data.toList ≤ 8 := by omega
        obtain ⟨s, hse⟩ : ∃ s, o.extract P Q = s := ⟨_, rfl⟩
        rw [hse] at hok hcf hbd ⊢
        have HSE := Lib.hid hse
        clear hs hsp hc1 hc2 hfr hsz0 hse
        have hsl : s.data.toList.length = s.size := by simp
        have hsum := cnt_sum _ hok
        rw [hsl] at hsum
        have HAB := Lib.hid (show aboveN s.data.toList = dg (okA s.data.toList) s.size (cnt 102 s.data.toList) by unfold aboveN; rw [hsl])
        have HFF := Lib.hid (fun k (h : k < s.size) => ff_next s k h)
        have HFL := Lib.hid (ff_le s.data.toList)
        clear hok hsl
        generalize s.data.toList = l at *
        obtain ⟨D, hD⟩ : ∃ D, cnt 100 l = D := ⟨_, rfl⟩
        obtain ⟨F, hF⟩ : ∃ F, cnt 102 l = F := ⟨_, rfl⟩
        have HDE := Lib.hid hD
        rw [hD] at hsum hbd
        rw [hF] at hcf hsum hbd HAB
        obtain ⟨hd8, hf8⟩ := hbd
        have hsz : s.size ≤ 16 := by omega
        clear hD hF
        have HSUM := Lib.hid hsum
        have HCF := Lib.hid hcf
        clear hsum hcf
        go_enter Try.func4, Try.ntmps4
        go_wp2_with fail
        refine (HIS.out _).mono ?_
        rintro e w1 ⟨rfl, rfl⟩
        go_wp2_with fail
        refine (HI1.out _).mono ?_
        rintro e w1 ⟨rfl, rfl⟩
        go_wp2_with fail
        refine (HI2.out _).mono ?_
        rintro e w1 ⟨rfl, rfl⟩
        go_wp2_with fail
        clear HIS HI1 HI2 h1a h1b h2a h2b hP0 hP1 hQ1
        rw [HSE.out]
        clear HSE
        refine (HCF.out _).mono ?_
        rintro e w1 ⟨rfl, rfl⟩
        have hsub : (s.size : Int) - (F : Int) = (D : Int) := by have := HSUM.out; omega
        clear HCF HSUM
        obtain ⟨w1, hmk, ha1, hb1⟩ := make_ints w (F + 1) (by omega)
        have hmk := hmk ((F : Int) + 1) (by omega)
        have hc := ha1.cell (j := 0) (x := 0) (by rw [List.getElem?_replicate, if_pos (by omega)])
        have hfz := ha1.free 0
        have ha := ha1.set 0 1
        rw [drow_zero l F] at ha
        have HA := Lib.hid ha
        have HB := Lib.hid (hb1.setCell (p := ⟨w.heap.size, 0, none⟩) (Nat.le_refl _) (.int .i64 1))
        clear ha ha1 hb1
        go_wp2_with fail
        clear hmk hc hfz
        generalize w1.setCell ⟨w.heap.size, 0, none⟩ (.int .i64 1) = W1 at *
        go_loopw [10, 11, 12] (fun v x i wr => ∃ k g : Nat, k ≤ s.size ∧ i = .int .i64 (k : Int) ∧ x = .int .i64 (ff l k : Int) ∧ v = .slice (some ⟨g, 0, none⟩) (F + 1) (F + 1) ∧ Hid (ArrT wr g 3 (drow l k F)) ∧ Hid (Below w.heap.size w wr)) (fun _ _ i _ => s.size - (intOf i).toNat)
        case atStart => exact ⟨0, w.heap.size, Nat.zero_le _, rfl, by rw [ff_zero]; rfl, rfl, HA, HB⟩
        case round =>
          clear HA HB
          obtain ⟨k, g, hk, rfl, rfl, rfl, HA, HB⟩ := hrel
          by_cases hlt : k < s.size
          · have hk0 : (0 : Int) ≤ (k : Int) := Int.natCast_nonneg _
            have hk1 : (k : Int) < (s.size : Int) := by omega
            obtain ⟨W2, hmk, ha2, hb2⟩ := make_ints wr (F + 1) (by omega)
            have hmk := hmk ((F : Int) + 1) (by omega)
            rw [← nrow_zero l k F] at ha2
            have HN := Lib.hid ha2
            have HA2 := Lib.hid (HA.out.below hb2)
            have HB2 := Lib.hid (HB.out.trans (hb2.mono HB.out.size))
            have hG : g ≠ wr.heap.size := by have := HA.out.lt; omega
            have HGB := Lib.hid HB.out.size
            have hfl := HFL.out (k + 1)
            have hfl0 := HFL.out k
            obtain ⟨b, hb, hL⟩ : ∃ b, ((s[k].toNat : Int) == 102) = b ∧ (b = true ∧ (ff l k : Int) + 1 = (ff l (k + 1) : Int) ∨ b = false ∧ (ff l k : Int) = (ff l (k + 1) : Int)) := by
              have h := HFF.out k hlt
              by_cases e : s[k] = 102
              · rw [if_pos e] at h
                exact ⟨true, byte_eq _ 102 e, .inl ⟨rfl, by omega⟩⟩
              · rw [if_neg e] at h
                exact ⟨false, byte_ne _ 102 e, .inr ⟨rfl, by omega⟩⟩
            clear ha2 hb2 HA HB
            generalize wr.heap.size = G at *
            rcases hL with ⟨rfl, hL⟩ | ⟨rfl, hL⟩
            · have HL := Lib.hid hL
              clear hL
              go_wp2_with fail
              rw [HL.out]
              have HOT := Lib.hid (fun x (h : ff l (k + 1) ≤ x ∧ k + 1 ≤ D + x) => show okA l (k + 1) x = true from okA_iff.2 (by rw [HDE.out]; exact h))
              have HOF := Lib.hid (fun x (h : ¬ (ff l (k + 1) ≤ x ∧ k + 1 ≤ D + x)) => show okA l (k + 1) x = false from okA_not.2 (by rw [HDE.out]; exact h))
              have HSM := Lib.hid (fun x => dg_small l k x (by omega))
              have HFN := Lib.hid (nrow_all l k F)
              have HGN := Lib.hid hG
              clear hmk hfl0 hb HL hG
              obtain ⟨L, hLL⟩ : ∃ L, ff l (k + 1) = L := ⟨_, rfl⟩
              rw [hLL] at HOT HOF hfl ⊢
              have HLL := Lib.hid hLL
              clear hLL
              go_loopw [14] (fun i wr => ∃ x : Nat, x ≤ F + 1 ∧ i = .int .i64 (x : Int) ∧ Hid (ArrT wr G 3 (nrow l k F x)) ∧ Hid (ArrT wr g 3 (drow l k F)) ∧ Hid (Below w.heap.size w wr)) (fun i _ => F + 1 - (intOf i).toNat)
              case atStart => exact ⟨0, Nat.zero_le _, rfl, HN, HA2, HB2⟩
              case round =>
                clear HN HA2 HB2
                obtain ⟨x, hx, rfl, HN, HA, HB⟩ := hrel
                have hx0 : (0 : Int) ≤ (x : Int) := Int.natCast_nonneg _
                by_cases hxl : x ≤ F
                · have hx1 : (x : Int) ≤ (F : Int) := by omega
                  have h1 := HA.out.cell (drow_at l k F x hxl)
                  have hs1 := HSM.out x
                  rcases Nat.eq_zero_or_pos x with hx2 | hx2
                  · have HPUT := Lib.hid (fun (h : okA l (k + 1) x = true) => nrow_put (l := l) (k := k) (F := F) (q := x) (n := dg (okA l) k x) hxl (by rw [hx2] at h ⊢; exact dg_zero h))
                    have hx3 : decide (0 < (x : Int)) = false := by rw [hx2]; rfl
                    have hx4 : decide (0 < x) = false := by rw [hx2]; rfl
                    clear hx2
                    generalize dg (okA l) k x = p at *
                    by_cases c1 : L ≤ x
                    · have d1 : (L : Int) ≤ (x : Int) := by omega
                      by_cases c2 : k + 1 ≤ D + x
                      · have d2 : (k : Int) + 1 - (x : Int) ≤ (D : Int) := by omega
                        have hz := HN.out.free x
                        have hv := HN.out.cell (j := x) (nrow_at l k F x x (by omega))
                        rw [if_neg (by omega)] at hv
                        have ha := HN.out.set (x) ((p : Int) : Int)
                        rw [HPUT.out (HOT.out _ (by omega))] at ha
                        have HN2 := Lib.hid ha
                        have HA2 := Lib.hid (HA.out.other (c := G) (j := x) (x := .int .i64 ((p : Int))) HGN.out)
                        have HB2 := Lib.hid (HB.out.setCell (p := ⟨G, x, none⟩) HGB.out (.int .i64 ((p : Int))))
                        clear ha HN HA HB
                        go_wp2
                        go_roundw
                        case rel => exact ⟨x + 1, by omega, by go_num, HN2, HA2, HB2⟩
                        case measure => simp [intOf]; omega
                      · have d2 : ¬ ((k : Int) + 1 - (x : Int) ≤ (D : Int)) := by omega
                        go_wp2
                        go_roundw
                        case rel => exact ⟨x + 1, by omega, by go_num, by rw [← nrow_skip (HOF.out _ (by omega))]; exact HN, HA, HB⟩
                        case measure => simp [intOf]; omega
                    · have d1 : ¬ ((L : Int) ≤ (x : Int)) := by omega
                      go_wp2
                      go_roundw
                      case rel => exact ⟨x + 1, by omega, by go_num, by rw [← nrow_skip (HOF.out _ (by omega))]; exact HN, HA, HB⟩
                      case measure => simp [intOf]; omega
                  · obtain ⟨y, rfl⟩ : ∃ y, x = y + 1 := ⟨x - 1, by omega⟩
                    clear hx2
                    have h2 := HA.out.cell (drow_at l k F y (by omega))
                    have hs2 := HSM.out y
                    have HPUT := Lib.hid (fun (h : okA l (k + 1) (y + 1) = true) => nrow_put (l := l) (k := k) (F := F) (q := y + 1) (n := dg (okA l) k (y + 1) + dg (okA l) k y) (by omega) (dg_succ h))
                    generalize dg (okA l) k (y + 1) = p at *
                    generalize dg (okA l) k y = q at *
                    have hpq : ((p + q : Nat) : Int) = (p : Int) + (q : Int) := by omega
                    rw [hpq] at HPUT
                    rw [show ((y + 1 : Nat) : Int) = (y : Int) + 1 from by omega] at hx0 hx1 ⊢
                    have hy0 : (0 : Int) ≤ (y : Int) := Int.natCast_nonneg _
                    have hy1 : (y : Int) < (F : Int) := by omega
                    have e2 : ((y : Int) + 1).toNat = y + 1 := by omega
                    clear hpq
                    by_cases c1 : L ≤ y + 1
                    · have d1 : (L : Int) ≤ (y : Int) + 1 := by omega
                      by_cases c2 : k + 1 ≤ D + (y + 1)
                      · have d2 : (k : Int) + 1 - ((y : Int) + 1) ≤ (D : Int) := by omega
                        have hz := HN.out.free (y + 1)
                        have hv := HN.out.cell (j := (y + 1)) (nrow_at l k F (y + 1) (y + 1) (by omega))
                        rw [if_neg (by omega)] at hv
                        have ha := HN.out.set ((y + 1)) ((p : Int) + (q : Int) : Int)
                        rw [HPUT.out (HOT.out _ (by omega))] at ha
                        have HN2 := Lib.hid ha
                        have HA2 := Lib.hid (HA.out.other (c := G) (j := (y + 1)) (x := .int .i64 ((p : Int) + (q : Int))) HGN.out)
                        have HB2 := Lib.hid (HB.out.setCell (p := ⟨G, (y + 1), none⟩) HGB.out (.int .i64 ((p : Int) + (q : Int))))
                        clear ha HN HA HB
                        go_wp2
                        go_roundw
                        case rel => exact ⟨(y + 1) + 1, by omega, by go_num, HN2, HA2, HB2⟩
                        case measure => simp [intOf]; omega
                      · have d2 : ¬ ((k : Int) + 1 - ((y : Int) + 1) ≤ (D : Int)) := by omega
                        go_wp2
                        go_roundw
                        case rel => exact ⟨(y + 1) + 1, by omega, by go_num, by rw [← nrow_skip (HOF.out _ (by omega))]; exact HN, HA, HB⟩
                        case measure => simp [intOf]; omega
                    · have d1 : ¬ ((L : Int) ≤ (y : Int) + 1) := by omega
                      go_wp2
                      go_roundw
                      case rel => exact ⟨(y + 1) + 1, by omega, by go_num, by rw [← nrow_skip (HOF.out _ (by omega))]; exact HN, HA, HB⟩
                      case measure => simp [intOf]; omega
                · obtain rfl : x = F + 1 := by omega
                  have hx1 : ¬ (((F + 1 : Nat) : Int) ≤ (F : Int)) := by omega
                  have ha := HN.out
                  rw [HFN.out] at ha
                  have HN := Lib.hid ha
                  clear ha
                  go_wp2
                  exact ⟨⟨k + 1, G, by omega, by go_num, by rw [HLL.out], rfl, HN, HB⟩, by simp [intOf]; omega⟩
            · have HL := Lib.hid hL
              clear hL
              go_wp2_with fail
              rw [HL.out]
              have HOT := Lib.hid (fun x (h : ff l (k + 1) ≤ x ∧ k + 1 ≤ D + x) => show okA l (k + 1) x = true from okA_iff.2 (by rw [HDE.out]; exact h))
              have HOF := Lib.hid (fun x (h : ¬ (ff l (k + 1) ≤ x ∧ k + 1 ≤ D + x)) => show okA l (k + 1) x = false from okA_not.2 (by rw [HDE.out]; exact h))
              have HSM := Lib.hid (fun x => dg_small l k x (by omega))
              have HFN := Lib.hid (nrow_all l k F)
              have HGN := Lib.hid hG
              clear hmk hfl0 hb HL hG
              obtain ⟨L, hLL⟩ : ∃ L, ff l (k + 1) = L := ⟨_, rfl⟩
              rw [hLL] at HOT HOF hfl ⊢
              have HLL := Lib.hid hLL
              clear hLL
              go_loopw [14] (fun i wr => ∃ x : Nat, x ≤ F + 1 ∧ i = .int .i64 (x : Int) ∧ Hid (ArrT wr G 3 (nrow l k F x)) ∧ Hid (ArrT wr g 3 (drow l k F)) ∧ Hid (Below w.heap.size w wr)) (fun i _ => F + 1 - (intOf i).toNat)
              case atStart => exact ⟨0, Nat.zero_le _, rfl, HN, HA2, HB2⟩
              case round =>
                clear HN HA2 HB2
                obtain ⟨x, hx, rfl, HN, HA, HB⟩ := hrel
                have hx0 : (0 : Int) ≤ (x : Int) := Int.natCast_nonneg _
                by_cases hxl : x ≤ F
                · have hx1 : (x : Int) ≤ (F : Int) := by omega
                  have h1 := HA.out.cell (drow_at l k F x hxl)
                  have hs1 := HSM.out x
                  rcases Nat.eq_zero_or_pos x with hx2 | hx2
                  · have HPUT := Lib.hid (fun (h : okA l (k + 1) x = true) => nrow_put (l := l) (k := k) (F := F) (q := x) (n := dg (okA l) k x) hxl (by rw [hx2] at h ⊢; exact dg_zero h))
                    have hx3 : decide (0 < (x : Int)) = false := by rw [hx2]; rfl
                    have hx4 : decide (0 < x) = false := by rw [hx2]; rfl
                    clear hx2
                    generalize dg (okA l) k x = p at *
                    by_cases c1 : L ≤ x
                    · have d1 : (L : Int) ≤ (x : Int) := by omega
                      by_cases c2 : k + 1 ≤ D + x
                      · have d2 : (k : Int) + 1 - (x : Int) ≤ (D : Int) := by omega
                        have hz := HN.out.free x
                        have hv := HN.out.cell (j := x) (nrow_at l k F x x (by omega))
                        rw [if_neg (by omega)] at hv
                        have ha := HN.out.set (x) ((p : Int) : Int)
                        rw [HPUT.out (HOT.out _ (by omega))] at ha
                        have HN2 := Lib.hid ha
                        have HA2 := Lib.hid (HA.out.other (c := G) (j := x) (x := .int .i64 ((p : Int))) HGN.out)
                        have HB2 := Lib.hid (HB.out.setCell (p := ⟨G, x, none⟩) HGB.out (.int .i64 ((p : Int))))
                        clear ha HN HA HB
                        go_wp2
                        go_roundw
                        case rel => exact ⟨x + 1, by omega, by go_num, HN2, HA2, HB2⟩
                        case measure => simp [intOf]; omega
                      · have d2 : ¬ ((k : Int) + 1 - (x : Int) ≤ (D : Int)) := by omega
                        go_wp2
                        go_roundw
                        case rel => exact ⟨x + 1, by omega, by go_num, by rw [← nrow_skip (HOF.out _ (by omega))]; exact HN, HA, HB⟩
                        case measure => simp [intOf]; omega
                    · have d1 : ¬ ((L : Int) ≤ (x : Int)) := by omega
                      go_wp2
                      go_roundw
                      case rel => exact ⟨x + 1, by omega, by go_num, by rw [← nrow_skip (HOF.out _ (by omega))]; exact HN, HA, HB⟩
                      case measure => simp [intOf]; omega
                  · obtain ⟨y, rfl⟩ : ∃ y, x = y + 1 := ⟨x - 1, by omega⟩
                    clear hx2
                    have h2 := HA.out.cell (drow_at l k F y (by omega))
                    have hs2 := HSM.out y
                    have HPUT := Lib.hid (fun (h : okA l (k + 1) (y + 1) = true) => nrow_put (l := l) (k := k) (F := F) (q := y + 1) (n := dg (okA l) k (y + 1) + dg (okA l) k y) (by omega) (dg_succ h))
                    generalize dg (okA l) k (y + 1) = p at *
                    generalize dg (okA l) k y = q at *
                    have hpq : ((p + q : Nat) : Int) = (p : Int) + (q : Int) := by omega
                    rw [hpq] at HPUT
                    rw [show ((y + 1 : Nat) : Int) = (y : Int) + 1 from by omega] at hx0 hx1 ⊢
                    have hy0 : (0 : Int) ≤ (y : Int) := Int.natCast_nonneg _
                    have hy1 : (y : Int) < (F : Int) := by omega
                    have e2 : ((y : Int) + 1).toNat = y + 1 := by omega
                    clear hpq
                    by_cases c1 : L ≤ y + 1
                    · have d1 : (L : Int) ≤ (y : Int) + 1 := by omega
                      by_cases c2 : k + 1 ≤ D + (y + 1)
                      · have d2 : (k : Int) + 1 - ((y : Int) + 1) ≤ (D : Int) := by omega
                        have hz := HN.out.free (y + 1)
                        have hv := HN.out.cell (j := (y + 1)) (nrow_at l k F (y + 1) (y + 1) (by omega))
                        rw [if_neg (by omega)] at hv
                        have ha := HN.out.set ((y + 1)) ((p : Int) + (q : Int) : Int)
                        rw [HPUT.out (HOT.out _ (by omega))] at ha
                        have HN2 := Lib.hid ha
                        have HA2 := Lib.hid (HA.out.other (c := G) (j := (y + 1)) (x := .int .i64 ((p : Int) + (q : Int))) HGN.out)
                        have HB2 := Lib.hid (HB.out.setCell (p := ⟨G, (y + 1), none⟩) HGB.out (.int .i64 ((p : Int) + (q : Int))))
                        clear ha HN HA HB
                        go_wp2
                        go_roundw
                        case rel => exact ⟨(y + 1) + 1, by omega, by go_num, HN2, HA2, HB2⟩
                        case measure => simp [intOf]; omega
                      · have d2 : ¬ ((k : Int) + 1 - ((y : Int) + 1) ≤ (D : Int)) := by omega
                        go_wp2
                        go_roundw
                        case rel => exact ⟨(y + 1) + 1, by omega, by go_num, by rw [← nrow_skip (HOF.out _ (by omega))]; exact HN, HA, HB⟩
                        case measure => simp [intOf]; omega
                    · have d1 : ¬ ((L : Int) ≤ (y : Int) + 1) := by omega
                      go_wp2
                      go_roundw
                      case rel => exact ⟨(y + 1) + 1, by omega, by go_num, by rw [← nrow_skip (HOF.out _ (by omega))]; exact HN, HA, HB⟩
                      case measure => simp [intOf]; omega
                · obtain rfl : x = F + 1 := by omega
                  have hx1 : ¬ (((F + 1 : Nat) : Int) ≤ (F : Int)) := by omega
                  have ha := HN.out
                  rw [HFN.out] at ha
                  have HN := Lib.hid ha
                  clear ha
                  go_wp2
                  exact ⟨⟨k + 1, G, by omega, by go_num, by rw [HLL.out], rfl, HN, HB⟩, by simp [intOf]; omega⟩
          · obtain rfl : k = s.size := by omega
            have hc := HA.out.cell (drow_at l s.size F F (Nat.le_refl _))
            rw [← HAB.out] at hc
            go_wp2
            go_ret
            exact ⟨rfl, HB.out⟩
      · rw [decide_eq_false h2] at hi2 hsp
        rw [show countV o.data.toList p q = 0 from by unfold countV; rw [hsp]; rfl]
        have HI2 := Lib.hid hi2
        clear hi2 hsp
        go_enter Try.func4, Try.ntmps4
        go_wp2_with fail
        refine (HIS.out _).mono ?_
        rintro e w1 ⟨rfl, rfl⟩
        go_wp2_with fail
        refine (HI1.out _).mono ?_
        rintro e w1 ⟨rfl, rfl⟩
        go_wp2_with fail
        refine (HI2.out _).mono ?_
        rintro e w1 ⟨rfl, rfl⟩
        go_wp2
        go_ret
        exact ⟨rfl, Below.refl _ _⟩
    · rw [decide_eq_false h1] at hi1 hsp
      rw [Bool.false_and] at hsp
      rw [show countV o.data.toList p q = 0 from by unfold countV; rw [hsp]; rfl]
      have HI1 := Lib.hid hi1
      clear hi1 hsp
      go_enter Try.func4, Try.ntmps4
      go_wp2_with fail
      refine (HIS.out _).mono ?_
      rintro e w1 ⟨rfl, rfl⟩
      go_wp2_with fail
      refine (HI1.out _).mono ?_
      rintro e w1 ⟨rfl, rfl⟩
      go_wp2
      go_ret
      exact ⟨rfl, Below.refl _ _⟩
end Go.Proofs.Ythigiemgdejdhaa.Tab
