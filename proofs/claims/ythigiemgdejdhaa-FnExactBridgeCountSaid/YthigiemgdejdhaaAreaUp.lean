/- What the program of chapter 9 returns: CountAbove. -/
import Derived.Test.YthigiemgdejdhaaAreaArr
import Derived.Test.YthigiemgdejdhaaAreaNum
namespace Go.Proofs.Ythigiemgdejdhaa.Area
open Go.ChangeShapes Go.WideShapes Go.ChangeAt Go.RowKit
open Go.Proofs.Ythigiemgdejdhaa.Strip Go.Proofs.Ythigiemgdejdhaa.Ints Go.Proofs.Ythigiemgdejdhaa.Corner Go.Proofs.Ythigiemgdejdhaa.Kerf Go.Proofs.Ythigiemgdejdhaa.Order
set_option linter.unusedVariables false

theorem own_other {w : World} {B j : Nat} {v x : Value} {l : List Int} (h : Own w (B + 1) v l) : Own (w.setCell ⟨B, j, none⟩ x) (B + 1) v l :=
  World.ownsRow.kept h (grown_set w B j x) (by
    cases hb : v.ownBlock with
    | none => exact .inl rfl
    | some b =>
      right
      intro e
      have := (h.lt b hb).1
      have : b = B := Option.some.inj e
      omega)

theorem own_irow {w : World} {base n c : Nat} {a : Option Addr} {l : List Int} (h : Own w base (.slice a n c) l) : IRow w a l := by
  obtain ⟨a', c', e, hr, _⟩ := h.row
  cases e
  exact hr

set_option maxRecDepth 100000 in
set_option maxHeartbeats 2000000 in
theorem up_impl (s : ByteArray) (w : World) (hm : s.size ≤ 1048576) :
    Calls Try.prog 10 #[.string s] w fun e w' => e = .returned (.int .i64 (aboveI s.data.toList)) ∧ Below w.heap.size w w' := by
  have HI := Lib.hid (fun w => is_impl s w hm)
  cases hs : stripB s.data.toList with
  | false =>
    have hz : aboveI s.data.toList = 0 := by unfold aboveI; rw [hs]; rfl
    rw [hz]
    rw [hs] at HI
    go_enter Try.func10, Try.ntmps10
    go_wp2_with fail
    refine (HI.out _).mono ?_
    rintro e w' ⟨rfl, hb⟩
    have HB := Lib.hid hb; clear hb
    go_wp2
    go_ret
    exact ⟨rfl, HB.out⟩
  | true =>
    have hz : aboveI s.data.toList = (aboveN s.data.toList : Int) := by unfold aboveI; rw [hs]; rfl
    rw [hz, ← hrow_sum hs]
    clear hz
    rw [hs] at HI
    have hdn := fun w => down_impl s w hm
    have hnum : numV 100 s.data.toList = (cnt 100 s.data.toList : Int) := by unfold numV; rw [hs]; rfl
    rw [hnum] at hdn
    have HD := Lib.hid hdn
    have HH := Lib.hid (fun w => heights_impl s w hm hs)
    have hf := stripB_frame hs
    unfold frameB at hf
    simp only [decide_eq_true_eq] at hf
    have HLW := Lib.hid (fun i (hi : i < cnt 102 s.data.toList) => low_iff (stripB_ok hs) hi (cnt 100 s.data.toList : Int))
    have HLN := Lib.hid (hts_length s.data.toList (cnt 100 s.data.toList : Int))
    have HZ := Lib.hid (hrow_zero s.data.toList)
    have hd8 : cnt 100 s.data.toList ≤ 8 := by omega
    have hf8 : cnt 102 s.data.toList ≤ 8 := by omega
    have HIN := Lib.hid (hrow_in hd8 (k := cnt 102 s.data.toList) hf8)
    have HW := Lib.hid (fun k h (hk : k ≤ 9) => wy_bound s.data.toList k h hk hd8)
    clear hdn hnum hs
    generalize s.data.toList = l at *
    obtain ⟨D, hD⟩ : ∃ D, cnt 100 l = D := ⟨_, rfl⟩
    obtain ⟨F, hF⟩ : ∃ F, cnt 102 l = F := ⟨_, rfl⟩
    have HDE := Lib.hid hD
    have HFE := Lib.hid hF
    rw [hD] at HD HH HLN HLW hf hd8 HZ
    rw [hF] at HLN HLW hf hf8 HIN ⊢
    clear hD hF
    go_enter Try.func10, Try.ntmps10
    go_wp2_with fail
    refine (HI.out _).mono ?_
    rintro e w1 ⟨rfl, hb⟩
    have HB := Lib.hid hb; clear hb
    go_wp2_with fail
    have ha0 : ArrT (w1.alloc (.cells #[.int .i64 0, .int .i64 0, .int .i64 0, .int .i64 0, .int .i64 0, .int .i64 0, .int .i64 0, .int .i64 0, .int .i64 0] 29)) w1.heap.size 29 (List.replicate 9 0) := heap_alloc_new w1 _
    have HA := Lib.hid ha0
    have HBW := Lib.hid HB.out.size
    have HB := Lib.hid (HB.out.alloc HB.out.size (.cells #[.int .i64 0, .int .i64 0, .int .i64 0, .int .i64 0, .int .i64 0, .int .i64 0, .int .i64 0, .int .i64 0, .int .i64 0] 29))
    clear ha0
    generalize w1.alloc (.cells #[.int .i64 0, .int .i64 0, .int .i64 0, .int .i64 0, .int .i64 0, .int .i64 0, .int .i64 0, .int .i64 0, .int .i64 0] 29) = W0 at *
    obtain ⟨B, hB⟩ : ∃ B, w1.heap.size = B := ⟨_, rfl⟩
    rw [hB] at HA HBW ⊢
    clear hB HI
    refine (HD.out _).mono ?_
    rintro e w2 ⟨rfl, hb⟩
    have HA := Lib.hid (HA.out.below hb)
    have HB := Lib.hid (HB.out.trans (hb.mono HB.out.size))
    clear hb HD
    have hc := HA.out.cell (j := D) (x := 0) (by rw [List.getElem?_replicate, if_pos (by omega)])
    have hfz := HA.out.free D
    have hD0 : (0 : Int) ≤ (D : Int) := Int.natCast_nonneg _
    have hD9 : (D : Int) < 9 := by omega
    have ha := HA.out.set D 1
    rw [HZ.out] at ha
    have HA := Lib.hid ha
    have HB := Lib.hid (HB.out.setCell (p := ⟨B, D, none⟩) HBW.out (.int .i64 1))
    clear ha HZ
    go_wp2_with fail
    clear hc hfz
    generalize w2.setCell ⟨B, D, none⟩ (.int .i64 1) = W2 at *
    have HSW := Lib.hid (show B + 1 ≤ W2.heap.size from HA.out.lt)
    refine (HH.out _).mono ?_
    rintro e w3 ⟨v, rfl, hb, ho⟩
    have HA := Lib.hid (HA.out.below hb)
    have HO := Lib.hid ho
    have HB := Lib.hid (HB.out.trans (hb.mono HB.out.size))
    clear hb ho HH
    have HO : Hid (Own w3 (B + 1) v (hts (D : Int) l)) := HO.out.mono HSW.out
    obtain ⟨a, c, rfl, _, _⟩ := HO.out.row
    rw [HLN.out]
    rw [HLN.out] at HO
    have HSB := Lib.hid HA.out.lt
    clear HSW
    go_wp2_with fail
    go_loopw [18] (fun i wr => ∃ k : Nat, k ≤ F ∧ i = .int .i64 (k : Int) ∧ Hid (ArrT wr B 29 (hrow l k)) ∧ Hid (Own wr (B + 1) (.slice a F c) (hts D l)) ∧ Hid (Below w.heap.size w wr)) (fun i _ => F - (intOf i).toNat)
    case atStart => exact ⟨0, Nat.zero_le _, rfl, HA, HO, HB⟩
    case round =>
      clear HA HO HB HSB
      obtain ⟨k, hk, rfl, HA, HO, HB⟩ := hrel
      by_cases hlt : k < F
      · obtain ⟨p, hp1, hp2, hp3⟩ := HLW.out k hlt
        have jk : k < (hts (D : Int) l).length := by rw [HLN.out]; exact hlt
        obtain ⟨g, rfl, hg, hcl⟩ := own_irow HO.out k jk
        rw [List.getElem?_eq_getElem jk] at hp1
        rw [Option.some.inj hp1] at hcl
        have HP3 := Lib.hid hp3
        clear hp1 hp3 jk hg
        have hk0 : (0 : Int) ≤ (k : Int) := Int.natCast_nonneg _
        have hk1 : (k : Int) < (F : Int) := by omega
        have hA := HA.out
        rw [← mix_top, HDE.out] at hA
        have HA := Lib.hid hA
        clear hA
        go_wp2_with fail
        go_loopw [7] (fun x wr => ∃ q : Nat, D ≤ p + q ∧ q ≤ D ∧ x = .int .i64 ((q : Int) - 1) ∧ Hid (ArrT wr B 29 (mixR l k q)) ∧ Hid (Own wr (B + 1) (.slice (some ⟨g, 0, none⟩) F c) (hts D l)) ∧ Hid (Below w.heap.size w wr)) (fun x _ => (intOf x + 1).toNat)
        case atStart => exact ⟨D, by omega, by omega, rfl, HA, HO, HB⟩
        case round =>
          clear HA HO HB hcl
          obtain ⟨q, hq1, hq2, rfl, HA, HO, HB⟩ := hrel
          by_cases hgo : D ≤ p + q - 1 ∧ 1 ≤ q
          · obtain ⟨r, rfl⟩ : ∃ r, q = r + 1 := ⟨q - 1, by omega⟩
            rw [show ((r + 1 : Nat) : Int) - 1 = (r : Int) from by omega]
            have h1 := HA.out.cell (j := r) (mixR_at l k (r + 1) r (by omega))
            rw [if_neg (by omega)] at h1
            have h2 := HA.out.cell (j := r + 1) (mixR_at l k (r + 1) (r + 1) (by omega))
            rw [if_pos (Nat.le_refl _)] at h2
            have hst := wy_in (l := l) (i := k) (h := r) (by rw [HDE.out]; omega) (by rw [HDE.out]; exact (HP3.out (D - r) (by omega)).1 (by omega))
            have ha := HA.out.set r ((wy l k r : Int) + (wy l (k + 1) (r + 1) : Int))
            rw [mix_next hst] at ha
            have HA2 := Lib.hid ha
            have hz := HA.out.free r
            have hw1 := HW.out k r (by omega)
            have hw2 := HW.out (k + 1) (r + 1) (by omega)
            have HO2 := Lib.hid (own_other (j := r) (x := .int .i64 ((wy l k r : Int) + (wy l (k + 1) (r + 1) : Int))) HO.out)
            have HB2 := Lib.hid (HB.out.setCell (p := ⟨B, r, none⟩) HBW.out (.int .i64 ((wy l k r : Int) + (wy l (k + 1) (r + 1) : Int))))
            clear ha hst HA HO HB
            generalize wy l k r = x at *
            generalize wy l (k + 1) (r + 1) = y at *
            have hr0 : (0 : Int) ≤ (r : Int) := Int.natCast_nonneg _
            have hr9 : (r : Int) + 1 < 9 := by omega
            have hr8 : (r : Int) < 9 := by omega
            have hrl : (D : Int) - (p : Int) ≤ (r : Int) := by omega
            have e1 : IntKind.i64.wrap ((r : Int) + 1) = (r : Int) + 1 := IntWalk.i64_in _ (by omega)
            have e2 : ((r : Int) + 1).toNat = r + 1 := by omega
            have e3 : IntKind.i64.wrap ((x : Int) + (y : Int)) = (x : Int) + (y : Int) := IntWalk.i64_in _ (by omega)
            go_wp2_with fail
            go_region
            clear h1 h2 hz e1 e2 e3
            have HA3 : Hid (ArrT (wr.setCell ⟨B, r, none⟩ (.int .i64 ((x : Int) + (y : Int)))).drew B 29 (mixR l k r)) := HA2
            have HO3 : Hid (Own (wr.setCell ⟨B, r, none⟩ (.int .i64 ((x : Int) + (y : Int)))).drew (B + 1) (.slice (some ⟨g, 0, none⟩) F c) (hts (D : Int) l)) := HO2
            have HB3 := Lib.hid HB2.out.drew
            clear HA2 HO2 HB2
            generalize (wr.setCell ⟨B, r, none⟩ (.int .i64 ((x : Int) + (y : Int)))).drew = W4 at *
            go_wp2
            go_roundw
            case rel => exact ⟨r, by omega, by omega, by go_num, HA3, HO3, HB3⟩
            case measure => simp [intOf]
          · have hqe : q + p = D ∨ q = 0 := by omega
            have hst : mixR l k q = hrow l (k + 1) := mix_low fun h hh => wy_out (by
              rw [HDE.out]
              have h3 := HP3.out (D - h) (by omega)
              by_cases h4 : ff l (k + (D - h)) ≤ k
              · have := h3.2 h4; omega
              · omega)
            have ha := HA.out
            rw [hst] at ha
            have HA2 := Lib.hid ha
            clear ha hst HA
            have hlow : ¬ ((D : Int) - (p : Int) ≤ (q : Int) - 1) := by omega
            go_wp2
            exact ⟨⟨k + 1, by omega, by go_num, HA2, HO, HB⟩, by simp [intOf]; omega⟩
      · obtain rfl : k = F := by omega
        go_wp2_with fail
        refine (sum_impl (some ⟨B, 0, none⟩) 9 9 (hrow l k) _ (hrow_length l k) (by omega) HIN.out HA.out.irow).mono ?_
        rintro e w' ⟨rfl, rfl⟩
        go_wp2
        go_ret
        exact ⟨rfl, HB.out⟩
end Go.Proofs.Ythigiemgdejdhaa.Area
