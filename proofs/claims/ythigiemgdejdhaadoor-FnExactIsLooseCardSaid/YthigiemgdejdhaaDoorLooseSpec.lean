/- What IsLoose of the model returns. -/
import Derived.Test.YthigiemgdejdhaaDoorTabSpec
namespace Go.Proofs.YthigiemgdejdhaaDoor.Tab
open Go.ChangeShapes Go.WideShapes Go.ChangeAt Go.RowKit
open Go.Proofs.YthigiemgdejdhaaDoor.Strip Go.Proofs.YthigiemgdejdhaaDoor.Kerf Go.Proofs.YthigiemgdejdhaaDoor.Order Go.Proofs.YthigiemgdejdhaaDoor.Area
set_option linter.unusedVariables false

theorem count_to2 (x : ByteArray) (k : Nat) (w : World) (hm : x.size ≤ 1048576) : Calls Tryd.prog 36 #[.string (x.extract 0 k), .int .u8 102] w fun e w' => e = .returned (.int .i64 (ff x.data.toList k : Int)) ∧ w = w' := by
  have h := count_f (x.extract 0 k) w (by rw [ByteArray.size_extract]; omega)
  rw [take_str] at h
  exact h
theorem wrap_small {n : Int} (h0 : 0 ≤ n) (h1 : n ≤ 1000) : IntKind.i64.wrap n = n := by
  unfold IntKind.wrap
  simp [IntKind.signed, IntKind.bits]
  omega
theorem part_take (l : List UInt8) {P Q k : Nat} (h : P + k ≤ Q) : partL l P (P + k) = (partL l P Q).take k := by
  unfold partL
  rw [List.take_drop, List.take_take, Nat.min_eq_left h]
theorem count_in (x : ByteArray) (P Q k : Nat) (w : World) (hm : x.size ≤ 1048576) (hk : P + k ≤ Q) : Calls Tryd.prog 36 #[.string (x.extract P (P + k)), .int .u8 102] w fun e w' => e = .returned (.int .i64 (ff (partL x.data.toList P Q) k : Int)) ∧ w = w' := by
  have h := count_f (x.extract P (P + k)) w (by rw [ByteArray.size_extract]; omega)
  rw [part_text, part_take _ hk] at h
  exact h
theorem loose_no {l b : List UInt8} {P Q : Nat} {k : Nat} (hk : k < b.length) (h0 : 1 ≤ k) (h : ff b k = ff (partL l P Q) k) : looseB l P Q b = false := by
  unfold looseB
  rw [Bool.and_eq_false_iff]
  right
  rw [← Bool.not_eq_true, List.all_eq_true]
  intro hc
  have h3 := hc k (List.mem_range.2 hk)
  rw [decide_eq_true_eq, Int.toNat_natCast, Int.toNat_natCast] at h3
  omega
theorem loose_all {l b : List UInt8} {P Q : Nat} (hok : okB l P Q b = true) (h : ∀ k, 1 ≤ k → k < b.length → ff b k ≠ ff (partL l P Q) k) : looseB l P Q b = true := by
  unfold looseB
  rw [hok, Bool.true_and, List.all_eq_true]
  intro k hk
  have hk := List.mem_range.1 hk
  rw [decide_eq_true_eq, Int.toNat_natCast, Int.toNat_natCast]
  rcases Nat.eq_zero_or_pos k with e | e
  · exact .inl e
  · exact .inr (h k e hk)

set_option maxRecDepth 100000 in
set_option maxHeartbeats 2000000 in
theorem loose_spec (s : ByteArray) (p q : Int) (t : ByteArray) (w : World) (hm : s.size ≤ 1048576) (ht : t.size ≤ 1048576) :
    Calls Tryd.prog 26 #[.string s, .agg #[.int .i64 p, .int .i64 q, .string t]] w fun e w' =>
      e = .returned (.bool (looseB s.data.toList p q t.data.toList)) ∧ Below w.heap.size w w' := by
  obtain ⟨W, hW, hv, hb⟩ := startG w p q t
  have HW := Lib.hid hW
  have HB := Lib.hid hb
  have HV := Lib.hid hv
  have hkk := fun w => okB_spec s p q t w hm ht
  obtain ⟨v0, v1, v2⟩ := hv.cells
  clear hW hv hb
  cases hok : okB s.data.toList p q t.data.toList with
  | false =>
    rw [show looseB s.data.toList p q t.data.toList = false from by unfold looseB; rw [hok]; rfl]
    rw [hok] at hkk
    have HK := Lib.hid hkk
    clear hkk hok
    go_enter Tryd.func26, Tryd.ntmps26
    go_wp2_with fail
    rw [HW.out]
    go_wp2_with fail
    refine (HK.out _).mono ?_
    rintro e w1 ⟨rfl, hb⟩
    have HB2 := Lib.hid (HB.out.trans (hb.mono HB.out.size))
    clear hb v0 v1 v2
    go_wp2
    go_ret
    exact ⟨rfl, HB2.out⟩
  | true =>
    obtain ⟨P, Q, rfl, rfl, hPQ, hql, hbl, hst, _⟩ := ok_nat hok
    have htl : t.data.toList.length = t.size := by simp
    have HYES := Lib.hid (fun hk => loose_all hok hk)
    have HNO := Lib.hid (fun k h1 h2 hk => loose_no (l := s.data.toList) (b := t.data.toList) (P := P) (Q := Q) (k := k) h1 h2 hk)
    have hsz := size_small hst
    have hql : Q ≤ s.size := by simpa using hql
    rw [hok] at hkk
    have HK := Lib.hid hkk
    rw [htl] at HYES HNO hbl
    clear hok hst htl hkk
    generalize looseB s.data.toList P Q t.data.toList = lb at *
    have hP0 : (0 : Int) ≤ (P : Int) := Int.natCast_nonneg _
    have hP1 : (P : Int) ≤ 16 := by omega
    go_enter Tryd.func26, Tryd.ntmps26
    go_wp2_with fail
    rw [HW.out]
    go_wp2_with fail
    refine (HK.out _).mono ?_
    rintro e w1 ⟨rfl, hb⟩
    have HV2 := Lib.hid (HV.out.below hb)
    have HB2 := Lib.hid (HB.out.trans (hb.mono HB.out.size))
    clear hb v0 v1 v2
    go_wp2_with fail
    go_loopw [5] (fun i wr => ∃ k : Nat, 1 ≤ k ∧ k ≤ t.size ∧ i = .int .i64 (k : Int) ∧ Hid (∀ j, 1 ≤ j → j < k → ff t.data.toList j ≠ ff (partL s.data.toList P Q) j) ∧ Hid (GVar wr w.heap.size P Q t) ∧ Hid (Below w.heap.size w wr)) (fun i _ => t.size - (intOf i).toNat)
    case atStart => exact ⟨1, by omega, by omega, rfl, Lib.hid (fun j h1 h2 => by omega), HV2, HB2⟩
    case round =>
      clear HV2 HB2
      obtain ⟨k, h1, h2, rfl, HF, HV2, HB2⟩ := hrel
      obtain ⟨u0, u1, u2⟩ := HV2.out.cells
      have hk0 : (0 : Int) ≤ (k : Int) := Int.natCast_nonneg _
      by_cases hlt : k < t.size
      · have hk1 : (k : Int) < (t.size : Int) := by omega
        have hcz := fun w => count_to2 t k w ht
        obtain ⟨m, hmk⟩ : ∃ m, P + k = m := ⟨_, rfl⟩
        have hcs := fun w => count_in s P Q k w hm (by omega)
        rw [hmk] at hcs
        have hm1 : (m : Int) ≤ (s.size : Int) := by omega
        have hm2 : (P : Int) ≤ (m : Int) := by omega
        have hm3 : IntKind.i64.wrap ((P : Int) + (k : Int)) = (m : Int) := by
          rw [show (P : Int) + (k : Int) = (m : Int) by omega]
          exact wrap_small (by omega) (by omega)
        clear hmk
        have HFK := Lib.hid (fun j (h1 : 1 ≤ j) (h2 : j < k + 1) (hn : ff t.data.toList k ≠ ff (partL s.data.toList P Q) k) => show ff t.data.toList j ≠ ff (partL s.data.toList P Q) j by
          by_cases e : j = k
          · rw [e]; exact hn
          · exact HF.out j h1 (by omega))
        have HNK := Lib.hid (HNO.out k hlt h1)
        clear HF HNO HYES
        generalize ff t.data.toList k = x at *
        generalize ff (partL s.data.toList P Q) k = y at *
        have HCZ := Lib.hid hcz
        have HCS := Lib.hid hcs
        clear hcz hcs
        go_wp2_with fail
        go_quiet ((go_at_call 36; first | (with_reducible refine qsame (HCZ.out _)) | (with_reducible refine qsame (HCS.out _))))
        by_cases hxy : x = y
        · have HL := Lib.hid (HNK.out hxy)
          have hb : ((x : Int) == (y : Int)) = true := by simp [hxy]
          clear hxy
          go_wp2_with fail
          go_ret
          exact ⟨by rw [HL.out]; rfl, HB2.out.trans ((Strip.below_drewN wr _).mono HB2.out.size)⟩
        · have hb : ((x : Int) == (y : Int)) = false := by simp; omega
          have HFN := Lib.hid (fun j h1 h2 => HFK.out j h1 h2 hxy)
          clear hxy
          go_wp2
          go_roundw
          case rel => exact ⟨k + 1, by omega, by omega, by go_num, HFN, Lib.hid (HV2.out.below (Strip.below_drewN wr _)), Lib.hid (HB2.out.trans ((Strip.below_drewN wr _).mono HB2.out.size))⟩
          case measure => simp [intOf]; omega
      · obtain rfl : k = t.size := by omega
        have hk1 : ¬ ((t.size : Int) < (t.size : Int)) := by omega
        have hl := HYES.out (fun j a b => HF.out j a b)
        have HL := Lib.hid hl
        clear hl
        go_wp2
        go_ret
        exact ⟨by rw [HL.out]; rfl, HB2.out⟩
end Go.Proofs.YthigiemgdejdhaaDoor.Tab
