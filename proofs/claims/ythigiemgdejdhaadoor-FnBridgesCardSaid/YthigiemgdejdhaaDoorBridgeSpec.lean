/- What the model of chapter 16 returns: l16Above, BridgeOk (printed by wip/gen_bridgespec.py). -/
import Derived.Test.YthigiemgdejdhaaDoorBridge
import Derived.Test.YthigiemgdejdhaaDoorTabCount
import Derived.Test.YthigiemgdejdhaaDoorOrderSpec
namespace Go.Proofs.YthigiemgdejdhaaDoor.Tab
open Go.ChangeShapes Go.WideShapes Go.ChangeAt Go.RowKit
open Go.Proofs.YthigiemgdejdhaaDoor.Strip Go.Proofs.YthigiemgdejdhaaDoor.Kerf Go.Proofs.YthigiemgdejdhaaDoor.Order Go.Proofs.YthigiemgdejdhaaDoor.Area
set_option linter.unusedVariables false

theorem nowhere_iff {b c : List UInt8} : nowhereB b c = true ↔ ∀ k, k ≤ b.length → ff c k ≤ ff b k := by
  unfold nowhereB
  rw [List.all_eq_true]
  constructor
  · intro h k hk
    have h2 := h k (List.mem_range.2 (by omega))
    exact of_decide_eq_true h2
  · intro h k hk
    have hk := List.mem_range.1 hk
    exact decide_eq_true (h k (by omega))
theorem nowhere_no {b c : List UInt8} (k : Nat) (hk : k ≤ b.length) (h : ff b k < ff c k) : nowhereB b c = false := by
  cases hv : nowhereB b c with
  | false => rfl
  | true => have := nowhere_iff.1 hv k hk; omega
theorem count_d (x : ByteArray) (w : World) (hm : x.size ≤ 1048576) : Calls Tryd.prog 36 #[.string x, .int .u8 100] w fun e w' => e = .returned (.int .i64 (cnt 100 x.data.toList : Int)) ∧ w = w' := count_spec x 100 w hm
theorem count_f (x : ByteArray) (w : World) (hm : x.size ≤ 1048576) : Calls Tryd.prog 36 #[.string x, .int .u8 102] w fun e w' => e = .returned (.int .i64 (cnt 102 x.data.toList : Int)) ∧ w = w' := count_spec x 102 w hm

set_option maxRecDepth 100000 in
theorem nowhere_spec (s t : ByteArray) (w : World) (hsz : s.size ≤ 16) (htz : t.size = s.size) (h1 : okL s.data.toList = true) (h2 : okL t.data.toList = true) :
    Calls Tryd.prog 37 #[.string s, .string t] w fun e w' => e = .returned (.bool (nowhereB s.data.toList t.data.toList)) ∧ w = w' := by
  have hsl : s.data.toList.length = s.size := by simp
  have HSL := Lib.hid hsl
  have HS1 := Lib.hid h1
  have HS2 := Lib.hid h2
  have HTZ := Lib.hid htz
  clear hsl h1 h2 htz
  obtain ⟨v, hv⟩ : ∃ v, nowhereB s.data.toList t.data.toList = v := ⟨_, rfl⟩
  rw [hv]
  have HV := Lib.hid hv; clear hv
  go_enter Tryd.func37, Tryd.ntmps37
  go_wp2_with fail
  go_loop [5, 6] (fun n i => ∃ k : Nat, k ≤ s.size ∧ i = .int .i64 (k : Int) ∧ n = .int .i64 ((ff s.data.toList k : Int) - (ff t.data.toList k : Int)) ∧ Hid (∀ j, j ≤ k → ff t.data.toList j ≤ ff s.data.toList j)) (fun _ i => s.size - (intOf i).toNat)
  case atStart => exact ⟨0, Nat.zero_le _, rfl, by rw [ff_zero, ff_zero]; rfl, Lib.hid (above_start s.data.toList t.data.toList)⟩
  case round =>
    obtain ⟨k, hk, rfl, rfl, HG⟩ := hrel
    have hge := HG.out k (Nat.le_refl _)
    have hf1 := ff_le s.data.toList k
    have hf2 := ff_le t.data.toList k
    by_cases hlt : k < s.size
    · have hlt2 : k < t.size := by have := HTZ.out; omega
      have hk0 : (0 : Int) ≤ (k : Int) := Int.natCast_nonneg _
      have hk1 : (k : Int) < (s.size : Int) := by omega
      have hk2 : (k : Int) < (t.size : Int) := by omega
      have n1 := ff_next s k hlt
      have n2 := ff_next t k hlt2
      have o1 := ok_at HS1.out k (by rw [HSL.out]; exact hlt)
      have o2 := ok_at HS2.out k (by have := HTZ.out; simp; omega)
      rw [list_at s k hlt] at o1
      rw [list_at t k hlt2] at o2
      have HN := Lib.hid (fun (h : ff t.data.toList (k + 1) ≤ ff s.data.toList (k + 1)) => (show ∀ j, j ≤ k + 1 → ff t.data.toList j ≤ ff s.data.toList j from fun j hj => by
        by_cases e : j = k + 1
        · subst e; exact h
        · exact HG.out j (by omega)))
      have HNO := Lib.hid (fun (h : ff s.data.toList (k + 1) < ff t.data.toList (k + 1)) => (show v = false from by rw [← HV.out]; exact nowhere_no (k + 1) (by rw [HSL.out]; omega) h))
      obtain ⟨fa, hfa⟩ : ∃ fa, ff s.data.toList k = fa := ⟨_, rfl⟩
      obtain ⟨fb, hfb⟩ : ∃ fb, ff t.data.toList k = fb := ⟨_, rfl⟩
      obtain ⟨fa1, hfa1⟩ : ∃ fa1, ff s.data.toList (k + 1) = fa1 := ⟨_, rfl⟩
      obtain ⟨fb1, hfb1⟩ : ∃ fb1, ff t.data.toList (k + 1) = fb1 := ⟨_, rfl⟩
      have HA1 := Lib.hid hfa1
      have HB1 := Lib.hid hfb1
      rw [hfa, hfa1] at n1
      rw [hfb, hfb1] at n2
      rw [hfa, hfb] at hge
      rw [hfa] at hf1
      rw [hfb] at hf2
      rw [hfa, hfb]
      rw [hfa1, hfb1] at HN HNO
      clear hfa hfb hfa1 hfb1 HG
      rcases o1 with o1 | o1 <;> rcases o2 with o2 | o2
      · have b1 : ((s[k].toNat : Int) == 102) = false := byte_ne _ 102 (by rw [o1]; decide)
        have b2 : ((t[k].toNat : Int) == 102) = false := byte_ne _ 102 (by rw [o2]; decide)
        rw [if_neg (by rw [o1]; decide)] at n1
        rw [if_neg (by rw [o2]; decide)] at n2
        have HE1 := Lib.hid n1
        have HE2 := Lib.hid n2
        clear n1 n2 o1 o2
        go_wp2
        refine ⟨⟨k + 1, by omega, by go_num, ?_, Lib.hid (HN.out (by rw [HE1.out, HE2.out]; omega))⟩, by simp [intOf]; omega⟩
        rw [HA1.out, HB1.out, HE1.out, HE2.out]; first | rfl | go_num | (congr 1; omega)
      · have b1 : ((s[k].toNat : Int) == 102) = false := byte_ne _ 102 (by rw [o1]; decide)
        have b2 : ((t[k].toNat : Int) == 102) = true := byte_eq _ 102 o2
        rw [if_neg (by rw [o1]; decide)] at n1
        rw [if_pos (by rw [o2])] at n2
        have HE1 := Lib.hid n1
        have HE2 := Lib.hid n2
        clear n1 n2 o1 o2
        by_cases hq : fb < fa
        · have hd : ¬ ((fa : Int) - (fb : Int) - 1 < 0) := by omega
          go_wp2
          refine ⟨⟨k + 1, by omega, by go_num, ?_, Lib.hid (HN.out (by rw [HE1.out, HE2.out]; omega))⟩, by simp [intOf]; omega⟩
          rw [HA1.out, HB1.out, HE1.out, HE2.out]; first | rfl | go_num | (congr 1; omega)
        · have hd : (fa : Int) - (fb : Int) - 1 < 0 := by omega
          have hv := HNO.out (by rw [HE1.out, HE2.out]; omega)
          subst hv
          go_wp2
          go_ret
          exact ⟨rfl, rfl⟩
      · have b1 : ((s[k].toNat : Int) == 102) = true := byte_eq _ 102 o1
        have b2 : ((t[k].toNat : Int) == 102) = false := byte_ne _ 102 (by rw [o2]; decide)
        rw [if_pos (by rw [o1])] at n1
        rw [if_neg (by rw [o2]; decide)] at n2
        have HE1 := Lib.hid n1
        have HE2 := Lib.hid n2
        clear n1 n2 o1 o2
        go_wp2
        refine ⟨⟨k + 1, by omega, by go_num, ?_, Lib.hid (HN.out (by rw [HE1.out, HE2.out]; omega))⟩, by simp [intOf]; omega⟩
        rw [HA1.out, HB1.out, HE1.out, HE2.out]; first | rfl | go_num | (congr 1; omega)
      · have b1 : ((s[k].toNat : Int) == 102) = true := byte_eq _ 102 o1
        have b2 : ((t[k].toNat : Int) == 102) = true := byte_eq _ 102 o2
        rw [if_pos (by rw [o1])] at n1
        rw [if_pos (by rw [o2])] at n2
        have HE1 := Lib.hid n1
        have HE2 := Lib.hid n2
        clear n1 n2 o1 o2
        go_wp2
        refine ⟨⟨k + 1, by omega, by go_num, ?_, Lib.hid (HN.out (by rw [HE1.out, HE2.out]; omega))⟩, by simp [intOf]; omega⟩
        rw [HA1.out, HB1.out, HE1.out, HE2.out]; first | rfl | go_num | (congr 1; omega)
    · obtain rfl : k = s.size := by omega
      have hv : v = true := by rw [← HV.out, nowhere_iff]; exact fun j hj => HG.out j (by rw [HSL.out] at hj; exact hj)
      subst hv
      go_wp2
      go_ret
      exact ⟨rfl, rfl⟩

/-- BridgeOk of the model, told by what it asks one after another. -/
theorem okM_is (s : ByteArray) (p q : Int) (t : ByteArray) : okB s.data.toList p q t.data.toList =
    (stripB s.data.toList && decide (1 ≤ q ∧ q ≤ (s.size : Int)) && decide (0 ≤ p ∧ p ≤ q - 1) && decide ((t.size : Int) = q - p) &&
      (decide (cnt 100 t.data.toList = cnt 100 (partL s.data.toList p.toNat q.toNat)) && decide (cnt 102 t.data.toList = cnt 102 (partL s.data.toList p.toNat q.toNat)) && nowhereB t.data.toList (partL s.data.toList p.toNat q.toNat))) := by
  rw [← ok_both]
  unfold okM spanB
  have h1 : s.data.toList.length = s.size := by simp
  have h2 : t.data.toList.length = t.size := by simp
  rw [h1, h2]
  generalize stripB s.data.toList = x
  generalize (decide (cnt 100 t.data.toList = cnt 100 (partL s.data.toList p.toNat q.toNat)) && decide (cnt 102 t.data.toList = cnt 102 (partL s.data.toList p.toNat q.toNat)) && nowhereB t.data.toList (partL s.data.toList p.toNat q.toNat)) = y
  rw [show decide (0 ≤ p ∧ p < q ∧ q ≤ (s.size : Int)) = (decide (1 ≤ q ∧ q ≤ (s.size : Int)) && decide (0 ≤ p ∧ p ≤ q - 1)) from by
    rw [Bool.eq_iff_iff, Bool.and_eq_true]; simp only [decide_eq_true_eq]; omega]
  simp only [Bool.and_assoc]

set_option maxRecDepth 100000 in
set_option maxHeartbeats 2000000 in
theorem okB_spec (s : ByteArray) (p q : Int) (t : ByteArray) (w : World) (hm : s.size ≤ 1048576) (ht : t.size ≤ 1048576) :
    Calls Tryd.prog 14 #[.string s, .agg #[.int .i64 p, .int .i64 q, .string t]] w fun e w' =>
      e = .returned (.bool (okB s.data.toList p q t.data.toList)) ∧ Below w.heap.size w w' := by
  rw [okM_is]
  obtain ⟨W, hW⟩ : ∃ W, w.alloc (.cells #[.int .i64 p, .int .i64 q, .string t] 25) = W := ⟨_, rfl⟩
  have hv := GVar.new w p q t
  have hb := below_new w (.cells #[.int .i64 p, .int .i64 q, .string t] 25)
  rw [hW] at hv hb
  have HW := Lib.hid hW
  have HB := Lib.hid hb
  obtain ⟨v0, v1, v2⟩ := hv.cells
  clear hW hv hb
  have hst := fun w => is_spec s w hm
  cases hs : stripB s.data.toList with
  | false =>
    rw [hs] at hst
    have HIS := Lib.hid hst
    clear hst hs
    go_enter Tryd.func14, Tryd.ntmps14
    go_wp2_with fail
    rw [HW.out]
    go_wp2_with fail
    refine (HIS.out _).mono ?_
    rintro e w1 ⟨rfl, rfl⟩
    go_wp2
    go_ret
    exact ⟨rfl, HB.out⟩
  | true =>
    rw [hs] at hst
    have HIS := Lib.hid hst
    clear hst
    have hi1 := fun w => in_at q 1 (s.size : Int) w
    by_cases h1 : 1 ≤ q ∧ q ≤ (s.size : Int)
    · rw [decide_eq_true h1] at hi1 ⊢
      have HI1 := Lib.hid hi1
      clear hi1
      have hi2 := fun w => in_at p 0 (q - 1) w
      obtain ⟨h1a, h1b⟩ := h1
      by_cases h2 : 0 ≤ p ∧ p ≤ q - 1
      · rw [decide_eq_true h2] at hi2 ⊢
        have HI2 := Lib.hid hi2
        clear hi2
        obtain ⟨h2a, h2b⟩ := h2
        by_cases h3 : (t.size : Int) = q - p
        · rw [decide_eq_true h3]
          obtain ⟨P, rfl⟩ : ∃ P : Nat, p = (P : Int) := ⟨p.toNat, by omega⟩
          obtain ⟨Q, rfl⟩ : ∃ Q : Nat, q = (Q : Int) := ⟨q.toNat, by omega⟩
          rw [Int.toNat_natCast, Int.toNat_natCast]
          have hsz := size_small hs
          have hq1 : Q ≤ s.size := by omega
          have hb3 : ((t.size : Int) != (Q : Int) - (P : Int)) = false := by simp [h3]
          have hpz : (s.extract P Q).size = Q - P := by rw [ByteArray.size_extract]; omega
          have hk1 := fun w => count_d t w ht
          have hk2 := fun w => count_f t w ht
          have hk3 := fun w => count_d (s.extract P Q) w (by omega)
          have hk4 := fun w => count_f (s.extract P Q) w (by omega)
          have hnw := fun (h5 : okL t.data.toList = true) w => nowhere_spec t (s.extract P Q) w (by omega) (by omega) h5 (by rw [part_text]; exact part_ok (stripB_ok hs) P Q)
          have hok : cnt 100 t.data.toList = cnt 100 (partL s.data.toList P Q) → cnt 102 t.data.toList = cnt 102 (partL s.data.toList P Q) → okL t.data.toList = true := fun e1 e2 => by
            have h6 := cnt_sum _ (part_ok (stripB_ok hs) P Q)
            have h7 := part_length (l := s.data.toList) (p := P) (q := Q) (by simpa using hq1)
            refine ok_of _ ?_
            have h8 : t.data.toList.length = t.size := by simp
            omega
          rw [part_text] at hk3 hk4 hnw
          have HK1 := Lib.hid hk1
          have HK2 := Lib.hid hk2
          have HK3 := Lib.hid hk3
          have HK4 := Lib.hid hk4
          have HNW := Lib.hid hnw
          have HOK := Lib.hid hok
          have hP0 : (0 : Int) ≤ (P : Int) := Int.natCast_nonneg _
          have hP1 : (P : Int) ≤ (Q : Int) := by omega
          have hQ1 : (Q : Int) ≤ (s.size : Int) := by omega
          clear hk1 hk2 hk3 hk4 hnw hok hs hpz h3
          generalize nowhereB t.data.toList (partL s.data.toList P Q) = nb at *
          generalize cnt 100 t.data.toList = x1 at *
          generalize cnt 102 t.data.toList = x2 at *
          generalize cnt 100 (partL s.data.toList P Q) = y1 at *
          generalize cnt 102 (partL s.data.toList P Q) = y2 at *
          by_cases e1 : x1 = y1
          · have b1 : ((x1 : Int) != (y1 : Int)) = false := by simp [e1]
            by_cases e2 : x2 = y2
            · have b2 : ((x2 : Int) != (y2 : Int)) = false := by simp [e2]
              have HN := Lib.hid (HNW.out (HOK.out e1 e2))
              rw [decide_eq_true e1, decide_eq_true e2]
              clear HNW HOK e1 e2
              go_enter Tryd.func14, Tryd.ntmps14
              go_wp2_with fail
              rw [HW.out]
              go_wp2_with fail
              refine (HIS.out _).mono ?_
              rintro e w1 ⟨rfl, rfl⟩
              go_wp2_with fail
              refine (HI1.out _).mono ?_
              rintro e w1 ⟨rfl, rfl⟩
              go_wp2_with fail
              refine (HI2.out _).mono ?_
              rintro e w1 ⟨rfl, rfl⟩
              go_wp2_with fail
              refine (HK1.out _).mono ?_
              rintro e w1 ⟨rfl, rfl⟩
              go_wp2_with fail
              refine (HK3.out _).mono ?_
              rintro e w1 ⟨rfl, rfl⟩
              go_wp2_with fail
              refine (HK2.out _).mono ?_
              rintro e w1 ⟨rfl, rfl⟩
              go_wp2_with fail
              refine (HK4.out _).mono ?_
              rintro e w1 ⟨rfl, rfl⟩
              go_wp2_with fail
              refine (HN.out _).mono ?_
              rintro e w1 ⟨rfl, rfl⟩
              go_wp2
              go_ret
              exact ⟨rfl, HB.out⟩
            · have b2 : ((x2 : Int) != (y2 : Int)) = true := by simp; omega
              rw [decide_eq_false e2, Bool.and_false, Bool.false_and, Bool.and_false]
              clear HNW HOK e1 e2
              go_enter Tryd.func14, Tryd.ntmps14
              go_wp2_with fail
              rw [HW.out]
              go_wp2_with fail
              refine (HIS.out _).mono ?_
              rintro e w1 ⟨rfl, rfl⟩
              go_wp2_with fail
              refine (HI1.out _).mono ?_
              rintro e w1 ⟨rfl, rfl⟩
              go_wp2_with fail
              refine (HI2.out _).mono ?_
              rintro e w1 ⟨rfl, rfl⟩
              go_wp2_with fail
              refine (HK1.out _).mono ?_
              rintro e w1 ⟨rfl, rfl⟩
              go_wp2_with fail
              refine (HK3.out _).mono ?_
              rintro e w1 ⟨rfl, rfl⟩
              go_wp2_with fail
              refine (HK2.out _).mono ?_
              rintro e w1 ⟨rfl, rfl⟩
              go_wp2_with fail
              refine (HK4.out _).mono ?_
              rintro e w1 ⟨rfl, rfl⟩
              go_wp2
              go_ret
              exact ⟨rfl, HB.out⟩
          · have b1 : ((x1 : Int) != (y1 : Int)) = true := by simp; omega
            rw [decide_eq_false e1, Bool.false_and, Bool.false_and, Bool.and_false]
            clear HNW HOK e1
            go_enter Tryd.func14, Tryd.ntmps14
            go_wp2_with fail
            rw [HW.out]
            go_wp2_with fail
            refine (HIS.out _).mono ?_
            rintro e w1 ⟨rfl, rfl⟩
            go_wp2_with fail
            refine (HI1.out _).mono ?_
            rintro e w1 ⟨rfl, rfl⟩
            go_wp2_with fail
            refine (HI2.out _).mono ?_
            rintro e w1 ⟨rfl, rfl⟩
            go_wp2_with fail
            refine (HK1.out _).mono ?_
            rintro e w1 ⟨rfl, rfl⟩
            go_wp2_with fail
            refine (HK3.out _).mono ?_
            rintro e w1 ⟨rfl, rfl⟩
            go_wp2
            go_ret
            exact ⟨rfl, HB.out⟩
        · have hb3 : ((t.size : Int) != q - p) = true := by simp; omega
          rw [decide_eq_false h3, Bool.and_false, Bool.false_and]
          go_enter Tryd.func14, Tryd.ntmps14
          go_wp2_with fail
          rw [HW.out]
          go_wp2_with fail
          refine (HIS.out _).mono ?_
          rintro e w1 ⟨rfl, rfl⟩
          go_wp2_with fail
          refine (HI1.out _).mono ?_
          rintro e w1 ⟨rfl, rfl⟩
          go_wp2_with fail
          refine (HI2.out _).mono ?_
          rintro e w1 ⟨rfl, rfl⟩
          go_wp2
          go_ret
          exact ⟨rfl, HB.out⟩
      · rw [decide_eq_false h2] at hi2 ⊢
        have HI2 := Lib.hid hi2
        clear hi2
        rw [Bool.and_false, Bool.false_and, Bool.false_and]
        go_enter Tryd.func14, Tryd.ntmps14
        go_wp2_with fail
        rw [HW.out]
        go_wp2_with fail
        refine (HIS.out _).mono ?_
        rintro e w1 ⟨rfl, rfl⟩
        go_wp2_with fail
        refine (HI1.out _).mono ?_
        rintro e w1 ⟨rfl, rfl⟩
        go_wp2_with fail
        refine (HI2.out _).mono ?_
        rintro e w1 ⟨rfl, rfl⟩
        go_wp2
        go_ret
        exact ⟨rfl, HB.out⟩
    · rw [decide_eq_false h1] at hi1 ⊢
      have HI1 := Lib.hid hi1
      clear hi1
      rw [Bool.and_false, Bool.false_and, Bool.false_and, Bool.false_and]
      go_enter Tryd.func14, Tryd.ntmps14
      go_wp2_with fail
      rw [HW.out]
      go_wp2_with fail
      refine (HIS.out _).mono ?_
      rintro e w1 ⟨rfl, rfl⟩
      go_wp2_with fail
      refine (HI1.out _).mono ?_
      rintro e w1 ⟨rfl, rfl⟩
      go_wp2
      go_ret
      exact ⟨rfl, HB.out⟩
end Go.Proofs.YthigiemgdejdhaaDoor.Tab
