/- What the model of chapter 8 returns: IsAbove, l08Mix, UpperOf, LowerOf, AreComparable (printed by wip/gen_orderspec.py). -/
import Derived.Test.YthigiemgdejdhaaDoorOrderMath
import Derived.Test.YthigiemgdejdhaaDoorKerfSpec2
import Derived.Lib.MinMax
namespace Go.Proofs.YthigiemgdejdhaaDoor.Order
open Go.ChangeShapes Go.WideShapes Go.ChangeAt Go.RowKit
open Go.Proofs.YthigiemgdejdhaaDoor.Strip Go.Proofs.YthigiemgdejdhaaDoor.Kerf
set_option linter.unusedVariables false

theorem cat_lists2 (a b : List UInt8) : (⟨a.toArray⟩ : ByteArray) ++ ⟨b.toArray⟩ = ⟨(a ++ b).toArray⟩ := by
  apply ByteArray.ext
  simp [ByteArray.data_append]
theorem above_no {a b : List UInt8} (k : Nat) (hk : k ≤ a.length) (h : ff a k < ff b k) : aboveB a b = false := by
  cases hc : aboveB a b with
  | false => rfl
  | true =>
    have := (above_iff.1 hc).2 k hk
    omega
theorem above_start (a b : List UInt8) : ∀ j, j ≤ 0 → ff b j ≤ ff a j := by
  intro j hj
  obtain rfl : j = 0 := by omega
  rw [ff_zero, ff_zero]
  exact Nat.le_refl _
theorem size_same {s t : ByteArray} (h : sameB s.data.toList t.data.toList = true) : t.size = s.size := by
  have h5 := (same_facts h).2.2.2.2
  simpa using h5.symm
theorem strip_len {l : List UInt8} (h : stripB l = true) : l.length ≤ 16 := by
  have h1 := cnt_sum l (stripB_ok h)
  have h2 := stripB_frame h
  unfold frameB at h2
  simp only [decide_eq_true_eq] at h2
  omega
theorem size_small {s : ByteArray} (h : stripB s.data.toList = true) : s.size ≤ 16 := by
  have := strip_len h
  simpa using this

set_option maxRecDepth 100000 in
set_option maxHeartbeats 4000000 in
theorem above_spec (s t : ByteArray) (w : World) (hm : s.size ≤ 1048576) (hm' : t.size ≤ 1048576) :
    Calls Tryd.prog 17 #[.string s, .string t] w fun e w' => e = .returned (.bool (aboveB s.data.toList t.data.toList)) ∧ w = w' := by
  have hsl : s.data.toList.length = s.size := by simp
  have HSL := Lib.hid hsl; clear hsl
  have hsm := fun w => same_spec s t w hm hm'
  cases hst : sameB s.data.toList t.data.toList with
  | false =>
    rw [hst] at hsm
    have HSM := Lib.hid hsm; clear hsm
    rw [show aboveB s.data.toList t.data.toList = false from by unfold aboveB; rw [hst]; rfl]
    go_enter Tryd.func17, Tryd.ntmps17
    go_wp2_with fail
    refine (HSM.out _).mono ?_
    rintro e w' ⟨rfl, rfl⟩
    go_wp2
    go_ret
    exact ⟨rfl, rfl⟩
  | true =>
    rw [hst] at hsm
    have HSM := Lib.hid hsm; clear hsm
    have HST := Lib.hid hst
    have hsz := size_small (same_facts hst).1
    have htz := size_same hst
    have HS1 := Lib.hid (stripB_ok (same_facts hst).1)
    have HS2 := Lib.hid (stripB_ok (same_facts hst).2.1)
    have HTZ := Lib.hid htz
    clear hst htz
    obtain ⟨v, hv⟩ : ∃ v, aboveB s.data.toList t.data.toList = v := ⟨_, rfl⟩
    rw [hv]
    have HV := Lib.hid hv; clear hv
    go_enter Tryd.func17, Tryd.ntmps17
    go_wp2_with fail
    refine (HSM.out _).mono ?_
    rintro e w' ⟨rfl, rfl⟩
    go_wp2_with fail
    go_loop [5, 6] (fun n i => ∃ k : Nat, k ≤ s.size ∧ i = .int .i64 (k : Int) ∧ n = .int .i64 ((ff s.data.toList k : Int) - (ff t.data.toList k : Int)) ∧ Hid (∀ j, j ≤ k → ff t.data.toList j ≤ ff s.data.toList j)) (fun _ i => s.size - (intOf i).toNat)
    case atStart => exact ⟨0, Nat.zero_le _, rfl, by rw [ff_zero, ff_zero]; rfl, Lib.hid (above_start s.data.toList t.data.toList)⟩
    case round =>
      obtain ⟨k, hk, rfl, rfl, HG⟩ := hrel
      have hge := HG.out k (Nat.le_refl _)
      have hf1 := ff_le s.data.toList k
      have hf2 := ff_le t.data.toList k
      by_cases hlt : k < s.size
      · have hlt2 : k < t.size := by have := HTZ.out; omega
        have hk0 : (0 : Int) ≤ (k : Int) := Int.natCast_nonneg _
        have hk1 : (k : Int) < (s.size : Int) := by omega
        have hk2 : (k : Int) < (t.size : Int) := by omega
        have n1 := ff_next s k hlt
        have n2 := ff_next t k hlt2
        have o1 := ok_at HS1.out k (by rw [HSL.out]; exact hlt)
        have o2 := ok_at HS2.out k (by have := HTZ.out; simp; omega)
        rw [list_at s k hlt] at o1
        rw [list_at t k hlt2] at o2
        have HN := Lib.hid (fun (h : ff t.data.toList (k + 1) ≤ ff s.data.toList (k + 1)) => (show ∀ j, j ≤ k + 1 → ff t.data.toList j ≤ ff s.data.toList j from fun j hj => by
          by_cases e : j = k + 1
          · subst e; exact h
          · exact HG.out j (by omega)))
        have HNO := Lib.hid (fun (h : ff s.data.toList (k + 1) < ff t.data.toList (k + 1)) => (show v = false from by rw [← HV.out]; exact above_no (k + 1) (by rw [HSL.out]; omega) h))
        obtain ⟨fa, hfa⟩ : ∃ fa, ff s.data.toList k = fa := ⟨_, rfl⟩
        obtain ⟨fb, hfb⟩ : ∃ fb, ff t.data.toList k = fb := ⟨_, rfl⟩
        obtain ⟨fa1, hfa1⟩ : ∃ fa1, ff s.data.toList (k + 1) = fa1 := ⟨_, rfl⟩
        obtain ⟨fb1, hfb1⟩ : ∃ fb1, ff t.data.toList (k + 1) = fb1 := ⟨_, rfl⟩
        have HA1 := Lib.hid hfa1
        have HB1 := Lib.hid hfb1
        rw [hfa, hfa1] at n1
        rw [hfb, hfb1] at n2
        rw [hfa, hfb] at hge
        rw [hfa] at hf1
        rw [hfb] at hf2
        rw [hfa, hfb]
        rw [hfa1, hfb1] at HN HNO
        clear hfa hfb hfa1 hfb1 HG
        rcases o1 with o1 | o1 <;> rcases o2 with o2 | o2
        · have b1 : ((s[k].toNat : Int) == 102) = false := byte_ne _ 102 (by rw [o1]; decide)
          have b2 : ((t[k].toNat : Int) == 102) = false := byte_ne _ 102 (by rw [o2]; decide)
          rw [if_neg (by rw [o1]; decide)] at n1
          rw [if_neg (by rw [o2]; decide)] at n2
          have HE1 := Lib.hid n1
          have HE2 := Lib.hid n2
          clear n1 n2 o1 o2
          go_wp2
          refine ⟨⟨k + 1, by omega, by go_num, ?_, Lib.hid (HN.out (by rw [HE1.out, HE2.out]; omega))⟩, by simp [intOf]; omega⟩
          rw [HA1.out, HB1.out, HE1.out, HE2.out]; first | rfl | go_num | (congr 1; omega)
        · have b1 : ((s[k].toNat : Int) == 102) = false := byte_ne _ 102 (by rw [o1]; decide)
          have b2 : ((t[k].toNat : Int) == 102) = true := byte_eq _ 102 o2
          rw [if_neg (by rw [o1]; decide)] at n1
          rw [if_pos (by rw [o2])] at n2
          have HE1 := Lib.hid n1
          have HE2 := Lib.hid n2
          clear n1 n2 o1 o2
          by_cases hq : fb < fa
          · have hd : ¬ ((fa : Int) - (fb : Int) - 1 < 0) := by omega
            go_wp2
            refine ⟨⟨k + 1, by omega, by go_num, ?_, Lib.hid (HN.out (by rw [HE1.out, HE2.out]; omega))⟩, by simp [intOf]; omega⟩
            rw [HA1.out, HB1.out, HE1.out, HE2.out]; first | rfl | go_num | (congr 1; omega)
          · have hd : (fa : Int) - (fb : Int) - 1 < 0 := by omega
            have hv := HNO.out (by rw [HE1.out, HE2.out]; omega)
            subst hv
            go_wp2
            go_ret
            exact ⟨rfl, rfl⟩
        · have b1 : ((s[k].toNat : Int) == 102) = true := byte_eq _ 102 o1
          have b2 : ((t[k].toNat : Int) == 102) = false := byte_ne _ 102 (by rw [o2]; decide)
          rw [if_pos (by rw [o1])] at n1
          rw [if_neg (by rw [o2]; decide)] at n2
          have HE1 := Lib.hid n1
          have HE2 := Lib.hid n2
          clear n1 n2 o1 o2
          go_wp2
          refine ⟨⟨k + 1, by omega, by go_num, ?_, Lib.hid (HN.out (by rw [HE1.out, HE2.out]; omega))⟩, by simp [intOf]; omega⟩
          rw [HA1.out, HB1.out, HE1.out, HE2.out]; first | rfl | go_num | (congr 1; omega)
        · have b1 : ((s[k].toNat : Int) == 102) = true := byte_eq _ 102 o1
          have b2 : ((t[k].toNat : Int) == 102) = true := byte_eq _ 102 o2
          rw [if_pos (by rw [o1])] at n1
          rw [if_pos (by rw [o2])] at n2
          have HE1 := Lib.hid n1
          have HE2 := Lib.hid n2
          clear n1 n2 o1 o2
          go_wp2
          refine ⟨⟨k + 1, by omega, by go_num, ?_, Lib.hid (HN.out (by rw [HE1.out, HE2.out]; omega))⟩, by simp [intOf]; omega⟩
          rw [HA1.out, HB1.out, HE1.out, HE2.out]; first | rfl | go_num | (congr 1; omega)
      · obtain rfl : k = s.size := by omega
        have hv : v = true := by rw [← HV.out, above_iff]; exact ⟨HST.out, fun j hj => HG.out j (by rw [HSL.out] at hj; exact hj)⟩
        subst hv
        go_wp2
        go_ret
        exact ⟨rfl, rfl⟩

/-- What AreComparable returns. -/
def compB (a b : List UInt8) : Bool := aboveB a b || aboveB b a
end Go.Proofs.YthigiemgdejdhaaDoor.Order
