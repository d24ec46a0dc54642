/- What the model of chapter 3 returns: FromRuns. -/
import Derived.Test.YtnkompcampnpoaaCornerSpec2
namespace Go.Proofs.Ytnkompcampnpoaa.Corner
open Go.ChangeShapes Go.WideShapes Go.ChangeAt Go.RowKit
open Go.Proofs.Ytnkompcampnpoaa.Strip Go.Proofs.Ytnkompcampnpoaa.Ints
set_option linter.unusedVariables false

theorem from_spec_none (first : ByteArray) (rs : List Int) (a : Option Addr) (c : Nat) (hf : firstB first = none) (w : World) :
    Calls Try.prog 29 #[.string first, .slice a rs.length c] w fun e w' => e = .returned (.string ⟨(fromL first rs).toArray⟩) ∧ Below w.heap.size w w' := by
  rw [from_none hf]
  have e1 : (first.toList == [100]) = false := by
    rw [ByteArray.toList_eq]
    unfold firstB at hf
    by_cases h : first.data.toList = [100]
    · rw [if_pos h] at hf; cases hf
    · simpa using h
  have e2 : (first.toList == [102]) = false := by
    rw [ByteArray.toList_eq]
    unfold firstB at hf
    by_cases h1 : first.data.toList = [100]
    · rw [if_pos h1] at hf; cases hf
    · rw [if_neg h1] at hf
      by_cases h : first.data.toList = [102]
      · rw [if_pos h] at hf; cases hf
      · simpa using h
  go_enter Try.func29, Try.ntmps29
  go_wp2
  go_ret
  exact ⟨rfl, Below.refl _ _⟩

set_option maxRecDepth 100000 in
theorem from_spec_false (rs : List Int) (a : Option Addr) (c : Nat) (w : World) (hn : rs.length ≤ 1048576) (hr : IRow w a rs) :
    Calls Try.prog 29 #[.string ⟨#[100]⟩, .slice a rs.length c] w fun e w' => e = .returned (.string ⟨(fromL ⟨#[100]⟩ rs).toArray⟩) ∧ Below w.heap.size w w' := by
  have hf : firstB ⟨#[100]⟩ = some false := rfl
  have hlong : 16 < rs.length → fromL ⟨#[100]⟩ rs = [] := from_long
  have hbad : ∀ k (h : k < rs.length), runOk rs[k] = false → fromL ⟨#[100]⟩ rs = [] := fun k h h2 => from_bad (bad_at h h2)
  have hall := @from_all ⟨#[100]⟩ false rs hf
  have HLONG := Lib.hid hlong; clear hlong
  have HBAD := Lib.hid hbad; clear hbad
  have HALL := Lib.hid hall; clear hall hf
  have HR := Lib.hid hr; clear hr
  generalize fromL ⟨#[100]⟩ rs = res at *
  go_enter Try.func29, Try.ntmps29
  go_wp2_with fail
  go_loopw [5, 6] (fun sv i wr => ∃ k q : Nat, k ≤ rs.length ∧ k ≤ 17 ∧ i = .int .i64 (k : Int) ∧ sv = .string ⟨(word false (rs.take k)).toArray⟩ ∧ Hid ((rs.take k).all runOk = true) ∧ wr = w.drewN q) (fun _ i _ => rs.length - (intOf i).toNat)
  case atStart => exact ⟨0, 0, Nat.zero_le _, by omega, rfl, rfl, Lib.hid rfl, rfl⟩
  case round =>
    obtain ⟨k, q, hk, hk17, rfl, rfl, hok, rfl⟩ := hrel
    by_cases hlt : k < rs.length
    · have hk0 : (0 : Int) ≤ (k : Int) := Int.natCast_nonneg _
      have hk1 : (k : Int) < (rs.length : Int) := by omega
      obtain ⟨g, rfl, hgs, hcell⟩ := HR.out k hlt
      have HB1 := Lib.hid (HBAD.out k hlt)
      have HT := Lib.hid (take_all_snoc hlt hok.out)
      have HTK := Lib.hid (List.take_succ_eq_append_getElem hlt)
      generalize hre : rs[k] = r at *
      have hro : decide (1 ≤ r ∧ r ≤ 8) = runOk r := rfl
      cases hd : runOk r with
      | false =>
        rw [hd] at hro
        have HRE := Lib.hid (HB1.out hd)
        clear hre hd HB1 HT
        go_wp2_with fail
        refine (in_at _ 1 8 _).mono ?_
        rintro e w' ⟨rfl, rfl⟩
        rw [hro]
        go_wp2
        go_ret
        rw [HRE.out]
        exact ⟨rfl, drewN_below _ _⟩
      | true =>
        rw [hd] at hro
        have HT2 := Lib.hid (HT.out hd)
        clear hre hd HB1 HT
        by_cases h16 : 16 < k
        · have HRE := Lib.hid (HLONG.out (by omega))
          go_wp2_with fail
          refine (in_at _ 1 8 _).mono ?_
          rintro e w' ⟨rfl, rfl⟩
          rw [hro]
          go_wp2
          go_ret
          rw [HRE.out]
          exact ⟨rfl, drewN_below _ _⟩
        · have r1 : 1 ≤ r ∧ r ≤ 8 := of_decide_eq_true hro
          have h16' : (k : Int) ≤ 16 := by omega
          have h16'' : decide ((16 : Int) < (k : Int)) = false := by simp; omega
          have hwl := (word_length (rs.take k) false (all_ok hok.out)).2
          rw [show (rs.take k).length = k from by rw [List.length_take]; omega] at hwl
          have hws : (⟨(word false (rs.take k)).toArray⟩ : ByteArray).size ≤ 136 := by simp [ByteArray.size]; omega
          have hwn : word false (rs.take (k + 1)) = word false (rs.take k) ++ List.replicate r.toNat (letter (flip false k)) := by
            rw [HTK.out, word_snoc, show (rs.take k).length = k from by rw [List.length_take]; omega]
          have hwl2 : (word false (rs.take k)).length + r.toNat ≤ 200 := by omega
          have HWN := Lib.hid hwn; clear hwn hwl HTK
          by_cases hp : k % 2 = 0
          · have hfl : letter (flip false k) = 100 := by unfold flip; rw [if_pos hp]; rfl
            rw [hfl] at HWN
            have hpi : (k : Int).tmod 2 = 0 := by
              have e : (k : Int).tmod 2 = ((k % 2 : Nat) : Int) := rfl
              rw [e]; omega
            generalize word false (rs.take k) = wd at *
            go_wp2_with fail
            refine (in_at _ 1 8 _).mono ?_
            rintro e w' ⟨rfl, rfl⟩
            rw [hro]
            have hzr : (⟨(List.replicate r.toNat (100 : UInt8)).toArray⟩ : ByteArray).size ≤ 8 := by simp [ByteArray.size]; omega
            go_wp2_with fail
            refine (many_spec 100 r (by omega) (by omega) _).mono ?_
            rintro e w' ⟨rfl, rfl⟩
            go_wp2
            refine ⟨⟨k + 1, q, by omega, by omega, by go_num, ?_, HT2, rfl⟩, by simp [intOf]; omega⟩
            rw [HWN.out, ← cat_lists]; simp
          · have hfl : letter (flip false k) = 102 := by unfold flip; rw [if_neg hp]; rfl
            rw [hfl] at HWN
            have hpi : (k : Int).tmod 2 = 1 := by
              have e : (k : Int).tmod 2 = ((k % 2 : Nat) : Int) := rfl
              rw [e]; omega
            generalize word false (rs.take k) = wd at *
            go_wp2_with fail
            refine (in_at _ 1 8 _).mono ?_
            rintro e w' ⟨rfl, rfl⟩
            rw [hro]
            have hzr : (⟨(List.replicate r.toNat (102 : UInt8)).toArray⟩ : ByteArray).size ≤ 8 := by simp [ByteArray.size]; omega
            go_wp2_with fail
            refine (many_spec 102 r (by omega) (by omega) _).mono ?_
            rintro e w' ⟨rfl, rfl⟩
            go_wp2
            refine ⟨⟨k + 1, q, by omega, by omega, by go_num, ?_, HT2, rfl⟩, by simp [intOf]; omega⟩
            rw [HWN.out, ← cat_lists]; simp
    · have hke : rs.take k = rs := List.take_of_length_le (by omega)
      rw [hke] at hok
      have HA := Lib.hid (HALL.out hok.out)
      have hwl := (word_length rs false (all_ok hok.out)).2
      have hws : (⟨(word false rs).toArray⟩ : ByteArray).size ≤ 1048576 := by simp [ByteArray.size]; omega
      rw [hke]
      cases hst : stripB (word false rs) with
      | false =>
        have HA2 := Lib.hid (HA.out.trans (if_neg (by rw [hst]; simp)))
        generalize word false rs = wd at *
        have hisl : stripB (⟨wd.toArray⟩ : ByteArray).data.toList = false := by simpa using hst
        go_wp2_with fail
        refine (is_spec ⟨wd.toArray⟩ _ hws).mono ?_
        rintro e w' ⟨rfl, rfl⟩
        rw [hisl]
        go_wp2
        go_ret
        rw [HA2.out]
        exact ⟨rfl, drewN_below _ _⟩
      | true =>
        have HA2 := Lib.hid (HA.out.trans (if_pos hst))
        generalize word false rs = wd at *
        have hisl : stripB (⟨wd.toArray⟩ : ByteArray).data.toList = true := by simpa using hst
        go_wp2_with fail
        refine (is_spec ⟨wd.toArray⟩ _ hws).mono ?_
        rintro e w' ⟨rfl, rfl⟩
        rw [hisl]
        go_wp2
        go_ret
        rw [HA2.out]
        exact ⟨rfl, drewN_below _ _⟩

set_option maxRecDepth 100000 in
theorem from_spec_true (rs : List Int) (a : Option Addr) (c : Nat) (w : World) (hn : rs.length ≤ 1048576) (hr : IRow w a rs) :
    Calls Try.prog 29 #[.string ⟨#[102]⟩, .slice a rs.length c] w fun e w' => e = .returned (.string ⟨(fromL ⟨#[102]⟩ rs).toArray⟩) ∧ Below w.heap.size w w' := by
  have hf : firstB ⟨#[102]⟩ = some true := rfl
  have hlong : 16 < rs.length → fromL ⟨#[102]⟩ rs = [] := from_long
  have hbad : ∀ k (h : k < rs.length), runOk rs[k] = false → fromL ⟨#[102]⟩ rs = [] := fun k h h2 => from_bad (bad_at h h2)
  have hall := @from_all ⟨#[102]⟩ true rs hf
  have HLONG := Lib.hid hlong; clear hlong
  have HBAD := Lib.hid hbad; clear hbad
  have HALL := Lib.hid hall; clear hall hf
  have HR := Lib.hid hr; clear hr
  generalize fromL ⟨#[102]⟩ rs = res at *
  go_enter Try.func29, Try.ntmps29
  go_wp2_with fail
  go_loopw [5, 6] (fun sv i wr => ∃ k q : Nat, k ≤ rs.length ∧ k ≤ 17 ∧ i = .int .i64 (k : Int) ∧ sv = .string ⟨(word true (rs.take k)).toArray⟩ ∧ Hid ((rs.take k).all runOk = true) ∧ wr = w.drewN q) (fun _ i _ => rs.length - (intOf i).toNat)
  case atStart => exact ⟨0, 0, Nat.zero_le _, by omega, rfl, rfl, Lib.hid rfl, rfl⟩
  case round =>
    obtain ⟨k, q, hk, hk17, rfl, rfl, hok, rfl⟩ := hrel
    by_cases hlt : k < rs.length
    · have hk0 : (0 : Int) ≤ (k : Int) := Int.natCast_nonneg _
      have hk1 : (k : Int) < (rs.length : Int) := by omega
      obtain ⟨g, rfl, hgs, hcell⟩ := HR.out k hlt
      have HB1 := Lib.hid (HBAD.out k hlt)
      have HT := Lib.hid (take_all_snoc hlt hok.out)
      have HTK := Lib.hid (List.take_succ_eq_append_getElem hlt)
      generalize hre : rs[k] = r at *
      have hro : decide (1 ≤ r ∧ r ≤ 8) = runOk r := rfl
      cases hd : runOk r with
      | false =>
        rw [hd] at hro
        have HRE := Lib.hid (HB1.out hd)
        clear hre hd HB1 HT
        go_wp2_with fail
        refine (in_at _ 1 8 _).mono ?_
        rintro e w' ⟨rfl, rfl⟩
        rw [hro]
        go_wp2
        go_ret
        rw [HRE.out]
        exact ⟨rfl, drewN_below _ _⟩
      | true =>
        rw [hd] at hro
        have HT2 := Lib.hid (HT.out hd)
        clear hre hd HB1 HT
        by_cases h16 : 16 < k
        · have HRE := Lib.hid (HLONG.out (by omega))
          go_wp2_with fail
          refine (in_at _ 1 8 _).mono ?_
          rintro e w' ⟨rfl, rfl⟩
          rw [hro]
          go_wp2
          go_ret
          rw [HRE.out]
          exact ⟨rfl, drewN_below _ _⟩
        · have r1 : 1 ≤ r ∧ r ≤ 8 := of_decide_eq_true hro
          have h16' : (k : Int) ≤ 16 := by omega
          have h16'' : decide ((16 : Int) < (k : Int)) = false := by simp; omega
          have hwl := (word_length (rs.take k) true (all_ok hok.out)).2
          rw [show (rs.take k).length = k from by rw [List.length_take]; omega] at hwl
          have hws : (⟨(word true (rs.take k)).toArray⟩ : ByteArray).size ≤ 136 := by simp [ByteArray.size]; omega
          have hwn : word true (rs.take (k + 1)) = word true (rs.take k) ++ List.replicate r.toNat (letter (flip true k)) := by
            rw [HTK.out, word_snoc, show (rs.take k).length = k from by rw [List.length_take]; omega]
          have hwl2 : (word true (rs.take k)).length + r.toNat ≤ 200 := by omega
          have HWN := Lib.hid hwn; clear hwn hwl HTK
          by_cases hp : k % 2 = 0
          · have hfl : letter (flip true k) = 102 := by unfold flip; rw [if_pos hp]; rfl
            rw [hfl] at HWN
            have hpi : (k : Int).tmod 2 = 0 := by
              have e : (k : Int).tmod 2 = ((k % 2 : Nat) : Int) := rfl
              rw [e]; omega
            generalize word true (rs.take k) = wd at *
            go_wp2_with fail
            refine (in_at _ 1 8 _).mono ?_
            rintro e w' ⟨rfl, rfl⟩
            rw [hro]
            have hzr : (⟨(List.replicate r.toNat (102 : UInt8)).toArray⟩ : ByteArray).size ≤ 8 := by simp [ByteArray.size]; omega
            go_wp2_with fail
            refine (many_spec 102 r (by omega) (by omega) _).mono ?_
            rintro e w' ⟨rfl, rfl⟩
            go_wp2
            refine ⟨⟨k + 1, q, by omega, by omega, by go_num, ?_, HT2, rfl⟩, by simp [intOf]; omega⟩
            rw [HWN.out, ← cat_lists]; simp
          · have hfl : letter (flip true k) = 100 := by unfold flip; rw [if_neg hp]; rfl
            rw [hfl] at HWN
            have hpi : (k : Int).tmod 2 = 1 := by
              have e : (k : Int).tmod 2 = ((k % 2 : Nat) : Int) := rfl
              rw [e]; omega
            generalize word true (rs.take k) = wd at *
            go_wp2_with fail
            refine (in_at _ 1 8 _).mono ?_
            rintro e w' ⟨rfl, rfl⟩
            rw [hro]
            have hzr : (⟨(List.replicate r.toNat (100 : UInt8)).toArray⟩ : ByteArray).size ≤ 8 := by simp [ByteArray.size]; omega
            go_wp2_with fail
            refine (many_spec 100 r (by omega) (by omega) _).mono ?_
            rintro e w' ⟨rfl, rfl⟩
            go_wp2
            refine ⟨⟨k + 1, q, by omega, by omega, by go_num, ?_, HT2, rfl⟩, by simp [intOf]; omega⟩
            rw [HWN.out, ← cat_lists]; simp
    · have hke : rs.take k = rs := List.take_of_length_le (by omega)
      rw [hke] at hok
      have HA := Lib.hid (HALL.out hok.out)
      have hwl := (word_length rs true (all_ok hok.out)).2
      have hws : (⟨(word true rs).toArray⟩ : ByteArray).size ≤ 1048576 := by simp [ByteArray.size]; omega
      rw [hke]
      cases hst : stripB (word true rs) with
      | false =>
        have HA2 := Lib.hid (HA.out.trans (if_neg (by rw [hst]; simp)))
        generalize word true rs = wd at *
        have hisl : stripB (⟨wd.toArray⟩ : ByteArray).data.toList = false := by simpa using hst
        go_wp2_with fail
        refine (is_spec ⟨wd.toArray⟩ _ hws).mono ?_
        rintro e w' ⟨rfl, rfl⟩
        rw [hisl]
        go_wp2
        go_ret
        rw [HA2.out]
        exact ⟨rfl, drewN_below _ _⟩
      | true =>
        have HA2 := Lib.hid (HA.out.trans (if_pos hst))
        generalize word true rs = wd at *
        have hisl : stripB (⟨wd.toArray⟩ : ByteArray).data.toList = true := by simpa using hst
        go_wp2_with fail
        refine (is_spec ⟨wd.toArray⟩ _ hws).mono ?_
        rintro e w' ⟨rfl, rfl⟩
        rw [hisl]
        go_wp2
        go_ret
        rw [HA2.out]
        exact ⟨rfl, drewN_below _ _⟩

end Go.Proofs.Ytnkompcampnpoaa.Corner
