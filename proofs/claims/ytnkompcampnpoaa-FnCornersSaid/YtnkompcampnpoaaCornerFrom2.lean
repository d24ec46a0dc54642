/- What the program of chapter 3 returns: FromRuns. -/
import Derived.Test.YtnkompcampnpoaaCornerImpl
import Derived.Test.YtnkompcampnpoaaCornerFrom
import Derived.WalkMore
import Derived.ScopeJumps
namespace Go.Proofs.Ytnkompcampnpoaa.Corner
open Go.ChangeShapes Go.WideShapes Go.ChangeAt Go.RowKit
open Go.Proofs.Ytnkompcampnpoaa.Strip Go.Proofs.Ytnkompcampnpoaa.Ints
set_option linter.unusedVariables false

theorem scope_rounds {P : Program} {a : Act} {w : World} {Q : Exit → Act → World → Prop} {c rest : Code} (l : Nat) (J : Act → World → Prop) (μ : Act → World → Nat) (hf : findLabel c l = some (Code.skip.seq rest))
    (pass : ∀ a w, J a w → rest.wp P (Exit.jump l (fun a' w' => J a' w' ∧ μ a' w' < μ a w) Q) a w)
    (first : (∀ a w, J a w → rest.wp P (Exit.jump l J Q) a w) → c.wp P (Exit.jump l J Q) a w) : (Code.scope c).wp P Q a w :=
  wp_scope_jumps l J μ hf (first fun a w h => Code.wp_mono (fun e a' w' h' => by
    cases e with
    | goto l' => exact ⟨h'.1, h'.2.1⟩
    | _ => exact h') (pass a w h)) fun a w h => wp_seq (wp_skip (pass a w h))

theorem other_impl (b : Bool) (w : World) :
    Calls Try.prog 39 #[.string ⟨#[letter b]⟩] w fun e w' => e = .returned (.string ⟨#[letter (!b)]⟩) ∧ w = w' := by
  cases b <;>
  · simp only [letter]
    go_enter Try.func39, Try.ntmps39
    go_wp2
    go_ret
    exact ⟨rfl, rfl⟩

theorem from_impl_none (first : ByteArray) (rs : List Int) (a : Option Addr) (c : Nat) (hf : firstB first = none) (w : World) :
    Calls Try.prog 19 #[.string first, .slice a rs.length c] w fun e w' => e = .returned (.string ⟨(fromL first rs).toArray⟩) ∧ Below w.heap.size w w' := by
  rw [from_none hf]
  have e1 : (first.toList == [100]) = false := by
    rw [ByteArray.toList_eq]
    unfold firstB at hf
    by_cases h : first.data.toList = [100]
    · rw [if_pos h] at hf; cases hf
    · simpa using h
  have e2 : (first.toList == [102]) = false := by
    rw [ByteArray.toList_eq]
    unfold firstB at hf
    by_cases h1 : first.data.toList = [100]
    · rw [if_pos h1] at hf; cases hf
    · rw [if_neg h1] at hf
      by_cases h : first.data.toList = [102]
      · rw [if_pos h] at hf; cases hf
      · simpa using h
  go_enter Try.func19, Try.ntmps19
  go_wp2
  go_step3
  go_wp2
  try rw [Exit.noGoto_ret]
  go_ret
  exact ⟨rfl, Below.refl _ _⟩

theorem from_impl_long (first : ByteArray) (b : Bool) (rs : List Int) (a : Option Addr) (c : Nat) (hf : firstB first = some b) (hl : 16 < rs.length) (hn : rs.length ≤ 1048576) (w : World) :
    Calls Try.prog 19 #[.string first, .slice a rs.length c] w fun e w' => e = .returned (.string ⟨(fromL first rs).toArray⟩) ∧ Below w.heap.size w w' := by
  rw [from_long hl]
  obtain rfl := first_eq hf
  have h16 : decide ((16 : Int) < (rs.length : Int)) = true := by simp; omega
  cases b <;>
  · simp only [letter]
    go_enter Try.func19, Try.ntmps19
    go_wp2
    go_step3
    go_wp2
    try rw [Exit.noGoto_ret]
    go_ret
    exact ⟨rfl, Below.refl _ _⟩

set_option maxRecDepth 100000 in
set_option maxHeartbeats 2000000 in
theorem from_impl_false (rs : List Int) (a : Option Addr) (c : Nat) (w : World) (hn : rs.length ≤ 16) (hr : IRow w a rs) :
    Calls Try.prog 19 #[.string ⟨#[100]⟩, .slice a rs.length c] w fun e w' => e = .returned (.string ⟨(fromL ⟨#[100]⟩ rs).toArray⟩) ∧ Below w.heap.size w w' := by
  have hf : firstB ⟨#[100]⟩ = some false := rfl
  have hbad : ∀ k (h : k < rs.length), runOk rs[k] = false → fromL ⟨#[100]⟩ rs = [] := fun k h h2 => from_bad (bad_at h h2)
  have hall := @from_all ⟨#[100]⟩ false rs hf
  have HBAD := Lib.hid hbad; clear hbad
  have HALL := Lib.hid hall; clear hall hf
  have HR := Lib.hid hr; clear hr
  have h16 : decide ((16 : Int) < (rs.length : Int)) = false := by simp; omega
  generalize fromL ⟨#[100]⟩ rs = res at *
  go_enter Try.func19, Try.ntmps19
  go_wp2
  refine scope_rounds 0 (fun a' w' => ∃ (k : Nat) (sv lv iv u8 u9 u10 u11 u12 u13 u14 u15 u16 u17 u18 u19 u20 u21 u22 u23 u24 u25 u26 u27 u28 u29 u30 u31 u32 u33 u34 u35 u36 u37 u38 u39 u40 u41 u42 u43 u44 u45 u46 u47 u48 u49 u50 u51 : Value), a' = { tmps := #[.string ⟨#[100]⟩, .slice a rs.length c, undef, undef, .string ⟨#[]⟩, sv, lv, iv, u8, u9, u10, u11, u12, u13, u14, u15, u16, u17, u18, u19, u20, u21, u22, u23, u24, u25, u26, u27, u28, u29, u30, u31, u32, u33, u34, u35, u36, u37, u38, u39, u40, u41, u42, u43, u44, u45, u46, u47, u48, u49, u50, u51], defers := [] } ∧ sv = .string ⟨(word false (rs.take k)).toArray⟩ ∧ lv = .string ⟨#[letter (flip false k)]⟩ ∧ iv = .int .i64 (k : Int) ∧ k ≤ rs.length ∧ Hid ((rs.take k).all runOk = true) ∧ Hid (Below w.heap.size w w')) (fun a' _ => rs.length - (intOf (a'.tmps.getD 7 undef)).toNat) rfl ?pass ?first
  case first =>
    intro hround
    have HRD := Lib.hid hround; clear hround
    go_wp2
    go_step3
    simp only [Exit.then]
    rename_i hK
    refine hK _ _ (HRD.out _ _ ?_)
    refine ⟨0, _, _, _, _, _, _, _, _, _, _, _, _, _, _, _, _, _, _, _, _, _, _, _, _, _, _, _, _, _, _, _, _, _, _, _, _, _, _, _, _, _, _, _, _, _, _, _, rfl, rfl, rfl, rfl, Nat.zero_le _, Lib.hid rfl, Below.refl _ _⟩
  case pass =>
    rintro a0 w0 ⟨k, sv, lv, iv, u8, u9, u10, u11, u12, u13, u14, u15, u16, u17, u18, u19, u20, u21, u22, u23, u24, u25, u26, u27, u28, u29, u30, u31, u32, u33, u34, u35, u36, u37, u38, u39, u40, u41, u42, u43, u44, u45, u46, u47, u48, u49, u50, u51, rfl, rfl, rfl, rfl, hk, hok, hb⟩
    by_cases hlt : k < rs.length
    · have hk0 : (0 : Int) ≤ (k : Int) := Int.natCast_nonneg _
      have hk1 : (k : Int) < (rs.length : Int) := by omega
      obtain ⟨g, rfl, hgs, hcell⟩ := (HR.out.below hb.out) k hlt
      have HB1 := Lib.hid (HBAD.out k hlt)
      have HT := Lib.hid (take_all_snoc hlt hok.out)
      have HTK := Lib.hid (List.take_succ_eq_append_getElem hlt)
      generalize hre : rs[k] = r at *
      have hro : decide (1 ≤ r ∧ r ≤ 8) = runOk r := rfl
      cases hd : runOk r with
      | false =>
        rw [hd] at hro
        have HRE := Lib.hid (HB1.out hd)
        clear hre hd HB1 HT
        by_cases hr1 : r < 1
        · go_wp2
          try simp only [Exit.jump]
          go_ret
          rw [HRE.out]
          exact ⟨rfl, hb.out⟩
        · have hr8 : 8 < r := by
            have := of_decide_eq_false hro
            omega
          go_wp2
          try simp only [Exit.jump]
          go_ret
          rw [HRE.out]
          exact ⟨rfl, hb.out⟩
      | true =>
        rw [hd] at hro
        have HT2 := Lib.hid (HT.out hd)
        clear hre hd HB1 HT
        have r1 : 1 ≤ r ∧ r ≤ 8 := of_decide_eq_true hro
        obtain ⟨r1, r8⟩ := r1
        have hwl := (word_length (rs.take k) false (all_ok hok.out)).2
        rw [show (rs.take k).length = k from by rw [List.length_take]; omega] at hwl
        have hws : (⟨(word false (rs.take k)).toArray⟩ : ByteArray).size ≤ 136 := by simp [ByteArray.size]; omega
        have hwn : word false (rs.take (k + 1)) = word false (rs.take k) ++ List.replicate r.toNat (letter (flip false k)) := by
          rw [HTK.out, word_snoc, show (rs.take k).length = k from by rw [List.length_take]; omega]
        have hwl2 : (word false (rs.take k)).length + r.toNat ≤ 200 := by omega
        have HWN := Lib.hid hwn; clear hwn hwl HTK
        have HFL := Lib.hid (flip_succ false k)
        generalize flip false k = fl at *
        generalize word false (rs.take k) = wd at *
        have hzr : (⟨(List.replicate r.toNat (letter fl)).toArray⟩ : ByteArray).size ≤ 8 := by simp [ByteArray.size]; omega
        go_wp2_with fail
        refine (repeat_one (letter fl) r (by omega) (by omega) _).mono ?_
        rintro e w1 ⟨rfl, hb1⟩
        have HB1 := Lib.hid (hb.out.trans (hb1.mono hb.out.size)); clear hb1
        go_wp2_with fail
        refine (other_impl fl _).mono ?_
        rintro e w' ⟨rfl, rfl⟩
        go_wp2
        go_step3
        refine ⟨rfl, ⟨k + 1, _, _, _, _, _, _, _, _, _, _, _, _, _, _, _, _, _, _, _, _, _, _, _, _, _, _, _, _, _, _, _, _, _, _, _, _, _, _, _, _, _, _, _, _, _, _, _, rfl, ?_, ?_, ?_, by omega, HT2, HB1⟩, by simp [intOf]; omega⟩
        · rw [HWN.out, ← cat_lists]; simp
        · rw [HFL.out]
        · go_num
    · have hke : rs.take k = rs := List.take_of_length_le (by omega)
      rw [hke] at hok
      have hA := HALL.out hok.out
      have hwl := (word_length rs false (all_ok hok.out)).2
      rw [← hke] at hA
      have hws : (⟨(word false (rs.take k)).toArray⟩ : ByteArray).size ≤ 1048576 := by rw [hke]; simp [ByteArray.size]; omega
      clear hke hwl
      have HA := Lib.hid hA; clear hA
      cases hst : stripB (word false (rs.take k)) with
      | false =>
        have HA2 := Lib.hid (HA.out.trans (if_neg (by rw [hst]; simp)))
        generalize word false (rs.take k) = wd at *
        have hisl : stripB (⟨wd.toArray⟩ : ByteArray).data.toList = false := by simpa using hst
        go_wp2_with fail
        refine (is_impl ⟨wd.toArray⟩ _ hws).mono ?_
        rintro e w1 ⟨rfl, hb1⟩
        have HB1 := Lib.hid (hb.out.trans (hb1.mono hb.out.size)); clear hb1
        rw [hisl]
        go_wp2
        try simp only [Exit.jump]
        go_ret
        rw [HA2.out]
        exact ⟨rfl, HB1.out⟩
      | true =>
        have HA2 := Lib.hid (HA.out.trans (if_pos hst))
        generalize word false (rs.take k) = wd at *
        have hisl : stripB (⟨wd.toArray⟩ : ByteArray).data.toList = true := by simpa using hst
        go_wp2_with fail
        refine (is_impl ⟨wd.toArray⟩ _ hws).mono ?_
        rintro e w1 ⟨rfl, hb1⟩
        have HB1 := Lib.hid (hb.out.trans (hb1.mono hb.out.size)); clear hb1
        rw [hisl]
        go_wp2
        try simp only [Exit.jump]
        go_ret
        rw [HA2.out]
        exact ⟨rfl, HB1.out⟩

set_option maxRecDepth 100000 in
set_option maxHeartbeats 2000000 in
theorem from_impl_true (rs : List Int) (a : Option Addr) (c : Nat) (w : World) (hn : rs.length ≤ 16) (hr : IRow w a rs) :
    Calls Try.prog 19 #[.string ⟨#[102]⟩, .slice a rs.length c] w fun e w' => e = .returned (.string ⟨(fromL ⟨#[102]⟩ rs).toArray⟩) ∧ Below w.heap.size w w' := by
  have hf : firstB ⟨#[102]⟩ = some true := rfl
  have hbad : ∀ k (h : k < rs.length), runOk rs[k] = false → fromL ⟨#[102]⟩ rs = [] := fun k h h2 => from_bad (bad_at h h2)
  have hall := @from_all ⟨#[102]⟩ true rs hf
  have HBAD := Lib.hid hbad; clear hbad
  have HALL := Lib.hid hall; clear hall hf
  have HR := Lib.hid hr; clear hr
  have h16 : decide ((16 : Int) < (rs.length : Int)) = false := by simp; omega
  generalize fromL ⟨#[102]⟩ rs = res at *
  go_enter Try.func19, Try.ntmps19
  go_wp2
  refine scope_rounds 0 (fun a' w' => ∃ (k : Nat) (sv lv iv u8 u9 u10 u11 u12 u13 u14 u15 u16 u17 u18 u19 u20 u21 u22 u23 u24 u25 u26 u27 u28 u29 u30 u31 u32 u33 u34 u35 u36 u37 u38 u39 u40 u41 u42 u43 u44 u45 u46 u47 u48 u49 u50 u51 : Value), a' = { tmps := #[.string ⟨#[102]⟩, .slice a rs.length c, undef, undef, .string ⟨#[]⟩, sv, lv, iv, u8, u9, u10, u11, u12, u13, u14, u15, u16, u17, u18, u19, u20, u21, u22, u23, u24, u25, u26, u27, u28, u29, u30, u31, u32, u33, u34, u35, u36, u37, u38, u39, u40, u41, u42, u43, u44, u45, u46, u47, u48, u49, u50, u51], defers := [] } ∧ sv = .string ⟨(word true (rs.take k)).toArray⟩ ∧ lv = .string ⟨#[letter (flip true k)]⟩ ∧ iv = .int .i64 (k : Int) ∧ k ≤ rs.length ∧ Hid ((rs.take k).all runOk = true) ∧ Hid (Below w.heap.size w w')) (fun a' _ => rs.length - (intOf (a'.tmps.getD 7 undef)).toNat) rfl ?pass ?first
  case first =>
    intro hround
    have HRD := Lib.hid hround; clear hround
    go_wp2
    go_step3
    simp only [Exit.then]
    rename_i hK
    refine hK _ _ (HRD.out _ _ ?_)
    refine ⟨0, _, _, _, _, _, _, _, _, _, _, _, _, _, _, _, _, _, _, _, _, _, _, _, _, _, _, _, _, _, _, _, _, _, _, _, _, _, _, _, _, _, _, _, _, _, _, _, rfl, rfl, rfl, rfl, Nat.zero_le _, Lib.hid rfl, Below.refl _ _⟩
  case pass =>
    rintro a0 w0 ⟨k, sv, lv, iv, u8, u9, u10, u11, u12, u13, u14, u15, u16, u17, u18, u19, u20, u21, u22, u23, u24, u25, u26, u27, u28, u29, u30, u31, u32, u33, u34, u35, u36, u37, u38, u39, u40, u41, u42, u43, u44, u45, u46, u47, u48, u49, u50, u51, rfl, rfl, rfl, rfl, hk, hok, hb⟩
    by_cases hlt : k < rs.length
    · have hk0 : (0 : Int) ≤ (k : Int) := Int.natCast_nonneg _
      have hk1 : (k : Int) < (rs.length : Int) := by omega
      obtain ⟨g, rfl, hgs, hcell⟩ := (HR.out.below hb.out) k hlt
      have HB1 := Lib.hid (HBAD.out k hlt)
      have HT := Lib.hid (take_all_snoc hlt hok.out)
      have HTK := Lib.hid (List.take_succ_eq_append_getElem hlt)
      generalize hre : rs[k] = r at *
      have hro : decide (1 ≤ r ∧ r ≤ 8) = runOk r := rfl
      cases hd : runOk r with
      | false =>
        rw [hd] at hro
        have HRE := Lib.hid (HB1.out hd)
        clear hre hd HB1 HT
        by_cases hr1 : r < 1
        · go_wp2
          try simp only [Exit.jump]
          go_ret
          rw [HRE.out]
          exact ⟨rfl, hb.out⟩
        · have hr8 : 8 < r := by
            have := of_decide_eq_false hro
            omega
          go_wp2
          try simp only [Exit.jump]
          go_ret
          rw [HRE.out]
          exact ⟨rfl, hb.out⟩
      | true =>
        rw [hd] at hro
        have HT2 := Lib.hid (HT.out hd)
        clear hre hd HB1 HT
        have r1 : 1 ≤ r ∧ r ≤ 8 := of_decide_eq_true hro
        obtain ⟨r1, r8⟩ := r1
        have hwl := (word_length (rs.take k) true (all_ok hok.out)).2
        rw [show (rs.take k).length = k from by rw [List.length_take]; omega] at hwl
        have hws : (⟨(word true (rs.take k)).toArray⟩ : ByteArray).size ≤ 136 := by simp [ByteArray.size]; omega
        have hwn : word true (rs.take (k + 1)) = word true (rs.take k) ++ List.replicate r.toNat (letter (flip true k)) := by
          rw [HTK.out, word_snoc, show (rs.take k).length = k from by rw [List.length_take]; omega]
        have hwl2 : (word true (rs.take k)).length + r.toNat ≤ 200 := by omega
        have HWN := Lib.hid hwn; clear hwn hwl HTK
        have HFL := Lib.hid (flip_succ true k)
        generalize flip true k = fl at *
        generalize word true (rs.take k) = wd at *
        have hzr : (⟨(List.replicate r.toNat (letter fl)).toArray⟩ : ByteArray).size ≤ 8 := by simp [ByteArray.size]; omega
        go_wp2_with fail
        refine (repeat_one (letter fl) r (by omega) (by omega) _).mono ?_
        rintro e w1 ⟨rfl, hb1⟩
        have HB1 := Lib.hid (hb.out.trans (hb1.mono hb.out.size)); clear hb1
        go_wp2_with fail
        refine (other_impl fl _).mono ?_
        rintro e w' ⟨rfl, rfl⟩
        go_wp2
        go_step3
        refine ⟨rfl, ⟨k + 1, _, _, _, _, _, _, _, _, _, _, _, _, _, _, _, _, _, _, _, _, _, _, _, _, _, _, _, _, _, _, _, _, _, _, _, _, _, _, _, _, _, _, _, _, _, _, _, rfl, ?_, ?_, ?_, by omega, HT2, HB1⟩, by simp [intOf]; omega⟩
        · rw [HWN.out, ← cat_lists]; simp
        · rw [HFL.out]
        · go_num
    · have hke : rs.take k = rs := List.take_of_length_le (by omega)
      rw [hke] at hok
      have hA := HALL.out hok.out
      have hwl := (word_length rs true (all_ok hok.out)).2
      rw [← hke] at hA
      have hws : (⟨(word true (rs.take k)).toArray⟩ : ByteArray).size ≤ 1048576 := by rw [hke]; simp [ByteArray.size]; omega
      clear hke hwl
      have HA := Lib.hid hA; clear hA
      cases hst : stripB (word true (rs.take k)) with
      | false =>
        have HA2 := Lib.hid (HA.out.trans (if_neg (by rw [hst]; simp)))
        generalize word true (rs.take k) = wd at *
        have hisl : stripB (⟨wd.toArray⟩ : ByteArray).data.toList = false := by simpa using hst
        go_wp2_with fail
        refine (is_impl ⟨wd.toArray⟩ _ hws).mono ?_
        rintro e w1 ⟨rfl, hb1⟩
        have HB1 := Lib.hid (hb.out.trans (hb1.mono hb.out.size)); clear hb1
        rw [hisl]
        go_wp2
        try simp only [Exit.jump]
        go_ret
        rw [HA2.out]
        exact ⟨rfl, HB1.out⟩
      | true =>
        have HA2 := Lib.hid (HA.out.trans (if_pos hst))
        generalize word true (rs.take k) = wd at *
        have hisl : stripB (⟨wd.toArray⟩ : ByteArray).data.toList = true := by simpa using hst
        go_wp2_with fail
        refine (is_impl ⟨wd.toArray⟩ _ hws).mono ?_
        rintro e w1 ⟨rfl, hb1⟩
        have HB1 := Lib.hid (hb.out.trans (hb1.mono hb.out.size)); clear hb1
        rw [hisl]
        go_wp2
        try simp only [Exit.jump]
        go_ret
        rw [HA2.out]
        exact ⟨rfl, HB1.out⟩

end Go.Proofs.Ytnkompcampnpoaa.Corner
