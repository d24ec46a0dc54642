/- What the model of chapter 2 returns: IsStrip, l02Count, DownOf, ForwardOf, SameFrame, StripAt, l02Many, FlatStrip, HighStrip. -/
import Derived.Test.YtfhpbgmnekhfeaaStrip
namespace Go.Proofs.Ytfhpbgmnekhfeaa.Strip
open Go.ChangeShapes Go.WideShapes Go.ChangeAt Go.RowKit
set_option linter.unusedVariables false

theorem count_spec (s : ByteArray) (x : UInt8) (w : World) (hm : s.size ≤ 1048576) :
    Calls Try.prog 57 #[.string s, .int .u8 (x.toNat : Int)] w fun e w' => e = .returned (.int .i64 (cnt x s.data.toList)) ∧ w = w' := by
  go_enter Try.func57, Try.ntmps57
  go_wp2_with fail
  go_loop [5, 6] (fun n i => ∃ k : Nat, k ≤ s.size ∧ i = .int .i64 k ∧ n = .int .i64 (cnt x (s.data.toList.take k) : Int)) (fun _ i => s.size - (intOf i).toNat)
  case atStart => exact ⟨0, Nat.zero_le _, rfl, by simp [cnt]⟩
  case round =>
    obtain ⟨k, hk, rfl, rfl⟩ := hrel
    have hc := cnt_le x (s.data.toList.take k)
    have hc' : cnt x (s.data.toList.take k) ≤ 1048576 := by simp at hc; omega
    by_cases hlt : k < s.size
    · have hn := cnt_snoc x (s.data.toList.take k) s[k]
      rw [← take_snoc s k hlt] at hn
      have HN := Lib.hid hn; clear hn hc
      by_cases he : s[k] = x
      · have hb := byte_eq _ _ he
        go_wp2
        refine ⟨⟨k + 1, by omega, by go_num, ?_⟩, by simp [intOf]; omega⟩
        rw [HN.out, if_pos he]; go_num
      · have hb := byte_ne _ _ he
        go_wp2
        refine ⟨⟨k + 1, by omega, by go_num, ?_⟩, by simp [intOf]; omega⟩
        rw [HN.out, if_neg he]; go_num
    · have hks : s.data.toList.take k = s.data.toList := List.take_of_length_le (by simp; omega)
      rw [hks]
      rw [hks] at hc'
      go_wp2
      go_ret
      exact ⟨rfl, rfl⟩

set_option maxRecDepth 100000 in
theorem is_spec (s : ByteArray) (w : World) (hm : s.size ≤ 1048576) :
    Calls Try.prog 56 #[.string s] w fun e w' => e = .returned (.bool (stripB s.data.toList)) ∧ w = w' := by
  go_enter Try.func56, Try.ntmps56
  go_wp2_with fail
  go_loop [3, 4, 5] (fun d f i => ∃ k : Nat, k ≤ s.size ∧ i = .int .i64 k ∧ d = .int .i64 (cnt 100 (s.data.toList.take k) : Int) ∧ f = .int .i64 (cnt 102 (s.data.toList.take k) : Int) ∧ Hid (okL (s.data.toList.take k) = true)) (fun _ _ i => s.size - (intOf i).toNat)
  case atStart => exact ⟨0, Nat.zero_le _, rfl, by simp [cnt], by simp [cnt], Lib.hid rfl⟩
  case round =>
    obtain ⟨k, hk, rfl, rfl, rfl, hok⟩ := hrel
    have hc := cnt_le 100 (s.data.toList.take k)
    have hc1 : cnt 100 (s.data.toList.take k) ≤ 1048576 := by simp at hc; omega
    have hd := cnt_le 102 (s.data.toList.take k)
    have hd1 : cnt 102 (s.data.toList.take k) ≤ 1048576 := by simp at hd; omega
    by_cases hlt : k < s.size
    · have h1 := cnt_snoc 100 (s.data.toList.take k) s[k]
      have h2 := cnt_snoc 102 (s.data.toList.take k) s[k]
      have h3 := okL_snoc (s.data.toList.take k) s[k]
      rw [← take_snoc s k hlt] at h1 h2 h3
      have H1 := Lib.hid h1; clear h1 hc
      have H2 := Lib.hid h2; clear h2 hd
      have H3 := Lib.hid h3; clear h3
      by_cases he : s[k] = 100
      · have hb : ((s[k].toNat : Int) == 100) = true := byte_eq _ 100 he
        have hn : ¬ s[k] = 102 := by rw [he]; decide
        go_wp2
        refine ⟨⟨k + 1, by omega, by go_num, ?_, ?_, Lib.hid ?_⟩, by simp [intOf]; omega⟩
        · rw [H1.out, if_pos he]; go_num
        · rw [H2.out, if_neg hn]; go_num
        · rw [H3.out, hok.out, he]; rfl
      · have hb : ((s[k].toNat : Int) == 100) = false := byte_ne _ 100 he
        by_cases hf : s[k] = 102
        · have hb2 : ((s[k].toNat : Int) == 102) = true := byte_eq _ 102 hf
          go_wp2
          refine ⟨⟨k + 1, by omega, by go_num, ?_, ?_, Lib.hid ?_⟩, by simp [intOf]; omega⟩
          · rw [H1.out, if_neg he]; go_num
          · rw [H2.out, if_pos hf]; go_num
          · rw [H3.out, hok.out, hf]; rfl
        · have hb2 : ((s[k].toNat : Int) == 102) = false := byte_ne _ 102 hf
          have hz := strip_bad s (okL_bad s k hlt he hf)
          have HZ := Lib.hid hz; clear hz
          go_wp2
          go_ret
          rw [HZ.out]
          exact ⟨rfl, rfl⟩
    · have hks : s.data.toList.take k = s.data.toList := List.take_of_length_le (by simp; omega)
      rw [hks] at hc1 hd1 hok ⊢
      clear hc hd
      have hz : stripB s.data.toList = frameB (cnt 100 s.data.toList) (cnt 102 s.data.toList) := by unfold stripB; rw [hok.out]; exact Bool.true_and _
      have HZ := Lib.hid hz; clear hz
      by_cases hq : 1 ≤ (cnt 100 s.data.toList : Int) ∧ (cnt 100 s.data.toList : Int) ≤ 8
      · have hq' : decide (1 ≤ (cnt 100 s.data.toList : Int) ∧ (cnt 100 s.data.toList : Int) ≤ 8) = true := by simpa using hq
        go_wp2_with fail
        refine (in_at _ 1 8 _).mono ?_
        rintro e w' ⟨rfl, rfl⟩
        rw [hq']
        go_wp2_with fail
        refine (in_at _ 1 8 _).mono ?_
        rintro e w' ⟨rfl, rfl⟩
        go_wp2
        go_ret
        refine ⟨?_, rfl⟩
        rw [HZ.out]
        unfold frameB
        simp [hq.1, hq.2]
      · have hq' : decide (1 ≤ (cnt 100 s.data.toList : Int) ∧ (cnt 100 s.data.toList : Int) ≤ 8) = false := by simpa using hq
        go_wp2_with fail
        refine (in_at _ 1 8 _).mono ?_
        rintro e w' ⟨rfl, rfl⟩
        rw [hq']
        go_wp2
        go_ret
        refine ⟨?_, rfl⟩
        rw [HZ.out]
        unfold frameB
        have : ¬ (1 ≤ (cnt 100 s.data.toList : Int) ∧ (cnt 100 s.data.toList : Int) ≤ 8 ∧ 1 ≤ (cnt 102 s.data.toList : Int) ∧ (cnt 102 s.data.toList : Int) ≤ 8) := fun h => hq ⟨h.1, h.2.1⟩
        simp [this]
end Go.Proofs.Ytfhpbgmnekhfeaa.Strip
