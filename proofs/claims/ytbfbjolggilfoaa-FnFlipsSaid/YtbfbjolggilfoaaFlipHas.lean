/- What laws.has and laws.btoi return. -/
import Derived.Test.YtbfbjolggilfoaaCornerSpec
namespace Go.Proofs.Ytbfbjolggilfoaa.Flip
open Go.ChangeShapes Go.WideShapes Go.ChangeAt Go.RowKit
open Go.Proofs.Ytbfbjolggilfoaa.Strip Go.Proofs.Ytbfbjolggilfoaa.Ints Go.Proofs.Ytbfbjolggilfoaa.Corner
set_option linter.unusedVariables false

theorem has_at (a : Option Addr) (n c : Nat) (l : List Int) (x : Int) (w : World) (hl : l.length = n) (hm : n ≤ maxLen) (hr : IRow w a l) :
    Calls Try.prog 19 #[.slice a n c, .int .i64 x] w fun e w' => e = .returned (.bool (decide (x ∈ l))) ∧ w = w' := by
  unfold maxLen at hm
  have HL := Lib.hid hl
  have HR := Lib.hid hr
  clear hl hr
  go_enter Try.func19, Try.ntmps19
  go_wp2_with fail
  go_loop [5] (fun i => ∃ k : Nat, k ≤ n ∧ i = .int .i64 k ∧ Hid (x ∉ l.take k)) (fun i => n - (intOf i).toNat)
  case atStart => exact ⟨0, Nat.zero_le _, rfl, by simp [Hid]⟩
  case round =>
    obtain ⟨k, hk, rfl, HN⟩ := hrel
    by_cases hlt : k < n
    · have hkl : k < l.length := by rw [HL.out]; exact hlt
      obtain ⟨g, rfl, _, hc⟩ := HR.out k hkl
      have hk0 : (0 : Int) ≤ (k : Int) := Int.natCast_nonneg _
      have hk1 : (k : Int) < (n : Int) := by omega
      by_cases he : l[k] = x
      · have hd : (l[k] == x) = true := by simpa using he
        have hv : decide (x ∈ l) = true := by rw [← he]; exact decide_eq_true (List.getElem_mem hkl)
        have HV := Lib.hid hv
        clear hv he
        generalize l[k] = y at *
        go_wp2
        go_ret
        exact ⟨by rw [HV.out]; rfl, rfl⟩
      · have hd : (l[k] == x) = false := by simpa using he
        have hnx : x ∉ l.take (k + 1) := by
          rw [List.take_succ_eq_append_getElem hkl]
          intro h
          rcases List.mem_append.1 h with h | h
          · exact HN.out h
          · simp at h; exact he h.symm
        have HNX := Lib.hid hnx
        clear hnx he
        generalize l[k] = y at *
        go_wp2
        go_round
        case rel => exact ⟨k + 1, by omega, by go_num, HNX⟩
        case measure => simp [intOf]; omega
    · obtain rfl : k = n := by omega
      have hv : decide (x ∈ l) = false := by
        have h := HN.out
        rw [List.take_of_length_le (by rw [HL.out]; exact Nat.le_refl _)] at h
        exact decide_eq_false h
      have HV := Lib.hid hv
      clear hv
      go_wp2
      go_ret
      exact ⟨by rw [HV.out]; rfl, rfl⟩

theorem btoi_at (b : Bool) (w : World) :
    Calls Try.prog 24 #[.bool b] w fun e w' => e = .returned (.int .i64 (one b)) ∧ w = w' := by
  cases b <;>
  · go_enter Try.func24, Try.ntmps24
    go_wp2
    go_ret
    exact ⟨rfl, rfl⟩

end Go.Proofs.Ytbfbjolggilfoaa.Flip
