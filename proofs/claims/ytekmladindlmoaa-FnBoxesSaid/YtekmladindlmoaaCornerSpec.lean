/- What the model of chapter 3 returns. -/
import Derived.Test.YtekmladindlmoaaStripSpec2
import Derived.Test.YtekmladindlmoaaIntRow
import Derived.Test.YtekmladindlmoaaCorner
namespace Go.Proofs.Ytekmladindlmoaa.Corner
open Go.ChangeShapes Go.WideShapes Go.ChangeAt Go.RowKit
open Go.Proofs.Ytekmladindlmoaa.Strip Go.Proofs.Ytekmladindlmoaa.Ints
set_option linter.unusedVariables false

theorem info_int : (Try.prog.info? 3).map (fun i => (i.zero, i.size, i.bytes)) = some (some (.int .i64 0), 1, 8) := by kernel_rfl

/-- It returns the ints l in memory of its own and leaves all that stood before alone. -/
def PostRow (w : World) (l : List Int) (e : Ending) (w' : World) : Prop := ∃ v, e = .returned v ∧ Below w.heap.size w w' ∧ Own w' w.heap.size v l

theorem byte_beq (a x : UInt8) : ((a.toNat : Int) == (x.toNat : Int)) = (a == x) := by
  by_cases h : a = x
  · rw [byte_eq _ _ h, h]; simp
  · rw [byte_ne _ _ h]; simp [h]
theorem turn_yes (s : ByteArray) (k : Nat) (h : k + 1 < s.size) (hn : s[k + 1] ≠ s[k]) : turn s.data.toList (k + 1) = true := by rw [turn_eq s k h]; simpa using hn
theorem turn_no (s : ByteArray) (k : Nat) (h : k + 1 < s.size) (hn : s[k + 1] = s[k]) : turn s.data.toList (k + 1) = false := by rw [turn_eq s k h]; simpa using hn
theorem bytes_eq (a b : UInt8) (h : a = b) : ((a.toNat : Int) != (b.toNat : Int)) = false := by subst h; simp
theorem bytes_ne (a b : UInt8) (h : a ≠ b) : ((a.toNat : Int) != (b.toNat : Int)) = true := by
  simp only [bne_iff_ne, ne_eq, Int.natCast_inj]
  exact fun e => h (UInt8.toNat_inj.mp e)

theorem corner_no (x : UInt8) (l : List UInt8) (k : Int) (h : stripB l = false ∨ ¬ (1 ≤ k ∧ k < (l.length : Int))) : cornerB x l k = false := by
  unfold cornerB
  rcases h with h | h
  · rw [h]; rfl
  · rw [decide_eq_false h]; simp
theorem corner_at (x : UInt8) (s : ByteArray) (j : Nat) (h : j + 1 < s.size) (hs : stripB s.data.toList = true) : cornerB x s.data.toList ((j : Int) + 1) = ((s[j + 1] != s[j]) && (s[j] == x)) := by
  unfold cornerB
  have hl : s.data.toList.length = s.size := by simp
  rw [hs, hl, decide_eq_true (by omega), show ((j : Int) + 1).toNat = j + 1 from by omega, turn_eq s j h, show j + 1 - 1 = j from rfl, at_get s j (by omega)]
  simp

set_option maxRecDepth 100000 in
theorem corner_spec (s : ByteArray) (k : Int) (x : UInt8) (w : World) (hm : s.size ≤ 1048576) (hk0 : -9223372036854775808 ≤ k) (hk1 : k ≤ 9223372036854775807) :
    Calls Try.prog 80 #[.string s, .int .i64 k, .int .u8 (x.toNat : Int)] w fun e w' => e = .returned (.bool (cornerB x s.data.toList k)) ∧ Below w.heap.size w w' := by
  have hsl : s.data.toList.length = s.size := by simp
  have HSL := Lib.hid hsl; clear hsl
  have his : ∀ w : World, Calls Try.prog 78 #[.string s] w fun e w' => e = .returned (.bool (stripB s.data.toList)) ∧ w = w' := fun w => is_spec s w hm
  cases hst : stripB s.data.toList with
  | false =>
    rw [hst] at his
    have HIS := Lib.hid his; clear his
    rw [corner_no _ _ _ (.inl hst)]
    go_enter Try.func80, Try.ntmps80
    go_wp2_with fail
    go_quiet ((go_at_call 78; refine qsame (HIS.out _)))
    go_wp2
    go_ret
    exact ⟨rfl, drewN_below _ _⟩
  | true =>
    rw [hst] at his
    have HIS := Lib.hid his; clear his
    by_cases hr : 1 ≤ k ∧ k ≤ (s.size : Int) - 1
    · obtain ⟨j, rfl⟩ : ∃ j : Nat, k = (j : Int) + 1 := ⟨(k - 1).toNat, by omega⟩
      have hj : j + 1 < s.size := by omega
      have hd := decide_eq_true hr
      have hin : ∀ w : World, Calls Try.prog 74 #[.int .i64 ((j : Int) + 1), .int .i64 1, .int .i64 ((s.size : Int) - 1)] w fun e w' => e = .returned (.bool true) ∧ w = w' := fun w => by
        have h := in_at ((j : Int) + 1) 1 ((s.size : Int) - 1) w
        rw [hd] at h; exact h
      have HIN := Lib.hid hin; clear hin
      have hc := corner_at x s j hj hst
      have HC := Lib.hid hc; clear hc
      have q0 : (0 : Int) ≤ (j : Int) := Int.natCast_nonneg _
      have q1 : (j : Int) + 1 < (s.size : Int) := by omega
      have q2 : (0 : Int) ≤ (j : Int) + 1 := by omega
      have q3 : (0 : Int) ≤ (j : Int) + 1 - 1 := by omega
      have q4 : (j : Int) + 1 - 1 < (s.size : Int) := by omega
      have q5 : (j : Int) < (s.size : Int) := by omega
      by_cases he : s[j + 1] = s[j]
      · have hn := bytes_eq _ _ he
        have hv : (s[j + 1] != s[j] && s[j] == x) = false := by rw [he]; simp
        rw [HC.out, hv]
        clear he hv
        go_enter Try.func80, Try.ntmps80
        go_wp2_with fail
        go_quiet ((first | (go_at_call 78; refine qsame (HIS.out _)) | (go_at_call 74; refine qsame (HIN.out _))))
        go_wp2
        go_ret
        exact ⟨rfl, drewN_below _ _⟩
      · have hn := bytes_ne _ _ he
        have hv : (s[j + 1] != s[j] && s[j] == x) = (s[j] == x) := by simp [he]
        rw [HC.out, hv]
        clear he hv
        have hx := byte_beq s[j] x
        generalize (s[j] == x) = b at *
        go_enter Try.func80, Try.ntmps80
        go_wp2_with fail
        go_quiet ((first | (go_at_call 78; refine qsame (HIS.out _)) | (go_at_call 74; refine qsame (HIN.out _))))
        go_wp2
        go_ret
        exact ⟨rfl, drewN_below _ _⟩
    · have hd := decide_eq_false hr
      have hin : ∀ w : World, Calls Try.prog 74 #[.int .i64 k, .int .i64 1, .int .i64 ((s.size : Int) - 1)] w fun e w' => e = .returned (.bool false) ∧ w = w' := fun w => by
        have h := in_at k 1 ((s.size : Int) - 1) w
        rw [hd] at h; exact h
      have HIN := Lib.hid hin; clear hin
      rw [corner_no _ _ _ (.inr (by rw [HSL.out]; omega))]
      go_enter Try.func80, Try.ntmps80
      go_wp2_with fail
      go_quiet ((first | (go_at_call 78; refine qsame (HIS.out _)) | (go_at_call 74; refine qsame (HIN.out _))))
      go_wp2
      go_ret
      exact ⟨rfl, drewN_below _ _⟩

theorem mountain_spec (s : ByteArray) (k : Int) (w : World) (hm : s.size ≤ 1048576) (hk0 : -9223372036854775808 ≤ k) (hk1 : k ≤ 9223372036854775807) :
    Calls Try.prog 64 #[.string s, .int .i64 k] w fun e w' => e = .returned (.bool (cornerB 102 s.data.toList k)) ∧ Below w.heap.size w w' := by
  go_enter Try.func64, Try.ntmps64
  go_wp2_with fail
  refine (corner_spec s k 102 _ hm hk0 hk1).mono ?_
  rintro e w' ⟨rfl, hb⟩
  have HB := Lib.hid hb; clear hb
  go_wp2
  go_ret
  exact ⟨rfl, HB.out⟩

theorem valley_spec (s : ByteArray) (k : Int) (w : World) (hm : s.size ≤ 1048576) (hk0 : -9223372036854775808 ≤ k) (hk1 : k ≤ 9223372036854775807) :
    Calls Try.prog 52 #[.string s, .int .i64 k] w fun e w' => e = .returned (.bool (cornerB 100 s.data.toList k)) ∧ Below w.heap.size w w' := by
  go_enter Try.func52, Try.ntmps52
  go_wp2_with fail
  refine (corner_spec s k 100 _ hm hk0 hk1).mono ?_
  rintro e w' ⟨rfl, hb⟩
  have HB := Lib.hid hb; clear hb
  go_wp2
  go_ret
  exact ⟨rfl, HB.out⟩

end Go.Proofs.Ytekmladindlmoaa.Corner
