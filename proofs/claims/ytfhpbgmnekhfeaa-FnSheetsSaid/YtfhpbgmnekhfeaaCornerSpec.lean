/- What the model of chapter 3 returns. -/
import Derived.Test.YtfhpbgmnekhfeaaStripSpec2
import Derived.Test.YtfhpbgmnekhfeaaIntRow
import Derived.Test.YtfhpbgmnekhfeaaCorner
namespace Go.Proofs.Ytfhpbgmnekhfeaa.Corner
open Go.ChangeShapes Go.WideShapes Go.ChangeAt Go.RowKit
open Go.Proofs.Ytfhpbgmnekhfeaa.Strip Go.Proofs.Ytfhpbgmnekhfeaa.Ints
set_option linter.unusedVariables false

theorem info_int : (Try.prog.info? 3).map (fun i => (i.zero, i.size, i.bytes)) = some (some (.int .i64 0), 1, 8) := by kernel_rfl

/-- It returns the ints l in memory of its own and leaves all that stood before alone. -/
def PostRow (w : World) (l : List Int) (e : Ending) (w' : World) : Prop := ∃ v, e = .returned v ∧ Below w.heap.size w w' ∧ Own w' w.heap.size v l

theorem byte_beq (a x : UInt8) : ((a.toNat : Int) == (x.toNat : Int)) = (a == x) := by
  by_cases h : a = x
  · rw [byte_eq _ _ h, h]; simp
  · rw [byte_ne _ _ h]; simp [h]
theorem turn_yes (s : ByteArray) (k : Nat) (h : k + 1 < s.size) (hn : s[k + 1] ≠ s[k]) : turn s.data.toList (k + 1) = true := by rw [turn_eq s k h]; simpa using hn
theorem turn_no (s : ByteArray) (k : Nat) (h : k + 1 < s.size) (hn : s[k + 1] = s[k]) : turn s.data.toList (k + 1) = false := by rw [turn_eq s k h]; simpa using hn
theorem bytes_eq (a b : UInt8) (h : a = b) : ((a.toNat : Int) != (b.toNat : Int)) = false := by subst h; simp
theorem bytes_ne (a b : UInt8) (h : a ≠ b) : ((a.toNat : Int) != (b.toNat : Int)) = true := by
  simp only [bne_iff_ne, ne_eq, Int.natCast_inj]
  exact fun e => h (UInt8.toNat_inj.mp e)

theorem corner_no (x : UInt8) (l : List UInt8) (k : Int) (h : stripB l = false ∨ ¬ (1 ≤ k ∧ k < (l.length : Int))) : cornerB x l k = false := by
  unfold cornerB
  rcases h with h | h
  · rw [h]; rfl
  · rw [decide_eq_false h]; simp
theorem corner_at (x : UInt8) (s : ByteArray) (j : Nat) (h : j + 1 < s.size) (hs : stripB s.data.toList = true) : cornerB x s.data.toList ((j : Int) + 1) = ((s[j + 1] != s[j]) && (s[j] == x)) := by
  unfold cornerB
  have hl : s.data.toList.length = s.size := by simp
  rw [hs, hl, decide_eq_true (by omega), show ((j : Int) + 1).toNat = j + 1 from by omega, turn_eq s j h, show j + 1 - 1 = j from rfl, at_get s j (by omega)]
  simp

end Go.Proofs.Ytfhpbgmnekhfeaa.Corner
