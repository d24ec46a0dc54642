/- What the functions of chapter 2 return that count the letters of a strip: of the model and of the program. -/
import Derived.Test.YtfhpbgmnekhfeaaChecked
import Derived.WalkKit
import Derived.ProofKit
import Derived.WalkLawsBesides
import Derived.Below
import Derived.IntWalk
import Derived.Lib.Hide
import Derived.LoopTactic
import Derived.Laws.RangeString
import Derived.Laws.RangeAny
import Derived.OpenShut
namespace Go.Proofs.Ytfhpbgmnekhfeaa.Strip
open Go.ChangeShapes Go.WideShapes Go.ChangeAt Go.RowKit
set_option linter.unusedVariables false

/-- How often a letter stands in a text. -/
def cnt (x : UInt8) (l : List UInt8) : Nat := l.count x
/-- Only the letters d and f. -/
def okL (l : List UInt8) : Bool := l.all fun b => b == 100 || b == 102
def frameB (d f : Int) : Bool := decide (1 ≤ d ∧ d ≤ 8 ∧ 1 ≤ f ∧ f ≤ 8)
def stripB (l : List UInt8) : Bool := okL l && frameB (cnt 100 l) (cnt 102 l)

theorem take_snoc (s : ByteArray) (k : Nat) (h : k < s.size) : s.data.toList.take (k + 1) = s.data.toList.take k ++ [s[k]] := by
  rw [List.take_add_one]
  congr 1
  have : s.data.toList[k]? = some s[k] := by
    rw [List.getElem?_eq_getElem (by simpa using h)]
    rfl
  rw [this]; rfl

theorem cnt_snoc (x : UInt8) (l : List UInt8) (b : UInt8) : cnt x (l ++ [b]) = cnt x l + (if b = x then 1 else 0) := by
  unfold cnt
  rw [List.count_append, List.count_singleton]
  congr 1
  simp

theorem okL_snoc (l : List UInt8) (b : UInt8) : okL (l ++ [b]) = (okL l && (b == 100 || b == 102)) := by
  unfold okL
  simp

theorem cnt_le (x : UInt8) (l : List UInt8) : cnt x l ≤ l.length := List.count_le_length

theorem okL_take (l : List UInt8) (k : Nat) (h : okL l = true) : okL (l.take k) = true := by
  unfold okL at *
  rw [List.all_eq_true] at *
  intro x hx
  exact h x (List.mem_of_mem_take hx)

theorem okL_bad (s : ByteArray) (k : Nat) (h : k < s.size) (h1 : s[k] ≠ 100) (h2 : s[k] ≠ 102) : okL s.data.toList = false := by
  cases hb : okL s.data.toList with
  | false => rfl
  | true =>
    unfold okL at hb
    rw [List.all_eq_true] at hb
    have hm : s[k] ∈ s.data.toList := by
      show s.data[k] ∈ s.data.toList
      simp
    have := hb _ hm
    simp [h1, h2] at this

theorem strip_bad (s : ByteArray) (h : okL s.data.toList = false) : stripB s.data.toList = false := by
  unfold stripB; rw [h]; rfl

theorem stripB_ok {l : List UInt8} (h : stripB l = true) : okL l = true := by
  unfold stripB at h; simp at h; exact h.1

theorem stripB_frame {l : List UInt8} (h : stripB l = true) : frameB (cnt 100 l) (cnt 102 l) = true := by
  unfold stripB at h; simp at h; exact h.2

theorem cnt_sum : ∀ l : List UInt8, okL l = true → cnt 100 l + cnt 102 l = l.length
  | [], _ => rfl
  | b :: l, h => by
    unfold okL at h
    simp only [List.all_cons, Bool.and_eq_true] at h
    have ih := cnt_sum l (by unfold okL; exact h.2)
    unfold cnt at *
    rw [List.count_cons, List.count_cons, List.length_cons]
    have hb := h.1
    simp only [Bool.or_eq_true, beq_iff_eq] at hb
    rcases hb with rfl | rfl
    · simp; omega
    · simp; omega

theorem byte_eq (b x : UInt8) (h : b = x) : ((b.toNat : Int) == (x.toNat : Int)) = true := by subst h; simp
theorem byte_ne (b x : UInt8) (h : b ≠ x) : ((b.toNat : Int) == (x.toNat : Int)) = false := by
  simp only [beq_eq_false_iff_ne, ne_eq, Int.natCast_inj]
  exact fun e => h (UInt8.toNat_inj.mp e)

theorem in_at (x a b : Int) (w : World) :
    Calls Try.prog 41 #[.int .i64 x, .int .i64 a, .int .i64 b] w fun e w' => e = .returned (.bool (decide (a ≤ x ∧ x ≤ b))) ∧ w = w' := by
  go_enter Try.func41, Try.ntmps41
  go_wp2
  all_goals
    go_ret
    refine ⟨?_, rfl⟩
    simp
    try omega

theorem frame_impl (d f : Int) (w : World) :
    Calls Try.prog 46 #[.int .i64 d, .int .i64 f] w fun e w' => e = .returned (.bool (frameB d f)) ∧ w = w' := by
  unfold frameB
  go_enter Try.func46, Try.ntmps46
  go_wp2
  all_goals
    go_ret
    refine ⟨?_, rfl⟩
    simp [*]
    try omega
end Go.Proofs.Ytfhpbgmnekhfeaa.Strip
