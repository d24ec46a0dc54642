/- What the model of chapter 2 returns: DownOf, ForwardOf, SameFrame, StripAt, l02Many, FlatStrip, HighStrip. -/
import Derived.Test.YtfhpbgmnekhfeaaStripSpec
import Derived.Deep.QuietTactic
import Derived.BigQuiet
import Derived.OwnWalk
namespace Go.Proofs.Ytfhpbgmnekhfeaa.Strip
open Go.ChangeShapes Go.WideShapes Go.ChangeAt Go.RowKit
set_option linter.unusedVariables false

def numV (x : UInt8) (l : List UInt8) : Int := if stripB l = true then cnt x l else 0
def sameB (a b : List UInt8) : Bool := stripB a && stripB b && decide (cnt 100 a = cnt 100 b) && decide (cnt 102 a = cnt 102 b)
def flatL (d f : Int) : List UInt8 := if frameB d f = true then List.replicate d.toNat 100 ++ List.replicate f.toNat 102 else []
def highL (d f : Int) : List UInt8 := if frameB d f = true then List.replicate f.toNat 102 ++ List.replicate d.toNat 100 else []
/-- What StripAt returns. -/
def atV (l : List UInt8) (k : Int) : Value :=
  if stripB l = true ∧ 0 ≤ k ∧ k ≤ l.length then .tuple #[.int .i64 (cnt 102 (l.take k.toNat)), .int .i64 (cnt 100 (l.take k.toNat)), .bool true]
  else .tuple #[.int .i64 0, .int .i64 0, .bool false]

theorem qsame {P : Program} {f : FuncId} {args : Array Value} {w : World} {n : Nat} {v : Value}
    (h : Calls P f args (w.drewN n) fun e w' => e = .returned v ∧ w.drewN n = w') : Calls P f args (w.drewN n) fun e w'' => e = .returned v ∧ ∃ m, w'' = w.drewN m :=
  Calls.quiet_of_same (h.mono fun _ _ ⟨a, b⟩ => ⟨a, b.symm⟩)

theorem below_drewN (w : World) (n : Nat) : Below w.heap.size w (w.drewN n) := ⟨rfl, rfl, rfl, Nat.le_refl _, fun _ _ => rfl⟩

theorem take_str (s : ByteArray) (k : Nat) : (s.extract 0 k).data.toList = s.data.toList.take k := by
  simp [ByteArray.data_extract]

theorem count_int (s : ByteArray) (n : Int) (hn : 0 ≤ n ∧ n < 256) (w : World) (hm : s.size ≤ 1048576) :
    Calls Try.prog 57 #[.string s, .int .u8 n] w fun e w' => e = .returned (.int .i64 (cnt (UInt8.ofNat n.toNat) s.data.toList)) ∧ w = w' := by
  have e : (((UInt8.ofNat n.toNat).toNat : Nat) : Int) = n := by
    rw [UInt8.toNat_ofNat']; omega
  have h := count_spec s (UInt8.ofNat n.toNat) w hm
  rw [e] at h
  exact h

theorem down_spec (s : ByteArray) (w : World) (hm : s.size ≤ 1048576) :
    Calls Try.prog 50 #[.string s] w fun e w' => e = .returned (.int .i64 (numV 100 s.data.toList)) ∧ w = w' := by
  unfold numV
  cases hs : stripB s.data.toList with
  | false =>
    go_enter Try.func50, Try.ntmps50
    go_wp2_with fail
    refine (is_spec s _ hm).mono ?_
    rintro e w' ⟨rfl, rfl⟩
    rw [hs]
    go_wp2
    go_ret
    exact ⟨rfl, rfl⟩
  | true =>
    go_enter Try.func50, Try.ntmps50
    go_wp2_with fail
    refine (is_spec s _ hm).mono ?_
    rintro e w' ⟨rfl, rfl⟩
    rw [hs]
    go_wp2_with fail
    refine (count_spec s 100 _ hm).mono ?_
    rintro e w' ⟨rfl, rfl⟩
    go_wp2
    go_ret
    exact ⟨rfl, rfl⟩

theorem forward_spec (s : ByteArray) (w : World) (hm : s.size ≤ 1048576) :
    Calls Try.prog 51 #[.string s] w fun e w' => e = .returned (.int .i64 (numV 102 s.data.toList)) ∧ w = w' := by
  unfold numV
  cases hs : stripB s.data.toList with
  | false =>
    go_enter Try.func51, Try.ntmps51
    go_wp2_with fail
    refine (is_spec s _ hm).mono ?_
    rintro e w' ⟨rfl, rfl⟩
    rw [hs]
    go_wp2
    go_ret
    exact ⟨rfl, rfl⟩
  | true =>
    go_enter Try.func51, Try.ntmps51
    go_wp2_with fail
    refine (is_spec s _ hm).mono ?_
    rintro e w' ⟨rfl, rfl⟩
    rw [hs]
    go_wp2_with fail
    refine (count_spec s 102 _ hm).mono ?_
    rintro e w' ⟨rfl, rfl⟩
    go_wp2
    go_ret
    exact ⟨rfl, rfl⟩

end Go.Proofs.Ytfhpbgmnekhfeaa.Strip
