/- What the model of chapter 2 returns: DownOf, ForwardOf, SameFrame, StripAt, l02Many, FlatStrip, HighStrip. -/
import Derived.Test.YtnkompcampnpoaaStripSpec
import Derived.Deep.QuietTactic
import Derived.BigQuiet
import Derived.OwnWalk
namespace Go.Proofs.Ytnkompcampnpoaa.Strip
open Go.ChangeShapes Go.WideShapes Go.ChangeAt Go.RowKit
set_option linter.unusedVariables false

def numV (x : UInt8) (l : List UInt8) : Int := if stripB l = true then cnt x l else 0
def sameB (a b : List UInt8) : Bool := stripB a && stripB b && decide (cnt 100 a = cnt 100 b) && decide (cnt 102 a = cnt 102 b)
def flatL (d f : Int) : List UInt8 := if frameB d f = true then List.replicate d.toNat 100 ++ List.replicate f.toNat 102 else []
def highL (d f : Int) : List UInt8 := if frameB d f = true then List.replicate f.toNat 102 ++ List.replicate d.toNat 100 else []
/-- What StripAt returns. -/
def atV (l : List UInt8) (k : Int) : Value :=
  if stripB l = true ∧ 0 ≤ k ∧ k ≤ l.length then .tuple #[.int .i64 (cnt 102 (l.take k.toNat)), .int .i64 (cnt 100 (l.take k.toNat)), .bool true]
  else .tuple #[.int .i64 0, .int .i64 0, .bool false]

theorem qsame {P : Program} {f : FuncId} {args : Array Value} {w : World} {n : Nat} {v : Value}
    (h : Calls P f args (w.drewN n) fun e w' => e = .returned v ∧ w.drewN n = w') : Calls P f args (w.drewN n) fun e w'' => e = .returned v ∧ ∃ m, w'' = w.drewN m :=
  Calls.quiet_of_same (h.mono fun _ _ ⟨a, b⟩ => ⟨a, b.symm⟩)

theorem below_drewN (w : World) (n : Nat) : Below w.heap.size w (w.drewN n) := ⟨rfl, rfl, rfl, Nat.le_refl _, fun _ _ => rfl⟩

theorem take_str (s : ByteArray) (k : Nat) : (s.extract 0 k).data.toList = s.data.toList.take k := by
  simp [ByteArray.data_extract]

end Go.Proofs.Ytnkompcampnpoaa.Strip
