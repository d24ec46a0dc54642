/- Bytes that the call itself appends: a slice of bytes as a list, and back to a string. -/
import Derived.Test.YthigiemgdejdhaaChecked
import Derived.WalkKit
import Derived.ProofKit
import Derived.WalkLawsBesides
import Derived.Below
import Derived.IntWalk
import Derived.Lib.Hide
import Derived.Lib.BufferRead
import Derived.Laws.IdiomStrings
import Derived.StillTailTactics
import Derived.Outline
namespace Go.Proofs.Ythigiemgdejdhaa.Bytes
open Go.ChangeShapes Go.WideShapes Go.ChangeAt Go.RowKit
set_option linter.unusedVariables false

/-- Bytes as the values of cells. -/
def bcells (l : List UInt8) : List Value := l.map fun b => Value.int .u8 (b.toNat : Int)

theorem bcells_append (a b : List UInt8) : bcells (a ++ b) = bcells a ++ bcells b := by simp [bcells]
theorem bcells_two (a b : UInt8) : bcells [a, b] = [.int .u8 (a.toNat : Int), .int .u8 (b.toNat : Int)] := rfl
theorem bcells_one (a : UInt8) : bcells [a] = [.int .u8 (a.toNat : Int)] := rfl
theorem bcells_length (a : List UInt8) : (bcells a).length = a.length := by simp [bcells]

theorem info_u8 : (Try.prog.info? 5).map (fun i => (i.zero, i.size, i.bytes)) = some (some (.int .u8 0), 1, 1) := by kernel_rfl

def digU (x : Nat) : UInt8 := if x < 10 then UInt8.ofNat (48 + x) else UInt8.ofNat (87 + x)

theorem digU_int (x : Nat) (h : x < 16) : ((digU x).toNat : Int) = if (x : Int) < 10 then 48 + (x : Int) else 97 + (x : Int) - 10 := by
  unfold digU
  split
  · rw [if_pos (by omega)]; simp; omega
  · rw [if_neg (by omega)]; simp; omega

/-- Two digits for each byte. -/
def hexL (l : List UInt8) : List UInt8 := l.flatMap fun c => [digU (c.toNat / 16), digU (c.toNat % 16)]

theorem hexL_snoc (l : List UInt8) (c : UInt8) : hexL (l ++ [c]) = hexL l ++ [digU (c.toNat / 16), digU (c.toNat % 16)] := by simp [hexL]
theorem hexL_length (l : List UInt8) : (hexL l).length = 2 * l.length := by
  induction l with
  | nil => rfl
  | cons c l ih => simp only [hexL, List.flatMap_cons] at ih ⊢; simp [ih]; omega

theorem take_snoc (s : ByteArray) (k : Nat) (h : k < s.size) : s.data.toList.take (k + 1) = s.data.toList.take k ++ [s[k]] := by
  rw [List.take_succ_eq_append_getElem (by simpa using h)]; rfl

end Go.Proofs.Ythigiemgdejdhaa.Bytes
