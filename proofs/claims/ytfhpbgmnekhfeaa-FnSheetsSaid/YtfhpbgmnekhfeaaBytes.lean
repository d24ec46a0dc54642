/- Bytes that the call itself appends: a slice of bytes as a list, and back to a string. -/
import Derived.Test.YtfhpbgmnekhfeaaChecked
import Derived.WalkKit
import Derived.ProofKit
import Derived.WalkLawsBesides
import Derived.Below
import Derived.IntWalk
import Derived.Lib.Hide
import Derived.Lib.BufferRead
import Derived.Laws.IdiomStrings
import Derived.StillTailTactics
import Derived.Outline
namespace Go.Proofs.Ytfhpbgmnekhfeaa.Bytes
open Go.ChangeShapes Go.WideShapes Go.ChangeAt Go.RowKit
set_option linter.unusedVariables false

/-- Bytes as the values of cells. -/
def bcells (l : List UInt8) : List Value := l.map fun b => Value.int .u8 (b.toNat : Int)

theorem bcells_append (a b : List UInt8) : bcells (a ++ b) = bcells a ++ bcells b := by simp [bcells]
theorem bcells_two (a b : UInt8) : bcells [a, b] = [.int .u8 (a.toNat : Int), .int .u8 (b.toNat : Int)] := rfl
theorem bcells_one (a : UInt8) : bcells [a] = [.int .u8 (a.toNat : Int)] := rfl
theorem bcells_length (a : List UInt8) : (bcells a).length = a.length := by simp [bcells]

/-- string(b) of a slice that the call itself filled. -/
theorem run_string_owned {w : World} {base n : Nat} {v : Value} {l : List UInt8} (h : w.ownsRow base 5 1 v n (bcells l)) :
    (Go.convert 22 9 v).run Try.prog w = .ok (.string ⟨l.toArray⟩) w := by
  have hc := h
  obtain ⟨hl, h1 | ⟨g, cap, cur, rfl, hg, hh, hnc, hcm, hcs, ht⟩⟩ := h
  · obtain ⟨rfl, rfl⟩ := h1
    have : l = [] := by simpa [bcells] using hl
    subst this
    exact Lib.run_convert_nil_bytes (P := Try.prog) w 22 9 5 0 Try.underlying22 Try.underlying5 Try.underlying9
  · have hn : l.length = n := by simpa [bcells] using hl
    subst hn
    refine run_convert_bytes_back (P := Try.prog) w 22 9 5 ⟨g, 0, none⟩ cap l Try.underlying22 Try.underlying5 Try.underlying9 ?_
    intro j hj
    exact hc.cells rfl j _ (by simp [bcells, hj])

theorem info_u8 : (Try.prog.info? 5).map (fun i => (i.zero, i.size, i.bytes)) = some (some (.int .u8 0), 1, 1) := by kernel_rfl

def digU (x : Nat) : UInt8 := if x < 10 then UInt8.ofNat (48 + x) else UInt8.ofNat (87 + x)

theorem digU_int (x : Nat) (h : x < 16) : ((digU x).toNat : Int) = if (x : Int) < 10 then 48 + (x : Int) else 97 + (x : Int) - 10 := by
  unfold digU
  split
  · rw [if_pos (by omega)]; simp; omega
  · rw [if_neg (by omega)]; simp; omega

/-- Two digits for each byte. -/
def hexL (l : List UInt8) : List UInt8 := l.flatMap fun c => [digU (c.toNat / 16), digU (c.toNat % 16)]

theorem hexL_snoc (l : List UInt8) (c : UInt8) : hexL (l ++ [c]) = hexL l ++ [digU (c.toNat / 16), digU (c.toNat % 16)] := by simp [hexL]
theorem hexL_length (l : List UInt8) : (hexL l).length = 2 * l.length := by
  induction l with
  | nil => rfl
  | cons c l ih => simp only [hexL, List.flatMap_cons] at ih ⊢; simp [ih]; omega

theorem take_snoc (s : ByteArray) (k : Nat) (h : k < s.size) : s.data.toList.take (k + 1) = s.data.toList.take k ++ [s[k]] := by
  rw [List.take_succ_eq_append_getElem (by simpa using h)]; rfl

end Go.Proofs.Ytfhpbgmnekhfeaa.Bytes
