/- Pairs of digits: plain. -/
import Derived.Test.YtcagffcmnpakjaaDoorBytes
import Derived.OwnWalk
import Derived.Deep.AppendLies
namespace Go.Proofs.YtcagffcmnpakjaaDoor.Bytes
open Go.ChangeShapes Go.WideShapes Go.ChangeAt Go.RowKit
set_option linter.unusedVariables false

/-- The value of a digit; -1 where the byte is none. -/
def valI (c : Int) : Int := if 48 ≤ c ∧ c ≤ 57 then c - 48 else if 97 ≤ c ∧ c ≤ 102 then c - 87 else -1

theorem valI_bd (c : Int) : -1 ≤ valI c ∧ valI c ≤ 15 := by
  unfold valI; split
  · omega
  · split <;> omega

theorem or16_all : ∀ p q : Fin 16, bits BinOp.or IntKind.i64 ((p.val : Int) * 16) (q.val : Int) = 16 * (p.val : Int) + (q.val : Int) := by decide +kernel
theorem or16 (p q : Int) (p0 : 0 ≤ p) (p1 : p ≤ 15) (q0 : 0 ≤ q) (q1 : q ≤ 15) : bits BinOp.or IntKind.i64 (p * 16) q = 16 * p + q := by
  obtain ⟨a, rfl⟩ := Int.eq_ofNat_of_zero_le p0
  obtain ⟨b, rfl⟩ := Int.eq_ofNat_of_zero_le q0
  exact or16_all ⟨a, by omega⟩ ⟨b, by omega⟩

/-- Byte i as a number (0 behind the end). -/
def bt (s : ByteArray) (i : Nat) : Int := ((s.data.toList.getD i 0).toNat : Int)

theorem bt_at (s : ByteArray) (i : Nat) (h : i < s.size) : (s[i].toNat : Int) = bt s i := by
  have h' : i < s.data.size := h
  unfold bt
  rw [List.getD_eq_getElem?_getD, List.getElem?_eq_getElem (by simpa using h')]
  rfl

theorem bt_bd (s : ByteArray) (i : Nat) : 0 ≤ bt s i ∧ bt s i ≤ 255 := by
  unfold bt
  have := (s.data.toList.getD i 0).toNat_lt
  omega

/-- Pair j is two digits. -/
def good (s : ByteArray) (j : Nat) : Prop := 0 ≤ valI (bt s (2 * j)) ∧ 0 ≤ valI (bt s (2 * j + 1))
/-- The byte of pair j. -/
def pairI (s : ByteArray) (j : Nat) : Int := 16 * valI (bt s (2 * j)) + valI (bt s (2 * j + 1))
/-- The bytes of the first j pairs. -/
def outs (s : ByteArray) (j : Nat) : List UInt8 := (List.range j).map fun t => UInt8.ofNat (pairI s t).toNat

theorem outs_succ (s : ByteArray) (j : Nat) (h : good s j) : bcells (outs s (j + 1)) = bcells (outs s j) ++ [.int .u8 (16 * valI (bt s (2 * j)) + valI (bt s (2 * j + 1)))] := by
  have h1 := valI_bd (bt s (2 * j))
  have h2 := valI_bd (bt s (2 * j + 1))
  obtain ⟨g1, g2⟩ := h
  have e : (((UInt8.ofNat (pairI s j).toNat).toNat : Nat) : Int) = pairI s j := by
    unfold pairI
    simp only [UInt8.toNat_ofNat']
    omega
  unfold outs
  rw [List.range_succ, List.map_append, bcells_append]
  simp only [List.map_cons, List.map_nil, bcells_one]
  rw [e]; rfl
theorem outs_length (s : ByteArray) (j : Nat) : (outs s j).length = j := by simp [outs]

theorem first_bad (s : ByteArray) (n : Nat) : ∃ j0, (∀ j, j < j0 → good s j) ∧ (j0 = n ∨ (j0 < n ∧ ¬ good s j0)) := by
  induction n with
  | zero => exact ⟨0, fun j h => by omega, .inl rfl⟩
  | succ n ih =>
    obtain ⟨j0, hg, h | ⟨h1, h2⟩⟩ := ih
    · subst h
      by_cases hb : good s j0
      · exact ⟨j0 + 1, fun j hj => by
          by_cases e : j = j0
          · rw [e]; exact hb
          · exact hg j (by omega), .inl rfl⟩
      · exact ⟨j0, hg, .inr ⟨by omega, hb⟩⟩
    · exact ⟨j0, hg, .inr ⟨by omega, h2⟩⟩
end Go.Proofs.YtcagffcmnpakjaaDoor.Bytes
