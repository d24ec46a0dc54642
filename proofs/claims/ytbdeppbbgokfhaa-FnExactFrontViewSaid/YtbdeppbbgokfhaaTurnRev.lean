/- What the program's rows in the opposite order are: slices.Clone and slices.Reverse of bytes, reversed of bytes and of strings. -/
import Derived.Test.YtbdeppbbgokfhaaTurnMath
import Derived.Test.YtbdeppbbgokfhaaBytes
import Derived.Test.YtbdeppbbgokfhaaCardCopy3
import Derived.Lib.OwnBridge
import Derived.Sort.EncStr
import Derived.Shelf.SlicesE.Reverse
import Derived.Shelf.SlicesE.Clone
import Derived.Lib.ConvBytes
namespace Go.Proofs.Ytbdeppbbgokfhaa.Turn
open Go.ChangeShapes Go.WideShapes Go.ChangeAt Go.RowKit Go.Sort
open Go.Proofs.Ytbdeppbbgokfhaa.Strip Go.Proofs.Ytbdeppbbgokfhaa.Strs Go.Proofs.Ytbdeppbbgokfhaa.Card Go.Proofs.Ytbdeppbbgokfhaa.Bytes
set_option linter.unusedVariables false


/-- A byte in a cell. -/
def encU (b : UInt8) : Value := .int .u8 (b.toNat : Int)
theorem bcells_enc (l : List UInt8) : bcells l = l.map encU := rfl

/-- The two library functions at bytes: the kit's own theorems, laid at this program. -/
def byteRen : Go.Shelf.Ren := ⟨fun | 35 => 98 | 41 => 97 | n => n, fun | 0 => 0 | 3 => 3 | 4 => 4 | 22 => 22 | 23 => 5 | n => n, fun | n => n⟩
theorem laysRev : SlLaysE.n35 Try.prog byteRen := {
  mixed := by kernel_rfl
  f35 := ⟨Try.f98.name, by kernel_rfl, Try.func98.trans (congrArg some (by kernel_rfl))⟩
  t0 := Try.underlying0
  a0 := Try.isAgg0
  z0 := Try.sizeOf0
  v0 := Try.zeroValue0
  t3 := Try.underlying3
  a3 := Try.isAgg3
  z3 := Try.sizeOf3
  v3 := Try.zeroValue3
  t4 := Try.underlying4
  a4 := Try.isAgg4
  z4 := Try.sizeOf4
  v4 := Try.zeroValue4
  t22 := Try.underlying22
  a22 := Try.isAgg22
  z22 := Try.sizeOf22
  v22 := Try.zeroValue22
  a23 := Try.isAgg5
  z23 := Try.sizeOf5 }
theorem laysClone : SlLaysE0.n41 Try.prog byteRen := {
  mixed := by kernel_rfl
  f41 := ⟨Try.f97.name, by kernel_rfl, Try.func97.trans (congrArg some (by kernel_rfl))⟩
  t4 := Try.underlying4
  a4 := Try.isAgg4
  z4 := Try.sizeOf4
  v4 := Try.zeroValue4
  t22 := Try.underlying22
  a22 := Try.isAgg22
  z22 := Try.sizeOf22
  v22 := Try.zeroValue22 }

theorem clone_bytes (b c : Nat) (xs : List UInt8) (w : World) (hx : xs.length ≤ 1048576) (hc : ∀ j (h : j < xs.length), w.cell? ⟨b, j, none⟩ = some (.int .u8 (xs[j].toNat : Int))) :
    Calls Try.prog 97 #[.slice (some ⟨b, 0, none⟩) xs.length c] w fun e w' => ∃ v', e = .returned v' ∧ w'.ownsRow w.heap.size 5 1 v' xs.length (bcells xs) ∧ v' ≠ .slice none 0 0 ∧ Below w.heap.size w w' := by
  obtain ⟨i0, hi, hz0, hz1, hz2⟩ := info_parts info_u8
  refine AnyE.slices_Clone laysClone i0 (.int .u8 0) 1 1 hi hz0 hz1 hz2 rfl (by decide) Try.sizeOf5 b 0 xs.length c (bcells xs) w (by rw [bcells_length, Nat.mul_one]) (by unfold maxLen; omega) (by omega) (fun j u hj => ?_) (fun u hu => ?_)
  · have hjl : j < xs.length := by
      have := (List.getElem?_eq_some_iff.1 hj).1
      rwa [bcells_length] at this
    rw [Nat.zero_add, hc j hjl, ← hj]
    simp [bcells, hjl]
  · obtain ⟨x, _, rfl⟩ := List.mem_map.1 hu
    rfl
theorem reverse_bytes (g cap : Nat) (xs : List UInt8) (w : World) (hH : Holds encU w g 0 xs.toArray) (hsz : xs.length ≤ 9223372036854775807) :
    Calls Try.prog 98 #[.slice (some ⟨g, 0, none⟩) xs.length cap] w fun e w' => e = .returned (.tuple #[]) ∧ ∃ n, w' = putRow encU (Sort.ahead w n) g 0 xs.reverse.toArray :=
  AnyE.slices_Reverse laysRev encU (fun _ => rfl) g 0 cap xs w hH hsz

set_option maxRecDepth 100000 in
theorem revb_impl (b c : Nat) (xs : List UInt8) (w : World) (hx : xs.length ≤ 1048576) (hc : ∀ j (h : j < xs.length), w.cell? ⟨b, j, none⟩ = some (.int .u8 (xs[j].toNat : Int))) :
    Calls Try.prog 81 #[.slice (some ⟨b, 0, none⟩) xs.length c] w fun e w' => ∃ g cap, e = .returned (.slice (some ⟨g, 0, none⟩) xs.length cap) ∧ (∀ j (h : j < xs.reverse.length), w'.cell? ⟨g, j, none⟩ = some (.int .u8 (xs.reverse[j].toNat : Int))) ∧ Below w.heap.size w w' := by
  have HC := Lib.hid (clone_bytes b c xs w hx hc)
  clear hc
  go_enter Try.func81, Try.ntmps81
  go_wp2_with fail
  refine HC.out.mono ?_
  rintro e w1 ⟨v1, rfl, hown, hnil, hb1⟩
  clear HC
  rw [bcells_enc] at hown
  obtain ⟨g, cap, rfl, hbg, hlt, h1, h2, h3, hH⟩ := Lib.holds_of_ownsRow hown hnil
  have hrev := reverse_bytes g cap xs w1 hH (by omega)
  have HREV := Lib.hid hrev
  have HCL := Lib.hid (show ∀ q j (h : j < xs.reverse.length), (putRow encU (Sort.ahead w1 q) g 0 xs.reverse.toArray).cell? ⟨g, j, none⟩ = some (.int .u8 (xs.reverse[j].toNat : Int)) from fun q j h => by
    have := Lib.ownsRow_putRow (q := q) (k := xs.length) (ys := xs.reverse) hown (by simp) (Nat.le_refl _)
    rw [this.cellAt j (by simpa using h), List.take_of_length_le (by simp), List.getElem?_map, List.getElem?_eq_getElem h]
    rfl)
  have HBL := Lib.hid (fun q => Lib.below_putRow (enc := encU) (q := q) (d := xs.reverse.toArray) hb1 hbg)
  clear hrev hown hnil hH hb1
  go_wp2_with fail
  refine HREV.out.mono ?_
  rintro e w2 ⟨rfl, q, rfl⟩
  have HCQ := Lib.hid (HCL.out q)
  have HBQ := Lib.hid (HBL.out q)
  clear HCL HBL HREV
  generalize putRow encU (Sort.ahead w1 q) g 0 xs.reverse.toArray = w2 at *
  go_wp2
  go_ret
  exact ⟨g, cap, rfl, HCQ.out, HBQ.out⟩
end Go.Proofs.Ytbdeppbbgokfhaa.Turn
