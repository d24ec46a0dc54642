/-
  No cell of these rows narrows 'for every input' (looked for: loops, veiled, ifaces, maps, wideKeys, modest, calm, conditions, laid).
  DERIVED. THE GIVEN ROWS OF THIS SEAT. 7 by the template 'for every input the law returns true; each argument reads behind the call as it read before'; 0 by the template 'total and deterministic' (their statements: YtnkcmilhchidiaaTotals.lean).
  GIVEN WITH THE SEED: the statements are not yours to turn. If you find one false, say at which input.
  Laid BY PROGRAM, IN A SANDBOX (cutbox-rows.mjs): the forced cells as the released guide's own fill.sh prints them over the translation e9f5b5d542034c9d… (all of the seat's roots in one cut). By AI agents, Wed Nov 11 2026. No macro, syntax, notation, axiom, sorry.
-/
import Derived.Test.YtnkcmilhchidiaaChecked
import GoSem.Claim
import GoSem.ClaimJoined
import GoSem.ClaimMapViews
import Derived.JoinedTies
import Derived.KernelRfl
namespace Go.Proofs.Ytnkcmilhchidiaa
/- THE CELL 'sum', in the pinned program and in every row, IS THE sha256 OF THE DUMP (.gsa) THAT YtnkcmilhchidiaaProg.lean LOADS. Nothing in Lean hashes anything: it is a label: what it is worth is what the hold of that sum in a sandbox is worth. -/
noncomputable def Try.pinned : Pinned := { name := "ytnkcmilhchidiaa", sum := "e9f5b5d542034c9d2901a6f0741a32565d0cadacb1b372c91fbde9166fe71a66", checked := Try.checked }
namespace Rows
def none {H : Type} : Left H := { results := [], args := [] }

/-- 'laws.FnOrder': WHATEVER THE INPUT: true; the input reads as it did. -/
def fnOrderSpec : ChangeSpec := { name := "fnOrder", fn := fun _ => fun
  | [d] => { results := [.lit (.bool true)], args := [d] }
  | _ => none }
def fnOrderRow : OpenClaim := { program := "ytnkcmilhchidiaa", sum := "e9f5b5d542034c9d2901a6f0741a32565d0cadacb1b372c91fbde9166fe71a66", func := "loop.example/g03305/laws.FnOrder", spec := "fnOrder", inPlace := ["internal/bytealg.CountString", "internal/bytealg.IndexByteString", "internal/bytealg.IndexString"], unfollowed := true, recurses := true, named := ["internal/bytealg.MaxLen"], apart := false }
def FnOrderSaid : Prop := fnOrderRow.holds Try.pinned (OpenSpec.ofChange fnOrderSpec)

/-- ITS FALSE NEIGHBOUR: 'it returns false'. Refute it at one input. -/
def fnOrderWrong : ChangeSpec := { name := "fnOrder", fn := fun _ => fun
  | [d] => { results := [.lit (.bool false)], args := [d] }
  | _ => none }
def FnOrderWrongFalsely : Prop := fnOrderRow.holds Try.pinned (OpenSpec.ofChange fnOrderWrong)

/-- 'laws.FnExactIsAbove': WHATEVER THE INPUT: true; the input reads as it did. -/
def fnExactIsAboveSpec : ChangeSpec := { name := "fnExactIsAbove", fn := fun _ => fun
  | [d1, d2] => { results := [.lit (.bool true)], args := [d1, d2] }
  | _ => none }
def fnExactIsAboveRow : OpenClaim := { program := "ytnkcmilhchidiaa", sum := "e9f5b5d542034c9d2901a6f0741a32565d0cadacb1b372c91fbde9166fe71a66", func := "loop.example/g03305/laws.FnExactIsAbove", spec := "fnExactIsAbove", inPlace := ["internal/bytealg.CountString", "internal/bytealg.IndexByteString", "internal/bytealg.IndexString"], unfollowed := true, recurses := true, named := ["internal/bytealg.MaxLen"], apart := false }
def FnExactIsAboveSaid : Prop := fnExactIsAboveRow.holds Try.pinned (OpenSpec.ofChange fnExactIsAboveSpec)

/-- ITS FALSE NEIGHBOUR: 'it returns false'. Refute it at one input. -/
def fnExactIsAboveWrong : ChangeSpec := { name := "fnExactIsAbove", fn := fun _ => fun
  | [d1, d2] => { results := [.lit (.bool false)], args := [d1, d2] }
  | _ => none }
def FnExactIsAboveWrongFalsely : Prop := fnExactIsAboveRow.holds Try.pinned (OpenSpec.ofChange fnExactIsAboveWrong)

/-- 'laws.FnExactUpperOf': WHATEVER THE INPUT: true; the input reads as it did. -/
def fnExactUpperOfSpec : ChangeSpec := { name := "fnExactUpperOf", fn := fun _ => fun
  | [d1, d2] => { results := [.lit (.bool true)], args := [d1, d2] }
  | _ => none }
def fnExactUpperOfRow : OpenClaim := { program := "ytnkcmilhchidiaa", sum := "e9f5b5d542034c9d2901a6f0741a32565d0cadacb1b372c91fbde9166fe71a66", func := "loop.example/g03305/laws.FnExactUpperOf", spec := "fnExactUpperOf", inPlace := ["internal/bytealg.CountString", "internal/bytealg.IndexByteString", "internal/bytealg.IndexString"], unfollowed := true, recurses := true, named := ["internal/bytealg.MaxLen"], apart := false }
def FnExactUpperOfSaid : Prop := fnExactUpperOfRow.holds Try.pinned (OpenSpec.ofChange fnExactUpperOfSpec)

/-- ITS FALSE NEIGHBOUR: 'it returns false'. Refute it at one input. -/
def fnExactUpperOfWrong : ChangeSpec := { name := "fnExactUpperOf", fn := fun _ => fun
  | [d1, d2] => { results := [.lit (.bool false)], args := [d1, d2] }
  | _ => none }
def FnExactUpperOfWrongFalsely : Prop := fnExactUpperOfRow.holds Try.pinned (OpenSpec.ofChange fnExactUpperOfWrong)

/-- 'laws.FnExactLowerOf': WHATEVER THE INPUT: true; the input reads as it did. -/
def fnExactLowerOfSpec : ChangeSpec := { name := "fnExactLowerOf", fn := fun _ => fun
  | [d1, d2] => { results := [.lit (.bool true)], args := [d1, d2] }
  | _ => none }
def fnExactLowerOfRow : OpenClaim := { program := "ytnkcmilhchidiaa", sum := "e9f5b5d542034c9d2901a6f0741a32565d0cadacb1b372c91fbde9166fe71a66", func := "loop.example/g03305/laws.FnExactLowerOf", spec := "fnExactLowerOf", inPlace := ["internal/bytealg.CountString", "internal/bytealg.IndexByteString", "internal/bytealg.IndexString"], unfollowed := true, recurses := true, named := ["internal/bytealg.MaxLen"], apart := false }
def FnExactLowerOfSaid : Prop := fnExactLowerOfRow.holds Try.pinned (OpenSpec.ofChange fnExactLowerOfSpec)

/-- ITS FALSE NEIGHBOUR: 'it returns false'. Refute it at one input. -/
def fnExactLowerOfWrong : ChangeSpec := { name := "fnExactLowerOf", fn := fun _ => fun
  | [d1, d2] => { results := [.lit (.bool false)], args := [d1, d2] }
  | _ => none }
def FnExactLowerOfWrongFalsely : Prop := fnExactLowerOfRow.holds Try.pinned (OpenSpec.ofChange fnExactLowerOfWrong)

/-- 'laws.FnExactAreComparable': WHATEVER THE INPUT: true; the input reads as it did. -/
def fnExactAreComparableSpec : ChangeSpec := { name := "fnExactAreComparable", fn := fun _ => fun
  | [d1, d2] => { results := [.lit (.bool true)], args := [d1, d2] }
  | _ => none }
def fnExactAreComparableRow : OpenClaim := { program := "ytnkcmilhchidiaa", sum := "e9f5b5d542034c9d2901a6f0741a32565d0cadacb1b372c91fbde9166fe71a66", func := "loop.example/g03305/laws.FnExactAreComparable", spec := "fnExactAreComparable", inPlace := ["internal/bytealg.CountString", "internal/bytealg.IndexByteString", "internal/bytealg.IndexString"], unfollowed := true, recurses := true, named := ["internal/bytealg.MaxLen"], apart := false }
def FnExactAreComparableSaid : Prop := fnExactAreComparableRow.holds Try.pinned (OpenSpec.ofChange fnExactAreComparableSpec)

/-- ITS FALSE NEIGHBOUR: 'it returns false'. Refute it at one input. -/
def fnExactAreComparableWrong : ChangeSpec := { name := "fnExactAreComparable", fn := fun _ => fun
  | [d1, d2] => { results := [.lit (.bool false)], args := [d1, d2] }
  | _ => none }
def FnExactAreComparableWrongFalsely : Prop := fnExactAreComparableRow.holds Try.pinned (OpenSpec.ofChange fnExactAreComparableWrong)

/-- 'laws.FnExactUpperCard': WHATEVER THE INPUT: true; the input reads as it did. -/
def fnExactUpperCardSpec : ChangeSpec := { name := "fnExactUpperCard", fn := fun _ => fun
  | [d1, d2] => { results := [.lit (.bool true)], args := [d1, d2] }
  | _ => none }
def fnExactUpperCardRow : OpenClaim := { program := "ytnkcmilhchidiaa", sum := "e9f5b5d542034c9d2901a6f0741a32565d0cadacb1b372c91fbde9166fe71a66", func := "loop.example/g03305/laws.FnExactUpperCard", spec := "fnExactUpperCard", inPlace := ["internal/bytealg.CountString", "internal/bytealg.IndexByteString", "internal/bytealg.IndexString"], unfollowed := true, recurses := true, named := ["internal/bytealg.MaxLen"], apart := false }
def FnExactUpperCardSaid : Prop := fnExactUpperCardRow.holds Try.pinned (OpenSpec.ofChange fnExactUpperCardSpec)

/-- ITS FALSE NEIGHBOUR: 'it returns false'. Refute it at one input. -/
def fnExactUpperCardWrong : ChangeSpec := { name := "fnExactUpperCard", fn := fun _ => fun
  | [d1, d2] => { results := [.lit (.bool false)], args := [d1, d2] }
  | _ => none }
def FnExactUpperCardWrongFalsely : Prop := fnExactUpperCardRow.holds Try.pinned (OpenSpec.ofChange fnExactUpperCardWrong)

/-- 'laws.FnExactLowerCard': WHATEVER THE INPUT: true; the input reads as it did. -/
def fnExactLowerCardSpec : ChangeSpec := { name := "fnExactLowerCard", fn := fun _ => fun
  | [d1, d2] => { results := [.lit (.bool true)], args := [d1, d2] }
  | _ => none }
def fnExactLowerCardRow : OpenClaim := { program := "ytnkcmilhchidiaa", sum := "e9f5b5d542034c9d2901a6f0741a32565d0cadacb1b372c91fbde9166fe71a66", func := "loop.example/g03305/laws.FnExactLowerCard", spec := "fnExactLowerCard", inPlace := ["internal/bytealg.CountString", "internal/bytealg.IndexByteString", "internal/bytealg.IndexString"], unfollowed := true, recurses := true, named := ["internal/bytealg.MaxLen"], apart := false }
def FnExactLowerCardSaid : Prop := fnExactLowerCardRow.holds Try.pinned (OpenSpec.ofChange fnExactLowerCardSpec)

/-- ITS FALSE NEIGHBOUR: 'it returns false'. Refute it at one input. -/
def fnExactLowerCardWrong : ChangeSpec := { name := "fnExactLowerCard", fn := fun _ => fun
  | [d1, d2] => { results := [.lit (.bool false)], args := [d1, d2] }
  | _ => none }
def FnExactLowerCardWrongFalsely : Prop := fnExactLowerCardRow.holds Try.pinned (OpenSpec.ofChange fnExactLowerCardWrong)

/- THE SECOND FORM. 'bulk': how many values and letters a reading holds, each counted each time it is reached (what is shared counts as often as it is met; a slice's spare places count too). A statement '..UptoSaid' is the law's where the arguments, and the package variables that the reading takes, are together of bulk at most 1048576: NARROWER than '..Said'. Prove '..Said' where nothing that the law and all that it calls make is longer than what came in: it says more and counts as full. Else prove '..UptoSaid'. A law counts once. -/
mutual
def uptoBulk {H : Type} : DataW H → Nat
  | .lit (.string bytes) => bytes.length + 1
  | .lit _ => 1
  | .nil => 1
  | .ptr d => uptoBulk d + 1
  | .slice elems spare => uptoBulkAll elems + uptoBulkAll spare + 1
  | .agg parts => uptoBulkAll parts + 1
  | .iface _ d => uptoBulk d + 1
  | .map entries => uptoBulkEntries entries + 1
  | .held _ => 1
def uptoBulkAll {H : Type} : List (DataW H) → Nat
  | [] => 0
  | d :: r => uptoBulk d + uptoBulkAll r
def uptoBulkEntries {H : Type} : List (Lit × DataW H) → Nat
  | [] => 0
  | x :: r => uptoBulkEntry x + uptoBulkEntries r
def uptoBulkEntry {H : Type} : Lit × DataW H → Nat
  | (.string bytes, d) => bytes.length + uptoBulk d + 1
  | (_, d) => uptoBulk d + 1
 end
def uptoSmall : (H : Type) → List (DataW H) → Bool := fun _ ds => decide (uptoBulkAll ds ≤ 1048576)
def OpenSpec.upto (s : _root_.Go.ChangeSpec) : _root_.Go.OpenSpec := { _root_.Go.OpenSpec.ofChange s with cond := some uptoSmall }

/-- 'laws.FnOrder', WHERE WHAT IT READS IS OF BULK AT MOST 1048576: true; the input reads as it did. -/
def fnOrderUptoRow : OpenClaim := { program := "ytnkcmilhchidiaa", sum := "e9f5b5d542034c9d2901a6f0741a32565d0cadacb1b372c91fbde9166fe71a66", func := "loop.example/g03305/laws.FnOrder", spec := "fnOrder", inPlace := ["internal/bytealg.CountString", "internal/bytealg.IndexByteString", "internal/bytealg.IndexString"], unfollowed := true, recurses := true, named := ["internal/bytealg.MaxLen"], apart := false, narrowed := true }
def FnOrderUptoSaid : Prop := fnOrderUptoRow.holds Try.pinned (OpenSpec.upto fnOrderSpec)

/-- 'laws.FnExactIsAbove', WHERE WHAT IT READS IS OF BULK AT MOST 1048576: true; the input reads as it did. -/
def fnExactIsAboveUptoRow : OpenClaim := { program := "ytnkcmilhchidiaa", sum := "e9f5b5d542034c9d2901a6f0741a32565d0cadacb1b372c91fbde9166fe71a66", func := "loop.example/g03305/laws.FnExactIsAbove", spec := "fnExactIsAbove", inPlace := ["internal/bytealg.CountString", "internal/bytealg.IndexByteString", "internal/bytealg.IndexString"], unfollowed := true, recurses := true, named := ["internal/bytealg.MaxLen"], apart := false, narrowed := true }
def FnExactIsAboveUptoSaid : Prop := fnExactIsAboveUptoRow.holds Try.pinned (OpenSpec.upto fnExactIsAboveSpec)

/-- 'laws.FnExactUpperOf', WHERE WHAT IT READS IS OF BULK AT MOST 1048576: true; the input reads as it did. -/
def fnExactUpperOfUptoRow : OpenClaim := { program := "ytnkcmilhchidiaa", sum := "e9f5b5d542034c9d2901a6f0741a32565d0cadacb1b372c91fbde9166fe71a66", func := "loop.example/g03305/laws.FnExactUpperOf", spec := "fnExactUpperOf", inPlace := ["internal/bytealg.CountString", "internal/bytealg.IndexByteString", "internal/bytealg.IndexString"], unfollowed := true, recurses := true, named := ["internal/bytealg.MaxLen"], apart := false, narrowed := true }
def FnExactUpperOfUptoSaid : Prop := fnExactUpperOfUptoRow.holds Try.pinned (OpenSpec.upto fnExactUpperOfSpec)

/-- 'laws.FnExactLowerOf', WHERE WHAT IT READS IS OF BULK AT MOST 1048576: true; the input reads as it did. -/
def fnExactLowerOfUptoRow : OpenClaim := { program := "ytnkcmilhchidiaa", sum := "e9f5b5d542034c9d2901a6f0741a32565d0cadacb1b372c91fbde9166fe71a66", func := "loop.example/g03305/laws.FnExactLowerOf", spec := "fnExactLowerOf", inPlace := ["internal/bytealg.CountString", "internal/bytealg.IndexByteString", "internal/bytealg.IndexString"], unfollowed := true, recurses := true, named := ["internal/bytealg.MaxLen"], apart := false, narrowed := true }
def FnExactLowerOfUptoSaid : Prop := fnExactLowerOfUptoRow.holds Try.pinned (OpenSpec.upto fnExactLowerOfSpec)

/-- 'laws.FnExactAreComparable', WHERE WHAT IT READS IS OF BULK AT MOST 1048576: true; the input reads as it did. -/
def fnExactAreComparableUptoRow : OpenClaim := { program := "ytnkcmilhchidiaa", sum := "e9f5b5d542034c9d2901a6f0741a32565d0cadacb1b372c91fbde9166fe71a66", func := "loop.example/g03305/laws.FnExactAreComparable", spec := "fnExactAreComparable", inPlace := ["internal/bytealg.CountString", "internal/bytealg.IndexByteString", "internal/bytealg.IndexString"], unfollowed := true, recurses := true, named := ["internal/bytealg.MaxLen"], apart := false, narrowed := true }
def FnExactAreComparableUptoSaid : Prop := fnExactAreComparableUptoRow.holds Try.pinned (OpenSpec.upto fnExactAreComparableSpec)

/-- 'laws.FnExactUpperCard', WHERE WHAT IT READS IS OF BULK AT MOST 1048576: true; the input reads as it did. -/
def fnExactUpperCardUptoRow : OpenClaim := { program := "ytnkcmilhchidiaa", sum := "e9f5b5d542034c9d2901a6f0741a32565d0cadacb1b372c91fbde9166fe71a66", func := "loop.example/g03305/laws.FnExactUpperCard", spec := "fnExactUpperCard", inPlace := ["internal/bytealg.CountString", "internal/bytealg.IndexByteString", "internal/bytealg.IndexString"], unfollowed := true, recurses := true, named := ["internal/bytealg.MaxLen"], apart := false, narrowed := true }
def FnExactUpperCardUptoSaid : Prop := fnExactUpperCardUptoRow.holds Try.pinned (OpenSpec.upto fnExactUpperCardSpec)

/-- 'laws.FnExactLowerCard', WHERE WHAT IT READS IS OF BULK AT MOST 1048576: true; the input reads as it did. -/
def fnExactLowerCardUptoRow : OpenClaim := { program := "ytnkcmilhchidiaa", sum := "e9f5b5d542034c9d2901a6f0741a32565d0cadacb1b372c91fbde9166fe71a66", func := "loop.example/g03305/laws.FnExactLowerCard", spec := "fnExactLowerCard", inPlace := ["internal/bytealg.CountString", "internal/bytealg.IndexByteString", "internal/bytealg.IndexString"], unfollowed := true, recurses := true, named := ["internal/bytealg.MaxLen"], apart := false, narrowed := true }
def FnExactLowerCardUptoSaid : Prop := fnExactLowerCardUptoRow.holds Try.pinned (OpenSpec.upto fnExactLowerCardSpec)

end Rows
end Go.Proofs.Ytnkcmilhchidiaa
