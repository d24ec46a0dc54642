/-
  No cell of these rows narrows 'for every input' (looked for: loops, veiled, ifaces, maps, wideKeys, modest, calm, conditions, laid).
  DERIVED. THE GIVEN ROWS OF THIS SEAT. 7 by the template 'for every input the law returns true; each argument reads behind the call as it read before'; 0 by the template 'total and deterministic' (their statements: YtjjmeenapnemdaaTotals.lean).
  GIVEN WITH THE SEED: the statements are not yours to turn. If you find one false, say at which input.
  Laid BY PROGRAM, IN A SANDBOX (cutbox-rows.mjs): the forced cells as the released guide's own fill.sh prints them over the translation 78753ea1547eba8a… (all of the seat's roots in one cut). By AI agents, Wed Nov 11 2026. No macro, syntax, notation, axiom, sorry.
-/
import Derived.Test.YtjjmeenapnemdaaChecked
import GoSem.Claim
import GoSem.ClaimJoined
import GoSem.ClaimMapViews
import Derived.JoinedTies
import Derived.KernelRfl
namespace Go.Proofs.Ytjjmeenapnemdaa
/- THE CELL 'sum', in the pinned program and in every row, IS THE sha256 OF THE DUMP (.gsa) THAT YtjjmeenapnemdaaProg.lean LOADS. Nothing in Lean hashes anything: it is a label: what it is worth is what the hold of that sum in a sandbox is worth. -/
noncomputable def Try.pinned : Pinned := { name := "ytjjmeenapnemdaa", sum := "78753ea1547eba8a7feb69ea0ce14d9ad6edbcd59a8d1720281607819fc66559", checked := Try.checked }
namespace Rows
def none {H : Type} : Left H := { results := [], args := [] }

/-- 'laws.FnAreas': WHATEVER THE INPUT: true; the input reads as it did. -/
def fnAreasSpec : ChangeSpec := { name := "fnAreas", fn := fun _ => fun
  | [d] => { results := [.lit (.bool true)], args := [d] }
  | _ => none }
def fnAreasRow : OpenClaim := { program := "ytjjmeenapnemdaa", sum := "78753ea1547eba8a7feb69ea0ce14d9ad6edbcd59a8d1720281607819fc66559", func := "loop.example/g03305/laws.FnAreas", spec := "fnAreas", apart := false }
def FnAreasSaid : Prop := fnAreasRow.holds Try.pinned (OpenSpec.ofChange fnAreasSpec)

/-- ITS FALSE NEIGHBOUR: 'it returns false'. Refute it at one input. -/
def fnAreasWrong : ChangeSpec := { name := "fnAreas", fn := fun _ => fun
  | [d] => { results := [.lit (.bool false)], args := [d] }
  | _ => none }
def FnAreasWrongFalsely : Prop := fnAreasRow.holds Try.pinned (OpenSpec.ofChange fnAreasWrong)

/-- 'laws.FnExactRoomUnder': WHATEVER THE INPUT: true; the input reads as it did. -/
def fnExactRoomUnderSpec : ChangeSpec := { name := "fnExactRoomUnder", fn := fun _ => fun
  | [d] => { results := [.lit (.bool true)], args := [d] }
  | _ => none }
def fnExactRoomUnderRow : OpenClaim := { program := "ytjjmeenapnemdaa", sum := "78753ea1547eba8a7feb69ea0ce14d9ad6edbcd59a8d1720281607819fc66559", func := "loop.example/g03305/laws.FnExactRoomUnder", spec := "fnExactRoomUnder", apart := false }
def FnExactRoomUnderSaid : Prop := fnExactRoomUnderRow.holds Try.pinned (OpenSpec.ofChange fnExactRoomUnderSpec)

/-- ITS FALSE NEIGHBOUR: 'it returns false'. Refute it at one input. -/
def fnExactRoomUnderWrong : ChangeSpec := { name := "fnExactRoomUnder", fn := fun _ => fun
  | [d] => { results := [.lit (.bool false)], args := [d] }
  | _ => none }
def FnExactRoomUnderWrongFalsely : Prop := fnExactRoomUnderRow.holds Try.pinned (OpenSpec.ofChange fnExactRoomUnderWrong)

/-- 'laws.FnExactVolumeOf': WHATEVER THE INPUT: true; the input reads as it did. -/
def fnExactVolumeOfSpec : ChangeSpec := { name := "fnExactVolumeOf", fn := fun _ => fun
  | [d] => { results := [.lit (.bool true)], args := [d] }
  | _ => none }
def fnExactVolumeOfRow : OpenClaim := { program := "ytjjmeenapnemdaa", sum := "78753ea1547eba8a7feb69ea0ce14d9ad6edbcd59a8d1720281607819fc66559", func := "loop.example/g03305/laws.FnExactVolumeOf", spec := "fnExactVolumeOf", apart := false }
def FnExactVolumeOfSaid : Prop := fnExactVolumeOfRow.holds Try.pinned (OpenSpec.ofChange fnExactVolumeOfSpec)

/-- ITS FALSE NEIGHBOUR: 'it returns false'. Refute it at one input. -/
def fnExactVolumeOfWrong : ChangeSpec := { name := "fnExactVolumeOf", fn := fun _ => fun
  | [d] => { results := [.lit (.bool false)], args := [d] }
  | _ => none }
def FnExactVolumeOfWrongFalsely : Prop := fnExactVolumeOfRow.holds Try.pinned (OpenSpec.ofChange fnExactVolumeOfWrong)

/-- 'laws.FnExactCountStrips': WHATEVER THE INPUT: true; the input reads as it did. -/
def fnExactCountStripsSpec : ChangeSpec := { name := "fnExactCountStrips", fn := fun _ => fun
  | [d1, d2] => { results := [.lit (.bool true)], args := [d1, d2] }
  | _ => none }
def fnExactCountStripsRow : OpenClaim := { program := "ytjjmeenapnemdaa", sum := "78753ea1547eba8a7feb69ea0ce14d9ad6edbcd59a8d1720281607819fc66559", func := "loop.example/g03305/laws.FnExactCountStrips", spec := "fnExactCountStrips", apart := false }
def FnExactCountStripsSaid : Prop := fnExactCountStripsRow.holds Try.pinned (OpenSpec.ofChange fnExactCountStripsSpec)

/-- ITS FALSE NEIGHBOUR: 'it returns false'. Refute it at one input. -/
def fnExactCountStripsWrong : ChangeSpec := { name := "fnExactCountStrips", fn := fun _ => fun
  | [d1, d2] => { results := [.lit (.bool false)], args := [d1, d2] }
  | _ => none }
def FnExactCountStripsWrongFalsely : Prop := fnExactCountStripsRow.holds Try.pinned (OpenSpec.ofChange fnExactCountStripsWrong)

/-- 'laws.FnExactCountWithRoom': WHATEVER THE INPUT: true; the input reads as it did. -/
def fnExactCountWithRoomSpec : ChangeSpec := { name := "fnExactCountWithRoom", fn := fun _ => fun
  | [d1, d2, d3] => { results := [.lit (.bool true)], args := [d1, d2, d3] }
  | _ => none }
def fnExactCountWithRoomRow : OpenClaim := { program := "ytjjmeenapnemdaa", sum := "78753ea1547eba8a7feb69ea0ce14d9ad6edbcd59a8d1720281607819fc66559", func := "loop.example/g03305/laws.FnExactCountWithRoom", spec := "fnExactCountWithRoom", apart := false }
def FnExactCountWithRoomSaid : Prop := fnExactCountWithRoomRow.holds Try.pinned (OpenSpec.ofChange fnExactCountWithRoomSpec)

/-- ITS FALSE NEIGHBOUR: 'it returns false'. Refute it at one input. -/
def fnExactCountWithRoomWrong : ChangeSpec := { name := "fnExactCountWithRoom", fn := fun _ => fun
  | [d1, d2, d3] => { results := [.lit (.bool false)], args := [d1, d2, d3] }
  | _ => none }
def FnExactCountWithRoomWrongFalsely : Prop := fnExactCountWithRoomRow.holds Try.pinned (OpenSpec.ofChange fnExactCountWithRoomWrong)

/-- 'laws.FnExactCountAbove': WHATEVER THE INPUT: true; the input reads as it did. -/
def fnExactCountAboveSpec : ChangeSpec := { name := "fnExactCountAbove", fn := fun _ => fun
  | [d] => { results := [.lit (.bool true)], args := [d] }
  | _ => none }
def fnExactCountAboveRow : OpenClaim := { program := "ytjjmeenapnemdaa", sum := "78753ea1547eba8a7feb69ea0ce14d9ad6edbcd59a8d1720281607819fc66559", func := "loop.example/g03305/laws.FnExactCountAbove", spec := "fnExactCountAbove", apart := false }
def FnExactCountAboveSaid : Prop := fnExactCountAboveRow.holds Try.pinned (OpenSpec.ofChange fnExactCountAboveSpec)

/-- ITS FALSE NEIGHBOUR: 'it returns false'. Refute it at one input. -/
def fnExactCountAboveWrong : ChangeSpec := { name := "fnExactCountAbove", fn := fun _ => fun
  | [d] => { results := [.lit (.bool false)], args := [d] }
  | _ => none }
def FnExactCountAboveWrongFalsely : Prop := fnExactCountAboveRow.holds Try.pinned (OpenSpec.ofChange fnExactCountAboveWrong)

/-- 'laws.FnExactRoomTable': WHATEVER THE INPUT: true; the input reads as it did. -/
def fnExactRoomTableSpec : ChangeSpec := { name := "fnExactRoomTable", fn := fun _ => fun
  | [d1, d2] => { results := [.lit (.bool true)], args := [d1, d2] }
  | _ => none }
def fnExactRoomTableRow : OpenClaim := { program := "ytjjmeenapnemdaa", sum := "78753ea1547eba8a7feb69ea0ce14d9ad6edbcd59a8d1720281607819fc66559", func := "loop.example/g03305/laws.FnExactRoomTable", spec := "fnExactRoomTable", apart := false }
def FnExactRoomTableSaid : Prop := fnExactRoomTableRow.holds Try.pinned (OpenSpec.ofChange fnExactRoomTableSpec)

/-- ITS FALSE NEIGHBOUR: 'it returns false'. Refute it at one input. -/
def fnExactRoomTableWrong : ChangeSpec := { name := "fnExactRoomTable", fn := fun _ => fun
  | [d1, d2] => { results := [.lit (.bool false)], args := [d1, d2] }
  | _ => none }
def FnExactRoomTableWrongFalsely : Prop := fnExactRoomTableRow.holds Try.pinned (OpenSpec.ofChange fnExactRoomTableWrong)

/- THE SECOND FORM. 'bulk': how many values and letters a reading holds, each counted each time it is reached (what is shared counts as often as it is met; a slice's spare places count too). A statement '..UptoSaid' is the law's where the arguments, and the package variables that the reading takes, are together of bulk at most 1048576: NARROWER than '..Said'. Prove '..Said' where nothing that the law and all that it calls make is longer than what came in: it says more and counts as full. Else prove '..UptoSaid'. A law counts once. -/
mutual
def uptoBulk {H : Type} : DataW H → Nat
  | .lit (.string bytes) => bytes.length + 1
  | .lit _ => 1
  | .nil => 1
  | .ptr d => uptoBulk d + 1
  | .slice elems spare => uptoBulkAll elems + uptoBulkAll spare + 1
  | .agg parts => uptoBulkAll parts + 1
  | .iface _ d => uptoBulk d + 1
  | .map entries => uptoBulkEntries entries + 1
  | .held _ => 1
def uptoBulkAll {H : Type} : List (DataW H) → Nat
  | [] => 0
  | d :: r => uptoBulk d + uptoBulkAll r
def uptoBulkEntries {H : Type} : List (Lit × DataW H) → Nat
  | [] => 0
  | x :: r => uptoBulkEntry x + uptoBulkEntries r
def uptoBulkEntry {H : Type} : Lit × DataW H → Nat
  | (.string bytes, d) => bytes.length + uptoBulk d + 1
  | (_, d) => uptoBulk d + 1
 end
def uptoSmall : (H : Type) → List (DataW H) → Bool := fun _ ds => decide (uptoBulkAll ds ≤ 1048576)
def OpenSpec.upto (s : _root_.Go.ChangeSpec) : _root_.Go.OpenSpec := { _root_.Go.OpenSpec.ofChange s with cond := some uptoSmall }

/-- 'laws.FnAreas', WHERE WHAT IT READS IS OF BULK AT MOST 1048576: true; the input reads as it did. -/
def fnAreasUptoRow : OpenClaim := { program := "ytjjmeenapnemdaa", sum := "78753ea1547eba8a7feb69ea0ce14d9ad6edbcd59a8d1720281607819fc66559", func := "loop.example/g03305/laws.FnAreas", spec := "fnAreas", apart := false, narrowed := true }
def FnAreasUptoSaid : Prop := fnAreasUptoRow.holds Try.pinned (OpenSpec.upto fnAreasSpec)

/-- 'laws.FnExactRoomUnder', WHERE WHAT IT READS IS OF BULK AT MOST 1048576: true; the input reads as it did. -/
def fnExactRoomUnderUptoRow : OpenClaim := { program := "ytjjmeenapnemdaa", sum := "78753ea1547eba8a7feb69ea0ce14d9ad6edbcd59a8d1720281607819fc66559", func := "loop.example/g03305/laws.FnExactRoomUnder", spec := "fnExactRoomUnder", apart := false, narrowed := true }
def FnExactRoomUnderUptoSaid : Prop := fnExactRoomUnderUptoRow.holds Try.pinned (OpenSpec.upto fnExactRoomUnderSpec)

/-- 'laws.FnExactVolumeOf', WHERE WHAT IT READS IS OF BULK AT MOST 1048576: true; the input reads as it did. -/
def fnExactVolumeOfUptoRow : OpenClaim := { program := "ytjjmeenapnemdaa", sum := "78753ea1547eba8a7feb69ea0ce14d9ad6edbcd59a8d1720281607819fc66559", func := "loop.example/g03305/laws.FnExactVolumeOf", spec := "fnExactVolumeOf", apart := false, narrowed := true }
def FnExactVolumeOfUptoSaid : Prop := fnExactVolumeOfUptoRow.holds Try.pinned (OpenSpec.upto fnExactVolumeOfSpec)

/-- 'laws.FnExactCountStrips', WHERE WHAT IT READS IS OF BULK AT MOST 1048576: true; the input reads as it did. -/
def fnExactCountStripsUptoRow : OpenClaim := { program := "ytjjmeenapnemdaa", sum := "78753ea1547eba8a7feb69ea0ce14d9ad6edbcd59a8d1720281607819fc66559", func := "loop.example/g03305/laws.FnExactCountStrips", spec := "fnExactCountStrips", apart := false, narrowed := true }
def FnExactCountStripsUptoSaid : Prop := fnExactCountStripsUptoRow.holds Try.pinned (OpenSpec.upto fnExactCountStripsSpec)

/-- 'laws.FnExactCountWithRoom', WHERE WHAT IT READS IS OF BULK AT MOST 1048576: true; the input reads as it did. -/
def fnExactCountWithRoomUptoRow : OpenClaim := { program := "ytjjmeenapnemdaa", sum := "78753ea1547eba8a7feb69ea0ce14d9ad6edbcd59a8d1720281607819fc66559", func := "loop.example/g03305/laws.FnExactCountWithRoom", spec := "fnExactCountWithRoom", apart := false, narrowed := true }
def FnExactCountWithRoomUptoSaid : Prop := fnExactCountWithRoomUptoRow.holds Try.pinned (OpenSpec.upto fnExactCountWithRoomSpec)

/-- 'laws.FnExactCountAbove', WHERE WHAT IT READS IS OF BULK AT MOST 1048576: true; the input reads as it did. -/
def fnExactCountAboveUptoRow : OpenClaim := { program := "ytjjmeenapnemdaa", sum := "78753ea1547eba8a7feb69ea0ce14d9ad6edbcd59a8d1720281607819fc66559", func := "loop.example/g03305/laws.FnExactCountAbove", spec := "fnExactCountAbove", apart := false, narrowed := true }
def FnExactCountAboveUptoSaid : Prop := fnExactCountAboveUptoRow.holds Try.pinned (OpenSpec.upto fnExactCountAboveSpec)

/-- 'laws.FnExactRoomTable', WHERE WHAT IT READS IS OF BULK AT MOST 1048576: true; the input reads as it did. -/
def fnExactRoomTableUptoRow : OpenClaim := { program := "ytjjmeenapnemdaa", sum := "78753ea1547eba8a7feb69ea0ce14d9ad6edbcd59a8d1720281607819fc66559", func := "loop.example/g03305/laws.FnExactRoomTable", spec := "fnExactRoomTable", apart := false, narrowed := true }
def FnExactRoomTableUptoSaid : Prop := fnExactRoomTableUptoRow.holds Try.pinned (OpenSpec.upto fnExactRoomTableSpec)

end Rows
end Go.Proofs.Ytjjmeenapnemdaa
