/-
  No cell of these rows narrows 'for every input' (looked for: loops, veiled, ifaces, maps, wideKeys, modest, calm, conditions, laid).
  DERIVED. THE GIVEN ROWS OF THIS SEAT. 7 by the template 'for every input the law returns true; each argument reads behind the call as it read before'; 0 by the template 'total and deterministic' (their statements: YtekmladindlmoaaTotals.lean).
  GIVEN WITH THE SEED: the statements are not yours to turn. If you find one false, say at which input.
  Laid BY PROGRAM, IN A SANDBOX (cutbox-rows.mjs): the forced cells as the released guide's own fill.sh prints them over the translation abf3382c3edec931… (all of the seat's roots in one cut). By AI agents, Wed Nov 11 2026. No macro, syntax, notation, axiom, sorry.
-/
import Derived.Test.YtekmladindlmoaaChecked
import GoSem.Claim
import GoSem.ClaimJoined
import GoSem.ClaimMapViews
import Derived.JoinedTies
import Derived.KernelRfl
namespace Go.Proofs.Ytekmladindlmoaa
/- THE CELL 'sum', in the pinned program and in every row, IS THE sha256 OF THE DUMP (.gsa) THAT YtekmladindlmoaaProg.lean LOADS. Nothing in Lean hashes anything: it is a label: what it is worth is what the hold of that sum in a sandbox is worth. -/
noncomputable def Try.pinned : Pinned := { name := "ytekmladindlmoaa", sum := "abf3382c3edec9311ada2e2ba3ff4c3f04a891660fa58ae1d8ea680d2947b16d", checked := Try.checked }
namespace Rows
def none {H : Type} : Left H := { results := [], args := [] }

/-- 'laws.FnBoxes': WHATEVER THE INPUT: true; the input reads as it did. -/
def fnBoxesSpec : ChangeSpec := { name := "fnBoxes", fn := fun _ => fun
  | [d] => { results := [.lit (.bool true)], args := [d] }
  | _ => none }
def fnBoxesRow : OpenClaim := { program := "ytekmladindlmoaa", sum := "abf3382c3edec9311ada2e2ba3ff4c3f04a891660fa58ae1d8ea680d2947b16d", func := "loop.example/g03305/laws.FnBoxes", spec := "fnBoxes", inPlace := ["internal/abi.NoEscape", "internal/bytealg.MakeNoZero", "internal/bytealg.CountString", "internal/bytealg.IndexByteString", "internal/bytealg.IndexString"], unfollowed := true, recurses := true, named := ["internal/bytealg.MaxLen"], apart := false }
def FnBoxesSaid : Prop := fnBoxesRow.holds Try.pinned (OpenSpec.ofChange fnBoxesSpec)

/-- ITS FALSE NEIGHBOUR: 'it returns false'. Refute it at one input. -/
def fnBoxesWrong : ChangeSpec := { name := "fnBoxes", fn := fun _ => fun
  | [d] => { results := [.lit (.bool false)], args := [d] }
  | _ => none }
def FnBoxesWrongFalsely : Prop := fnBoxesRow.holds Try.pinned (OpenSpec.ofChange fnBoxesWrong)

/-- 'laws.FnExactCanAdd': WHATEVER THE INPUT: true; the input reads as it did. -/
def fnExactCanAddSpec : ChangeSpec := { name := "fnExactCanAdd", fn := fun _ => fun
  | [d1, d2] => { results := [.lit (.bool true)], args := [d1, d2] }
  | _ => none }
def fnExactCanAddRow : OpenClaim := { program := "ytekmladindlmoaa", sum := "abf3382c3edec9311ada2e2ba3ff4c3f04a891660fa58ae1d8ea680d2947b16d", func := "loop.example/g03305/laws.FnExactCanAdd", spec := "fnExactCanAdd", unfollowed := true, recurses := true, apart := false }
def FnExactCanAddSaid : Prop := fnExactCanAddRow.holds Try.pinned (OpenSpec.ofChange fnExactCanAddSpec)

/-- ITS FALSE NEIGHBOUR: 'it returns false'. Refute it at one input. -/
def fnExactCanAddWrong : ChangeSpec := { name := "fnExactCanAdd", fn := fun _ => fun
  | [d1, d2] => { results := [.lit (.bool false)], args := [d1, d2] }
  | _ => none }
def FnExactCanAddWrongFalsely : Prop := fnExactCanAddRow.holds Try.pinned (OpenSpec.ofChange fnExactCanAddWrong)

/-- 'laws.FnExactAddBox': WHATEVER THE INPUT: true; the input reads as it did. -/
def fnExactAddBoxSpec : ChangeSpec := { name := "fnExactAddBox", fn := fun _ => fun
  | [d1, d2] => { results := [.lit (.bool true)], args := [d1, d2] }
  | _ => none }
def fnExactAddBoxRow : OpenClaim := { program := "ytekmladindlmoaa", sum := "abf3382c3edec9311ada2e2ba3ff4c3f04a891660fa58ae1d8ea680d2947b16d", func := "loop.example/g03305/laws.FnExactAddBox", spec := "fnExactAddBox", unfollowed := true, recurses := true, apart := false }
def FnExactAddBoxSaid : Prop := fnExactAddBoxRow.holds Try.pinned (OpenSpec.ofChange fnExactAddBoxSpec)

/-- ITS FALSE NEIGHBOUR: 'it returns false'. Refute it at one input. -/
def fnExactAddBoxWrong : ChangeSpec := { name := "fnExactAddBox", fn := fun _ => fun
  | [d1, d2] => { results := [.lit (.bool false)], args := [d1, d2] }
  | _ => none }
def FnExactAddBoxWrongFalsely : Prop := fnExactAddBoxRow.holds Try.pinned (OpenSpec.ofChange fnExactAddBoxWrong)

/-- 'laws.FnExactTakeBox': WHATEVER THE INPUT: true; the input reads as it did. -/
def fnExactTakeBoxSpec : ChangeSpec := { name := "fnExactTakeBox", fn := fun _ => fun
  | [d1, d2] => { results := [.lit (.bool true)], args := [d1, d2] }
  | _ => none }
def fnExactTakeBoxRow : OpenClaim := { program := "ytekmladindlmoaa", sum := "abf3382c3edec9311ada2e2ba3ff4c3f04a891660fa58ae1d8ea680d2947b16d", func := "loop.example/g03305/laws.FnExactTakeBox", spec := "fnExactTakeBox", unfollowed := true, recurses := true, apart := false }
def FnExactTakeBoxSaid : Prop := fnExactTakeBoxRow.holds Try.pinned (OpenSpec.ofChange fnExactTakeBoxSpec)

/-- ITS FALSE NEIGHBOUR: 'it returns false'. Refute it at one input. -/
def fnExactTakeBoxWrong : ChangeSpec := { name := "fnExactTakeBox", fn := fun _ => fun
  | [d1, d2] => { results := [.lit (.bool false)], args := [d1, d2] }
  | _ => none }
def FnExactTakeBoxWrongFalsely : Prop := fnExactTakeBoxRow.holds Try.pinned (OpenSpec.ofChange fnExactTakeBoxWrong)

/-- 'laws.FnExactAddBoxes': WHATEVER THE INPUT: true; the input reads as it did. -/
def fnExactAddBoxesSpec : ChangeSpec := { name := "fnExactAddBoxes", fn := fun _ => fun
  | [d1, d2] => { results := [.lit (.bool true)], args := [d1, d2] }
  | _ => none }
def fnExactAddBoxesRow : OpenClaim := { program := "ytekmladindlmoaa", sum := "abf3382c3edec9311ada2e2ba3ff4c3f04a891660fa58ae1d8ea680d2947b16d", func := "loop.example/g03305/laws.FnExactAddBoxes", spec := "fnExactAddBoxes", unfollowed := true, recurses := true, apart := false }
def FnExactAddBoxesSaid : Prop := fnExactAddBoxesRow.holds Try.pinned (OpenSpec.ofChange fnExactAddBoxesSpec)

/-- ITS FALSE NEIGHBOUR: 'it returns false'. Refute it at one input. -/
def fnExactAddBoxesWrong : ChangeSpec := { name := "fnExactAddBoxes", fn := fun _ => fun
  | [d1, d2] => { results := [.lit (.bool false)], args := [d1, d2] }
  | _ => none }
def FnExactAddBoxesWrongFalsely : Prop := fnExactAddBoxesRow.holds Try.pinned (OpenSpec.ofChange fnExactAddBoxesWrong)

/-- 'laws.FnExactBoxesFor': WHATEVER THE INPUT: true; the input reads as it did. -/
def fnExactBoxesForSpec : ChangeSpec := { name := "fnExactBoxesFor", fn := fun _ => fun
  | [d] => { results := [.lit (.bool true)], args := [d] }
  | _ => none }
def fnExactBoxesForRow : OpenClaim := { program := "ytekmladindlmoaa", sum := "abf3382c3edec9311ada2e2ba3ff4c3f04a891660fa58ae1d8ea680d2947b16d", func := "loop.example/g03305/laws.FnExactBoxesFor", spec := "fnExactBoxesFor", inPlace := ["internal/abi.NoEscape", "internal/bytealg.MakeNoZero", "internal/bytealg.CountString", "internal/bytealg.IndexByteString", "internal/bytealg.IndexString"], unfollowed := true, recurses := true, named := ["internal/bytealg.MaxLen"], apart := false }
def FnExactBoxesForSaid : Prop := fnExactBoxesForRow.holds Try.pinned (OpenSpec.ofChange fnExactBoxesForSpec)

/-- ITS FALSE NEIGHBOUR: 'it returns false'. Refute it at one input. -/
def fnExactBoxesForWrong : ChangeSpec := { name := "fnExactBoxesFor", fn := fun _ => fun
  | [d] => { results := [.lit (.bool false)], args := [d] }
  | _ => none }
def FnExactBoxesForWrongFalsely : Prop := fnExactBoxesForRow.holds Try.pinned (OpenSpec.ofChange fnExactBoxesForWrong)

/-- 'laws.FnExactWidestBox': WHATEVER THE INPUT: true; the input reads as it did. -/
def fnExactWidestBoxSpec : ChangeSpec := { name := "fnExactWidestBox", fn := fun _ => fun
  | [d1, d2, d3] => { results := [.lit (.bool true)], args := [d1, d2, d3] }
  | _ => none }
def fnExactWidestBoxRow : OpenClaim := { program := "ytekmladindlmoaa", sum := "abf3382c3edec9311ada2e2ba3ff4c3f04a891660fa58ae1d8ea680d2947b16d", func := "loop.example/g03305/laws.FnExactWidestBox", spec := "fnExactWidestBox", unfollowed := true, recurses := true, apart := false }
def FnExactWidestBoxSaid : Prop := fnExactWidestBoxRow.holds Try.pinned (OpenSpec.ofChange fnExactWidestBoxSpec)

/-- ITS FALSE NEIGHBOUR: 'it returns false'. Refute it at one input. -/
def fnExactWidestBoxWrong : ChangeSpec := { name := "fnExactWidestBox", fn := fun _ => fun
  | [d1, d2, d3] => { results := [.lit (.bool false)], args := [d1, d2, d3] }
  | _ => none }
def FnExactWidestBoxWrongFalsely : Prop := fnExactWidestBoxRow.holds Try.pinned (OpenSpec.ofChange fnExactWidestBoxWrong)

/- THE SECOND FORM. 'bulk': how many values and letters a reading holds, each counted each time it is reached (what is shared counts as often as it is met; a slice's spare places count too). A statement '..UptoSaid' is the law's where the arguments, and the package variables that the reading takes, are together of bulk at most 1048576: NARROWER than '..Said'. Prove '..Said' where nothing that the law and all that it calls make is longer than what came in: it says more and counts as full. Else prove '..UptoSaid'. A law counts once. -/
mutual
def uptoBulk {H : Type} : DataW H → Nat
  | .lit (.string bytes) => bytes.length + 1
  | .lit _ => 1
  | .nil => 1
  | .ptr d => uptoBulk d + 1
  | .slice elems spare => uptoBulkAll elems + uptoBulkAll spare + 1
  | .agg parts => uptoBulkAll parts + 1
  | .iface _ d => uptoBulk d + 1
  | .map entries => uptoBulkEntries entries + 1
  | .held _ => 1
def uptoBulkAll {H : Type} : List (DataW H) → Nat
  | [] => 0
  | d :: r => uptoBulk d + uptoBulkAll r
def uptoBulkEntries {H : Type} : List (Lit × DataW H) → Nat
  | [] => 0
  | x :: r => uptoBulkEntry x + uptoBulkEntries r
def uptoBulkEntry {H : Type} : Lit × DataW H → Nat
  | (.string bytes, d) => bytes.length + uptoBulk d + 1
  | (_, d) => uptoBulk d + 1
 end
def uptoSmall : (H : Type) → List (DataW H) → Bool := fun _ ds => decide (uptoBulkAll ds ≤ 1048576)
def OpenSpec.upto (s : _root_.Go.ChangeSpec) : _root_.Go.OpenSpec := { _root_.Go.OpenSpec.ofChange s with cond := some uptoSmall }

/-- 'laws.FnBoxes', WHERE WHAT IT READS IS OF BULK AT MOST 1048576: true; the input reads as it did. -/
def fnBoxesUptoRow : OpenClaim := { program := "ytekmladindlmoaa", sum := "abf3382c3edec9311ada2e2ba3ff4c3f04a891660fa58ae1d8ea680d2947b16d", func := "loop.example/g03305/laws.FnBoxes", spec := "fnBoxes", inPlace := ["internal/abi.NoEscape", "internal/bytealg.MakeNoZero", "internal/bytealg.CountString", "internal/bytealg.IndexByteString", "internal/bytealg.IndexString"], unfollowed := true, recurses := true, named := ["internal/bytealg.MaxLen"], apart := false, narrowed := true }
def FnBoxesUptoSaid : Prop := fnBoxesUptoRow.holds Try.pinned (OpenSpec.upto fnBoxesSpec)

/-- 'laws.FnExactCanAdd', WHERE WHAT IT READS IS OF BULK AT MOST 1048576: true; the input reads as it did. -/
def fnExactCanAddUptoRow : OpenClaim := { program := "ytekmladindlmoaa", sum := "abf3382c3edec9311ada2e2ba3ff4c3f04a891660fa58ae1d8ea680d2947b16d", func := "loop.example/g03305/laws.FnExactCanAdd", spec := "fnExactCanAdd", unfollowed := true, recurses := true, apart := false, narrowed := true }
def FnExactCanAddUptoSaid : Prop := fnExactCanAddUptoRow.holds Try.pinned (OpenSpec.upto fnExactCanAddSpec)

/-- 'laws.FnExactAddBox', WHERE WHAT IT READS IS OF BULK AT MOST 1048576: true; the input reads as it did. -/
def fnExactAddBoxUptoRow : OpenClaim := { program := "ytekmladindlmoaa", sum := "abf3382c3edec9311ada2e2ba3ff4c3f04a891660fa58ae1d8ea680d2947b16d", func := "loop.example/g03305/laws.FnExactAddBox", spec := "fnExactAddBox", unfollowed := true, recurses := true, apart := false, narrowed := true }
def FnExactAddBoxUptoSaid : Prop := fnExactAddBoxUptoRow.holds Try.pinned (OpenSpec.upto fnExactAddBoxSpec)

/-- 'laws.FnExactTakeBox', WHERE WHAT IT READS IS OF BULK AT MOST 1048576: true; the input reads as it did. -/
def fnExactTakeBoxUptoRow : OpenClaim := { program := "ytekmladindlmoaa", sum := "abf3382c3edec9311ada2e2ba3ff4c3f04a891660fa58ae1d8ea680d2947b16d", func := "loop.example/g03305/laws.FnExactTakeBox", spec := "fnExactTakeBox", unfollowed := true, recurses := true, apart := false, narrowed := true }
def FnExactTakeBoxUptoSaid : Prop := fnExactTakeBoxUptoRow.holds Try.pinned (OpenSpec.upto fnExactTakeBoxSpec)

/-- 'laws.FnExactAddBoxes', WHERE WHAT IT READS IS OF BULK AT MOST 1048576: true; the input reads as it did. -/
def fnExactAddBoxesUptoRow : OpenClaim := { program := "ytekmladindlmoaa", sum := "abf3382c3edec9311ada2e2ba3ff4c3f04a891660fa58ae1d8ea680d2947b16d", func := "loop.example/g03305/laws.FnExactAddBoxes", spec := "fnExactAddBoxes", unfollowed := true, recurses := true, apart := false, narrowed := true }
def FnExactAddBoxesUptoSaid : Prop := fnExactAddBoxesUptoRow.holds Try.pinned (OpenSpec.upto fnExactAddBoxesSpec)

/-- 'laws.FnExactBoxesFor', WHERE WHAT IT READS IS OF BULK AT MOST 1048576: true; the input reads as it did. -/
def fnExactBoxesForUptoRow : OpenClaim := { program := "ytekmladindlmoaa", sum := "abf3382c3edec9311ada2e2ba3ff4c3f04a891660fa58ae1d8ea680d2947b16d", func := "loop.example/g03305/laws.FnExactBoxesFor", spec := "fnExactBoxesFor", inPlace := ["internal/abi.NoEscape", "internal/bytealg.MakeNoZero", "internal/bytealg.CountString", "internal/bytealg.IndexByteString", "internal/bytealg.IndexString"], unfollowed := true, recurses := true, named := ["internal/bytealg.MaxLen"], apart := false, narrowed := true }
def FnExactBoxesForUptoSaid : Prop := fnExactBoxesForUptoRow.holds Try.pinned (OpenSpec.upto fnExactBoxesForSpec)

/-- 'laws.FnExactWidestBox', WHERE WHAT IT READS IS OF BULK AT MOST 1048576: true; the input reads as it did. -/
def fnExactWidestBoxUptoRow : OpenClaim := { program := "ytekmladindlmoaa", sum := "abf3382c3edec9311ada2e2ba3ff4c3f04a891660fa58ae1d8ea680d2947b16d", func := "loop.example/g03305/laws.FnExactWidestBox", spec := "fnExactWidestBox", unfollowed := true, recurses := true, apart := false, narrowed := true }
def FnExactWidestBoxUptoSaid : Prop := fnExactWidestBoxUptoRow.holds Try.pinned (OpenSpec.upto fnExactWidestBoxSpec)

end Rows
end Go.Proofs.Ytekmladindlmoaa
