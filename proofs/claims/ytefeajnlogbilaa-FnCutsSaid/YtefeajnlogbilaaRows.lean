/-
  No cell of these rows narrows 'for every input' (looked for: loops, veiled, ifaces, maps, wideKeys, modest, calm, conditions, laid).
  DERIVED. THE GIVEN ROWS OF THIS SEAT. 11 by the template 'for every input the law returns true; each argument reads behind the call as it read before'; 0 by the template 'total and deterministic' (their statements: YtefeajnlogbilaaTotals.lean).
  GIVEN WITH THE SEED: the statements are not yours to turn. If you find one false, say at which input.
  Laid BY PROGRAM, IN A SANDBOX (cutbox-rows.mjs): the forced cells as the released guide's own fill.sh prints them over the translation 143be505624125e9… (all of the seat's roots in one cut). By AI agents, Wed Nov 11 2026. No macro, syntax, notation, axiom, sorry.
-/
import Derived.Test.YtefeajnlogbilaaChecked
import GoSem.Claim
import GoSem.ClaimJoined
import GoSem.ClaimMapViews
import Derived.JoinedTies
import Derived.KernelRfl
namespace Go.Proofs.Ytefeajnlogbilaa
/- THE CELL 'sum', in the pinned program and in every row, IS THE sha256 OF THE DUMP (.gsa) THAT YtefeajnlogbilaaProg.lean LOADS. Nothing in Lean hashes anything: it is a label: what it is worth is what the hold of that sum in a sandbox is worth. -/
noncomputable def Try.pinned : Pinned := { name := "ytefeajnlogbilaa", sum := "143be505624125e9596ecbe608d36ed84eff75da52385290d9e4baab5d3f054c", checked := Try.checked }
namespace Rows
def none {H : Type} : Left H := { results := [], args := [] }

/-- 'laws.FnFaces': WHATEVER THE INPUT: true; the input reads as it did. -/
def fnFacesSpec : ChangeSpec := { name := "fnFaces", fn := fun _ => fun
  | [d] => { results := [.lit (.bool true)], args := [d] }
  | _ => none }
def fnFacesRow : OpenClaim := { program := "ytefeajnlogbilaa", sum := "143be505624125e9596ecbe608d36ed84eff75da52385290d9e4baab5d3f054c", func := "loop.example/g03305/laws.FnFaces", spec := "fnFaces", plainKeys := false, apart := false }
def FnFacesSaid : Prop := fnFacesRow.holds Try.pinned (OpenSpec.ofChange fnFacesSpec)

/-- ITS FALSE NEIGHBOUR: 'it returns false'. Refute it at one input. -/
def fnFacesWrong : ChangeSpec := { name := "fnFaces", fn := fun _ => fun
  | [d] => { results := [.lit (.bool false)], args := [d] }
  | _ => none }
def FnFacesWrongFalsely : Prop := fnFacesRow.holds Try.pinned (OpenSpec.ofChange fnFacesWrong)

/-- 'laws.FnCuts': WHATEVER THE INPUT: true; the input reads as it did. -/
def fnCutsSpec : ChangeSpec := { name := "fnCuts", fn := fun _ => fun
  | [d] => { results := [.lit (.bool true)], args := [d] }
  | _ => none }
def fnCutsRow : OpenClaim := { program := "ytefeajnlogbilaa", sum := "143be505624125e9596ecbe608d36ed84eff75da52385290d9e4baab5d3f054c", func := "loop.example/g03305/laws.FnCuts", spec := "fnCuts", plainKeys := false, apart := false }
def FnCutsSaid : Prop := fnCutsRow.holds Try.pinned (OpenSpec.ofChange fnCutsSpec)

/-- ITS FALSE NEIGHBOUR: 'it returns false'. Refute it at one input. -/
def fnCutsWrong : ChangeSpec := { name := "fnCuts", fn := fun _ => fun
  | [d] => { results := [.lit (.bool false)], args := [d] }
  | _ => none }
def FnCutsWrongFalsely : Prop := fnCutsRow.holds Try.pinned (OpenSpec.ofChange fnCutsWrong)

/-- 'laws.FnExactAreJoined': WHATEVER THE INPUT: true; the input reads as it did. -/
def fnExactAreJoinedSpec : ChangeSpec := { name := "fnExactAreJoined", fn := fun _ => fun
  | [d1, d2, d3, d4] => { results := [.lit (.bool true)], args := [d1, d2, d3, d4] }
  | _ => none }
def fnExactAreJoinedRow : OpenClaim := { program := "ytefeajnlogbilaa", sum := "143be505624125e9596ecbe608d36ed84eff75da52385290d9e4baab5d3f054c", func := "loop.example/g03305/laws.FnExactAreJoined", spec := "fnExactAreJoined", plainKeys := false, apart := false }
def FnExactAreJoinedSaid : Prop := fnExactAreJoinedRow.holds Try.pinned (OpenSpec.ofChange fnExactAreJoinedSpec)

/-- ITS FALSE NEIGHBOUR: 'it returns false'. Refute it at one input. -/
def fnExactAreJoinedWrong : ChangeSpec := { name := "fnExactAreJoined", fn := fun _ => fun
  | [d1, d2, d3, d4] => { results := [.lit (.bool false)], args := [d1, d2, d3, d4] }
  | _ => none }
def FnExactAreJoinedWrongFalsely : Prop := fnExactAreJoinedRow.holds Try.pinned (OpenSpec.ofChange fnExactAreJoinedWrong)

/-- 'laws.FnExactFaceOf': WHATEVER THE INPUT: true; the input reads as it did. -/
def fnExactFaceOfSpec : ChangeSpec := { name := "fnExactFaceOf", fn := fun _ => fun
  | [d1, d2, d3] => { results := [.lit (.bool true)], args := [d1, d2, d3] }
  | _ => none }
def fnExactFaceOfRow : OpenClaim := { program := "ytefeajnlogbilaa", sum := "143be505624125e9596ecbe608d36ed84eff75da52385290d9e4baab5d3f054c", func := "loop.example/g03305/laws.FnExactFaceOf", spec := "fnExactFaceOf", plainKeys := false, apart := false }
def FnExactFaceOfSaid : Prop := fnExactFaceOfRow.holds Try.pinned (OpenSpec.ofChange fnExactFaceOfSpec)

/-- ITS FALSE NEIGHBOUR: 'it returns false'. Refute it at one input. -/
def fnExactFaceOfWrong : ChangeSpec := { name := "fnExactFaceOf", fn := fun _ => fun
  | [d1, d2, d3] => { results := [.lit (.bool false)], args := [d1, d2, d3] }
  | _ => none }
def FnExactFaceOfWrongFalsely : Prop := fnExactFaceOfRow.holds Try.pinned (OpenSpec.ofChange fnExactFaceOfWrong)

/-- 'laws.FnExactCountFaces': WHATEVER THE INPUT: true; the input reads as it did. -/
def fnExactCountFacesSpec : ChangeSpec := { name := "fnExactCountFaces", fn := fun _ => fun
  | [d] => { results := [.lit (.bool true)], args := [d] }
  | _ => none }
def fnExactCountFacesRow : OpenClaim := { program := "ytefeajnlogbilaa", sum := "143be505624125e9596ecbe608d36ed84eff75da52385290d9e4baab5d3f054c", func := "loop.example/g03305/laws.FnExactCountFaces", spec := "fnExactCountFaces", plainKeys := false, apart := false }
def FnExactCountFacesSaid : Prop := fnExactCountFacesRow.holds Try.pinned (OpenSpec.ofChange fnExactCountFacesSpec)

/-- ITS FALSE NEIGHBOUR: 'it returns false'. Refute it at one input. -/
def fnExactCountFacesWrong : ChangeSpec := { name := "fnExactCountFaces", fn := fun _ => fun
  | [d] => { results := [.lit (.bool false)], args := [d] }
  | _ => none }
def FnExactCountFacesWrongFalsely : Prop := fnExactCountFacesRow.holds Try.pinned (OpenSpec.ofChange fnExactCountFacesWrong)

/-- 'laws.FnExactFaceSize': WHATEVER THE INPUT: true; the input reads as it did. -/
def fnExactFaceSizeSpec : ChangeSpec := { name := "fnExactFaceSize", fn := fun _ => fun
  | [d1, d2] => { results := [.lit (.bool true)], args := [d1, d2] }
  | _ => none }
def fnExactFaceSizeRow : OpenClaim := { program := "ytefeajnlogbilaa", sum := "143be505624125e9596ecbe608d36ed84eff75da52385290d9e4baab5d3f054c", func := "loop.example/g03305/laws.FnExactFaceSize", spec := "fnExactFaceSize", plainKeys := false, apart := false }
def FnExactFaceSizeSaid : Prop := fnExactFaceSizeRow.holds Try.pinned (OpenSpec.ofChange fnExactFaceSizeSpec)

/-- ITS FALSE NEIGHBOUR: 'it returns false'. Refute it at one input. -/
def fnExactFaceSizeWrong : ChangeSpec := { name := "fnExactFaceSize", fn := fun _ => fun
  | [d1, d2] => { results := [.lit (.bool false)], args := [d1, d2] }
  | _ => none }
def FnExactFaceSizeWrongFalsely : Prop := fnExactFaceSizeRow.holds Try.pinned (OpenSpec.ofChange fnExactFaceSizeWrong)

/-- 'laws.FnExactCutsBetween': WHATEVER THE INPUT: true; the input reads as it did. -/
def fnExactCutsBetweenSpec : ChangeSpec := { name := "fnExactCutsBetween", fn := fun _ => fun
  | [d1, d2] => { results := [.lit (.bool true)], args := [d1, d2] }
  | _ => none }
def fnExactCutsBetweenRow : OpenClaim := { program := "ytefeajnlogbilaa", sum := "143be505624125e9596ecbe608d36ed84eff75da52385290d9e4baab5d3f054c", func := "loop.example/g03305/laws.FnExactCutsBetween", spec := "fnExactCutsBetween", plainKeys := false, apart := false }
def FnExactCutsBetweenSaid : Prop := fnExactCutsBetweenRow.holds Try.pinned (OpenSpec.ofChange fnExactCutsBetweenSpec)

/-- ITS FALSE NEIGHBOUR: 'it returns false'. Refute it at one input. -/
def fnExactCutsBetweenWrong : ChangeSpec := { name := "fnExactCutsBetween", fn := fun _ => fun
  | [d1, d2] => { results := [.lit (.bool false)], args := [d1, d2] }
  | _ => none }
def FnExactCutsBetweenWrongFalsely : Prop := fnExactCutsBetweenRow.holds Try.pinned (OpenSpec.ofChange fnExactCutsBetweenWrong)

/-- 'laws.FnExactCutLength': WHATEVER THE INPUT: true; the input reads as it did. -/
def fnExactCutLengthSpec : ChangeSpec := { name := "fnExactCutLength", fn := fun _ => fun
  | [d] => { results := [.lit (.bool true)], args := [d] }
  | _ => none }
def fnExactCutLengthRow : OpenClaim := { program := "ytefeajnlogbilaa", sum := "143be505624125e9596ecbe608d36ed84eff75da52385290d9e4baab5d3f054c", func := "loop.example/g03305/laws.FnExactCutLength", spec := "fnExactCutLength", plainKeys := false, apart := false }
def FnExactCutLengthSaid : Prop := fnExactCutLengthRow.holds Try.pinned (OpenSpec.ofChange fnExactCutLengthSpec)

/-- ITS FALSE NEIGHBOUR: 'it returns false'. Refute it at one input. -/
def fnExactCutLengthWrong : ChangeSpec := { name := "fnExactCutLength", fn := fun _ => fun
  | [d] => { results := [.lit (.bool false)], args := [d] }
  | _ => none }
def FnExactCutLengthWrongFalsely : Prop := fnExactCutLengthRow.holds Try.pinned (OpenSpec.ofChange fnExactCutLengthWrong)

/-- 'laws.FnExactCutRuns': WHATEVER THE INPUT: true; the input reads as it did. -/
def fnExactCutRunsSpec : ChangeSpec := { name := "fnExactCutRuns", fn := fun _ => fun
  | [d1, d2] => { results := [.lit (.bool true)], args := [d1, d2] }
  | _ => none }
def fnExactCutRunsRow : OpenClaim := { program := "ytefeajnlogbilaa", sum := "143be505624125e9596ecbe608d36ed84eff75da52385290d9e4baab5d3f054c", func := "loop.example/g03305/laws.FnExactCutRuns", spec := "fnExactCutRuns", plainKeys := false, apart := false }
def FnExactCutRunsSaid : Prop := fnExactCutRunsRow.holds Try.pinned (OpenSpec.ofChange fnExactCutRunsSpec)

/-- ITS FALSE NEIGHBOUR: 'it returns false'. Refute it at one input. -/
def fnExactCutRunsWrong : ChangeSpec := { name := "fnExactCutRuns", fn := fun _ => fun
  | [d1, d2] => { results := [.lit (.bool false)], args := [d1, d2] }
  | _ => none }
def FnExactCutRunsWrongFalsely : Prop := fnExactCutRunsRow.holds Try.pinned (OpenSpec.ofChange fnExactCutRunsWrong)

/-- 'laws.FnExactAreaBetween': WHATEVER THE INPUT: true; the input reads as it did. -/
def fnExactAreaBetweenSpec : ChangeSpec := { name := "fnExactAreaBetween", fn := fun _ => fun
  | [d1, d2] => { results := [.lit (.bool true)], args := [d1, d2] }
  | _ => none }
def fnExactAreaBetweenRow : OpenClaim := { program := "ytefeajnlogbilaa", sum := "143be505624125e9596ecbe608d36ed84eff75da52385290d9e4baab5d3f054c", func := "loop.example/g03305/laws.FnExactAreaBetween", spec := "fnExactAreaBetween", plainKeys := false, apart := false }
def FnExactAreaBetweenSaid : Prop := fnExactAreaBetweenRow.holds Try.pinned (OpenSpec.ofChange fnExactAreaBetweenSpec)

/-- ITS FALSE NEIGHBOUR: 'it returns false'. Refute it at one input. -/
def fnExactAreaBetweenWrong : ChangeSpec := { name := "fnExactAreaBetween", fn := fun _ => fun
  | [d1, d2] => { results := [.lit (.bool false)], args := [d1, d2] }
  | _ => none }
def FnExactAreaBetweenWrongFalsely : Prop := fnExactAreaBetweenRow.holds Try.pinned (OpenSpec.ofChange fnExactAreaBetweenWrong)

/-- 'laws.FnExactFreeEdges': WHATEVER THE INPUT: true; the input reads as it did. -/
def fnExactFreeEdgesSpec : ChangeSpec := { name := "fnExactFreeEdges", fn := fun _ => fun
  | [d] => { results := [.lit (.bool true)], args := [d] }
  | _ => none }
def fnExactFreeEdgesRow : OpenClaim := { program := "ytefeajnlogbilaa", sum := "143be505624125e9596ecbe608d36ed84eff75da52385290d9e4baab5d3f054c", func := "loop.example/g03305/laws.FnExactFreeEdges", spec := "fnExactFreeEdges", plainKeys := false, apart := false }
def FnExactFreeEdgesSaid : Prop := fnExactFreeEdgesRow.holds Try.pinned (OpenSpec.ofChange fnExactFreeEdgesSpec)

/-- ITS FALSE NEIGHBOUR: 'it returns false'. Refute it at one input. -/
def fnExactFreeEdgesWrong : ChangeSpec := { name := "fnExactFreeEdges", fn := fun _ => fun
  | [d] => { results := [.lit (.bool false)], args := [d] }
  | _ => none }
def FnExactFreeEdgesWrongFalsely : Prop := fnExactFreeEdgesRow.holds Try.pinned (OpenSpec.ofChange fnExactFreeEdgesWrong)

/- THE SECOND FORM. 'bulk': how many values and letters a reading holds, each counted each time it is reached (what is shared counts as often as it is met; a slice's spare places count too). A statement '..UptoSaid' is the law's where the arguments, and the package variables that the reading takes, are together of bulk at most 1048576: NARROWER than '..Said'. Prove '..Said' where nothing that the law and all that it calls make is longer than what came in: it says more and counts as full. Else prove '..UptoSaid'. A law counts once. -/
mutual
def uptoBulk {H : Type} : DataW H → Nat
  | .lit (.string bytes) => bytes.length + 1
  | .lit _ => 1
  | .nil => 1
  | .ptr d => uptoBulk d + 1
  | .slice elems spare => uptoBulkAll elems + uptoBulkAll spare + 1
  | .agg parts => uptoBulkAll parts + 1
  | .iface _ d => uptoBulk d + 1
  | .map entries => uptoBulkEntries entries + 1
  | .held _ => 1
def uptoBulkAll {H : Type} : List (DataW H) → Nat
  | [] => 0
  | d :: r => uptoBulk d + uptoBulkAll r
def uptoBulkEntries {H : Type} : List (Lit × DataW H) → Nat
  | [] => 0
  | x :: r => uptoBulkEntry x + uptoBulkEntries r
def uptoBulkEntry {H : Type} : Lit × DataW H → Nat
  | (.string bytes, d) => bytes.length + uptoBulk d + 1
  | (_, d) => uptoBulk d + 1
 end
def uptoSmall : (H : Type) → List (DataW H) → Bool := fun _ ds => decide (uptoBulkAll ds ≤ 1048576)
def OpenSpec.upto (s : _root_.Go.ChangeSpec) : _root_.Go.OpenSpec := { _root_.Go.OpenSpec.ofChange s with cond := some uptoSmall }

/-- 'laws.FnFaces', WHERE WHAT IT READS IS OF BULK AT MOST 1048576: true; the input reads as it did. -/
def fnFacesUptoRow : OpenClaim := { program := "ytefeajnlogbilaa", sum := "143be505624125e9596ecbe608d36ed84eff75da52385290d9e4baab5d3f054c", func := "loop.example/g03305/laws.FnFaces", spec := "fnFaces", plainKeys := false, apart := false, narrowed := true }
def FnFacesUptoSaid : Prop := fnFacesUptoRow.holds Try.pinned (OpenSpec.upto fnFacesSpec)

/-- 'laws.FnCuts', WHERE WHAT IT READS IS OF BULK AT MOST 1048576: true; the input reads as it did. -/
def fnCutsUptoRow : OpenClaim := { program := "ytefeajnlogbilaa", sum := "143be505624125e9596ecbe608d36ed84eff75da52385290d9e4baab5d3f054c", func := "loop.example/g03305/laws.FnCuts", spec := "fnCuts", plainKeys := false, apart := false, narrowed := true }
def FnCutsUptoSaid : Prop := fnCutsUptoRow.holds Try.pinned (OpenSpec.upto fnCutsSpec)

/-- 'laws.FnExactAreJoined', WHERE WHAT IT READS IS OF BULK AT MOST 1048576: true; the input reads as it did. -/
def fnExactAreJoinedUptoRow : OpenClaim := { program := "ytefeajnlogbilaa", sum := "143be505624125e9596ecbe608d36ed84eff75da52385290d9e4baab5d3f054c", func := "loop.example/g03305/laws.FnExactAreJoined", spec := "fnExactAreJoined", plainKeys := false, apart := false, narrowed := true }
def FnExactAreJoinedUptoSaid : Prop := fnExactAreJoinedUptoRow.holds Try.pinned (OpenSpec.upto fnExactAreJoinedSpec)

/-- 'laws.FnExactFaceOf', WHERE WHAT IT READS IS OF BULK AT MOST 1048576: true; the input reads as it did. -/
def fnExactFaceOfUptoRow : OpenClaim := { program := "ytefeajnlogbilaa", sum := "143be505624125e9596ecbe608d36ed84eff75da52385290d9e4baab5d3f054c", func := "loop.example/g03305/laws.FnExactFaceOf", spec := "fnExactFaceOf", plainKeys := false, apart := false, narrowed := true }
def FnExactFaceOfUptoSaid : Prop := fnExactFaceOfUptoRow.holds Try.pinned (OpenSpec.upto fnExactFaceOfSpec)

/-- 'laws.FnExactCountFaces', WHERE WHAT IT READS IS OF BULK AT MOST 1048576: true; the input reads as it did. -/
def fnExactCountFacesUptoRow : OpenClaim := { program := "ytefeajnlogbilaa", sum := "143be505624125e9596ecbe608d36ed84eff75da52385290d9e4baab5d3f054c", func := "loop.example/g03305/laws.FnExactCountFaces", spec := "fnExactCountFaces", plainKeys := false, apart := false, narrowed := true }
def FnExactCountFacesUptoSaid : Prop := fnExactCountFacesUptoRow.holds Try.pinned (OpenSpec.upto fnExactCountFacesSpec)

/-- 'laws.FnExactFaceSize', WHERE WHAT IT READS IS OF BULK AT MOST 1048576: true; the input reads as it did. -/
def fnExactFaceSizeUptoRow : OpenClaim := { program := "ytefeajnlogbilaa", sum := "143be505624125e9596ecbe608d36ed84eff75da52385290d9e4baab5d3f054c", func := "loop.example/g03305/laws.FnExactFaceSize", spec := "fnExactFaceSize", plainKeys := false, apart := false, narrowed := true }
def FnExactFaceSizeUptoSaid : Prop := fnExactFaceSizeUptoRow.holds Try.pinned (OpenSpec.upto fnExactFaceSizeSpec)

/-- 'laws.FnExactCutsBetween', WHERE WHAT IT READS IS OF BULK AT MOST 1048576: true; the input reads as it did. -/
def fnExactCutsBetweenUptoRow : OpenClaim := { program := "ytefeajnlogbilaa", sum := "143be505624125e9596ecbe608d36ed84eff75da52385290d9e4baab5d3f054c", func := "loop.example/g03305/laws.FnExactCutsBetween", spec := "fnExactCutsBetween", plainKeys := false, apart := false, narrowed := true }
def FnExactCutsBetweenUptoSaid : Prop := fnExactCutsBetweenUptoRow.holds Try.pinned (OpenSpec.upto fnExactCutsBetweenSpec)

/-- 'laws.FnExactCutLength', WHERE WHAT IT READS IS OF BULK AT MOST 1048576: true; the input reads as it did. -/
def fnExactCutLengthUptoRow : OpenClaim := { program := "ytefeajnlogbilaa", sum := "143be505624125e9596ecbe608d36ed84eff75da52385290d9e4baab5d3f054c", func := "loop.example/g03305/laws.FnExactCutLength", spec := "fnExactCutLength", plainKeys := false, apart := false, narrowed := true }
def FnExactCutLengthUptoSaid : Prop := fnExactCutLengthUptoRow.holds Try.pinned (OpenSpec.upto fnExactCutLengthSpec)

/-- 'laws.FnExactCutRuns', WHERE WHAT IT READS IS OF BULK AT MOST 1048576: true; the input reads as it did. -/
def fnExactCutRunsUptoRow : OpenClaim := { program := "ytefeajnlogbilaa", sum := "143be505624125e9596ecbe608d36ed84eff75da52385290d9e4baab5d3f054c", func := "loop.example/g03305/laws.FnExactCutRuns", spec := "fnExactCutRuns", plainKeys := false, apart := false, narrowed := true }
def FnExactCutRunsUptoSaid : Prop := fnExactCutRunsUptoRow.holds Try.pinned (OpenSpec.upto fnExactCutRunsSpec)

/-- 'laws.FnExactAreaBetween', WHERE WHAT IT READS IS OF BULK AT MOST 1048576: true; the input reads as it did. -/
def fnExactAreaBetweenUptoRow : OpenClaim := { program := "ytefeajnlogbilaa", sum := "143be505624125e9596ecbe608d36ed84eff75da52385290d9e4baab5d3f054c", func := "loop.example/g03305/laws.FnExactAreaBetween", spec := "fnExactAreaBetween", plainKeys := false, apart := false, narrowed := true }
def FnExactAreaBetweenUptoSaid : Prop := fnExactAreaBetweenUptoRow.holds Try.pinned (OpenSpec.upto fnExactAreaBetweenSpec)

/-- 'laws.FnExactFreeEdges', WHERE WHAT IT READS IS OF BULK AT MOST 1048576: true; the input reads as it did. -/
def fnExactFreeEdgesUptoRow : OpenClaim := { program := "ytefeajnlogbilaa", sum := "143be505624125e9596ecbe608d36ed84eff75da52385290d9e4baab5d3f054c", func := "loop.example/g03305/laws.FnExactFreeEdges", spec := "fnExactFreeEdges", plainKeys := false, apart := false, narrowed := true }
def FnExactFreeEdgesUptoSaid : Prop := fnExactFreeEdgesUptoRow.holds Try.pinned (OpenSpec.upto fnExactFreeEdgesSpec)

end Rows
end Go.Proofs.Ytefeajnlogbilaa
