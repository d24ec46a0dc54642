/-
  No cell of these rows narrows 'for every input' (looked for: loops, veiled, ifaces, maps, wideKeys, modest, calm, conditions, laid).
  DERIVED. THE GIVEN ROWS OF THIS SEAT. 8 by the template 'for every input the law returns true; each argument reads behind the call as it read before'; 0 by the template 'total and deterministic' (their statements: YtpnmloemabligaaTotals.lean).
  GIVEN WITH THE SEED: the statements are not yours to turn. If you find one false, say at which input.
  Laid BY PROGRAM, IN A SANDBOX (cutbox-rows.mjs): the forced cells as the released guide's own fill.sh prints them over the translation 3c55c72b4fa67780… (all of the seat's roots in one cut). By AI agents, Wed Nov 11 2026. No macro, syntax, notation, axiom, sorry.
-/
import Derived.Test.YtpnmloemabligaaChecked
import GoSem.Claim
import GoSem.ClaimJoined
import GoSem.ClaimMapViews
import Derived.JoinedTies
import Derived.KernelRfl
namespace Go.Proofs.Ytpnmloemabligaa
/- THE CELL 'sum', in the pinned program and in every row, IS THE sha256 OF THE DUMP (.gsa) THAT YtpnmloemabligaaProg.lean LOADS. Nothing in Lean hashes anything: it is a label: what it is worth is what the hold of that sum in a sandbox is worth. -/
noncomputable def Try.pinned : Pinned := { name := "ytpnmloemabligaa", sum := "3c55c72b4fa67780d1ae8d7b4e2cc07e5ed2bffd95f54f26386da6d991fe6153", checked := Try.checked }
namespace Rows
def none {H : Type} : Left H := { results := [], args := [] }

/-- 'laws.FnCards': WHATEVER THE INPUT: true; the input reads as it did. -/
def fnCardsSpec : ChangeSpec := { name := "fnCards", fn := fun _ => fun
  | [d] => { results := [.lit (.bool true)], args := [d] }
  | _ => none }
def fnCardsRow : OpenClaim := { program := "ytpnmloemabligaa", sum := "3c55c72b4fa67780d1ae8d7b4e2cc07e5ed2bffd95f54f26386da6d991fe6153", func := "loop.example/g03305/laws.FnCards", spec := "fnCards", inPlace := ["slices.overlaps[string]", "internal/abi.NoEscape", "internal/bytealg.MakeNoZero"], plainKeys := false, apart := false }
def FnCardsSaid : Prop := fnCardsRow.holds Try.pinned (OpenSpec.ofChange fnCardsSpec)

/-- ITS FALSE NEIGHBOUR: 'it returns false'. Refute it at one input. -/
def fnCardsWrong : ChangeSpec := { name := "fnCards", fn := fun _ => fun
  | [d] => { results := [.lit (.bool false)], args := [d] }
  | _ => none }
def FnCardsWrongFalsely : Prop := fnCardsRow.holds Try.pinned (OpenSpec.ofChange fnCardsWrong)

/-- 'laws.FnFaces': WHATEVER THE INPUT: true; the input reads as it did. -/
def fnFacesSpec : ChangeSpec := { name := "fnFaces", fn := fun _ => fun
  | [d] => { results := [.lit (.bool true)], args := [d] }
  | _ => none }
def fnFacesRow : OpenClaim := { program := "ytpnmloemabligaa", sum := "3c55c72b4fa67780d1ae8d7b4e2cc07e5ed2bffd95f54f26386da6d991fe6153", func := "loop.example/g03305/laws.FnFaces", spec := "fnFaces", plainKeys := false, apart := false }
def FnFacesSaid : Prop := fnFacesRow.holds Try.pinned (OpenSpec.ofChange fnFacesSpec)

/-- ITS FALSE NEIGHBOUR: 'it returns false'. Refute it at one input. -/
def fnFacesWrong : ChangeSpec := { name := "fnFaces", fn := fun _ => fun
  | [d] => { results := [.lit (.bool false)], args := [d] }
  | _ => none }
def FnFacesWrongFalsely : Prop := fnFacesRow.holds Try.pinned (OpenSpec.ofChange fnFacesWrong)

/-- 'laws.FnExactTileCount': WHATEVER THE INPUT: true; the input reads as it did. -/
def fnExactTileCountSpec : ChangeSpec := { name := "fnExactTileCount", fn := fun _ => fun
  | [d] => { results := [.lit (.bool true)], args := [d] }
  | _ => none }
def fnExactTileCountRow : OpenClaim := { program := "ytpnmloemabligaa", sum := "3c55c72b4fa67780d1ae8d7b4e2cc07e5ed2bffd95f54f26386da6d991fe6153", func := "loop.example/g03305/laws.FnExactTileCount", spec := "fnExactTileCount", plainKeys := false, apart := false }
def FnExactTileCountSaid : Prop := fnExactTileCountRow.holds Try.pinned (OpenSpec.ofChange fnExactTileCountSpec)

/-- ITS FALSE NEIGHBOUR: 'it returns false'. Refute it at one input. -/
def fnExactTileCountWrong : ChangeSpec := { name := "fnExactTileCount", fn := fun _ => fun
  | [d] => { results := [.lit (.bool false)], args := [d] }
  | _ => none }
def FnExactTileCountWrongFalsely : Prop := fnExactTileCountRow.holds Try.pinned (OpenSpec.ofChange fnExactTileCountWrong)

/-- 'laws.FnExactTilePlace': WHATEVER THE INPUT: true; the input reads as it did. -/
def fnExactTilePlaceSpec : ChangeSpec := { name := "fnExactTilePlace", fn := fun _ => fun
  | [d1, d2, d3] => { results := [.lit (.bool true)], args := [d1, d2, d3] }
  | _ => none }
def fnExactTilePlaceRow : OpenClaim := { program := "ytpnmloemabligaa", sum := "3c55c72b4fa67780d1ae8d7b4e2cc07e5ed2bffd95f54f26386da6d991fe6153", func := "loop.example/g03305/laws.FnExactTilePlace", spec := "fnExactTilePlace", plainKeys := false, apart := false }
def FnExactTilePlaceSaid : Prop := fnExactTilePlaceRow.holds Try.pinned (OpenSpec.ofChange fnExactTilePlaceSpec)

/-- ITS FALSE NEIGHBOUR: 'it returns false'. Refute it at one input. -/
def fnExactTilePlaceWrong : ChangeSpec := { name := "fnExactTilePlace", fn := fun _ => fun
  | [d1, d2, d3] => { results := [.lit (.bool false)], args := [d1, d2, d3] }
  | _ => none }
def FnExactTilePlaceWrongFalsely : Prop := fnExactTilePlaceRow.holds Try.pinned (OpenSpec.ofChange fnExactTilePlaceWrong)

/-- 'laws.FnExactAreJoined': WHATEVER THE INPUT: true; the input reads as it did. -/
def fnExactAreJoinedSpec : ChangeSpec := { name := "fnExactAreJoined", fn := fun _ => fun
  | [d1, d2, d3, d4] => { results := [.lit (.bool true)], args := [d1, d2, d3, d4] }
  | _ => none }
def fnExactAreJoinedRow : OpenClaim := { program := "ytpnmloemabligaa", sum := "3c55c72b4fa67780d1ae8d7b4e2cc07e5ed2bffd95f54f26386da6d991fe6153", func := "loop.example/g03305/laws.FnExactAreJoined", spec := "fnExactAreJoined", plainKeys := false, apart := false }
def FnExactAreJoinedSaid : Prop := fnExactAreJoinedRow.holds Try.pinned (OpenSpec.ofChange fnExactAreJoinedSpec)

/-- ITS FALSE NEIGHBOUR: 'it returns false'. Refute it at one input. -/
def fnExactAreJoinedWrong : ChangeSpec := { name := "fnExactAreJoined", fn := fun _ => fun
  | [d1, d2, d3, d4] => { results := [.lit (.bool false)], args := [d1, d2, d3, d4] }
  | _ => none }
def FnExactAreJoinedWrongFalsely : Prop := fnExactAreJoinedRow.holds Try.pinned (OpenSpec.ofChange fnExactAreJoinedWrong)

/-- 'laws.FnExactFaceOf': WHATEVER THE INPUT: true; the input reads as it did. -/
def fnExactFaceOfSpec : ChangeSpec := { name := "fnExactFaceOf", fn := fun _ => fun
  | [d1, d2, d3] => { results := [.lit (.bool true)], args := [d1, d2, d3] }
  | _ => none }
def fnExactFaceOfRow : OpenClaim := { program := "ytpnmloemabligaa", sum := "3c55c72b4fa67780d1ae8d7b4e2cc07e5ed2bffd95f54f26386da6d991fe6153", func := "loop.example/g03305/laws.FnExactFaceOf", spec := "fnExactFaceOf", plainKeys := false, apart := false }
def FnExactFaceOfSaid : Prop := fnExactFaceOfRow.holds Try.pinned (OpenSpec.ofChange fnExactFaceOfSpec)

/-- ITS FALSE NEIGHBOUR: 'it returns false'. Refute it at one input. -/
def fnExactFaceOfWrong : ChangeSpec := { name := "fnExactFaceOf", fn := fun _ => fun
  | [d1, d2, d3] => { results := [.lit (.bool false)], args := [d1, d2, d3] }
  | _ => none }
def FnExactFaceOfWrongFalsely : Prop := fnExactFaceOfRow.holds Try.pinned (OpenSpec.ofChange fnExactFaceOfWrong)

/-- 'laws.FnExactCountFaces': WHATEVER THE INPUT: true; the input reads as it did. -/
def fnExactCountFacesSpec : ChangeSpec := { name := "fnExactCountFaces", fn := fun _ => fun
  | [d] => { results := [.lit (.bool true)], args := [d] }
  | _ => none }
def fnExactCountFacesRow : OpenClaim := { program := "ytpnmloemabligaa", sum := "3c55c72b4fa67780d1ae8d7b4e2cc07e5ed2bffd95f54f26386da6d991fe6153", func := "loop.example/g03305/laws.FnExactCountFaces", spec := "fnExactCountFaces", plainKeys := false, apart := false }
def FnExactCountFacesSaid : Prop := fnExactCountFacesRow.holds Try.pinned (OpenSpec.ofChange fnExactCountFacesSpec)

/-- ITS FALSE NEIGHBOUR: 'it returns false'. Refute it at one input. -/
def fnExactCountFacesWrong : ChangeSpec := { name := "fnExactCountFaces", fn := fun _ => fun
  | [d] => { results := [.lit (.bool false)], args := [d] }
  | _ => none }
def FnExactCountFacesWrongFalsely : Prop := fnExactCountFacesRow.holds Try.pinned (OpenSpec.ofChange fnExactCountFacesWrong)

/-- 'laws.FnExactFaceSize': WHATEVER THE INPUT: true; the input reads as it did. -/
def fnExactFaceSizeSpec : ChangeSpec := { name := "fnExactFaceSize", fn := fun _ => fun
  | [d1, d2] => { results := [.lit (.bool true)], args := [d1, d2] }
  | _ => none }
def fnExactFaceSizeRow : OpenClaim := { program := "ytpnmloemabligaa", sum := "3c55c72b4fa67780d1ae8d7b4e2cc07e5ed2bffd95f54f26386da6d991fe6153", func := "loop.example/g03305/laws.FnExactFaceSize", spec := "fnExactFaceSize", plainKeys := false, apart := false }
def FnExactFaceSizeSaid : Prop := fnExactFaceSizeRow.holds Try.pinned (OpenSpec.ofChange fnExactFaceSizeSpec)

/-- ITS FALSE NEIGHBOUR: 'it returns false'. Refute it at one input. -/
def fnExactFaceSizeWrong : ChangeSpec := { name := "fnExactFaceSize", fn := fun _ => fun
  | [d1, d2] => { results := [.lit (.bool false)], args := [d1, d2] }
  | _ => none }
def FnExactFaceSizeWrongFalsely : Prop := fnExactFaceSizeRow.holds Try.pinned (OpenSpec.ofChange fnExactFaceSizeWrong)

/- THE SECOND FORM. 'bulk': how many values and letters a reading holds, each counted each time it is reached (what is shared counts as often as it is met; a slice's spare places count too). A statement '..UptoSaid' is the law's where the arguments, and the package variables that the reading takes, are together of bulk at most 1048576: NARROWER than '..Said'. Prove '..Said' where nothing that the law and all that it calls make is longer than what came in: it says more and counts as full. Else prove '..UptoSaid'. A law counts once. -/
mutual
def uptoBulk {H : Type} : DataW H → Nat
  | .lit (.string bytes) => bytes.length + 1
  | .lit _ => 1
  | .nil => 1
  | .ptr d => uptoBulk d + 1
  | .slice elems spare => uptoBulkAll elems + uptoBulkAll spare + 1
  | .agg parts => uptoBulkAll parts + 1
  | .iface _ d => uptoBulk d + 1
  | .map entries => uptoBulkEntries entries + 1
  | .held _ => 1
def uptoBulkAll {H : Type} : List (DataW H) → Nat
  | [] => 0
  | d :: r => uptoBulk d + uptoBulkAll r
def uptoBulkEntries {H : Type} : List (Lit × DataW H) → Nat
  | [] => 0
  | x :: r => uptoBulkEntry x + uptoBulkEntries r
def uptoBulkEntry {H : Type} : Lit × DataW H → Nat
  | (.string bytes, d) => bytes.length + uptoBulk d + 1
  | (_, d) => uptoBulk d + 1
 end
def uptoSmall : (H : Type) → List (DataW H) → Bool := fun _ ds => decide (uptoBulkAll ds ≤ 1048576)
def OpenSpec.upto (s : _root_.Go.ChangeSpec) : _root_.Go.OpenSpec := { _root_.Go.OpenSpec.ofChange s with cond := some uptoSmall }

/-- 'laws.FnCards', WHERE WHAT IT READS IS OF BULK AT MOST 1048576: true; the input reads as it did. -/
def fnCardsUptoRow : OpenClaim := { program := "ytpnmloemabligaa", sum := "3c55c72b4fa67780d1ae8d7b4e2cc07e5ed2bffd95f54f26386da6d991fe6153", func := "loop.example/g03305/laws.FnCards", spec := "fnCards", inPlace := ["slices.overlaps[string]", "internal/abi.NoEscape", "internal/bytealg.MakeNoZero"], plainKeys := false, apart := false, narrowed := true }
def FnCardsUptoSaid : Prop := fnCardsUptoRow.holds Try.pinned (OpenSpec.upto fnCardsSpec)

/-- 'laws.FnFaces', WHERE WHAT IT READS IS OF BULK AT MOST 1048576: true; the input reads as it did. -/
def fnFacesUptoRow : OpenClaim := { program := "ytpnmloemabligaa", sum := "3c55c72b4fa67780d1ae8d7b4e2cc07e5ed2bffd95f54f26386da6d991fe6153", func := "loop.example/g03305/laws.FnFaces", spec := "fnFaces", plainKeys := false, apart := false, narrowed := true }
def FnFacesUptoSaid : Prop := fnFacesUptoRow.holds Try.pinned (OpenSpec.upto fnFacesSpec)

/-- 'laws.FnExactTileCount', WHERE WHAT IT READS IS OF BULK AT MOST 1048576: true; the input reads as it did. -/
def fnExactTileCountUptoRow : OpenClaim := { program := "ytpnmloemabligaa", sum := "3c55c72b4fa67780d1ae8d7b4e2cc07e5ed2bffd95f54f26386da6d991fe6153", func := "loop.example/g03305/laws.FnExactTileCount", spec := "fnExactTileCount", plainKeys := false, apart := false, narrowed := true }
def FnExactTileCountUptoSaid : Prop := fnExactTileCountUptoRow.holds Try.pinned (OpenSpec.upto fnExactTileCountSpec)

/-- 'laws.FnExactTilePlace', WHERE WHAT IT READS IS OF BULK AT MOST 1048576: true; the input reads as it did. -/
def fnExactTilePlaceUptoRow : OpenClaim := { program := "ytpnmloemabligaa", sum := "3c55c72b4fa67780d1ae8d7b4e2cc07e5ed2bffd95f54f26386da6d991fe6153", func := "loop.example/g03305/laws.FnExactTilePlace", spec := "fnExactTilePlace", plainKeys := false, apart := false, narrowed := true }
def FnExactTilePlaceUptoSaid : Prop := fnExactTilePlaceUptoRow.holds Try.pinned (OpenSpec.upto fnExactTilePlaceSpec)

/-- 'laws.FnExactAreJoined', WHERE WHAT IT READS IS OF BULK AT MOST 1048576: true; the input reads as it did. -/
def fnExactAreJoinedUptoRow : OpenClaim := { program := "ytpnmloemabligaa", sum := "3c55c72b4fa67780d1ae8d7b4e2cc07e5ed2bffd95f54f26386da6d991fe6153", func := "loop.example/g03305/laws.FnExactAreJoined", spec := "fnExactAreJoined", plainKeys := false, apart := false, narrowed := true }
def FnExactAreJoinedUptoSaid : Prop := fnExactAreJoinedUptoRow.holds Try.pinned (OpenSpec.upto fnExactAreJoinedSpec)

/-- 'laws.FnExactFaceOf', WHERE WHAT IT READS IS OF BULK AT MOST 1048576: true; the input reads as it did. -/
def fnExactFaceOfUptoRow : OpenClaim := { program := "ytpnmloemabligaa", sum := "3c55c72b4fa67780d1ae8d7b4e2cc07e5ed2bffd95f54f26386da6d991fe6153", func := "loop.example/g03305/laws.FnExactFaceOf", spec := "fnExactFaceOf", plainKeys := false, apart := false, narrowed := true }
def FnExactFaceOfUptoSaid : Prop := fnExactFaceOfUptoRow.holds Try.pinned (OpenSpec.upto fnExactFaceOfSpec)

/-- 'laws.FnExactCountFaces', WHERE WHAT IT READS IS OF BULK AT MOST 1048576: true; the input reads as it did. -/
def fnExactCountFacesUptoRow : OpenClaim := { program := "ytpnmloemabligaa", sum := "3c55c72b4fa67780d1ae8d7b4e2cc07e5ed2bffd95f54f26386da6d991fe6153", func := "loop.example/g03305/laws.FnExactCountFaces", spec := "fnExactCountFaces", plainKeys := false, apart := false, narrowed := true }
def FnExactCountFacesUptoSaid : Prop := fnExactCountFacesUptoRow.holds Try.pinned (OpenSpec.upto fnExactCountFacesSpec)

/-- 'laws.FnExactFaceSize', WHERE WHAT IT READS IS OF BULK AT MOST 1048576: true; the input reads as it did. -/
def fnExactFaceSizeUptoRow : OpenClaim := { program := "ytpnmloemabligaa", sum := "3c55c72b4fa67780d1ae8d7b4e2cc07e5ed2bffd95f54f26386da6d991fe6153", func := "loop.example/g03305/laws.FnExactFaceSize", spec := "fnExactFaceSize", plainKeys := false, apart := false, narrowed := true }
def FnExactFaceSizeUptoSaid : Prop := fnExactFaceSizeUptoRow.holds Try.pinned (OpenSpec.upto fnExactFaceSizeSpec)

end Rows
end Go.Proofs.Ytpnmloemabligaa
