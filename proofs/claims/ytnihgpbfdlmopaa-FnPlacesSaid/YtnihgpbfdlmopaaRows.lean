/-
  No cell of these rows narrows 'for every input' (looked for: loops, veiled, ifaces, maps, wideKeys, modest, calm, conditions, laid).
  DERIVED. THE GIVEN ROWS OF THIS SEAT. 6 by the template 'for every input the law returns true; each argument reads behind the call as it read before'; 0 by the template 'total and deterministic' (their statements: YtnihgpbfdlmopaaTotals.lean).
  GIVEN WITH THE SEED: the statements are not yours to turn. If you find one false, say at which input.
  Laid BY PROGRAM, IN A SANDBOX (cutbox-rows.mjs): the forced cells as the released guide's own fill.sh prints them over the translation 5891207eeaa82daf… (all of the seat's roots in one cut). By AI agents, Wed Nov 11 2026. No macro, syntax, notation, axiom, sorry.
-/
import Derived.Test.YtnihgpbfdlmopaaChecked
import GoSem.Claim
import GoSem.ClaimJoined
import GoSem.ClaimMapViews
import Derived.JoinedTies
import Derived.KernelRfl
namespace Go.Proofs.Ytnihgpbfdlmopaa
/- THE CELL 'sum', in the pinned program and in every row, IS THE sha256 OF THE DUMP (.gsa) THAT YtnihgpbfdlmopaaProg.lean LOADS. Nothing in Lean hashes anything: it is a label: what it is worth is what the hold of that sum in a sandbox is worth. -/
noncomputable def Try.pinned : Pinned := { name := "ytnihgpbfdlmopaa", sum := "5891207eeaa82daf55b38aaa009a720a3b2d4534316871710ff72ab5d75f29bb", checked := Try.checked }
namespace Rows
def none {H : Type} : Left H := { results := [], args := [] }

/-- 'laws.FnPlaces': WHATEVER THE INPUT: true; the input reads as it did. -/
def fnPlacesSpec : ChangeSpec := { name := "fnPlaces", fn := fun _ => fun
  | [d] => { results := [.lit (.bool true)], args := [d] }
  | _ => none }
def fnPlacesRow : OpenClaim := { program := "ytnihgpbfdlmopaa", sum := "5891207eeaa82daf55b38aaa009a720a3b2d4534316871710ff72ab5d75f29bb", func := "loop.example/g03305/laws.FnPlaces", spec := "fnPlaces", apart := false }
def FnPlacesSaid : Prop := fnPlacesRow.holds Try.pinned (OpenSpec.ofChange fnPlacesSpec)

/-- ITS FALSE NEIGHBOUR: 'it returns false'. Refute it at one input. -/
def fnPlacesWrong : ChangeSpec := { name := "fnPlaces", fn := fun _ => fun
  | [d] => { results := [.lit (.bool false)], args := [d] }
  | _ => none }
def FnPlacesWrongFalsely : Prop := fnPlacesRow.holds Try.pinned (OpenSpec.ofChange fnPlacesWrong)

/-- 'laws.FnExactPlaceOf': WHATEVER THE INPUT: true; the input reads as it did. -/
def fnExactPlaceOfSpec : ChangeSpec := { name := "fnExactPlaceOf", fn := fun _ => fun
  | [d1, d2, d3] => { results := [.lit (.bool true)], args := [d1, d2, d3] }
  | _ => none }
def fnExactPlaceOfRow : OpenClaim := { program := "ytnihgpbfdlmopaa", sum := "5891207eeaa82daf55b38aaa009a720a3b2d4534316871710ff72ab5d75f29bb", func := "loop.example/g03305/laws.FnExactPlaceOf", spec := "fnExactPlaceOf", apart := false }
def FnExactPlaceOfSaid : Prop := fnExactPlaceOfRow.holds Try.pinned (OpenSpec.ofChange fnExactPlaceOfSpec)

/-- ITS FALSE NEIGHBOUR: 'it returns false'. Refute it at one input. -/
def fnExactPlaceOfWrong : ChangeSpec := { name := "fnExactPlaceOf", fn := fun _ => fun
  | [d1, d2, d3] => { results := [.lit (.bool false)], args := [d1, d2, d3] }
  | _ => none }
def FnExactPlaceOfWrongFalsely : Prop := fnExactPlaceOfRow.holds Try.pinned (OpenSpec.ofChange fnExactPlaceOfWrong)

/-- 'laws.FnExactReachClosed': WHATEVER THE INPUT: true; the input reads as it did. -/
def fnExactReachClosedSpec : ChangeSpec := { name := "fnExactReachClosed", fn := fun _ => fun
  | [d] => { results := [.lit (.bool true)], args := [d] }
  | _ => none }
def fnExactReachClosedRow : OpenClaim := { program := "ytnihgpbfdlmopaa", sum := "5891207eeaa82daf55b38aaa009a720a3b2d4534316871710ff72ab5d75f29bb", func := "loop.example/g03305/laws.FnExactReachClosed", spec := "fnExactReachClosed", apart := false }
def FnExactReachClosedSaid : Prop := fnExactReachClosedRow.holds Try.pinned (OpenSpec.ofChange fnExactReachClosedSpec)

/-- ITS FALSE NEIGHBOUR: 'it returns false'. Refute it at one input. -/
def fnExactReachClosedWrong : ChangeSpec := { name := "fnExactReachClosed", fn := fun _ => fun
  | [d] => { results := [.lit (.bool false)], args := [d] }
  | _ => none }
def FnExactReachClosedWrongFalsely : Prop := fnExactReachClosedRow.holds Try.pinned (OpenSpec.ofChange fnExactReachClosedWrong)

/-- 'laws.FnExactStaysInside': WHATEVER THE INPUT: true; the input reads as it did. -/
def fnExactStaysInsideSpec : ChangeSpec := { name := "fnExactStaysInside", fn := fun _ => fun
  | [d1, d2] => { results := [.lit (.bool true)], args := [d1, d2] }
  | _ => none }
def fnExactStaysInsideRow : OpenClaim := { program := "ytnihgpbfdlmopaa", sum := "5891207eeaa82daf55b38aaa009a720a3b2d4534316871710ff72ab5d75f29bb", func := "loop.example/g03305/laws.FnExactStaysInside", spec := "fnExactStaysInside", apart := false }
def FnExactStaysInsideSaid : Prop := fnExactStaysInsideRow.holds Try.pinned (OpenSpec.ofChange fnExactStaysInsideSpec)

/-- ITS FALSE NEIGHBOUR: 'it returns false'. Refute it at one input. -/
def fnExactStaysInsideWrong : ChangeSpec := { name := "fnExactStaysInside", fn := fun _ => fun
  | [d1, d2] => { results := [.lit (.bool false)], args := [d1, d2] }
  | _ => none }
def FnExactStaysInsideWrongFalsely : Prop := fnExactStaysInsideRow.holds Try.pinned (OpenSpec.ofChange fnExactStaysInsideWrong)

/-- 'laws.FnExactSpreadOf': WHATEVER THE INPUT: true; the input reads as it did. -/
def fnExactSpreadOfSpec : ChangeSpec := { name := "fnExactSpreadOf", fn := fun _ => fun
  | [d] => { results := [.lit (.bool true)], args := [d] }
  | _ => none }
def fnExactSpreadOfRow : OpenClaim := { program := "ytnihgpbfdlmopaa", sum := "5891207eeaa82daf55b38aaa009a720a3b2d4534316871710ff72ab5d75f29bb", func := "loop.example/g03305/laws.FnExactSpreadOf", spec := "fnExactSpreadOf", apart := false }
def FnExactSpreadOfSaid : Prop := fnExactSpreadOfRow.holds Try.pinned (OpenSpec.ofChange fnExactSpreadOfSpec)

/-- ITS FALSE NEIGHBOUR: 'it returns false'. Refute it at one input. -/
def fnExactSpreadOfWrong : ChangeSpec := { name := "fnExactSpreadOf", fn := fun _ => fun
  | [d] => { results := [.lit (.bool false)], args := [d] }
  | _ => none }
def FnExactSpreadOfWrongFalsely : Prop := fnExactSpreadOfRow.holds Try.pinned (OpenSpec.ofChange fnExactSpreadOfWrong)

/-- 'laws.FnExactStepLength': WHATEVER THE INPUT: true; the input reads as it did. -/
def fnExactStepLengthSpec : ChangeSpec := { name := "fnExactStepLength", fn := fun _ => fun
  | [d1, d2, d3] => { results := [.lit (.bool true)], args := [d1, d2, d3] }
  | _ => none }
def fnExactStepLengthRow : OpenClaim := { program := "ytnihgpbfdlmopaa", sum := "5891207eeaa82daf55b38aaa009a720a3b2d4534316871710ff72ab5d75f29bb", func := "loop.example/g03305/laws.FnExactStepLength", spec := "fnExactStepLength", apart := false }
def FnExactStepLengthSaid : Prop := fnExactStepLengthRow.holds Try.pinned (OpenSpec.ofChange fnExactStepLengthSpec)

/-- ITS FALSE NEIGHBOUR: 'it returns false'. Refute it at one input. -/
def fnExactStepLengthWrong : ChangeSpec := { name := "fnExactStepLength", fn := fun _ => fun
  | [d1, d2, d3] => { results := [.lit (.bool false)], args := [d1, d2, d3] }
  | _ => none }
def FnExactStepLengthWrongFalsely : Prop := fnExactStepLengthRow.holds Try.pinned (OpenSpec.ofChange fnExactStepLengthWrong)

/- THE SECOND FORM. 'bulk': how many values and letters a reading holds, each counted each time it is reached (what is shared counts as often as it is met; a slice's spare places count too). A statement '..UptoSaid' is the law's where the arguments, and the package variables that the reading takes, are together of bulk at most 1048576: NARROWER than '..Said'. Prove '..Said' where nothing that the law and all that it calls make is longer than what came in: it says more and counts as full. Else prove '..UptoSaid'. A law counts once. -/
mutual
def uptoBulk {H : Type} : DataW H → Nat
  | .lit (.string bytes) => bytes.length + 1
  | .lit _ => 1
  | .nil => 1
  | .ptr d => uptoBulk d + 1
  | .slice elems spare => uptoBulkAll elems + uptoBulkAll spare + 1
  | .agg parts => uptoBulkAll parts + 1
  | .iface _ d => uptoBulk d + 1
  | .map entries => uptoBulkEntries entries + 1
  | .held _ => 1
def uptoBulkAll {H : Type} : List (DataW H) → Nat
  | [] => 0
  | d :: r => uptoBulk d + uptoBulkAll r
def uptoBulkEntries {H : Type} : List (Lit × DataW H) → Nat
  | [] => 0
  | x :: r => uptoBulkEntry x + uptoBulkEntries r
def uptoBulkEntry {H : Type} : Lit × DataW H → Nat
  | (.string bytes, d) => bytes.length + uptoBulk d + 1
  | (_, d) => uptoBulk d + 1
 end
def uptoSmall : (H : Type) → List (DataW H) → Bool := fun _ ds => decide (uptoBulkAll ds ≤ 1048576)
def OpenSpec.upto (s : _root_.Go.ChangeSpec) : _root_.Go.OpenSpec := { _root_.Go.OpenSpec.ofChange s with cond := some uptoSmall }

/-- 'laws.FnPlaces', WHERE WHAT IT READS IS OF BULK AT MOST 1048576: true; the input reads as it did. -/
def fnPlacesUptoRow : OpenClaim := { program := "ytnihgpbfdlmopaa", sum := "5891207eeaa82daf55b38aaa009a720a3b2d4534316871710ff72ab5d75f29bb", func := "loop.example/g03305/laws.FnPlaces", spec := "fnPlaces", apart := false, narrowed := true }
def FnPlacesUptoSaid : Prop := fnPlacesUptoRow.holds Try.pinned (OpenSpec.upto fnPlacesSpec)

/-- 'laws.FnExactPlaceOf', WHERE WHAT IT READS IS OF BULK AT MOST 1048576: true; the input reads as it did. -/
def fnExactPlaceOfUptoRow : OpenClaim := { program := "ytnihgpbfdlmopaa", sum := "5891207eeaa82daf55b38aaa009a720a3b2d4534316871710ff72ab5d75f29bb", func := "loop.example/g03305/laws.FnExactPlaceOf", spec := "fnExactPlaceOf", apart := false, narrowed := true }
def FnExactPlaceOfUptoSaid : Prop := fnExactPlaceOfUptoRow.holds Try.pinned (OpenSpec.upto fnExactPlaceOfSpec)

/-- 'laws.FnExactReachClosed', WHERE WHAT IT READS IS OF BULK AT MOST 1048576: true; the input reads as it did. -/
def fnExactReachClosedUptoRow : OpenClaim := { program := "ytnihgpbfdlmopaa", sum := "5891207eeaa82daf55b38aaa009a720a3b2d4534316871710ff72ab5d75f29bb", func := "loop.example/g03305/laws.FnExactReachClosed", spec := "fnExactReachClosed", apart := false, narrowed := true }
def FnExactReachClosedUptoSaid : Prop := fnExactReachClosedUptoRow.holds Try.pinned (OpenSpec.upto fnExactReachClosedSpec)

/-- 'laws.FnExactStaysInside', WHERE WHAT IT READS IS OF BULK AT MOST 1048576: true; the input reads as it did. -/
def fnExactStaysInsideUptoRow : OpenClaim := { program := "ytnihgpbfdlmopaa", sum := "5891207eeaa82daf55b38aaa009a720a3b2d4534316871710ff72ab5d75f29bb", func := "loop.example/g03305/laws.FnExactStaysInside", spec := "fnExactStaysInside", apart := false, narrowed := true }
def FnExactStaysInsideUptoSaid : Prop := fnExactStaysInsideUptoRow.holds Try.pinned (OpenSpec.upto fnExactStaysInsideSpec)

/-- 'laws.FnExactSpreadOf', WHERE WHAT IT READS IS OF BULK AT MOST 1048576: true; the input reads as it did. -/
def fnExactSpreadOfUptoRow : OpenClaim := { program := "ytnihgpbfdlmopaa", sum := "5891207eeaa82daf55b38aaa009a720a3b2d4534316871710ff72ab5d75f29bb", func := "loop.example/g03305/laws.FnExactSpreadOf", spec := "fnExactSpreadOf", apart := false, narrowed := true }
def FnExactSpreadOfUptoSaid : Prop := fnExactSpreadOfUptoRow.holds Try.pinned (OpenSpec.upto fnExactSpreadOfSpec)

/-- 'laws.FnExactStepLength', WHERE WHAT IT READS IS OF BULK AT MOST 1048576: true; the input reads as it did. -/
def fnExactStepLengthUptoRow : OpenClaim := { program := "ytnihgpbfdlmopaa", sum := "5891207eeaa82daf55b38aaa009a720a3b2d4534316871710ff72ab5d75f29bb", func := "loop.example/g03305/laws.FnExactStepLength", spec := "fnExactStepLength", apart := false, narrowed := true }
def FnExactStepLengthUptoSaid : Prop := fnExactStepLengthUptoRow.holds Try.pinned (OpenSpec.upto fnExactStepLengthSpec)

end Rows
end Go.Proofs.Ytnihgpbfdlmopaa
