/-
  No cell of these rows narrows 'for every input' (looked for: loops, veiled, ifaces, maps, wideKeys, modest, calm, conditions, laid).
  DERIVED. THE GIVEN ROWS OF THIS SEAT. 8 by the template 'for every input the law returns true; each argument reads behind the call as it read before'; 0 by the template 'total and deterministic' (their statements: YtoampghmikamlaaTotals.lean).
  GIVEN WITH THE SEED: the statements are not yours to turn. If you find one false, say at which input.
  Laid BY PROGRAM, IN A SANDBOX (cutbox-rows.mjs): the forced cells as the released guide's own fill.sh prints them over the translation 1ffebe22f898d42d… (all of the seat's roots in one cut). By AI agents, Wed Nov 11 2026. No macro, syntax, notation, axiom, sorry.
-/
import Derived.Test.YtoampghmikamlaaChecked
import GoSem.Claim
import GoSem.ClaimJoined
import GoSem.ClaimMapViews
import Derived.JoinedTies
import Derived.KernelRfl
namespace Go.Proofs.Ytoampghmikamlaa
/- THE CELL 'sum', in the pinned program and in every row, IS THE sha256 OF THE DUMP (.gsa) THAT YtoampghmikamlaaProg.lean LOADS. Nothing in Lean hashes anything: it is a label: what it is worth is what the hold of that sum in a sandbox is worth. -/
noncomputable def Try.pinned : Pinned := { name := "ytoampghmikamlaa", sum := "1ffebe22f898d42d926a4a31fcbe720db0f2c5d21ddfb54445f795b8ef31dff2", checked := Try.checked }
namespace Rows
def none {H : Type} : Left H := { results := [], args := [] }

/-- 'laws.FnSides': WHATEVER THE INPUT: true; the input reads as it did. -/
def fnSidesSpec : ChangeSpec := { name := "fnSides", fn := fun _ => fun
  | [d] => { results := [.lit (.bool true)], args := [d] }
  | _ => none }
def fnSidesRow : OpenClaim := { program := "ytoampghmikamlaa", sum := "1ffebe22f898d42d926a4a31fcbe720db0f2c5d21ddfb54445f795b8ef31dff2", func := "loop.example/g03305/laws.FnSides", spec := "fnSides", inPlace := ["internal/bytealg.CountString", "internal/bytealg.IndexByteString", "internal/bytealg.IndexString"], unfollowed := true, recurses := true, named := ["internal/bytealg.MaxLen"], apart := false }
def FnSidesSaid : Prop := fnSidesRow.holds Try.pinned (OpenSpec.ofChange fnSidesSpec)

/-- ITS FALSE NEIGHBOUR: 'it returns false'. Refute it at one input. -/
def fnSidesWrong : ChangeSpec := { name := "fnSides", fn := fun _ => fun
  | [d] => { results := [.lit (.bool false)], args := [d] }
  | _ => none }
def FnSidesWrongFalsely : Prop := fnSidesRow.holds Try.pinned (OpenSpec.ofChange fnSidesWrong)

/-- 'laws.FnExactTurnStrip': WHATEVER THE INPUT: true; the input reads as it did. -/
def fnExactTurnStripSpec : ChangeSpec := { name := "fnExactTurnStrip", fn := fun _ => fun
  | [d] => { results := [.lit (.bool true)], args := [d] }
  | _ => none }
def fnExactTurnStripRow : OpenClaim := { program := "ytoampghmikamlaa", sum := "1ffebe22f898d42d926a4a31fcbe720db0f2c5d21ddfb54445f795b8ef31dff2", func := "loop.example/g03305/laws.FnExactTurnStrip", spec := "fnExactTurnStrip", apart := false }
def FnExactTurnStripSaid : Prop := fnExactTurnStripRow.holds Try.pinned (OpenSpec.ofChange fnExactTurnStripSpec)

/-- ITS FALSE NEIGHBOUR: 'it returns false'. Refute it at one input. -/
def fnExactTurnStripWrong : ChangeSpec := { name := "fnExactTurnStrip", fn := fun _ => fun
  | [d] => { results := [.lit (.bool false)], args := [d] }
  | _ => none }
def FnExactTurnStripWrongFalsely : Prop := fnExactTurnStripRow.holds Try.pinned (OpenSpec.ofChange fnExactTurnStripWrong)

/-- 'laws.FnExactTurnCard': WHATEVER THE INPUT: true; the input reads as it did. -/
def fnExactTurnCardSpec : ChangeSpec := { name := "fnExactTurnCard", fn := fun _ => fun
  | [d] => { results := [.lit (.bool true)], args := [d] }
  | _ => none }
def fnExactTurnCardRow : OpenClaim := { program := "ytoampghmikamlaa", sum := "1ffebe22f898d42d926a4a31fcbe720db0f2c5d21ddfb54445f795b8ef31dff2", func := "loop.example/g03305/laws.FnExactTurnCard", spec := "fnExactTurnCard", apart := false }
def FnExactTurnCardSaid : Prop := fnExactTurnCardRow.holds Try.pinned (OpenSpec.ofChange fnExactTurnCardSpec)

/-- ITS FALSE NEIGHBOUR: 'it returns false'. Refute it at one input. -/
def fnExactTurnCardWrong : ChangeSpec := { name := "fnExactTurnCard", fn := fun _ => fun
  | [d] => { results := [.lit (.bool false)], args := [d] }
  | _ => none }
def FnExactTurnCardWrongFalsely : Prop := fnExactTurnCardRow.holds Try.pinned (OpenSpec.ofChange fnExactTurnCardWrong)

/-- 'laws.FnExactMirrorCard': WHATEVER THE INPUT: true; the input reads as it did. -/
def fnExactMirrorCardSpec : ChangeSpec := { name := "fnExactMirrorCard", fn := fun _ => fun
  | [d] => { results := [.lit (.bool true)], args := [d] }
  | _ => none }
def fnExactMirrorCardRow : OpenClaim := { program := "ytoampghmikamlaa", sum := "1ffebe22f898d42d926a4a31fcbe720db0f2c5d21ddfb54445f795b8ef31dff2", func := "loop.example/g03305/laws.FnExactMirrorCard", spec := "fnExactMirrorCard", apart := false }
def FnExactMirrorCardSaid : Prop := fnExactMirrorCardRow.holds Try.pinned (OpenSpec.ofChange fnExactMirrorCardSpec)

/-- ITS FALSE NEIGHBOUR: 'it returns false'. Refute it at one input. -/
def fnExactMirrorCardWrong : ChangeSpec := { name := "fnExactMirrorCard", fn := fun _ => fun
  | [d] => { results := [.lit (.bool false)], args := [d] }
  | _ => none }
def FnExactMirrorCardWrongFalsely : Prop := fnExactMirrorCardRow.holds Try.pinned (OpenSpec.ofChange fnExactMirrorCardWrong)

/-- 'laws.FnExactIsSymmetric': WHATEVER THE INPUT: true; the input reads as it did. -/
def fnExactIsSymmetricSpec : ChangeSpec := { name := "fnExactIsSymmetric", fn := fun _ => fun
  | [d] => { results := [.lit (.bool true)], args := [d] }
  | _ => none }
def fnExactIsSymmetricRow : OpenClaim := { program := "ytoampghmikamlaa", sum := "1ffebe22f898d42d926a4a31fcbe720db0f2c5d21ddfb54445f795b8ef31dff2", func := "loop.example/g03305/laws.FnExactIsSymmetric", spec := "fnExactIsSymmetric", apart := false }
def FnExactIsSymmetricSaid : Prop := fnExactIsSymmetricRow.holds Try.pinned (OpenSpec.ofChange fnExactIsSymmetricSpec)

/-- ITS FALSE NEIGHBOUR: 'it returns false'. Refute it at one input. -/
def fnExactIsSymmetricWrong : ChangeSpec := { name := "fnExactIsSymmetric", fn := fun _ => fun
  | [d] => { results := [.lit (.bool false)], args := [d] }
  | _ => none }
def FnExactIsSymmetricWrongFalsely : Prop := fnExactIsSymmetricRow.holds Try.pinned (OpenSpec.ofChange fnExactIsSymmetricWrong)

/-- 'laws.FnExactIsBalanced': WHATEVER THE INPUT: true; the input reads as it did. -/
def fnExactIsBalancedSpec : ChangeSpec := { name := "fnExactIsBalanced", fn := fun _ => fun
  | [d] => { results := [.lit (.bool true)], args := [d] }
  | _ => none }
def fnExactIsBalancedRow : OpenClaim := { program := "ytoampghmikamlaa", sum := "1ffebe22f898d42d926a4a31fcbe720db0f2c5d21ddfb54445f795b8ef31dff2", func := "loop.example/g03305/laws.FnExactIsBalanced", spec := "fnExactIsBalanced", apart := false }
def FnExactIsBalancedSaid : Prop := fnExactIsBalancedRow.holds Try.pinned (OpenSpec.ofChange fnExactIsBalancedSpec)

/-- ITS FALSE NEIGHBOUR: 'it returns false'. Refute it at one input. -/
def fnExactIsBalancedWrong : ChangeSpec := { name := "fnExactIsBalanced", fn := fun _ => fun
  | [d] => { results := [.lit (.bool false)], args := [d] }
  | _ => none }
def FnExactIsBalancedWrongFalsely : Prop := fnExactIsBalancedRow.holds Try.pinned (OpenSpec.ofChange fnExactIsBalancedWrong)

/-- 'laws.FnExactCountBalanced': WHATEVER THE INPUT: true; the input reads as it did. -/
def fnExactCountBalancedSpec : ChangeSpec := { name := "fnExactCountBalanced", fn := fun _ => fun
  | [d] => { results := [.lit (.bool true)], args := [d] }
  | _ => none }
def fnExactCountBalancedRow : OpenClaim := { program := "ytoampghmikamlaa", sum := "1ffebe22f898d42d926a4a31fcbe720db0f2c5d21ddfb54445f795b8ef31dff2", func := "loop.example/g03305/laws.FnExactCountBalanced", spec := "fnExactCountBalanced", apart := false }
def FnExactCountBalancedSaid : Prop := fnExactCountBalancedRow.holds Try.pinned (OpenSpec.ofChange fnExactCountBalancedSpec)

/-- ITS FALSE NEIGHBOUR: 'it returns false'. Refute it at one input. -/
def fnExactCountBalancedWrong : ChangeSpec := { name := "fnExactCountBalanced", fn := fun _ => fun
  | [d] => { results := [.lit (.bool false)], args := [d] }
  | _ => none }
def FnExactCountBalancedWrongFalsely : Prop := fnExactCountBalancedRow.holds Try.pinned (OpenSpec.ofChange fnExactCountBalancedWrong)

/-- 'laws.FnExactSymmetrizeCard': WHATEVER THE INPUT: true; the input reads as it did. -/
def fnExactSymmetrizeCardSpec : ChangeSpec := { name := "fnExactSymmetrizeCard", fn := fun _ => fun
  | [d] => { results := [.lit (.bool true)], args := [d] }
  | _ => none }
def fnExactSymmetrizeCardRow : OpenClaim := { program := "ytoampghmikamlaa", sum := "1ffebe22f898d42d926a4a31fcbe720db0f2c5d21ddfb54445f795b8ef31dff2", func := "loop.example/g03305/laws.FnExactSymmetrizeCard", spec := "fnExactSymmetrizeCard", inPlace := ["internal/bytealg.CountString", "internal/bytealg.IndexByteString", "internal/bytealg.IndexString"], unfollowed := true, recurses := true, named := ["internal/bytealg.MaxLen"], apart := false }
def FnExactSymmetrizeCardSaid : Prop := fnExactSymmetrizeCardRow.holds Try.pinned (OpenSpec.ofChange fnExactSymmetrizeCardSpec)

/-- ITS FALSE NEIGHBOUR: 'it returns false'. Refute it at one input. -/
def fnExactSymmetrizeCardWrong : ChangeSpec := { name := "fnExactSymmetrizeCard", fn := fun _ => fun
  | [d] => { results := [.lit (.bool false)], args := [d] }
  | _ => none }
def FnExactSymmetrizeCardWrongFalsely : Prop := fnExactSymmetrizeCardRow.holds Try.pinned (OpenSpec.ofChange fnExactSymmetrizeCardWrong)

/- THE SECOND FORM. 'bulk': how many values and letters a reading holds, each counted each time it is reached (what is shared counts as often as it is met; a slice's spare places count too). A statement '..UptoSaid' is the law's where the arguments, and the package variables that the reading takes, are together of bulk at most 1048576: NARROWER than '..Said'. Prove '..Said' where nothing that the law and all that it calls make is longer than what came in: it says more and counts as full. Else prove '..UptoSaid'. A law counts once. -/
mutual
def uptoBulk {H : Type} : DataW H → Nat
  | .lit (.string bytes) => bytes.length + 1
  | .lit _ => 1
  | .nil => 1
  | .ptr d => uptoBulk d + 1
  | .slice elems spare => uptoBulkAll elems + uptoBulkAll spare + 1
  | .agg parts => uptoBulkAll parts + 1
  | .iface _ d => uptoBulk d + 1
  | .map entries => uptoBulkEntries entries + 1
  | .held _ => 1
def uptoBulkAll {H : Type} : List (DataW H) → Nat
  | [] => 0
  | d :: r => uptoBulk d + uptoBulkAll r
def uptoBulkEntries {H : Type} : List (Lit × DataW H) → Nat
  | [] => 0
  | x :: r => uptoBulkEntry x + uptoBulkEntries r
def uptoBulkEntry {H : Type} : Lit × DataW H → Nat
  | (.string bytes, d) => bytes.length + uptoBulk d + 1
  | (_, d) => uptoBulk d + 1
 end
def uptoSmall : (H : Type) → List (DataW H) → Bool := fun _ ds => decide (uptoBulkAll ds ≤ 1048576)
def OpenSpec.upto (s : _root_.Go.ChangeSpec) : _root_.Go.OpenSpec := { _root_.Go.OpenSpec.ofChange s with cond := some uptoSmall }

/-- 'laws.FnSides', WHERE WHAT IT READS IS OF BULK AT MOST 1048576: true; the input reads as it did. -/
def fnSidesUptoRow : OpenClaim := { program := "ytoampghmikamlaa", sum := "1ffebe22f898d42d926a4a31fcbe720db0f2c5d21ddfb54445f795b8ef31dff2", func := "loop.example/g03305/laws.FnSides", spec := "fnSides", inPlace := ["internal/bytealg.CountString", "internal/bytealg.IndexByteString", "internal/bytealg.IndexString"], unfollowed := true, recurses := true, named := ["internal/bytealg.MaxLen"], apart := false, narrowed := true }
def FnSidesUptoSaid : Prop := fnSidesUptoRow.holds Try.pinned (OpenSpec.upto fnSidesSpec)

/-- 'laws.FnExactTurnStrip', WHERE WHAT IT READS IS OF BULK AT MOST 1048576: true; the input reads as it did. -/
def fnExactTurnStripUptoRow : OpenClaim := { program := "ytoampghmikamlaa", sum := "1ffebe22f898d42d926a4a31fcbe720db0f2c5d21ddfb54445f795b8ef31dff2", func := "loop.example/g03305/laws.FnExactTurnStrip", spec := "fnExactTurnStrip", apart := false, narrowed := true }
def FnExactTurnStripUptoSaid : Prop := fnExactTurnStripUptoRow.holds Try.pinned (OpenSpec.upto fnExactTurnStripSpec)

/-- 'laws.FnExactTurnCard', WHERE WHAT IT READS IS OF BULK AT MOST 1048576: true; the input reads as it did. -/
def fnExactTurnCardUptoRow : OpenClaim := { program := "ytoampghmikamlaa", sum := "1ffebe22f898d42d926a4a31fcbe720db0f2c5d21ddfb54445f795b8ef31dff2", func := "loop.example/g03305/laws.FnExactTurnCard", spec := "fnExactTurnCard", apart := false, narrowed := true }
def FnExactTurnCardUptoSaid : Prop := fnExactTurnCardUptoRow.holds Try.pinned (OpenSpec.upto fnExactTurnCardSpec)

/-- 'laws.FnExactMirrorCard', WHERE WHAT IT READS IS OF BULK AT MOST 1048576: true; the input reads as it did. -/
def fnExactMirrorCardUptoRow : OpenClaim := { program := "ytoampghmikamlaa", sum := "1ffebe22f898d42d926a4a31fcbe720db0f2c5d21ddfb54445f795b8ef31dff2", func := "loop.example/g03305/laws.FnExactMirrorCard", spec := "fnExactMirrorCard", apart := false, narrowed := true }
def FnExactMirrorCardUptoSaid : Prop := fnExactMirrorCardUptoRow.holds Try.pinned (OpenSpec.upto fnExactMirrorCardSpec)

/-- 'laws.FnExactIsSymmetric', WHERE WHAT IT READS IS OF BULK AT MOST 1048576: true; the input reads as it did. -/
def fnExactIsSymmetricUptoRow : OpenClaim := { program := "ytoampghmikamlaa", sum := "1ffebe22f898d42d926a4a31fcbe720db0f2c5d21ddfb54445f795b8ef31dff2", func := "loop.example/g03305/laws.FnExactIsSymmetric", spec := "fnExactIsSymmetric", apart := false, narrowed := true }
def FnExactIsSymmetricUptoSaid : Prop := fnExactIsSymmetricUptoRow.holds Try.pinned (OpenSpec.upto fnExactIsSymmetricSpec)

/-- 'laws.FnExactIsBalanced', WHERE WHAT IT READS IS OF BULK AT MOST 1048576: true; the input reads as it did. -/
def fnExactIsBalancedUptoRow : OpenClaim := { program := "ytoampghmikamlaa", sum := "1ffebe22f898d42d926a4a31fcbe720db0f2c5d21ddfb54445f795b8ef31dff2", func := "loop.example/g03305/laws.FnExactIsBalanced", spec := "fnExactIsBalanced", apart := false, narrowed := true }
def FnExactIsBalancedUptoSaid : Prop := fnExactIsBalancedUptoRow.holds Try.pinned (OpenSpec.upto fnExactIsBalancedSpec)

/-- 'laws.FnExactCountBalanced', WHERE WHAT IT READS IS OF BULK AT MOST 1048576: true; the input reads as it did. -/
def fnExactCountBalancedUptoRow : OpenClaim := { program := "ytoampghmikamlaa", sum := "1ffebe22f898d42d926a4a31fcbe720db0f2c5d21ddfb54445f795b8ef31dff2", func := "loop.example/g03305/laws.FnExactCountBalanced", spec := "fnExactCountBalanced", apart := false, narrowed := true }
def FnExactCountBalancedUptoSaid : Prop := fnExactCountBalancedUptoRow.holds Try.pinned (OpenSpec.upto fnExactCountBalancedSpec)

/-- 'laws.FnExactSymmetrizeCard', WHERE WHAT IT READS IS OF BULK AT MOST 1048576: true; the input reads as it did. -/
def fnExactSymmetrizeCardUptoRow : OpenClaim := { program := "ytoampghmikamlaa", sum := "1ffebe22f898d42d926a4a31fcbe720db0f2c5d21ddfb54445f795b8ef31dff2", func := "loop.example/g03305/laws.FnExactSymmetrizeCard", spec := "fnExactSymmetrizeCard", inPlace := ["internal/bytealg.CountString", "internal/bytealg.IndexByteString", "internal/bytealg.IndexString"], unfollowed := true, recurses := true, named := ["internal/bytealg.MaxLen"], apart := false, narrowed := true }
def FnExactSymmetrizeCardUptoSaid : Prop := fnExactSymmetrizeCardUptoRow.holds Try.pinned (OpenSpec.upto fnExactSymmetrizeCardSpec)

end Rows
end Go.Proofs.Ytoampghmikamlaa
