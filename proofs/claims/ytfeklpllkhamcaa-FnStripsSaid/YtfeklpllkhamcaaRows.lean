/-
  No cell of these rows narrows 'for every input' (looked for: loops, veiled, ifaces, maps, wideKeys, modest, calm, conditions, laid).
  DERIVED. THE GIVEN ROWS OF THIS SEAT. 8 by the template 'for every input the law returns true; each argument reads behind the call as it read before'; 0 by the template 'total and deterministic' (their statements: YtfeklpllkhamcaaTotals.lean).
  GIVEN WITH THE SEED: the statements are not yours to turn. If you find one false, say at which input.
  Laid BY PROGRAM, IN A SANDBOX (cutbox-rows.mjs): the forced cells as the released guide's own fill.sh prints them over the translation 89a1a268bf09dac3… (all of the seat's roots in one cut). By AI agents, Wed Nov 11 2026. No macro, syntax, notation, axiom, sorry.
-/
import Derived.Test.YtfeklpllkhamcaaChecked
import GoSem.Claim
import GoSem.ClaimJoined
import GoSem.ClaimMapViews
import Derived.JoinedTies
import Derived.KernelRfl
namespace Go.Proofs.Ytfeklpllkhamcaa
/- THE CELL 'sum', in the pinned program and in every row, IS THE sha256 OF THE DUMP (.gsa) THAT YtfeklpllkhamcaaProg.lean LOADS. Nothing in Lean hashes anything: it is a label: what it is worth is what the hold of that sum in a sandbox is worth. -/
noncomputable def Try.pinned : Pinned := { name := "ytfeklpllkhamcaa", sum := "89a1a268bf09dac39659fcbb082c1042060630f263cd0ce834c5452971ea1f6e", checked := Try.checked }
namespace Rows
def none {H : Type} : Left H := { results := [], args := [] }

/-- 'laws.FnStrips': WHATEVER THE INPUT: true; the input reads as it did. -/
def fnStripsSpec : ChangeSpec := { name := "fnStrips", fn := fun _ => fun
  | [d] => { results := [.lit (.bool true)], args := [d] }
  | _ => none }
def fnStripsRow : OpenClaim := { program := "ytfeklpllkhamcaa", sum := "89a1a268bf09dac39659fcbb082c1042060630f263cd0ce834c5452971ea1f6e", func := "loop.example/g03305/laws.FnStrips", spec := "fnStrips", inPlace := ["internal/abi.NoEscape", "internal/bytealg.MakeNoZero"], apart := false }
def FnStripsSaid : Prop := fnStripsRow.holds Try.pinned (OpenSpec.ofChange fnStripsSpec)

/-- ITS FALSE NEIGHBOUR: 'it returns false'. Refute it at one input. -/
def fnStripsWrong : ChangeSpec := { name := "fnStrips", fn := fun _ => fun
  | [d] => { results := [.lit (.bool false)], args := [d] }
  | _ => none }
def FnStripsWrongFalsely : Prop := fnStripsRow.holds Try.pinned (OpenSpec.ofChange fnStripsWrong)

/-- 'laws.FnExactIsStrip': WHATEVER THE INPUT: true; the input reads as it did. -/
def fnExactIsStripSpec : ChangeSpec := { name := "fnExactIsStrip", fn := fun _ => fun
  | [d] => { results := [.lit (.bool true)], args := [d] }
  | _ => none }
def fnExactIsStripRow : OpenClaim := { program := "ytfeklpllkhamcaa", sum := "89a1a268bf09dac39659fcbb082c1042060630f263cd0ce834c5452971ea1f6e", func := "loop.example/g03305/laws.FnExactIsStrip", spec := "fnExactIsStrip", apart := false }
def FnExactIsStripSaid : Prop := fnExactIsStripRow.holds Try.pinned (OpenSpec.ofChange fnExactIsStripSpec)

/-- ITS FALSE NEIGHBOUR: 'it returns false'. Refute it at one input. -/
def fnExactIsStripWrong : ChangeSpec := { name := "fnExactIsStrip", fn := fun _ => fun
  | [d] => { results := [.lit (.bool false)], args := [d] }
  | _ => none }
def FnExactIsStripWrongFalsely : Prop := fnExactIsStripRow.holds Try.pinned (OpenSpec.ofChange fnExactIsStripWrong)

/-- 'laws.FnExactDownOf': WHATEVER THE INPUT: true; the input reads as it did. -/
def fnExactDownOfSpec : ChangeSpec := { name := "fnExactDownOf", fn := fun _ => fun
  | [d] => { results := [.lit (.bool true)], args := [d] }
  | _ => none }
def fnExactDownOfRow : OpenClaim := { program := "ytfeklpllkhamcaa", sum := "89a1a268bf09dac39659fcbb082c1042060630f263cd0ce834c5452971ea1f6e", func := "loop.example/g03305/laws.FnExactDownOf", spec := "fnExactDownOf", apart := false }
def FnExactDownOfSaid : Prop := fnExactDownOfRow.holds Try.pinned (OpenSpec.ofChange fnExactDownOfSpec)

/-- ITS FALSE NEIGHBOUR: 'it returns false'. Refute it at one input. -/
def fnExactDownOfWrong : ChangeSpec := { name := "fnExactDownOf", fn := fun _ => fun
  | [d] => { results := [.lit (.bool false)], args := [d] }
  | _ => none }
def FnExactDownOfWrongFalsely : Prop := fnExactDownOfRow.holds Try.pinned (OpenSpec.ofChange fnExactDownOfWrong)

/-- 'laws.FnExactForwardOf': WHATEVER THE INPUT: true; the input reads as it did. -/
def fnExactForwardOfSpec : ChangeSpec := { name := "fnExactForwardOf", fn := fun _ => fun
  | [d] => { results := [.lit (.bool true)], args := [d] }
  | _ => none }
def fnExactForwardOfRow : OpenClaim := { program := "ytfeklpllkhamcaa", sum := "89a1a268bf09dac39659fcbb082c1042060630f263cd0ce834c5452971ea1f6e", func := "loop.example/g03305/laws.FnExactForwardOf", spec := "fnExactForwardOf", apart := false }
def FnExactForwardOfSaid : Prop := fnExactForwardOfRow.holds Try.pinned (OpenSpec.ofChange fnExactForwardOfSpec)

/-- ITS FALSE NEIGHBOUR: 'it returns false'. Refute it at one input. -/
def fnExactForwardOfWrong : ChangeSpec := { name := "fnExactForwardOf", fn := fun _ => fun
  | [d] => { results := [.lit (.bool false)], args := [d] }
  | _ => none }
def FnExactForwardOfWrongFalsely : Prop := fnExactForwardOfRow.holds Try.pinned (OpenSpec.ofChange fnExactForwardOfWrong)

/-- 'laws.FnExactFlatStrip': WHATEVER THE INPUT: true; the input reads as it did. -/
def fnExactFlatStripSpec : ChangeSpec := { name := "fnExactFlatStrip", fn := fun _ => fun
  | [d1, d2] => { results := [.lit (.bool true)], args := [d1, d2] }
  | _ => none }
def fnExactFlatStripRow : OpenClaim := { program := "ytfeklpllkhamcaa", sum := "89a1a268bf09dac39659fcbb082c1042060630f263cd0ce834c5452971ea1f6e", func := "loop.example/g03305/laws.FnExactFlatStrip", spec := "fnExactFlatStrip", inPlace := ["internal/abi.NoEscape", "internal/bytealg.MakeNoZero"], apart := false }
def FnExactFlatStripSaid : Prop := fnExactFlatStripRow.holds Try.pinned (OpenSpec.ofChange fnExactFlatStripSpec)

/-- ITS FALSE NEIGHBOUR: 'it returns false'. Refute it at one input. -/
def fnExactFlatStripWrong : ChangeSpec := { name := "fnExactFlatStrip", fn := fun _ => fun
  | [d1, d2] => { results := [.lit (.bool false)], args := [d1, d2] }
  | _ => none }
def FnExactFlatStripWrongFalsely : Prop := fnExactFlatStripRow.holds Try.pinned (OpenSpec.ofChange fnExactFlatStripWrong)

/-- 'laws.FnExactHighStrip': WHATEVER THE INPUT: true; the input reads as it did. -/
def fnExactHighStripSpec : ChangeSpec := { name := "fnExactHighStrip", fn := fun _ => fun
  | [d1, d2] => { results := [.lit (.bool true)], args := [d1, d2] }
  | _ => none }
def fnExactHighStripRow : OpenClaim := { program := "ytfeklpllkhamcaa", sum := "89a1a268bf09dac39659fcbb082c1042060630f263cd0ce834c5452971ea1f6e", func := "loop.example/g03305/laws.FnExactHighStrip", spec := "fnExactHighStrip", inPlace := ["internal/abi.NoEscape", "internal/bytealg.MakeNoZero"], apart := false }
def FnExactHighStripSaid : Prop := fnExactHighStripRow.holds Try.pinned (OpenSpec.ofChange fnExactHighStripSpec)

/-- ITS FALSE NEIGHBOUR: 'it returns false'. Refute it at one input. -/
def fnExactHighStripWrong : ChangeSpec := { name := "fnExactHighStrip", fn := fun _ => fun
  | [d1, d2] => { results := [.lit (.bool false)], args := [d1, d2] }
  | _ => none }
def FnExactHighStripWrongFalsely : Prop := fnExactHighStripRow.holds Try.pinned (OpenSpec.ofChange fnExactHighStripWrong)

/-- 'laws.FnExactSameFrame': WHATEVER THE INPUT: true; the input reads as it did. -/
def fnExactSameFrameSpec : ChangeSpec := { name := "fnExactSameFrame", fn := fun _ => fun
  | [d1, d2] => { results := [.lit (.bool true)], args := [d1, d2] }
  | _ => none }
def fnExactSameFrameRow : OpenClaim := { program := "ytfeklpllkhamcaa", sum := "89a1a268bf09dac39659fcbb082c1042060630f263cd0ce834c5452971ea1f6e", func := "loop.example/g03305/laws.FnExactSameFrame", spec := "fnExactSameFrame", apart := false }
def FnExactSameFrameSaid : Prop := fnExactSameFrameRow.holds Try.pinned (OpenSpec.ofChange fnExactSameFrameSpec)

/-- ITS FALSE NEIGHBOUR: 'it returns false'. Refute it at one input. -/
def fnExactSameFrameWrong : ChangeSpec := { name := "fnExactSameFrame", fn := fun _ => fun
  | [d1, d2] => { results := [.lit (.bool false)], args := [d1, d2] }
  | _ => none }
def FnExactSameFrameWrongFalsely : Prop := fnExactSameFrameRow.holds Try.pinned (OpenSpec.ofChange fnExactSameFrameWrong)

/-- 'laws.FnExactStripAt': WHATEVER THE INPUT: true; the input reads as it did. -/
def fnExactStripAtSpec : ChangeSpec := { name := "fnExactStripAt", fn := fun _ => fun
  | [d1, d2] => { results := [.lit (.bool true)], args := [d1, d2] }
  | _ => none }
def fnExactStripAtRow : OpenClaim := { program := "ytfeklpllkhamcaa", sum := "89a1a268bf09dac39659fcbb082c1042060630f263cd0ce834c5452971ea1f6e", func := "loop.example/g03305/laws.FnExactStripAt", spec := "fnExactStripAt", apart := false }
def FnExactStripAtSaid : Prop := fnExactStripAtRow.holds Try.pinned (OpenSpec.ofChange fnExactStripAtSpec)

/-- ITS FALSE NEIGHBOUR: 'it returns false'. Refute it at one input. -/
def fnExactStripAtWrong : ChangeSpec := { name := "fnExactStripAt", fn := fun _ => fun
  | [d1, d2] => { results := [.lit (.bool false)], args := [d1, d2] }
  | _ => none }
def FnExactStripAtWrongFalsely : Prop := fnExactStripAtRow.holds Try.pinned (OpenSpec.ofChange fnExactStripAtWrong)

/- THE SECOND FORM. 'bulk': how many values and letters a reading holds, each counted each time it is reached (what is shared counts as often as it is met; a slice's spare places count too). A statement '..UptoSaid' is the law's where the arguments, and the package variables that the reading takes, are together of bulk at most 1048576: NARROWER than '..Said'. Prove '..Said' where nothing that the law and all that it calls make is longer than what came in: it says more and counts as full. Else prove '..UptoSaid'. A law counts once. -/
mutual
def uptoBulk {H : Type} : DataW H → Nat
  | .lit (.string bytes) => bytes.length + 1
  | .lit _ => 1
  | .nil => 1
  | .ptr d => uptoBulk d + 1
  | .slice elems spare => uptoBulkAll elems + uptoBulkAll spare + 1
  | .agg parts => uptoBulkAll parts + 1
  | .iface _ d => uptoBulk d + 1
  | .map entries => uptoBulkEntries entries + 1
  | .held _ => 1
def uptoBulkAll {H : Type} : List (DataW H) → Nat
  | [] => 0
  | d :: r => uptoBulk d + uptoBulkAll r
def uptoBulkEntries {H : Type} : List (Lit × DataW H) → Nat
  | [] => 0
  | x :: r => uptoBulkEntry x + uptoBulkEntries r
def uptoBulkEntry {H : Type} : Lit × DataW H → Nat
  | (.string bytes, d) => bytes.length + uptoBulk d + 1
  | (_, d) => uptoBulk d + 1
 end
def uptoSmall : (H : Type) → List (DataW H) → Bool := fun _ ds => decide (uptoBulkAll ds ≤ 1048576)
def OpenSpec.upto (s : _root_.Go.ChangeSpec) : _root_.Go.OpenSpec := { _root_.Go.OpenSpec.ofChange s with cond := some uptoSmall }

/-- 'laws.FnStrips', WHERE WHAT IT READS IS OF BULK AT MOST 1048576: true; the input reads as it did. -/
def fnStripsUptoRow : OpenClaim := { program := "ytfeklpllkhamcaa", sum := "89a1a268bf09dac39659fcbb082c1042060630f263cd0ce834c5452971ea1f6e", func := "loop.example/g03305/laws.FnStrips", spec := "fnStrips", inPlace := ["internal/abi.NoEscape", "internal/bytealg.MakeNoZero"], apart := false, narrowed := true }
def FnStripsUptoSaid : Prop := fnStripsUptoRow.holds Try.pinned (OpenSpec.upto fnStripsSpec)

/-- 'laws.FnExactIsStrip', WHERE WHAT IT READS IS OF BULK AT MOST 1048576: true; the input reads as it did. -/
def fnExactIsStripUptoRow : OpenClaim := { program := "ytfeklpllkhamcaa", sum := "89a1a268bf09dac39659fcbb082c1042060630f263cd0ce834c5452971ea1f6e", func := "loop.example/g03305/laws.FnExactIsStrip", spec := "fnExactIsStrip", apart := false, narrowed := true }
def FnExactIsStripUptoSaid : Prop := fnExactIsStripUptoRow.holds Try.pinned (OpenSpec.upto fnExactIsStripSpec)

/-- 'laws.FnExactDownOf', WHERE WHAT IT READS IS OF BULK AT MOST 1048576: true; the input reads as it did. -/
def fnExactDownOfUptoRow : OpenClaim := { program := "ytfeklpllkhamcaa", sum := "89a1a268bf09dac39659fcbb082c1042060630f263cd0ce834c5452971ea1f6e", func := "loop.example/g03305/laws.FnExactDownOf", spec := "fnExactDownOf", apart := false, narrowed := true }
def FnExactDownOfUptoSaid : Prop := fnExactDownOfUptoRow.holds Try.pinned (OpenSpec.upto fnExactDownOfSpec)

/-- 'laws.FnExactForwardOf', WHERE WHAT IT READS IS OF BULK AT MOST 1048576: true; the input reads as it did. -/
def fnExactForwardOfUptoRow : OpenClaim := { program := "ytfeklpllkhamcaa", sum := "89a1a268bf09dac39659fcbb082c1042060630f263cd0ce834c5452971ea1f6e", func := "loop.example/g03305/laws.FnExactForwardOf", spec := "fnExactForwardOf", apart := false, narrowed := true }
def FnExactForwardOfUptoSaid : Prop := fnExactForwardOfUptoRow.holds Try.pinned (OpenSpec.upto fnExactForwardOfSpec)

/-- 'laws.FnExactFlatStrip', WHERE WHAT IT READS IS OF BULK AT MOST 1048576: true; the input reads as it did. -/
def fnExactFlatStripUptoRow : OpenClaim := { program := "ytfeklpllkhamcaa", sum := "89a1a268bf09dac39659fcbb082c1042060630f263cd0ce834c5452971ea1f6e", func := "loop.example/g03305/laws.FnExactFlatStrip", spec := "fnExactFlatStrip", inPlace := ["internal/abi.NoEscape", "internal/bytealg.MakeNoZero"], apart := false, narrowed := true }
def FnExactFlatStripUptoSaid : Prop := fnExactFlatStripUptoRow.holds Try.pinned (OpenSpec.upto fnExactFlatStripSpec)

/-- 'laws.FnExactHighStrip', WHERE WHAT IT READS IS OF BULK AT MOST 1048576: true; the input reads as it did. -/
def fnExactHighStripUptoRow : OpenClaim := { program := "ytfeklpllkhamcaa", sum := "89a1a268bf09dac39659fcbb082c1042060630f263cd0ce834c5452971ea1f6e", func := "loop.example/g03305/laws.FnExactHighStrip", spec := "fnExactHighStrip", inPlace := ["internal/abi.NoEscape", "internal/bytealg.MakeNoZero"], apart := false, narrowed := true }
def FnExactHighStripUptoSaid : Prop := fnExactHighStripUptoRow.holds Try.pinned (OpenSpec.upto fnExactHighStripSpec)

/-- 'laws.FnExactSameFrame', WHERE WHAT IT READS IS OF BULK AT MOST 1048576: true; the input reads as it did. -/
def fnExactSameFrameUptoRow : OpenClaim := { program := "ytfeklpllkhamcaa", sum := "89a1a268bf09dac39659fcbb082c1042060630f263cd0ce834c5452971ea1f6e", func := "loop.example/g03305/laws.FnExactSameFrame", spec := "fnExactSameFrame", apart := false, narrowed := true }
def FnExactSameFrameUptoSaid : Prop := fnExactSameFrameUptoRow.holds Try.pinned (OpenSpec.upto fnExactSameFrameSpec)

/-- 'laws.FnExactStripAt', WHERE WHAT IT READS IS OF BULK AT MOST 1048576: true; the input reads as it did. -/
def fnExactStripAtUptoRow : OpenClaim := { program := "ytfeklpllkhamcaa", sum := "89a1a268bf09dac39659fcbb082c1042060630f263cd0ce834c5452971ea1f6e", func := "loop.example/g03305/laws.FnExactStripAt", spec := "fnExactStripAt", apart := false, narrowed := true }
def FnExactStripAtUptoSaid : Prop := fnExactStripAtUptoRow.holds Try.pinned (OpenSpec.upto fnExactStripAtSpec)

end Rows
end Go.Proofs.Ytfeklpllkhamcaa
