/-
  No cell of these rows narrows 'for every input' (looked for: loops, veiled, ifaces, maps, wideKeys, modest, calm, conditions, laid).
  DERIVED. THE GIVEN ROWS OF THIS SEAT. 7 by the template 'for every input the law returns true; each argument reads behind the call as it read before'; 0 by the template 'total and deterministic' (their statements: YtcaplemkaaebfaaTotals.lean).
  GIVEN WITH THE SEED: the statements are not yours to turn. If you find one false, say at which input.
  Laid BY PROGRAM, IN A SANDBOX (cutbox-rows.mjs): the forced cells as the released guide's own fill.sh prints them over the translation c44a1c2377d215e9… (all of the seat's roots in one cut). By AI agents, Wed Nov 11 2026. No macro, syntax, notation, axiom, sorry.
-/
import Derived.Test.YtcaplemkaaebfaaChecked
import GoSem.Claim
import GoSem.ClaimJoined
import GoSem.ClaimMapViews
import Derived.JoinedTies
import Derived.KernelRfl
namespace Go.Proofs.Ytcaplemkaaebfaa
/- THE CELL 'sum', in the pinned program and in every row, IS THE sha256 OF THE DUMP (.gsa) THAT YtcaplemkaaebfaaProg.lean LOADS. Nothing in Lean hashes anything: it is a label: what it is worth is what the hold of that sum in a sandbox is worth. -/
noncomputable def Try.pinned : Pinned := { name := "ytcaplemkaaebfaa", sum := "c44a1c2377d215e95a4876279c840aa3b10a2d7885fb39239294b523e9ebdb0e", checked := Try.checked }
namespace Rows
def none {H : Type} : Left H := { results := [], args := [] }

/-- 'laws.FnViews': WHATEVER THE INPUT: true; the input reads as it did. -/
def fnViewsSpec : ChangeSpec := { name := "fnViews", fn := fun _ => fun
  | [d] => { results := [.lit (.bool true)], args := [d] }
  | _ => none }
def fnViewsRow : OpenClaim := { program := "ytcaplemkaaebfaa", sum := "c44a1c2377d215e95a4876279c840aa3b10a2d7885fb39239294b523e9ebdb0e", func := "loop.example/g03305/laws.FnViews", spec := "fnViews", inPlace := ["internal/abi.NoEscape", "internal/bytealg.MakeNoZero"], unfollowed := true, recurses := true, apart := false }
def FnViewsSaid : Prop := fnViewsRow.holds Try.pinned (OpenSpec.ofChange fnViewsSpec)

/-- ITS FALSE NEIGHBOUR: 'it returns false'. Refute it at one input. -/
def fnViewsWrong : ChangeSpec := { name := "fnViews", fn := fun _ => fun
  | [d] => { results := [.lit (.bool false)], args := [d] }
  | _ => none }
def FnViewsWrongFalsely : Prop := fnViewsRow.holds Try.pinned (OpenSpec.ofChange fnViewsWrong)

/-- 'laws.FnExactHeightsOf': WHATEVER THE INPUT: true; the input reads as it did. -/
def fnExactHeightsOfSpec : ChangeSpec := { name := "fnExactHeightsOf", fn := fun _ => fun
  | [d] => { results := [.lit (.bool true)], args := [d] }
  | _ => none }
def fnExactHeightsOfRow : OpenClaim := { program := "ytcaplemkaaebfaa", sum := "c44a1c2377d215e95a4876279c840aa3b10a2d7885fb39239294b523e9ebdb0e", func := "loop.example/g03305/laws.FnExactHeightsOf", spec := "fnExactHeightsOf", apart := false }
def FnExactHeightsOfSaid : Prop := fnExactHeightsOfRow.holds Try.pinned (OpenSpec.ofChange fnExactHeightsOfSpec)

/-- ITS FALSE NEIGHBOUR: 'it returns false'. Refute it at one input. -/
def fnExactHeightsOfWrong : ChangeSpec := { name := "fnExactHeightsOf", fn := fun _ => fun
  | [d] => { results := [.lit (.bool false)], args := [d] }
  | _ => none }
def FnExactHeightsOfWrongFalsely : Prop := fnExactHeightsOfRow.holds Try.pinned (OpenSpec.ofChange fnExactHeightsOfWrong)

/-- 'laws.FnExactDepthsOf': WHATEVER THE INPUT: true; the input reads as it did. -/
def fnExactDepthsOfSpec : ChangeSpec := { name := "fnExactDepthsOf", fn := fun _ => fun
  | [d] => { results := [.lit (.bool true)], args := [d] }
  | _ => none }
def fnExactDepthsOfRow : OpenClaim := { program := "ytcaplemkaaebfaa", sum := "c44a1c2377d215e95a4876279c840aa3b10a2d7885fb39239294b523e9ebdb0e", func := "loop.example/g03305/laws.FnExactDepthsOf", spec := "fnExactDepthsOf", apart := false }
def FnExactDepthsOfSaid : Prop := fnExactDepthsOfRow.holds Try.pinned (OpenSpec.ofChange fnExactDepthsOfSpec)

/-- ITS FALSE NEIGHBOUR: 'it returns false'. Refute it at one input. -/
def fnExactDepthsOfWrong : ChangeSpec := { name := "fnExactDepthsOf", fn := fun _ => fun
  | [d] => { results := [.lit (.bool false)], args := [d] }
  | _ => none }
def FnExactDepthsOfWrongFalsely : Prop := fnExactDepthsOfRow.holds Try.pinned (OpenSpec.ofChange fnExactDepthsOfWrong)

/-- 'laws.FnExactFromHeights': WHATEVER THE INPUT: true; the input reads as it did. -/
def fnExactFromHeightsSpec : ChangeSpec := { name := "fnExactFromHeights", fn := fun _ => fun
  | [d1, d2] => { results := [.lit (.bool true)], args := [d1, d2] }
  | _ => none }
def fnExactFromHeightsRow : OpenClaim := { program := "ytcaplemkaaebfaa", sum := "c44a1c2377d215e95a4876279c840aa3b10a2d7885fb39239294b523e9ebdb0e", func := "loop.example/g03305/laws.FnExactFromHeights", spec := "fnExactFromHeights", inPlace := ["internal/abi.NoEscape", "internal/bytealg.MakeNoZero"], unfollowed := true, recurses := true, apart := false }
def FnExactFromHeightsSaid : Prop := fnExactFromHeightsRow.holds Try.pinned (OpenSpec.ofChange fnExactFromHeightsSpec)

/-- ITS FALSE NEIGHBOUR: 'it returns false'. Refute it at one input. -/
def fnExactFromHeightsWrong : ChangeSpec := { name := "fnExactFromHeights", fn := fun _ => fun
  | [d1, d2] => { results := [.lit (.bool false)], args := [d1, d2] }
  | _ => none }
def FnExactFromHeightsWrongFalsely : Prop := fnExactFromHeightsRow.holds Try.pinned (OpenSpec.ofChange fnExactFromHeightsWrong)

/-- 'laws.FnExactTopView': WHATEVER THE INPUT: true; the input reads as it did. -/
def fnExactTopViewSpec : ChangeSpec := { name := "fnExactTopView", fn := fun _ => fun
  | [d] => { results := [.lit (.bool true)], args := [d] }
  | _ => none }
def fnExactTopViewRow : OpenClaim := { program := "ytcaplemkaaebfaa", sum := "c44a1c2377d215e95a4876279c840aa3b10a2d7885fb39239294b523e9ebdb0e", func := "loop.example/g03305/laws.FnExactTopView", spec := "fnExactTopView", unfollowed := true, recurses := true, apart := false }
def FnExactTopViewSaid : Prop := fnExactTopViewRow.holds Try.pinned (OpenSpec.ofChange fnExactTopViewSpec)

/-- ITS FALSE NEIGHBOUR: 'it returns false'. Refute it at one input. -/
def fnExactTopViewWrong : ChangeSpec := { name := "fnExactTopView", fn := fun _ => fun
  | [d] => { results := [.lit (.bool false)], args := [d] }
  | _ => none }
def FnExactTopViewWrongFalsely : Prop := fnExactTopViewRow.holds Try.pinned (OpenSpec.ofChange fnExactTopViewWrong)

/-- 'laws.FnExactFrontView': WHATEVER THE INPUT: true; the input reads as it did. -/
def fnExactFrontViewSpec : ChangeSpec := { name := "fnExactFrontView", fn := fun _ => fun
  | [d] => { results := [.lit (.bool true)], args := [d] }
  | _ => none }
def fnExactFrontViewRow : OpenClaim := { program := "ytcaplemkaaebfaa", sum := "c44a1c2377d215e95a4876279c840aa3b10a2d7885fb39239294b523e9ebdb0e", func := "loop.example/g03305/laws.FnExactFrontView", spec := "fnExactFrontView", unfollowed := true, recurses := true, apart := false }
def FnExactFrontViewSaid : Prop := fnExactFrontViewRow.holds Try.pinned (OpenSpec.ofChange fnExactFrontViewSpec)

/-- ITS FALSE NEIGHBOUR: 'it returns false'. Refute it at one input. -/
def fnExactFrontViewWrong : ChangeSpec := { name := "fnExactFrontView", fn := fun _ => fun
  | [d] => { results := [.lit (.bool false)], args := [d] }
  | _ => none }
def FnExactFrontViewWrongFalsely : Prop := fnExactFrontViewRow.holds Try.pinned (OpenSpec.ofChange fnExactFrontViewWrong)

/-- 'laws.FnExactCountSteps': WHATEVER THE INPUT: true; the input reads as it did. -/
def fnExactCountStepsSpec : ChangeSpec := { name := "fnExactCountSteps", fn := fun _ => fun
  | [d] => { results := [.lit (.bool true)], args := [d] }
  | _ => none }
def fnExactCountStepsRow : OpenClaim := { program := "ytcaplemkaaebfaa", sum := "c44a1c2377d215e95a4876279c840aa3b10a2d7885fb39239294b523e9ebdb0e", func := "loop.example/g03305/laws.FnExactCountSteps", spec := "fnExactCountSteps", unfollowed := true, recurses := true, apart := false }
def FnExactCountStepsSaid : Prop := fnExactCountStepsRow.holds Try.pinned (OpenSpec.ofChange fnExactCountStepsSpec)

/-- ITS FALSE NEIGHBOUR: 'it returns false'. Refute it at one input. -/
def fnExactCountStepsWrong : ChangeSpec := { name := "fnExactCountSteps", fn := fun _ => fun
  | [d] => { results := [.lit (.bool false)], args := [d] }
  | _ => none }
def FnExactCountStepsWrongFalsely : Prop := fnExactCountStepsRow.holds Try.pinned (OpenSpec.ofChange fnExactCountStepsWrong)

/- THE SECOND FORM. 'bulk': how many values and letters a reading holds, each counted each time it is reached (what is shared counts as often as it is met; a slice's spare places count too). A statement '..UptoSaid' is the law's where the arguments, and the package variables that the reading takes, are together of bulk at most 1048576: NARROWER than '..Said'. Prove '..Said' where nothing that the law and all that it calls make is longer than what came in: it says more and counts as full. Else prove '..UptoSaid'. A law counts once. -/
mutual
def uptoBulk {H : Type} : DataW H → Nat
  | .lit (.string bytes) => bytes.length + 1
  | .lit _ => 1
  | .nil => 1
  | .ptr d => uptoBulk d + 1
  | .slice elems spare => uptoBulkAll elems + uptoBulkAll spare + 1
  | .agg parts => uptoBulkAll parts + 1
  | .iface _ d => uptoBulk d + 1
  | .map entries => uptoBulkEntries entries + 1
  | .held _ => 1
def uptoBulkAll {H : Type} : List (DataW H) → Nat
  | [] => 0
  | d :: r => uptoBulk d + uptoBulkAll r
def uptoBulkEntries {H : Type} : List (Lit × DataW H) → Nat
  | [] => 0
  | x :: r => uptoBulkEntry x + uptoBulkEntries r
def uptoBulkEntry {H : Type} : Lit × DataW H → Nat
  | (.string bytes, d) => bytes.length + uptoBulk d + 1
  | (_, d) => uptoBulk d + 1
 end
def uptoSmall : (H : Type) → List (DataW H) → Bool := fun _ ds => decide (uptoBulkAll ds ≤ 1048576)
def OpenSpec.upto (s : _root_.Go.ChangeSpec) : _root_.Go.OpenSpec := { _root_.Go.OpenSpec.ofChange s with cond := some uptoSmall }

/-- 'laws.FnViews', WHERE WHAT IT READS IS OF BULK AT MOST 1048576: true; the input reads as it did. -/
def fnViewsUptoRow : OpenClaim := { program := "ytcaplemkaaebfaa", sum := "c44a1c2377d215e95a4876279c840aa3b10a2d7885fb39239294b523e9ebdb0e", func := "loop.example/g03305/laws.FnViews", spec := "fnViews", inPlace := ["internal/abi.NoEscape", "internal/bytealg.MakeNoZero"], unfollowed := true, recurses := true, apart := false, narrowed := true }
def FnViewsUptoSaid : Prop := fnViewsUptoRow.holds Try.pinned (OpenSpec.upto fnViewsSpec)

/-- 'laws.FnExactHeightsOf', WHERE WHAT IT READS IS OF BULK AT MOST 1048576: true; the input reads as it did. -/
def fnExactHeightsOfUptoRow : OpenClaim := { program := "ytcaplemkaaebfaa", sum := "c44a1c2377d215e95a4876279c840aa3b10a2d7885fb39239294b523e9ebdb0e", func := "loop.example/g03305/laws.FnExactHeightsOf", spec := "fnExactHeightsOf", apart := false, narrowed := true }
def FnExactHeightsOfUptoSaid : Prop := fnExactHeightsOfUptoRow.holds Try.pinned (OpenSpec.upto fnExactHeightsOfSpec)

/-- 'laws.FnExactDepthsOf', WHERE WHAT IT READS IS OF BULK AT MOST 1048576: true; the input reads as it did. -/
def fnExactDepthsOfUptoRow : OpenClaim := { program := "ytcaplemkaaebfaa", sum := "c44a1c2377d215e95a4876279c840aa3b10a2d7885fb39239294b523e9ebdb0e", func := "loop.example/g03305/laws.FnExactDepthsOf", spec := "fnExactDepthsOf", apart := false, narrowed := true }
def FnExactDepthsOfUptoSaid : Prop := fnExactDepthsOfUptoRow.holds Try.pinned (OpenSpec.upto fnExactDepthsOfSpec)

/-- 'laws.FnExactFromHeights', WHERE WHAT IT READS IS OF BULK AT MOST 1048576: true; the input reads as it did. -/
def fnExactFromHeightsUptoRow : OpenClaim := { program := "ytcaplemkaaebfaa", sum := "c44a1c2377d215e95a4876279c840aa3b10a2d7885fb39239294b523e9ebdb0e", func := "loop.example/g03305/laws.FnExactFromHeights", spec := "fnExactFromHeights", inPlace := ["internal/abi.NoEscape", "internal/bytealg.MakeNoZero"], unfollowed := true, recurses := true, apart := false, narrowed := true }
def FnExactFromHeightsUptoSaid : Prop := fnExactFromHeightsUptoRow.holds Try.pinned (OpenSpec.upto fnExactFromHeightsSpec)

/-- 'laws.FnExactTopView', WHERE WHAT IT READS IS OF BULK AT MOST 1048576: true; the input reads as it did. -/
def fnExactTopViewUptoRow : OpenClaim := { program := "ytcaplemkaaebfaa", sum := "c44a1c2377d215e95a4876279c840aa3b10a2d7885fb39239294b523e9ebdb0e", func := "loop.example/g03305/laws.FnExactTopView", spec := "fnExactTopView", unfollowed := true, recurses := true, apart := false, narrowed := true }
def FnExactTopViewUptoSaid : Prop := fnExactTopViewUptoRow.holds Try.pinned (OpenSpec.upto fnExactTopViewSpec)

/-- 'laws.FnExactFrontView', WHERE WHAT IT READS IS OF BULK AT MOST 1048576: true; the input reads as it did. -/
def fnExactFrontViewUptoRow : OpenClaim := { program := "ytcaplemkaaebfaa", sum := "c44a1c2377d215e95a4876279c840aa3b10a2d7885fb39239294b523e9ebdb0e", func := "loop.example/g03305/laws.FnExactFrontView", spec := "fnExactFrontView", unfollowed := true, recurses := true, apart := false, narrowed := true }
def FnExactFrontViewUptoSaid : Prop := fnExactFrontViewUptoRow.holds Try.pinned (OpenSpec.upto fnExactFrontViewSpec)

/-- 'laws.FnExactCountSteps', WHERE WHAT IT READS IS OF BULK AT MOST 1048576: true; the input reads as it did. -/
def fnExactCountStepsUptoRow : OpenClaim := { program := "ytcaplemkaaebfaa", sum := "c44a1c2377d215e95a4876279c840aa3b10a2d7885fb39239294b523e9ebdb0e", func := "loop.example/g03305/laws.FnExactCountSteps", spec := "fnExactCountSteps", unfollowed := true, recurses := true, apart := false, narrowed := true }
def FnExactCountStepsUptoSaid : Prop := fnExactCountStepsUptoRow.holds Try.pinned (OpenSpec.upto fnExactCountStepsSpec)

end Rows
end Go.Proofs.Ytcaplemkaaebfaa
