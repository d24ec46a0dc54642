/-
  No cell of these rows narrows 'for every input' (looked for: loops, veiled, ifaces, maps, wideKeys, modest, calm, conditions, laid).
  DERIVED. THE GIVEN ROWS OF THIS SEAT. 7 by the template 'for every input the law returns true; each argument reads behind the call as it read before'; 0 by the template 'total and deterministic' (their statements: YtbfbjolggilfoaaTotals.lean).
  GIVEN WITH THE SEED: the statements are not yours to turn. If you find one false, say at which input.
  Laid BY PROGRAM, IN A SANDBOX (cutbox-rows.mjs): the forced cells as the released guide's own fill.sh prints them over the translation 2eb9a7f1ffa31a2d… (all of the seat's roots in one cut). By AI agents, Wed Nov 11 2026. No macro, syntax, notation, axiom, sorry.
-/
import Derived.Test.YtbfbjolggilfoaaChecked
import GoSem.Claim
import GoSem.ClaimJoined
import GoSem.ClaimMapViews
import Derived.JoinedTies
import Derived.KernelRfl
namespace Go.Proofs.Ytbfbjolggilfoaa
/- THE CELL 'sum', in the pinned program and in every row, IS THE sha256 OF THE DUMP (.gsa) THAT YtbfbjolggilfoaaProg.lean LOADS. Nothing in Lean hashes anything: it is a label: what it is worth is what the hold of that sum in a sandbox is worth. -/
noncomputable def Try.pinned : Pinned := { name := "ytbfbjolggilfoaa", sum := "2eb9a7f1ffa31a2d87f493d05ae01fe9c4f02f83b7785d3e0f2625b79f51a2fb", checked := Try.checked }
namespace Rows
def none {H : Type} : Left H := { results := [], args := [] }

/-- 'laws.FnFlips': WHATEVER THE INPUT: true; the input reads as it did. -/
def fnFlipsSpec : ChangeSpec := { name := "fnFlips", fn := fun _ => fun
  | [d] => { results := [.lit (.bool true)], args := [d] }
  | _ => none }
def fnFlipsRow : OpenClaim := { program := "ytbfbjolggilfoaa", sum := "2eb9a7f1ffa31a2d87f493d05ae01fe9c4f02f83b7785d3e0f2625b79f51a2fb", func := "loop.example/g03305/laws.FnFlips", spec := "fnFlips", inPlace := ["internal/bytealg.CountString", "internal/bytealg.IndexByteString", "internal/bytealg.IndexString"], unfollowed := true, recurses := true, named := ["internal/bytealg.MaxLen"], apart := false }
def FnFlipsSaid : Prop := fnFlipsRow.holds Try.pinned (OpenSpec.ofChange fnFlipsSpec)

/-- ITS FALSE NEIGHBOUR: 'it returns false'. Refute it at one input. -/
def fnFlipsWrong : ChangeSpec := { name := "fnFlips", fn := fun _ => fun
  | [d] => { results := [.lit (.bool false)], args := [d] }
  | _ => none }
def FnFlipsWrongFalsely : Prop := fnFlipsRow.holds Try.pinned (OpenSpec.ofChange fnFlipsWrong)

/-- 'laws.FnExactCanRaise': WHATEVER THE INPUT: true; the input reads as it did. -/
def fnExactCanRaiseSpec : ChangeSpec := { name := "fnExactCanRaise", fn := fun _ => fun
  | [d1, d2] => { results := [.lit (.bool true)], args := [d1, d2] }
  | _ => none }
def fnExactCanRaiseRow : OpenClaim := { program := "ytbfbjolggilfoaa", sum := "2eb9a7f1ffa31a2d87f493d05ae01fe9c4f02f83b7785d3e0f2625b79f51a2fb", func := "loop.example/g03305/laws.FnExactCanRaise", spec := "fnExactCanRaise", apart := false }
def FnExactCanRaiseSaid : Prop := fnExactCanRaiseRow.holds Try.pinned (OpenSpec.ofChange fnExactCanRaiseSpec)

/-- ITS FALSE NEIGHBOUR: 'it returns false'. Refute it at one input. -/
def fnExactCanRaiseWrong : ChangeSpec := { name := "fnExactCanRaise", fn := fun _ => fun
  | [d1, d2] => { results := [.lit (.bool false)], args := [d1, d2] }
  | _ => none }
def FnExactCanRaiseWrongFalsely : Prop := fnExactCanRaiseRow.holds Try.pinned (OpenSpec.ofChange fnExactCanRaiseWrong)

/-- 'laws.FnExactRaiseAt': WHATEVER THE INPUT: true; the input reads as it did. -/
def fnExactRaiseAtSpec : ChangeSpec := { name := "fnExactRaiseAt", fn := fun _ => fun
  | [d1, d2] => { results := [.lit (.bool true)], args := [d1, d2] }
  | _ => none }
def fnExactRaiseAtRow : OpenClaim := { program := "ytbfbjolggilfoaa", sum := "2eb9a7f1ffa31a2d87f493d05ae01fe9c4f02f83b7785d3e0f2625b79f51a2fb", func := "loop.example/g03305/laws.FnExactRaiseAt", spec := "fnExactRaiseAt", apart := false }
def FnExactRaiseAtSaid : Prop := fnExactRaiseAtRow.holds Try.pinned (OpenSpec.ofChange fnExactRaiseAtSpec)

/-- ITS FALSE NEIGHBOUR: 'it returns false'. Refute it at one input. -/
def fnExactRaiseAtWrong : ChangeSpec := { name := "fnExactRaiseAt", fn := fun _ => fun
  | [d1, d2] => { results := [.lit (.bool false)], args := [d1, d2] }
  | _ => none }
def FnExactRaiseAtWrongFalsely : Prop := fnExactRaiseAtRow.holds Try.pinned (OpenSpec.ofChange fnExactRaiseAtWrong)

/-- 'laws.FnExactLowerAt': WHATEVER THE INPUT: true; the input reads as it did. -/
def fnExactLowerAtSpec : ChangeSpec := { name := "fnExactLowerAt", fn := fun _ => fun
  | [d1, d2] => { results := [.lit (.bool true)], args := [d1, d2] }
  | _ => none }
def fnExactLowerAtRow : OpenClaim := { program := "ytbfbjolggilfoaa", sum := "2eb9a7f1ffa31a2d87f493d05ae01fe9c4f02f83b7785d3e0f2625b79f51a2fb", func := "loop.example/g03305/laws.FnExactLowerAt", spec := "fnExactLowerAt", apart := false }
def FnExactLowerAtSaid : Prop := fnExactLowerAtRow.holds Try.pinned (OpenSpec.ofChange fnExactLowerAtSpec)

/-- ITS FALSE NEIGHBOUR: 'it returns false'. Refute it at one input. -/
def fnExactLowerAtWrong : ChangeSpec := { name := "fnExactLowerAt", fn := fun _ => fun
  | [d1, d2] => { results := [.lit (.bool false)], args := [d1, d2] }
  | _ => none }
def FnExactLowerAtWrongFalsely : Prop := fnExactLowerAtRow.holds Try.pinned (OpenSpec.ofChange fnExactLowerAtWrong)

/-- 'laws.FnExactRaisesOf': WHATEVER THE INPUT: true; the input reads as it did. -/
def fnExactRaisesOfSpec : ChangeSpec := { name := "fnExactRaisesOf", fn := fun _ => fun
  | [d] => { results := [.lit (.bool true)], args := [d] }
  | _ => none }
def fnExactRaisesOfRow : OpenClaim := { program := "ytbfbjolggilfoaa", sum := "2eb9a7f1ffa31a2d87f493d05ae01fe9c4f02f83b7785d3e0f2625b79f51a2fb", func := "loop.example/g03305/laws.FnExactRaisesOf", spec := "fnExactRaisesOf", apart := false }
def FnExactRaisesOfSaid : Prop := fnExactRaisesOfRow.holds Try.pinned (OpenSpec.ofChange fnExactRaisesOfSpec)

/-- ITS FALSE NEIGHBOUR: 'it returns false'. Refute it at one input. -/
def fnExactRaisesOfWrong : ChangeSpec := { name := "fnExactRaisesOf", fn := fun _ => fun
  | [d] => { results := [.lit (.bool false)], args := [d] }
  | _ => none }
def FnExactRaisesOfWrongFalsely : Prop := fnExactRaisesOfRow.holds Try.pinned (OpenSpec.ofChange fnExactRaisesOfWrong)

/-- 'laws.FnExactWayUp': WHATEVER THE INPUT: true; the input reads as it did. -/
def fnExactWayUpSpec : ChangeSpec := { name := "fnExactWayUp", fn := fun _ => fun
  | [d1, d2] => { results := [.lit (.bool true)], args := [d1, d2] }
  | _ => none }
def fnExactWayUpRow : OpenClaim := { program := "ytbfbjolggilfoaa", sum := "2eb9a7f1ffa31a2d87f493d05ae01fe9c4f02f83b7785d3e0f2625b79f51a2fb", func := "loop.example/g03305/laws.FnExactWayUp", spec := "fnExactWayUp", inPlace := ["internal/bytealg.CountString", "internal/bytealg.IndexByteString", "internal/bytealg.IndexString"], unfollowed := true, recurses := true, named := ["internal/bytealg.MaxLen"], apart := false }
def FnExactWayUpSaid : Prop := fnExactWayUpRow.holds Try.pinned (OpenSpec.ofChange fnExactWayUpSpec)

/-- ITS FALSE NEIGHBOUR: 'it returns false'. Refute it at one input. -/
def fnExactWayUpWrong : ChangeSpec := { name := "fnExactWayUp", fn := fun _ => fun
  | [d1, d2] => { results := [.lit (.bool false)], args := [d1, d2] }
  | _ => none }
def FnExactWayUpWrongFalsely : Prop := fnExactWayUpRow.holds Try.pinned (OpenSpec.ofChange fnExactWayUpWrong)

/-- 'laws.FnExactCountWays': WHATEVER THE INPUT: true; the input reads as it did. -/
def fnExactCountWaysSpec : ChangeSpec := { name := "fnExactCountWays", fn := fun _ => fun
  | [d1, d2] => { results := [.lit (.bool true)], args := [d1, d2] }
  | _ => none }
def fnExactCountWaysRow : OpenClaim := { program := "ytbfbjolggilfoaa", sum := "2eb9a7f1ffa31a2d87f493d05ae01fe9c4f02f83b7785d3e0f2625b79f51a2fb", func := "loop.example/g03305/laws.FnExactCountWays", spec := "fnExactCountWays", inPlace := ["internal/bytealg.CountString", "internal/bytealg.IndexByteString", "internal/bytealg.IndexString"], unfollowed := true, recurses := true, named := ["internal/bytealg.MaxLen"], apart := false }
def FnExactCountWaysSaid : Prop := fnExactCountWaysRow.holds Try.pinned (OpenSpec.ofChange fnExactCountWaysSpec)

/-- ITS FALSE NEIGHBOUR: 'it returns false'. Refute it at one input. -/
def fnExactCountWaysWrong : ChangeSpec := { name := "fnExactCountWays", fn := fun _ => fun
  | [d1, d2] => { results := [.lit (.bool false)], args := [d1, d2] }
  | _ => none }
def FnExactCountWaysWrongFalsely : Prop := fnExactCountWaysRow.holds Try.pinned (OpenSpec.ofChange fnExactCountWaysWrong)

/- THE SECOND FORM. 'bulk': how many values and letters a reading holds, each counted each time it is reached (what is shared counts as often as it is met; a slice's spare places count too). A statement '..UptoSaid' is the law's where the arguments, and the package variables that the reading takes, are together of bulk at most 1048576: NARROWER than '..Said'. Prove '..Said' where nothing that the law and all that it calls make is longer than what came in: it says more and counts as full. Else prove '..UptoSaid'. A law counts once. -/
mutual
def uptoBulk {H : Type} : DataW H → Nat
  | .lit (.string bytes) => bytes.length + 1
  | .lit _ => 1
  | .nil => 1
  | .ptr d => uptoBulk d + 1
  | .slice elems spare => uptoBulkAll elems + uptoBulkAll spare + 1
  | .agg parts => uptoBulkAll parts + 1
  | .iface _ d => uptoBulk d + 1
  | .map entries => uptoBulkEntries entries + 1
  | .held _ => 1
def uptoBulkAll {H : Type} : List (DataW H) → Nat
  | [] => 0
  | d :: r => uptoBulk d + uptoBulkAll r
def uptoBulkEntries {H : Type} : List (Lit × DataW H) → Nat
  | [] => 0
  | x :: r => uptoBulkEntry x + uptoBulkEntries r
def uptoBulkEntry {H : Type} : Lit × DataW H → Nat
  | (.string bytes, d) => bytes.length + uptoBulk d + 1
  | (_, d) => uptoBulk d + 1
 end
def uptoSmall : (H : Type) → List (DataW H) → Bool := fun _ ds => decide (uptoBulkAll ds ≤ 1048576)
def OpenSpec.upto (s : _root_.Go.ChangeSpec) : _root_.Go.OpenSpec := { _root_.Go.OpenSpec.ofChange s with cond := some uptoSmall }

/-- 'laws.FnFlips', WHERE WHAT IT READS IS OF BULK AT MOST 1048576: true; the input reads as it did. -/
def fnFlipsUptoRow : OpenClaim := { program := "ytbfbjolggilfoaa", sum := "2eb9a7f1ffa31a2d87f493d05ae01fe9c4f02f83b7785d3e0f2625b79f51a2fb", func := "loop.example/g03305/laws.FnFlips", spec := "fnFlips", inPlace := ["internal/bytealg.CountString", "internal/bytealg.IndexByteString", "internal/bytealg.IndexString"], unfollowed := true, recurses := true, named := ["internal/bytealg.MaxLen"], apart := false, narrowed := true }
def FnFlipsUptoSaid : Prop := fnFlipsUptoRow.holds Try.pinned (OpenSpec.upto fnFlipsSpec)

/-- 'laws.FnExactCanRaise', WHERE WHAT IT READS IS OF BULK AT MOST 1048576: true; the input reads as it did. -/
def fnExactCanRaiseUptoRow : OpenClaim := { program := "ytbfbjolggilfoaa", sum := "2eb9a7f1ffa31a2d87f493d05ae01fe9c4f02f83b7785d3e0f2625b79f51a2fb", func := "loop.example/g03305/laws.FnExactCanRaise", spec := "fnExactCanRaise", apart := false, narrowed := true }
def FnExactCanRaiseUptoSaid : Prop := fnExactCanRaiseUptoRow.holds Try.pinned (OpenSpec.upto fnExactCanRaiseSpec)

/-- 'laws.FnExactRaiseAt', WHERE WHAT IT READS IS OF BULK AT MOST 1048576: true; the input reads as it did. -/
def fnExactRaiseAtUptoRow : OpenClaim := { program := "ytbfbjolggilfoaa", sum := "2eb9a7f1ffa31a2d87f493d05ae01fe9c4f02f83b7785d3e0f2625b79f51a2fb", func := "loop.example/g03305/laws.FnExactRaiseAt", spec := "fnExactRaiseAt", apart := false, narrowed := true }
def FnExactRaiseAtUptoSaid : Prop := fnExactRaiseAtUptoRow.holds Try.pinned (OpenSpec.upto fnExactRaiseAtSpec)

/-- 'laws.FnExactLowerAt', WHERE WHAT IT READS IS OF BULK AT MOST 1048576: true; the input reads as it did. -/
def fnExactLowerAtUptoRow : OpenClaim := { program := "ytbfbjolggilfoaa", sum := "2eb9a7f1ffa31a2d87f493d05ae01fe9c4f02f83b7785d3e0f2625b79f51a2fb", func := "loop.example/g03305/laws.FnExactLowerAt", spec := "fnExactLowerAt", apart := false, narrowed := true }
def FnExactLowerAtUptoSaid : Prop := fnExactLowerAtUptoRow.holds Try.pinned (OpenSpec.upto fnExactLowerAtSpec)

/-- 'laws.FnExactRaisesOf', WHERE WHAT IT READS IS OF BULK AT MOST 1048576: true; the input reads as it did. -/
def fnExactRaisesOfUptoRow : OpenClaim := { program := "ytbfbjolggilfoaa", sum := "2eb9a7f1ffa31a2d87f493d05ae01fe9c4f02f83b7785d3e0f2625b79f51a2fb", func := "loop.example/g03305/laws.FnExactRaisesOf", spec := "fnExactRaisesOf", apart := false, narrowed := true }
def FnExactRaisesOfUptoSaid : Prop := fnExactRaisesOfUptoRow.holds Try.pinned (OpenSpec.upto fnExactRaisesOfSpec)

/-- 'laws.FnExactWayUp', WHERE WHAT IT READS IS OF BULK AT MOST 1048576: true; the input reads as it did. -/
def fnExactWayUpUptoRow : OpenClaim := { program := "ytbfbjolggilfoaa", sum := "2eb9a7f1ffa31a2d87f493d05ae01fe9c4f02f83b7785d3e0f2625b79f51a2fb", func := "loop.example/g03305/laws.FnExactWayUp", spec := "fnExactWayUp", inPlace := ["internal/bytealg.CountString", "internal/bytealg.IndexByteString", "internal/bytealg.IndexString"], unfollowed := true, recurses := true, named := ["internal/bytealg.MaxLen"], apart := false, narrowed := true }
def FnExactWayUpUptoSaid : Prop := fnExactWayUpUptoRow.holds Try.pinned (OpenSpec.upto fnExactWayUpSpec)

/-- 'laws.FnExactCountWays', WHERE WHAT IT READS IS OF BULK AT MOST 1048576: true; the input reads as it did. -/
def fnExactCountWaysUptoRow : OpenClaim := { program := "ytbfbjolggilfoaa", sum := "2eb9a7f1ffa31a2d87f493d05ae01fe9c4f02f83b7785d3e0f2625b79f51a2fb", func := "loop.example/g03305/laws.FnExactCountWays", spec := "fnExactCountWays", inPlace := ["internal/bytealg.CountString", "internal/bytealg.IndexByteString", "internal/bytealg.IndexString"], unfollowed := true, recurses := true, named := ["internal/bytealg.MaxLen"], apart := false, narrowed := true }
def FnExactCountWaysUptoSaid : Prop := fnExactCountWaysUptoRow.holds Try.pinned (OpenSpec.upto fnExactCountWaysSpec)

end Rows
end Go.Proofs.Ytbfbjolggilfoaa
