/-
  No cell of these rows narrows 'for every input' (looked for: loops, veiled, ifaces, maps, wideKeys, modest, calm, conditions, laid).
  DERIVED. THE GIVEN ROWS OF THIS SEAT. 8 by the template 'for every input the law returns true; each argument reads behind the call as it read before'; 0 by the template 'total and deterministic' (their statements: YtnkompcampnpoaaTotals.lean).
  GIVEN WITH THE SEED: the statements are not yours to turn. If you find one false, say at which input.
  Laid BY PROGRAM, IN A SANDBOX (cutbox-rows.mjs): the forced cells as the released guide's own fill.sh prints them over the translation 9366fd491c05d09c… (all of the seat's roots in one cut). By AI agents, Wed Nov 11 2026. No macro, syntax, notation, axiom, sorry.
-/
import Derived.Test.YtnkompcampnpoaaChecked
import GoSem.Claim
import GoSem.ClaimJoined
import GoSem.ClaimMapViews
import Derived.JoinedTies
import Derived.KernelRfl
namespace Go.Proofs.Ytnkompcampnpoaa
/- THE CELL 'sum', in the pinned program and in every row, IS THE sha256 OF THE DUMP (.gsa) THAT YtnkompcampnpoaaProg.lean LOADS. Nothing in Lean hashes anything: it is a label: what it is worth is what the hold of that sum in a sandbox is worth. -/
noncomputable def Try.pinned : Pinned := { name := "ytnkompcampnpoaa", sum := "9366fd491c05d09c0b045baa0c18614c6ca65ebe032cda643f0fc97fdaef2763", checked := Try.checked }
namespace Rows
def none {H : Type} : Left H := { results := [], args := [] }

/-- 'laws.FnCorners': WHATEVER THE INPUT: true; the input reads as it did. -/
def fnCornersSpec : ChangeSpec := { name := "fnCorners", fn := fun _ => fun
  | [d] => { results := [.lit (.bool true)], args := [d] }
  | _ => none }
def fnCornersRow : OpenClaim := { program := "ytnkompcampnpoaa", sum := "9366fd491c05d09c0b045baa0c18614c6ca65ebe032cda643f0fc97fdaef2763", func := "loop.example/g03305/laws.FnCorners", spec := "fnCorners", inPlace := ["internal/abi.NoEscape", "internal/bytealg.MakeNoZero", "internal/bytealg.CountString", "internal/bytealg.IndexByteString", "internal/bytealg.IndexString"], named := ["internal/bytealg.MaxLen"], apart := false }
def FnCornersSaid : Prop := fnCornersRow.holds Try.pinned (OpenSpec.ofChange fnCornersSpec)

/-- ITS FALSE NEIGHBOUR: 'it returns false'. Refute it at one input. -/
def fnCornersWrong : ChangeSpec := { name := "fnCorners", fn := fun _ => fun
  | [d] => { results := [.lit (.bool false)], args := [d] }
  | _ => none }
def FnCornersWrongFalsely : Prop := fnCornersRow.holds Try.pinned (OpenSpec.ofChange fnCornersWrong)

/-- 'laws.FnExactCornersOf': WHATEVER THE INPUT: true; the input reads as it did. -/
def fnExactCornersOfSpec : ChangeSpec := { name := "fnExactCornersOf", fn := fun _ => fun
  | [d] => { results := [.lit (.bool true)], args := [d] }
  | _ => none }
def fnExactCornersOfRow : OpenClaim := { program := "ytnkompcampnpoaa", sum := "9366fd491c05d09c0b045baa0c18614c6ca65ebe032cda643f0fc97fdaef2763", func := "loop.example/g03305/laws.FnExactCornersOf", spec := "fnExactCornersOf", apart := false }
def FnExactCornersOfSaid : Prop := fnExactCornersOfRow.holds Try.pinned (OpenSpec.ofChange fnExactCornersOfSpec)

/-- ITS FALSE NEIGHBOUR: 'it returns false'. Refute it at one input. -/
def fnExactCornersOfWrong : ChangeSpec := { name := "fnExactCornersOf", fn := fun _ => fun
  | [d] => { results := [.lit (.bool false)], args := [d] }
  | _ => none }
def FnExactCornersOfWrongFalsely : Prop := fnExactCornersOfRow.holds Try.pinned (OpenSpec.ofChange fnExactCornersOfWrong)

/-- 'laws.FnExactIsMountain': WHATEVER THE INPUT: true; the input reads as it did. -/
def fnExactIsMountainSpec : ChangeSpec := { name := "fnExactIsMountain", fn := fun _ => fun
  | [d1, d2] => { results := [.lit (.bool true)], args := [d1, d2] }
  | _ => none }
def fnExactIsMountainRow : OpenClaim := { program := "ytnkompcampnpoaa", sum := "9366fd491c05d09c0b045baa0c18614c6ca65ebe032cda643f0fc97fdaef2763", func := "loop.example/g03305/laws.FnExactIsMountain", spec := "fnExactIsMountain", apart := false }
def FnExactIsMountainSaid : Prop := fnExactIsMountainRow.holds Try.pinned (OpenSpec.ofChange fnExactIsMountainSpec)

/-- ITS FALSE NEIGHBOUR: 'it returns false'. Refute it at one input. -/
def fnExactIsMountainWrong : ChangeSpec := { name := "fnExactIsMountain", fn := fun _ => fun
  | [d1, d2] => { results := [.lit (.bool false)], args := [d1, d2] }
  | _ => none }
def FnExactIsMountainWrongFalsely : Prop := fnExactIsMountainRow.holds Try.pinned (OpenSpec.ofChange fnExactIsMountainWrong)

/-- 'laws.FnExactIsValley': WHATEVER THE INPUT: true; the input reads as it did. -/
def fnExactIsValleySpec : ChangeSpec := { name := "fnExactIsValley", fn := fun _ => fun
  | [d1, d2] => { results := [.lit (.bool true)], args := [d1, d2] }
  | _ => none }
def fnExactIsValleyRow : OpenClaim := { program := "ytnkompcampnpoaa", sum := "9366fd491c05d09c0b045baa0c18614c6ca65ebe032cda643f0fc97fdaef2763", func := "loop.example/g03305/laws.FnExactIsValley", spec := "fnExactIsValley", apart := false }
def FnExactIsValleySaid : Prop := fnExactIsValleyRow.holds Try.pinned (OpenSpec.ofChange fnExactIsValleySpec)

/-- ITS FALSE NEIGHBOUR: 'it returns false'. Refute it at one input. -/
def fnExactIsValleyWrong : ChangeSpec := { name := "fnExactIsValley", fn := fun _ => fun
  | [d1, d2] => { results := [.lit (.bool false)], args := [d1, d2] }
  | _ => none }
def FnExactIsValleyWrongFalsely : Prop := fnExactIsValleyRow.holds Try.pinned (OpenSpec.ofChange fnExactIsValleyWrong)

/-- 'laws.FnExactCountFolds': WHATEVER THE INPUT: true; the input reads as it did. -/
def fnExactCountFoldsSpec : ChangeSpec := { name := "fnExactCountFolds", fn := fun _ => fun
  | [d] => { results := [.lit (.bool true)], args := [d] }
  | _ => none }
def fnExactCountFoldsRow : OpenClaim := { program := "ytnkompcampnpoaa", sum := "9366fd491c05d09c0b045baa0c18614c6ca65ebe032cda643f0fc97fdaef2763", func := "loop.example/g03305/laws.FnExactCountFolds", spec := "fnExactCountFolds", apart := false }
def FnExactCountFoldsSaid : Prop := fnExactCountFoldsRow.holds Try.pinned (OpenSpec.ofChange fnExactCountFoldsSpec)

/-- ITS FALSE NEIGHBOUR: 'it returns false'. Refute it at one input. -/
def fnExactCountFoldsWrong : ChangeSpec := { name := "fnExactCountFolds", fn := fun _ => fun
  | [d] => { results := [.lit (.bool false)], args := [d] }
  | _ => none }
def FnExactCountFoldsWrongFalsely : Prop := fnExactCountFoldsRow.holds Try.pinned (OpenSpec.ofChange fnExactCountFoldsWrong)

/-- 'laws.FnExactRunsOf': WHATEVER THE INPUT: true; the input reads as it did. -/
def fnExactRunsOfSpec : ChangeSpec := { name := "fnExactRunsOf", fn := fun _ => fun
  | [d] => { results := [.lit (.bool true)], args := [d] }
  | _ => none }
def fnExactRunsOfRow : OpenClaim := { program := "ytnkompcampnpoaa", sum := "9366fd491c05d09c0b045baa0c18614c6ca65ebe032cda643f0fc97fdaef2763", func := "loop.example/g03305/laws.FnExactRunsOf", spec := "fnExactRunsOf", apart := false }
def FnExactRunsOfSaid : Prop := fnExactRunsOfRow.holds Try.pinned (OpenSpec.ofChange fnExactRunsOfSpec)

/-- ITS FALSE NEIGHBOUR: 'it returns false'. Refute it at one input. -/
def fnExactRunsOfWrong : ChangeSpec := { name := "fnExactRunsOf", fn := fun _ => fun
  | [d] => { results := [.lit (.bool false)], args := [d] }
  | _ => none }
def FnExactRunsOfWrongFalsely : Prop := fnExactRunsOfRow.holds Try.pinned (OpenSpec.ofChange fnExactRunsOfWrong)

/-- 'laws.FnExactFromRuns': WHATEVER THE INPUT: true; the input reads as it did. -/
def fnExactFromRunsSpec : ChangeSpec := { name := "fnExactFromRuns", fn := fun _ => fun
  | [d1, d2] => { results := [.lit (.bool true)], args := [d1, d2] }
  | _ => none }
def fnExactFromRunsRow : OpenClaim := { program := "ytnkompcampnpoaa", sum := "9366fd491c05d09c0b045baa0c18614c6ca65ebe032cda643f0fc97fdaef2763", func := "loop.example/g03305/laws.FnExactFromRuns", spec := "fnExactFromRuns", inPlace := ["internal/abi.NoEscape", "internal/bytealg.MakeNoZero"], apart := false }
def FnExactFromRunsSaid : Prop := fnExactFromRunsRow.holds Try.pinned (OpenSpec.ofChange fnExactFromRunsSpec)

/-- ITS FALSE NEIGHBOUR: 'it returns false'. Refute it at one input. -/
def fnExactFromRunsWrong : ChangeSpec := { name := "fnExactFromRuns", fn := fun _ => fun
  | [d1, d2] => { results := [.lit (.bool false)], args := [d1, d2] }
  | _ => none }
def FnExactFromRunsWrongFalsely : Prop := fnExactFromRunsRow.holds Try.pinned (OpenSpec.ofChange fnExactFromRunsWrong)

/-- 'laws.FnExactCountPeaks': WHATEVER THE INPUT: true; the input reads as it did. -/
def fnExactCountPeaksSpec : ChangeSpec := { name := "fnExactCountPeaks", fn := fun _ => fun
  | [d] => { results := [.lit (.bool true)], args := [d] }
  | _ => none }
def fnExactCountPeaksRow : OpenClaim := { program := "ytnkompcampnpoaa", sum := "9366fd491c05d09c0b045baa0c18614c6ca65ebe032cda643f0fc97fdaef2763", func := "loop.example/g03305/laws.FnExactCountPeaks", spec := "fnExactCountPeaks", inPlace := ["internal/bytealg.CountString", "internal/bytealg.IndexByteString", "internal/bytealg.IndexString"], named := ["internal/bytealg.MaxLen"], apart := false }
def FnExactCountPeaksSaid : Prop := fnExactCountPeaksRow.holds Try.pinned (OpenSpec.ofChange fnExactCountPeaksSpec)

/-- ITS FALSE NEIGHBOUR: 'it returns false'. Refute it at one input. -/
def fnExactCountPeaksWrong : ChangeSpec := { name := "fnExactCountPeaks", fn := fun _ => fun
  | [d] => { results := [.lit (.bool false)], args := [d] }
  | _ => none }
def FnExactCountPeaksWrongFalsely : Prop := fnExactCountPeaksRow.holds Try.pinned (OpenSpec.ofChange fnExactCountPeaksWrong)

/- THE SECOND FORM. 'bulk': how many values and letters a reading holds, each counted each time it is reached (what is shared counts as often as it is met; a slice's spare places count too). A statement '..UptoSaid' is the law's where the arguments, and the package variables that the reading takes, are together of bulk at most 1048576: NARROWER than '..Said'. Prove '..Said' where nothing that the law and all that it calls make is longer than what came in: it says more and counts as full. Else prove '..UptoSaid'. A law counts once. -/
mutual
def uptoBulk {H : Type} : DataW H → Nat
  | .lit (.string bytes) => bytes.length + 1
  | .lit _ => 1
  | .nil => 1
  | .ptr d => uptoBulk d + 1
  | .slice elems spare => uptoBulkAll elems + uptoBulkAll spare + 1
  | .agg parts => uptoBulkAll parts + 1
  | .iface _ d => uptoBulk d + 1
  | .map entries => uptoBulkEntries entries + 1
  | .held _ => 1
def uptoBulkAll {H : Type} : List (DataW H) → Nat
  | [] => 0
  | d :: r => uptoBulk d + uptoBulkAll r
def uptoBulkEntries {H : Type} : List (Lit × DataW H) → Nat
  | [] => 0
  | x :: r => uptoBulkEntry x + uptoBulkEntries r
def uptoBulkEntry {H : Type} : Lit × DataW H → Nat
  | (.string bytes, d) => bytes.length + uptoBulk d + 1
  | (_, d) => uptoBulk d + 1
 end
def uptoSmall : (H : Type) → List (DataW H) → Bool := fun _ ds => decide (uptoBulkAll ds ≤ 1048576)
def OpenSpec.upto (s : _root_.Go.ChangeSpec) : _root_.Go.OpenSpec := { _root_.Go.OpenSpec.ofChange s with cond := some uptoSmall }

/-- 'laws.FnCorners', WHERE WHAT IT READS IS OF BULK AT MOST 1048576: true; the input reads as it did. -/
def fnCornersUptoRow : OpenClaim := { program := "ytnkompcampnpoaa", sum := "9366fd491c05d09c0b045baa0c18614c6ca65ebe032cda643f0fc97fdaef2763", func := "loop.example/g03305/laws.FnCorners", spec := "fnCorners", inPlace := ["internal/abi.NoEscape", "internal/bytealg.MakeNoZero", "internal/bytealg.CountString", "internal/bytealg.IndexByteString", "internal/bytealg.IndexString"], named := ["internal/bytealg.MaxLen"], apart := false, narrowed := true }
def FnCornersUptoSaid : Prop := fnCornersUptoRow.holds Try.pinned (OpenSpec.upto fnCornersSpec)

/-- 'laws.FnExactCornersOf', WHERE WHAT IT READS IS OF BULK AT MOST 1048576: true; the input reads as it did. -/
def fnExactCornersOfUptoRow : OpenClaim := { program := "ytnkompcampnpoaa", sum := "9366fd491c05d09c0b045baa0c18614c6ca65ebe032cda643f0fc97fdaef2763", func := "loop.example/g03305/laws.FnExactCornersOf", spec := "fnExactCornersOf", apart := false, narrowed := true }
def FnExactCornersOfUptoSaid : Prop := fnExactCornersOfUptoRow.holds Try.pinned (OpenSpec.upto fnExactCornersOfSpec)

/-- 'laws.FnExactIsMountain', WHERE WHAT IT READS IS OF BULK AT MOST 1048576: true; the input reads as it did. -/
def fnExactIsMountainUptoRow : OpenClaim := { program := "ytnkompcampnpoaa", sum := "9366fd491c05d09c0b045baa0c18614c6ca65ebe032cda643f0fc97fdaef2763", func := "loop.example/g03305/laws.FnExactIsMountain", spec := "fnExactIsMountain", apart := false, narrowed := true }
def FnExactIsMountainUptoSaid : Prop := fnExactIsMountainUptoRow.holds Try.pinned (OpenSpec.upto fnExactIsMountainSpec)

/-- 'laws.FnExactIsValley', WHERE WHAT IT READS IS OF BULK AT MOST 1048576: true; the input reads as it did. -/
def fnExactIsValleyUptoRow : OpenClaim := { program := "ytnkompcampnpoaa", sum := "9366fd491c05d09c0b045baa0c18614c6ca65ebe032cda643f0fc97fdaef2763", func := "loop.example/g03305/laws.FnExactIsValley", spec := "fnExactIsValley", apart := false, narrowed := true }
def FnExactIsValleyUptoSaid : Prop := fnExactIsValleyUptoRow.holds Try.pinned (OpenSpec.upto fnExactIsValleySpec)

/-- 'laws.FnExactCountFolds', WHERE WHAT IT READS IS OF BULK AT MOST 1048576: true; the input reads as it did. -/
def fnExactCountFoldsUptoRow : OpenClaim := { program := "ytnkompcampnpoaa", sum := "9366fd491c05d09c0b045baa0c18614c6ca65ebe032cda643f0fc97fdaef2763", func := "loop.example/g03305/laws.FnExactCountFolds", spec := "fnExactCountFolds", apart := false, narrowed := true }
def FnExactCountFoldsUptoSaid : Prop := fnExactCountFoldsUptoRow.holds Try.pinned (OpenSpec.upto fnExactCountFoldsSpec)

/-- 'laws.FnExactRunsOf', WHERE WHAT IT READS IS OF BULK AT MOST 1048576: true; the input reads as it did. -/
def fnExactRunsOfUptoRow : OpenClaim := { program := "ytnkompcampnpoaa", sum := "9366fd491c05d09c0b045baa0c18614c6ca65ebe032cda643f0fc97fdaef2763", func := "loop.example/g03305/laws.FnExactRunsOf", spec := "fnExactRunsOf", apart := false, narrowed := true }
def FnExactRunsOfUptoSaid : Prop := fnExactRunsOfUptoRow.holds Try.pinned (OpenSpec.upto fnExactRunsOfSpec)

/-- 'laws.FnExactFromRuns', WHERE WHAT IT READS IS OF BULK AT MOST 1048576: true; the input reads as it did. -/
def fnExactFromRunsUptoRow : OpenClaim := { program := "ytnkompcampnpoaa", sum := "9366fd491c05d09c0b045baa0c18614c6ca65ebe032cda643f0fc97fdaef2763", func := "loop.example/g03305/laws.FnExactFromRuns", spec := "fnExactFromRuns", inPlace := ["internal/abi.NoEscape", "internal/bytealg.MakeNoZero"], apart := false, narrowed := true }
def FnExactFromRunsUptoSaid : Prop := fnExactFromRunsUptoRow.holds Try.pinned (OpenSpec.upto fnExactFromRunsSpec)

/-- 'laws.FnExactCountPeaks', WHERE WHAT IT READS IS OF BULK AT MOST 1048576: true; the input reads as it did. -/
def fnExactCountPeaksUptoRow : OpenClaim := { program := "ytnkompcampnpoaa", sum := "9366fd491c05d09c0b045baa0c18614c6ca65ebe032cda643f0fc97fdaef2763", func := "loop.example/g03305/laws.FnExactCountPeaks", spec := "fnExactCountPeaks", inPlace := ["internal/bytealg.CountString", "internal/bytealg.IndexByteString", "internal/bytealg.IndexString"], named := ["internal/bytealg.MaxLen"], apart := false, narrowed := true }
def FnExactCountPeaksUptoSaid : Prop := fnExactCountPeaksUptoRow.holds Try.pinned (OpenSpec.upto fnExactCountPeaksSpec)

end Rows
end Go.Proofs.Ytnkompcampnpoaa
