/-
  No cell of these rows narrows 'for every input' (looked for: loops, veiled, ifaces, maps, wideKeys, modest, calm, conditions, laid).
  DERIVED. THE GIVEN ROWS OF THIS SEAT. 8 by the template 'for every input the law returns true; each argument reads behind the call as it read before'; 0 by the template 'total and deterministic' (their statements: YtofljefeimmabaaTotals.lean).
  GIVEN WITH THE SEED: the statements are not yours to turn. If you find one false, say at which input.
  Laid BY PROGRAM, IN A SANDBOX (cutbox-rows.mjs): the forced cells as the released guide's own fill.sh prints them over the translation 892ded03a0f8cdaf… (all of the seat's roots in one cut). By AI agents, Wed Nov 11 2026. No macro, syntax, notation, axiom, sorry.
-/
import Derived.Test.YtofljefeimmabaaChecked
import GoSem.Claim
import GoSem.ClaimJoined
import GoSem.ClaimMapViews
import Derived.JoinedTies
import Derived.KernelRfl
namespace Go.Proofs.Ytofljefeimmabaa
/- THE CELL 'sum', in the pinned program and in every row, IS THE sha256 OF THE DUMP (.gsa) THAT YtofljefeimmabaaProg.lean LOADS. Nothing in Lean hashes anything: it is a label: what it is worth is what the hold of that sum in a sandbox is worth. -/
noncomputable def Try.pinned : Pinned := { name := "ytofljefeimmabaa", sum := "892ded03a0f8cdaff06b95d9b1c614d9e73728c868e9fd816fb82677633e9ee4", checked := Try.checked }
namespace Rows
def none {H : Type} : Left H := { results := [], args := [] }

/-- 'laws.FnCards': WHATEVER THE INPUT: true; the input reads as it did. -/
def fnCardsSpec : ChangeSpec := { name := "fnCards", fn := fun _ => fun
  | [d] => { results := [.lit (.bool true)], args := [d] }
  | _ => none }
def fnCardsRow : OpenClaim := { program := "ytofljefeimmabaa", sum := "892ded03a0f8cdaff06b95d9b1c614d9e73728c868e9fd816fb82677633e9ee4", func := "loop.example/g03305/laws.FnCards", spec := "fnCards", inPlace := ["slices.overlaps[string]", "internal/abi.NoEscape", "internal/bytealg.MakeNoZero"], apart := false }
def FnCardsSaid : Prop := fnCardsRow.holds Try.pinned (OpenSpec.ofChange fnCardsSpec)

/-- ITS FALSE NEIGHBOUR: 'it returns false'. Refute it at one input. -/
def fnCardsWrong : ChangeSpec := { name := "fnCards", fn := fun _ => fun
  | [d] => { results := [.lit (.bool false)], args := [d] }
  | _ => none }
def FnCardsWrongFalsely : Prop := fnCardsRow.holds Try.pinned (OpenSpec.ofChange fnCardsWrong)

/-- 'laws.FnExactCardOk': WHATEVER THE INPUT: true; the input reads as it did. -/
def fnExactCardOkSpec : ChangeSpec := { name := "fnExactCardOk", fn := fun _ => fun
  | [d] => { results := [.lit (.bool true)], args := [d] }
  | _ => none }
def fnExactCardOkRow : OpenClaim := { program := "ytofljefeimmabaa", sum := "892ded03a0f8cdaff06b95d9b1c614d9e73728c868e9fd816fb82677633e9ee4", func := "loop.example/g03305/laws.FnExactCardOk", spec := "fnExactCardOk", apart := false }
def FnExactCardOkSaid : Prop := fnExactCardOkRow.holds Try.pinned (OpenSpec.ofChange fnExactCardOkSpec)

/-- ITS FALSE NEIGHBOUR: 'it returns false'. Refute it at one input. -/
def fnExactCardOkWrong : ChangeSpec := { name := "fnExactCardOk", fn := fun _ => fun
  | [d] => { results := [.lit (.bool false)], args := [d] }
  | _ => none }
def FnExactCardOkWrongFalsely : Prop := fnExactCardOkRow.holds Try.pinned (OpenSpec.ofChange fnExactCardOkWrong)

/-- 'laws.FnExactPlainCard': WHATEVER THE INPUT: true; the input reads as it did. -/
def fnExactPlainCardSpec : ChangeSpec := { name := "fnExactPlainCard", fn := fun _ => fun
  | [d1, d2, d3] => { results := [.lit (.bool true)], args := [d1, d2, d3] }
  | _ => none }
def fnExactPlainCardRow : OpenClaim := { program := "ytofljefeimmabaa", sum := "892ded03a0f8cdaff06b95d9b1c614d9e73728c868e9fd816fb82677633e9ee4", func := "loop.example/g03305/laws.FnExactPlainCard", spec := "fnExactPlainCard", inPlace := ["internal/abi.NoEscape", "internal/bytealg.MakeNoZero"], apart := false }
def FnExactPlainCardSaid : Prop := fnExactPlainCardRow.holds Try.pinned (OpenSpec.ofChange fnExactPlainCardSpec)

/-- ITS FALSE NEIGHBOUR: 'it returns false'. Refute it at one input. -/
def fnExactPlainCardWrong : ChangeSpec := { name := "fnExactPlainCard", fn := fun _ => fun
  | [d1, d2, d3] => { results := [.lit (.bool false)], args := [d1, d2, d3] }
  | _ => none }
def FnExactPlainCardWrongFalsely : Prop := fnExactPlainCardRow.holds Try.pinned (OpenSpec.ofChange fnExactPlainCardWrong)

/-- 'laws.FnExactWithStrip': WHATEVER THE INPUT: true; the input reads as it did. -/
def fnExactWithStripSpec : ChangeSpec := { name := "fnExactWithStrip", fn := fun _ => fun
  | [d1, d2, d3] => { results := [.lit (.bool true)], args := [d1, d2, d3] }
  | _ => none }
def fnExactWithStripRow : OpenClaim := { program := "ytofljefeimmabaa", sum := "892ded03a0f8cdaff06b95d9b1c614d9e73728c868e9fd816fb82677633e9ee4", func := "loop.example/g03305/laws.FnExactWithStrip", spec := "fnExactWithStrip", inPlace := ["slices.overlaps[string]"], apart := false }
def FnExactWithStripSaid : Prop := fnExactWithStripRow.holds Try.pinned (OpenSpec.ofChange fnExactWithStripSpec)

/-- ITS FALSE NEIGHBOUR: 'it returns false'. Refute it at one input. -/
def fnExactWithStripWrong : ChangeSpec := { name := "fnExactWithStrip", fn := fun _ => fun
  | [d1, d2, d3] => { results := [.lit (.bool false)], args := [d1, d2, d3] }
  | _ => none }
def FnExactWithStripWrongFalsely : Prop := fnExactWithStripRow.holds Try.pinned (OpenSpec.ofChange fnExactWithStripWrong)

/-- 'laws.FnExactPutStrip': WHATEVER THE INPUT: true; the input reads as it did. -/
def fnExactPutStripSpec : ChangeSpec := { name := "fnExactPutStrip", fn := fun _ => fun
  | [d1, d2, d3] => { results := [.lit (.bool true)], args := [d1, d2, d3] }
  | _ => none }
def fnExactPutStripRow : OpenClaim := { program := "ytofljefeimmabaa", sum := "892ded03a0f8cdaff06b95d9b1c614d9e73728c868e9fd816fb82677633e9ee4", func := "loop.example/g03305/laws.FnExactPutStrip", spec := "fnExactPutStrip", inPlace := ["slices.overlaps[string]"], apart := false }
def FnExactPutStripSaid : Prop := fnExactPutStripRow.holds Try.pinned (OpenSpec.ofChange fnExactPutStripSpec)

/-- ITS FALSE NEIGHBOUR: 'it returns false'. Refute it at one input. -/
def fnExactPutStripWrong : ChangeSpec := { name := "fnExactPutStrip", fn := fun _ => fun
  | [d1, d2, d3] => { results := [.lit (.bool false)], args := [d1, d2, d3] }
  | _ => none }
def FnExactPutStripWrongFalsely : Prop := fnExactPutStripRow.holds Try.pinned (OpenSpec.ofChange fnExactPutStripWrong)

/-- 'laws.FnExactCutStrip': WHATEVER THE INPUT: true; the input reads as it did. -/
def fnExactCutStripSpec : ChangeSpec := { name := "fnExactCutStrip", fn := fun _ => fun
  | [d1, d2] => { results := [.lit (.bool true)], args := [d1, d2] }
  | _ => none }
def fnExactCutStripRow : OpenClaim := { program := "ytofljefeimmabaa", sum := "892ded03a0f8cdaff06b95d9b1c614d9e73728c868e9fd816fb82677633e9ee4", func := "loop.example/g03305/laws.FnExactCutStrip", spec := "fnExactCutStrip", inPlace := ["slices.overlaps[string]"], apart := false }
def FnExactCutStripSaid : Prop := fnExactCutStripRow.holds Try.pinned (OpenSpec.ofChange fnExactCutStripSpec)

/-- ITS FALSE NEIGHBOUR: 'it returns false'. Refute it at one input. -/
def fnExactCutStripWrong : ChangeSpec := { name := "fnExactCutStrip", fn := fun _ => fun
  | [d1, d2] => { results := [.lit (.bool false)], args := [d1, d2] }
  | _ => none }
def FnExactCutStripWrongFalsely : Prop := fnExactCutStripRow.holds Try.pinned (OpenSpec.ofChange fnExactCutStripWrong)

/-- 'laws.FnExactSameCard': WHATEVER THE INPUT: true; the input reads as it did. -/
def fnExactSameCardSpec : ChangeSpec := { name := "fnExactSameCard", fn := fun _ => fun
  | [d1, d2] => { results := [.lit (.bool true)], args := [d1, d2] }
  | _ => none }
def fnExactSameCardRow : OpenClaim := { program := "ytofljefeimmabaa", sum := "892ded03a0f8cdaff06b95d9b1c614d9e73728c868e9fd816fb82677633e9ee4", func := "loop.example/g03305/laws.FnExactSameCard", spec := "fnExactSameCard", apart := false }
def FnExactSameCardSaid : Prop := fnExactSameCardRow.holds Try.pinned (OpenSpec.ofChange fnExactSameCardSpec)

/-- ITS FALSE NEIGHBOUR: 'it returns false'. Refute it at one input. -/
def fnExactSameCardWrong : ChangeSpec := { name := "fnExactSameCard", fn := fun _ => fun
  | [d1, d2] => { results := [.lit (.bool false)], args := [d1, d2] }
  | _ => none }
def FnExactSameCardWrongFalsely : Prop := fnExactSameCardRow.holds Try.pinned (OpenSpec.ofChange fnExactSameCardWrong)

/-- 'laws.FnExactSampleCard': WHATEVER THE INPUT: true; the input reads as it did. -/
def fnExactSampleCardSpec : ChangeSpec := { name := "fnExactSampleCard", fn := fun _ => fun
  | [] => { results := [.lit (.bool true)], args := [] }
  | _ => none }
def fnExactSampleCardRow : OpenClaim := { program := "ytofljefeimmabaa", sum := "892ded03a0f8cdaff06b95d9b1c614d9e73728c868e9fd816fb82677633e9ee4", func := "loop.example/g03305/laws.FnExactSampleCard", spec := "fnExactSampleCard", apart := false }
def FnExactSampleCardSaid : Prop := fnExactSampleCardRow.holds Try.pinned (OpenSpec.ofChange fnExactSampleCardSpec)

/-- ITS FALSE NEIGHBOUR: 'it returns false'. Refute it at one input. -/
def fnExactSampleCardWrong : ChangeSpec := { name := "fnExactSampleCard", fn := fun _ => fun
  | [] => { results := [.lit (.bool false)], args := [] }
  | _ => none }
def FnExactSampleCardWrongFalsely : Prop := fnExactSampleCardRow.holds Try.pinned (OpenSpec.ofChange fnExactSampleCardWrong)

/- THE SECOND FORM. 'bulk': how many values and letters a reading holds, each counted each time it is reached (what is shared counts as often as it is met; a slice's spare places count too). A statement '..UptoSaid' is the law's where the arguments, and the package variables that the reading takes, are together of bulk at most 1048576: NARROWER than '..Said'. Prove '..Said' where nothing that the law and all that it calls make is longer than what came in: it says more and counts as full. Else prove '..UptoSaid'. A law counts once. -/
mutual
def uptoBulk {H : Type} : DataW H → Nat
  | .lit (.string bytes) => bytes.length + 1
  | .lit _ => 1
  | .nil => 1
  | .ptr d => uptoBulk d + 1
  | .slice elems spare => uptoBulkAll elems + uptoBulkAll spare + 1
  | .agg parts => uptoBulkAll parts + 1
  | .iface _ d => uptoBulk d + 1
  | .map entries => uptoBulkEntries entries + 1
  | .held _ => 1
def uptoBulkAll {H : Type} : List (DataW H) → Nat
  | [] => 0
  | d :: r => uptoBulk d + uptoBulkAll r
def uptoBulkEntries {H : Type} : List (Lit × DataW H) → Nat
  | [] => 0
  | x :: r => uptoBulkEntry x + uptoBulkEntries r
def uptoBulkEntry {H : Type} : Lit × DataW H → Nat
  | (.string bytes, d) => bytes.length + uptoBulk d + 1
  | (_, d) => uptoBulk d + 1
 end
def uptoSmall : (H : Type) → List (DataW H) → Bool := fun _ ds => decide (uptoBulkAll ds ≤ 1048576)
def OpenSpec.upto (s : _root_.Go.ChangeSpec) : _root_.Go.OpenSpec := { _root_.Go.OpenSpec.ofChange s with cond := some uptoSmall }

/-- 'laws.FnCards', WHERE WHAT IT READS IS OF BULK AT MOST 1048576: true; the input reads as it did. -/
def fnCardsUptoRow : OpenClaim := { program := "ytofljefeimmabaa", sum := "892ded03a0f8cdaff06b95d9b1c614d9e73728c868e9fd816fb82677633e9ee4", func := "loop.example/g03305/laws.FnCards", spec := "fnCards", inPlace := ["slices.overlaps[string]", "internal/abi.NoEscape", "internal/bytealg.MakeNoZero"], apart := false, narrowed := true }
def FnCardsUptoSaid : Prop := fnCardsUptoRow.holds Try.pinned (OpenSpec.upto fnCardsSpec)

/-- 'laws.FnExactCardOk', WHERE WHAT IT READS IS OF BULK AT MOST 1048576: true; the input reads as it did. -/
def fnExactCardOkUptoRow : OpenClaim := { program := "ytofljefeimmabaa", sum := "892ded03a0f8cdaff06b95d9b1c614d9e73728c868e9fd816fb82677633e9ee4", func := "loop.example/g03305/laws.FnExactCardOk", spec := "fnExactCardOk", apart := false, narrowed := true }
def FnExactCardOkUptoSaid : Prop := fnExactCardOkUptoRow.holds Try.pinned (OpenSpec.upto fnExactCardOkSpec)

/-- 'laws.FnExactPlainCard', WHERE WHAT IT READS IS OF BULK AT MOST 1048576: true; the input reads as it did. -/
def fnExactPlainCardUptoRow : OpenClaim := { program := "ytofljefeimmabaa", sum := "892ded03a0f8cdaff06b95d9b1c614d9e73728c868e9fd816fb82677633e9ee4", func := "loop.example/g03305/laws.FnExactPlainCard", spec := "fnExactPlainCard", inPlace := ["internal/abi.NoEscape", "internal/bytealg.MakeNoZero"], apart := false, narrowed := true }
def FnExactPlainCardUptoSaid : Prop := fnExactPlainCardUptoRow.holds Try.pinned (OpenSpec.upto fnExactPlainCardSpec)

/-- 'laws.FnExactWithStrip', WHERE WHAT IT READS IS OF BULK AT MOST 1048576: true; the input reads as it did. -/
def fnExactWithStripUptoRow : OpenClaim := { program := "ytofljefeimmabaa", sum := "892ded03a0f8cdaff06b95d9b1c614d9e73728c868e9fd816fb82677633e9ee4", func := "loop.example/g03305/laws.FnExactWithStrip", spec := "fnExactWithStrip", inPlace := ["slices.overlaps[string]"], apart := false, narrowed := true }
def FnExactWithStripUptoSaid : Prop := fnExactWithStripUptoRow.holds Try.pinned (OpenSpec.upto fnExactWithStripSpec)

/-- 'laws.FnExactPutStrip', WHERE WHAT IT READS IS OF BULK AT MOST 1048576: true; the input reads as it did. -/
def fnExactPutStripUptoRow : OpenClaim := { program := "ytofljefeimmabaa", sum := "892ded03a0f8cdaff06b95d9b1c614d9e73728c868e9fd816fb82677633e9ee4", func := "loop.example/g03305/laws.FnExactPutStrip", spec := "fnExactPutStrip", inPlace := ["slices.overlaps[string]"], apart := false, narrowed := true }
def FnExactPutStripUptoSaid : Prop := fnExactPutStripUptoRow.holds Try.pinned (OpenSpec.upto fnExactPutStripSpec)

/-- 'laws.FnExactCutStrip', WHERE WHAT IT READS IS OF BULK AT MOST 1048576: true; the input reads as it did. -/
def fnExactCutStripUptoRow : OpenClaim := { program := "ytofljefeimmabaa", sum := "892ded03a0f8cdaff06b95d9b1c614d9e73728c868e9fd816fb82677633e9ee4", func := "loop.example/g03305/laws.FnExactCutStrip", spec := "fnExactCutStrip", inPlace := ["slices.overlaps[string]"], apart := false, narrowed := true }
def FnExactCutStripUptoSaid : Prop := fnExactCutStripUptoRow.holds Try.pinned (OpenSpec.upto fnExactCutStripSpec)

/-- 'laws.FnExactSameCard', WHERE WHAT IT READS IS OF BULK AT MOST 1048576: true; the input reads as it did. -/
def fnExactSameCardUptoRow : OpenClaim := { program := "ytofljefeimmabaa", sum := "892ded03a0f8cdaff06b95d9b1c614d9e73728c868e9fd816fb82677633e9ee4", func := "loop.example/g03305/laws.FnExactSameCard", spec := "fnExactSameCard", apart := false, narrowed := true }
def FnExactSameCardUptoSaid : Prop := fnExactSameCardUptoRow.holds Try.pinned (OpenSpec.upto fnExactSameCardSpec)

/-- 'laws.FnExactSampleCard', WHERE WHAT IT READS IS OF BULK AT MOST 1048576: true; the input reads as it did. -/
def fnExactSampleCardUptoRow : OpenClaim := { program := "ytofljefeimmabaa", sum := "892ded03a0f8cdaff06b95d9b1c614d9e73728c868e9fd816fb82677633e9ee4", func := "loop.example/g03305/laws.FnExactSampleCard", spec := "fnExactSampleCard", apart := false, narrowed := true }
def FnExactSampleCardUptoSaid : Prop := fnExactSampleCardUptoRow.holds Try.pinned (OpenSpec.upto fnExactSampleCardSpec)

end Rows
end Go.Proofs.Ytofljefeimmabaa
