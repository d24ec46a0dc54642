/-
  No cell of these rows narrows 'for every input' (looked for: loops, veiled, ifaces, maps, wideKeys, modest, calm, conditions, laid).
  DERIVED. THE GIVEN ROWS OF THIS SEAT. 6 by the template 'for every input the law returns true; each argument reads behind the call as it read before'; 0 by the template 'total and deterministic' (their statements: YtmjknjgfcngacaaTotals.lean).
  GIVEN WITH THE SEED: the statements are not yours to turn. If you find one false, say at which input.
  Laid BY PROGRAM, IN A SANDBOX (cutbox-rows.mjs): the forced cells as the released guide's own fill.sh prints them over the translation 8b36126d6ac270c1… (all of the seat's roots in one cut). By AI agents, Wed Nov 11 2026. No macro, syntax, notation, axiom, sorry.
-/
import Derived.Test.YtmjknjgfcngacaaChecked
import GoSem.Claim
import GoSem.ClaimJoined
import GoSem.ClaimMapViews
import Derived.JoinedTies
import Derived.KernelRfl
namespace Go.Proofs.Ytmjknjgfcngacaa
/- THE CELL 'sum', in the pinned program and in every row, IS THE sha256 OF THE DUMP (.gsa) THAT YtmjknjgfcngacaaProg.lean LOADS. Nothing in Lean hashes anything: it is a label: what it is worth is what the hold of that sum in a sandbox is worth. -/
noncomputable def Try.pinned : Pinned := { name := "ytmjknjgfcngacaa", sum := "8b36126d6ac270c13d1a75565f1ffa8fa7fc092f7af0948eaf6d0c7896845066", checked := Try.checked }
namespace Rows
def none {H : Type} : Left H := { results := [], args := [] }

/-- 'laws.FnSliders': WHATEVER THE INPUT: true; the input reads as it did. -/
def fnSlidersSpec : ChangeSpec := { name := "fnSliders", fn := fun _ => fun
  | [d] => { results := [.lit (.bool true)], args := [d] }
  | _ => none }
def fnSlidersRow : OpenClaim := { program := "ytmjknjgfcngacaa", sum := "8b36126d6ac270c13d1a75565f1ffa8fa7fc092f7af0948eaf6d0c7896845066", func := "loop.example/g03305/laws.FnSliders", spec := "fnSliders", apart := false }
def FnSlidersSaid : Prop := fnSlidersRow.holds Try.pinned (OpenSpec.ofChange fnSlidersSpec)

/-- ITS FALSE NEIGHBOUR: 'it returns false'. Refute it at one input. -/
def fnSlidersWrong : ChangeSpec := { name := "fnSliders", fn := fun _ => fun
  | [d] => { results := [.lit (.bool false)], args := [d] }
  | _ => none }
def FnSlidersWrongFalsely : Prop := fnSlidersRow.holds Try.pinned (OpenSpec.ofChange fnSlidersWrong)

/-- 'laws.FnExactSliderOk': WHATEVER THE INPUT: true; the input reads as it did. -/
def fnExactSliderOkSpec : ChangeSpec := { name := "fnExactSliderOk", fn := fun _ => fun
  | [d] => { results := [.lit (.bool true)], args := [d] }
  | _ => none }
def fnExactSliderOkRow : OpenClaim := { program := "ytmjknjgfcngacaa", sum := "8b36126d6ac270c13d1a75565f1ffa8fa7fc092f7af0948eaf6d0c7896845066", func := "loop.example/g03305/laws.FnExactSliderOk", spec := "fnExactSliderOk", apart := false }
def FnExactSliderOkSaid : Prop := fnExactSliderOkRow.holds Try.pinned (OpenSpec.ofChange fnExactSliderOkSpec)

/-- ITS FALSE NEIGHBOUR: 'it returns false'. Refute it at one input. -/
def fnExactSliderOkWrong : ChangeSpec := { name := "fnExactSliderOk", fn := fun _ => fun
  | [d] => { results := [.lit (.bool false)], args := [d] }
  | _ => none }
def FnExactSliderOkWrongFalsely : Prop := fnExactSliderOkRow.holds Try.pinned (OpenSpec.ofChange fnExactSliderOkWrong)

/-- 'laws.FnExactPullSlider': WHATEVER THE INPUT: true; the input reads as it did. -/
def fnExactPullSliderSpec : ChangeSpec := { name := "fnExactPullSlider", fn := fun _ => fun
  | [d1, d2] => { results := [.lit (.bool true)], args := [d1, d2] }
  | _ => none }
def fnExactPullSliderRow : OpenClaim := { program := "ytmjknjgfcngacaa", sum := "8b36126d6ac270c13d1a75565f1ffa8fa7fc092f7af0948eaf6d0c7896845066", func := "loop.example/g03305/laws.FnExactPullSlider", spec := "fnExactPullSlider", apart := false }
def FnExactPullSliderSaid : Prop := fnExactPullSliderRow.holds Try.pinned (OpenSpec.ofChange fnExactPullSliderSpec)

/-- ITS FALSE NEIGHBOUR: 'it returns false'. Refute it at one input. -/
def fnExactPullSliderWrong : ChangeSpec := { name := "fnExactPullSlider", fn := fun _ => fun
  | [d1, d2] => { results := [.lit (.bool false)], args := [d1, d2] }
  | _ => none }
def FnExactPullSliderWrongFalsely : Prop := fnExactPullSliderRow.holds Try.pinned (OpenSpec.ofChange fnExactPullSliderWrong)

/-- 'laws.FnExactLinksOk': WHATEVER THE INPUT: true; the input reads as it did. -/
def fnExactLinksOkSpec : ChangeSpec := { name := "fnExactLinksOk", fn := fun _ => fun
  | [d1, d2] => { results := [.lit (.bool true)], args := [d1, d2] }
  | _ => none }
def fnExactLinksOkRow : OpenClaim := { program := "ytmjknjgfcngacaa", sum := "8b36126d6ac270c13d1a75565f1ffa8fa7fc092f7af0948eaf6d0c7896845066", func := "loop.example/g03305/laws.FnExactLinksOk", spec := "fnExactLinksOk", apart := false }
def FnExactLinksOkSaid : Prop := fnExactLinksOkRow.holds Try.pinned (OpenSpec.ofChange fnExactLinksOkSpec)

/-- ITS FALSE NEIGHBOUR: 'it returns false'. Refute it at one input. -/
def fnExactLinksOkWrong : ChangeSpec := { name := "fnExactLinksOk", fn := fun _ => fun
  | [d1, d2] => { results := [.lit (.bool false)], args := [d1, d2] }
  | _ => none }
def FnExactLinksOkWrongFalsely : Prop := fnExactLinksOkRow.holds Try.pinned (OpenSpec.ofChange fnExactLinksOkWrong)

/-- 'laws.FnExactPullAll': WHATEVER THE INPUT: true; the input reads as it did. -/
def fnExactPullAllSpec : ChangeSpec := { name := "fnExactPullAll", fn := fun _ => fun
  | [d1, d2, d3, d4] => { results := [.lit (.bool true)], args := [d1, d2, d3, d4] }
  | _ => none }
def fnExactPullAllRow : OpenClaim := { program := "ytmjknjgfcngacaa", sum := "8b36126d6ac270c13d1a75565f1ffa8fa7fc092f7af0948eaf6d0c7896845066", func := "loop.example/g03305/laws.FnExactPullAll", spec := "fnExactPullAll", apart := false }
def FnExactPullAllSaid : Prop := fnExactPullAllRow.holds Try.pinned (OpenSpec.ofChange fnExactPullAllSpec)

/-- ITS FALSE NEIGHBOUR: 'it returns false'. Refute it at one input. -/
def fnExactPullAllWrong : ChangeSpec := { name := "fnExactPullAll", fn := fun _ => fun
  | [d1, d2, d3, d4] => { results := [.lit (.bool false)], args := [d1, d2, d3, d4] }
  | _ => none }
def FnExactPullAllWrongFalsely : Prop := fnExactPullAllRow.holds Try.pinned (OpenSpec.ofChange fnExactPullAllWrong)

/-- 'laws.FnExactIsSpent': WHATEVER THE INPUT: true; the input reads as it did. -/
def fnExactIsSpentSpec : ChangeSpec := { name := "fnExactIsSpent", fn := fun _ => fun
  | [d] => { results := [.lit (.bool true)], args := [d] }
  | _ => none }
def fnExactIsSpentRow : OpenClaim := { program := "ytmjknjgfcngacaa", sum := "8b36126d6ac270c13d1a75565f1ffa8fa7fc092f7af0948eaf6d0c7896845066", func := "loop.example/g03305/laws.FnExactIsSpent", spec := "fnExactIsSpent", apart := false }
def FnExactIsSpentSaid : Prop := fnExactIsSpentRow.holds Try.pinned (OpenSpec.ofChange fnExactIsSpentSpec)

/-- ITS FALSE NEIGHBOUR: 'it returns false'. Refute it at one input. -/
def fnExactIsSpentWrong : ChangeSpec := { name := "fnExactIsSpent", fn := fun _ => fun
  | [d] => { results := [.lit (.bool false)], args := [d] }
  | _ => none }
def FnExactIsSpentWrongFalsely : Prop := fnExactIsSpentRow.holds Try.pinned (OpenSpec.ofChange fnExactIsSpentWrong)

/- THE SECOND FORM. 'bulk': how many values and letters a reading holds, each counted each time it is reached (what is shared counts as often as it is met; a slice's spare places count too). A statement '..UptoSaid' is the law's where the arguments, and the package variables that the reading takes, are together of bulk at most 1048576: NARROWER than '..Said'. Prove '..Said' where nothing that the law and all that it calls make is longer than what came in: it says more and counts as full. Else prove '..UptoSaid'. A law counts once. -/
mutual
def uptoBulk {H : Type} : DataW H → Nat
  | .lit (.string bytes) => bytes.length + 1
  | .lit _ => 1
  | .nil => 1
  | .ptr d => uptoBulk d + 1
  | .slice elems spare => uptoBulkAll elems + uptoBulkAll spare + 1
  | .agg parts => uptoBulkAll parts + 1
  | .iface _ d => uptoBulk d + 1
  | .map entries => uptoBulkEntries entries + 1
  | .held _ => 1
def uptoBulkAll {H : Type} : List (DataW H) → Nat
  | [] => 0
  | d :: r => uptoBulk d + uptoBulkAll r
def uptoBulkEntries {H : Type} : List (Lit × DataW H) → Nat
  | [] => 0
  | x :: r => uptoBulkEntry x + uptoBulkEntries r
def uptoBulkEntry {H : Type} : Lit × DataW H → Nat
  | (.string bytes, d) => bytes.length + uptoBulk d + 1
  | (_, d) => uptoBulk d + 1
 end
def uptoSmall : (H : Type) → List (DataW H) → Bool := fun _ ds => decide (uptoBulkAll ds ≤ 1048576)
def OpenSpec.upto (s : _root_.Go.ChangeSpec) : _root_.Go.OpenSpec := { _root_.Go.OpenSpec.ofChange s with cond := some uptoSmall }

/-- 'laws.FnSliders', WHERE WHAT IT READS IS OF BULK AT MOST 1048576: true; the input reads as it did. -/
def fnSlidersUptoRow : OpenClaim := { program := "ytmjknjgfcngacaa", sum := "8b36126d6ac270c13d1a75565f1ffa8fa7fc092f7af0948eaf6d0c7896845066", func := "loop.example/g03305/laws.FnSliders", spec := "fnSliders", apart := false, narrowed := true }
def FnSlidersUptoSaid : Prop := fnSlidersUptoRow.holds Try.pinned (OpenSpec.upto fnSlidersSpec)

/-- 'laws.FnExactSliderOk', WHERE WHAT IT READS IS OF BULK AT MOST 1048576: true; the input reads as it did. -/
def fnExactSliderOkUptoRow : OpenClaim := { program := "ytmjknjgfcngacaa", sum := "8b36126d6ac270c13d1a75565f1ffa8fa7fc092f7af0948eaf6d0c7896845066", func := "loop.example/g03305/laws.FnExactSliderOk", spec := "fnExactSliderOk", apart := false, narrowed := true }
def FnExactSliderOkUptoSaid : Prop := fnExactSliderOkUptoRow.holds Try.pinned (OpenSpec.upto fnExactSliderOkSpec)

/-- 'laws.FnExactPullSlider', WHERE WHAT IT READS IS OF BULK AT MOST 1048576: true; the input reads as it did. -/
def fnExactPullSliderUptoRow : OpenClaim := { program := "ytmjknjgfcngacaa", sum := "8b36126d6ac270c13d1a75565f1ffa8fa7fc092f7af0948eaf6d0c7896845066", func := "loop.example/g03305/laws.FnExactPullSlider", spec := "fnExactPullSlider", apart := false, narrowed := true }
def FnExactPullSliderUptoSaid : Prop := fnExactPullSliderUptoRow.holds Try.pinned (OpenSpec.upto fnExactPullSliderSpec)

/-- 'laws.FnExactLinksOk', WHERE WHAT IT READS IS OF BULK AT MOST 1048576: true; the input reads as it did. -/
def fnExactLinksOkUptoRow : OpenClaim := { program := "ytmjknjgfcngacaa", sum := "8b36126d6ac270c13d1a75565f1ffa8fa7fc092f7af0948eaf6d0c7896845066", func := "loop.example/g03305/laws.FnExactLinksOk", spec := "fnExactLinksOk", apart := false, narrowed := true }
def FnExactLinksOkUptoSaid : Prop := fnExactLinksOkUptoRow.holds Try.pinned (OpenSpec.upto fnExactLinksOkSpec)

/-- 'laws.FnExactPullAll', WHERE WHAT IT READS IS OF BULK AT MOST 1048576: true; the input reads as it did. -/
def fnExactPullAllUptoRow : OpenClaim := { program := "ytmjknjgfcngacaa", sum := "8b36126d6ac270c13d1a75565f1ffa8fa7fc092f7af0948eaf6d0c7896845066", func := "loop.example/g03305/laws.FnExactPullAll", spec := "fnExactPullAll", apart := false, narrowed := true }
def FnExactPullAllUptoSaid : Prop := fnExactPullAllUptoRow.holds Try.pinned (OpenSpec.upto fnExactPullAllSpec)

/-- 'laws.FnExactIsSpent', WHERE WHAT IT READS IS OF BULK AT MOST 1048576: true; the input reads as it did. -/
def fnExactIsSpentUptoRow : OpenClaim := { program := "ytmjknjgfcngacaa", sum := "8b36126d6ac270c13d1a75565f1ffa8fa7fc092f7af0948eaf6d0c7896845066", func := "loop.example/g03305/laws.FnExactIsSpent", spec := "fnExactIsSpent", apart := false, narrowed := true }
def FnExactIsSpentUptoSaid : Prop := fnExactIsSpentUptoRow.holds Try.pinned (OpenSpec.upto fnExactIsSpentSpec)

end Rows
end Go.Proofs.Ytmjknjgfcngacaa
