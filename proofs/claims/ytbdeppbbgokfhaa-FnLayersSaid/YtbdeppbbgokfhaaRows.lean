/-
  No cell of these rows narrows 'for every input' (looked for: loops, veiled, ifaces, maps, wideKeys, modest, calm, conditions, laid).
  DERIVED. THE GIVEN ROWS OF THIS SEAT. 9 by the template 'for every input the law returns true; each argument reads behind the call as it read before'; 0 by the template 'total and deterministic' (their statements: YtbdeppbbgokfhaaTotals.lean).
  GIVEN WITH THE SEED: the statements are not yours to turn. If you find one false, say at which input.
  Laid BY PROGRAM, IN A SANDBOX (cutbox-rows.mjs): the forced cells as the released guide's own fill.sh prints them over the translation 7f8b37138c7fdda0… (all of the seat's roots in one cut). By AI agents, Wed Nov 11 2026. No macro, syntax, notation, axiom, sorry.
-/
import Derived.Test.YtbdeppbbgokfhaaChecked
import GoSem.Claim
import GoSem.ClaimJoined
import GoSem.ClaimMapViews
import Derived.JoinedTies
import Derived.KernelRfl
namespace Go.Proofs.Ytbdeppbbgokfhaa
/- THE CELL 'sum', in the pinned program and in every row, IS THE sha256 OF THE DUMP (.gsa) THAT YtbdeppbbgokfhaaProg.lean LOADS. Nothing in Lean hashes anything: it is a label: what it is worth is what the hold of that sum in a sandbox is worth. -/
noncomputable def Try.pinned : Pinned := { name := "ytbdeppbbgokfhaa", sum := "7f8b37138c7fdda0ec3248c59fcab857125c01844100236d323f6e242f9362c9", checked := Try.checked }
namespace Rows
def none {H : Type} : Left H := { results := [], args := [] }

/-- 'laws.FnViews': WHATEVER THE INPUT: true; the input reads as it did. -/
def fnViewsSpec : ChangeSpec := { name := "fnViews", fn := fun _ => fun
  | [d] => { results := [.lit (.bool true)], args := [d] }
  | _ => none }
def fnViewsRow : OpenClaim := { program := "ytbdeppbbgokfhaa", sum := "7f8b37138c7fdda0ec3248c59fcab857125c01844100236d323f6e242f9362c9", func := "loop.example/g03305/laws.FnViews", spec := "fnViews", inPlace := ["internal/abi.NoEscape", "internal/bytealg.MakeNoZero"], unfollowed := true, recurses := true, apart := false }
def FnViewsSaid : Prop := fnViewsRow.holds Try.pinned (OpenSpec.ofChange fnViewsSpec)

/-- ITS FALSE NEIGHBOUR: 'it returns false'. Refute it at one input. -/
def fnViewsWrong : ChangeSpec := { name := "fnViews", fn := fun _ => fun
  | [d] => { results := [.lit (.bool false)], args := [d] }
  | _ => none }
def FnViewsWrongFalsely : Prop := fnViewsRow.holds Try.pinned (OpenSpec.ofChange fnViewsWrong)

/-- 'laws.FnLayers': WHATEVER THE INPUT: true; the input reads as it did. -/
def fnLayersSpec : ChangeSpec := { name := "fnLayers", fn := fun _ => fun
  | [d] => { results := [.lit (.bool true)], args := [d] }
  | _ => none }
def fnLayersRow : OpenClaim := { program := "ytbdeppbbgokfhaa", sum := "7f8b37138c7fdda0ec3248c59fcab857125c01844100236d323f6e242f9362c9", func := "loop.example/g03305/laws.FnLayers", spec := "fnLayers", unfollowed := true, recurses := true, apart := false }
def FnLayersSaid : Prop := fnLayersRow.holds Try.pinned (OpenSpec.ofChange fnLayersSpec)

/-- ITS FALSE NEIGHBOUR: 'it returns false'. Refute it at one input. -/
def fnLayersWrong : ChangeSpec := { name := "fnLayers", fn := fun _ => fun
  | [d] => { results := [.lit (.bool false)], args := [d] }
  | _ => none }
def FnLayersWrongFalsely : Prop := fnLayersRow.holds Try.pinned (OpenSpec.ofChange fnLayersWrong)

/-- 'laws.FnExactTopView': WHATEVER THE INPUT: true; the input reads as it did. -/
def fnExactTopViewSpec : ChangeSpec := { name := "fnExactTopView", fn := fun _ => fun
  | [d] => { results := [.lit (.bool true)], args := [d] }
  | _ => none }
def fnExactTopViewRow : OpenClaim := { program := "ytbdeppbbgokfhaa", sum := "7f8b37138c7fdda0ec3248c59fcab857125c01844100236d323f6e242f9362c9", func := "loop.example/g03305/laws.FnExactTopView", spec := "fnExactTopView", unfollowed := true, recurses := true, apart := false }
def FnExactTopViewSaid : Prop := fnExactTopViewRow.holds Try.pinned (OpenSpec.ofChange fnExactTopViewSpec)

/-- ITS FALSE NEIGHBOUR: 'it returns false'. Refute it at one input. -/
def fnExactTopViewWrong : ChangeSpec := { name := "fnExactTopView", fn := fun _ => fun
  | [d] => { results := [.lit (.bool false)], args := [d] }
  | _ => none }
def FnExactTopViewWrongFalsely : Prop := fnExactTopViewRow.holds Try.pinned (OpenSpec.ofChange fnExactTopViewWrong)

/-- 'laws.FnExactFrontView': WHATEVER THE INPUT: true; the input reads as it did. -/
def fnExactFrontViewSpec : ChangeSpec := { name := "fnExactFrontView", fn := fun _ => fun
  | [d] => { results := [.lit (.bool true)], args := [d] }
  | _ => none }
def fnExactFrontViewRow : OpenClaim := { program := "ytbdeppbbgokfhaa", sum := "7f8b37138c7fdda0ec3248c59fcab857125c01844100236d323f6e242f9362c9", func := "loop.example/g03305/laws.FnExactFrontView", spec := "fnExactFrontView", unfollowed := true, recurses := true, apart := false }
def FnExactFrontViewSaid : Prop := fnExactFrontViewRow.holds Try.pinned (OpenSpec.ofChange fnExactFrontViewSpec)

/-- ITS FALSE NEIGHBOUR: 'it returns false'. Refute it at one input. -/
def fnExactFrontViewWrong : ChangeSpec := { name := "fnExactFrontView", fn := fun _ => fun
  | [d] => { results := [.lit (.bool false)], args := [d] }
  | _ => none }
def FnExactFrontViewWrongFalsely : Prop := fnExactFrontViewRow.holds Try.pinned (OpenSpec.ofChange fnExactFrontViewWrong)

/-- 'laws.FnExactLayersOf': WHATEVER THE INPUT: true; the input reads as it did. -/
def fnExactLayersOfSpec : ChangeSpec := { name := "fnExactLayersOf", fn := fun _ => fun
  | [d] => { results := [.lit (.bool true)], args := [d] }
  | _ => none }
def fnExactLayersOfRow : OpenClaim := { program := "ytbdeppbbgokfhaa", sum := "7f8b37138c7fdda0ec3248c59fcab857125c01844100236d323f6e242f9362c9", func := "loop.example/g03305/laws.FnExactLayersOf", spec := "fnExactLayersOf", apart := false }
def FnExactLayersOfSaid : Prop := fnExactLayersOfRow.holds Try.pinned (OpenSpec.ofChange fnExactLayersOfSpec)

/-- ITS FALSE NEIGHBOUR: 'it returns false'. Refute it at one input. -/
def fnExactLayersOfWrong : ChangeSpec := { name := "fnExactLayersOf", fn := fun _ => fun
  | [d] => { results := [.lit (.bool false)], args := [d] }
  | _ => none }
def FnExactLayersOfWrongFalsely : Prop := fnExactLayersOfRow.holds Try.pinned (OpenSpec.ofChange fnExactLayersOfWrong)

/-- 'laws.FnExactThickestOf': WHATEVER THE INPUT: true; the input reads as it did. -/
def fnExactThickestOfSpec : ChangeSpec := { name := "fnExactThickestOf", fn := fun _ => fun
  | [d] => { results := [.lit (.bool true)], args := [d] }
  | _ => none }
def fnExactThickestOfRow : OpenClaim := { program := "ytbdeppbbgokfhaa", sum := "7f8b37138c7fdda0ec3248c59fcab857125c01844100236d323f6e242f9362c9", func := "loop.example/g03305/laws.FnExactThickestOf", spec := "fnExactThickestOf", apart := false }
def FnExactThickestOfSaid : Prop := fnExactThickestOfRow.holds Try.pinned (OpenSpec.ofChange fnExactThickestOfSpec)

/-- ITS FALSE NEIGHBOUR: 'it returns false'. Refute it at one input. -/
def fnExactThickestOfWrong : ChangeSpec := { name := "fnExactThickestOf", fn := fun _ => fun
  | [d] => { results := [.lit (.bool false)], args := [d] }
  | _ => none }
def FnExactThickestOfWrongFalsely : Prop := fnExactThickestOfRow.holds Try.pinned (OpenSpec.ofChange fnExactThickestOfWrong)

/-- 'laws.FnExactLayerTable': WHATEVER THE INPUT: true; the input reads as it did. -/
def fnExactLayerTableSpec : ChangeSpec := { name := "fnExactLayerTable", fn := fun _ => fun
  | [d] => { results := [.lit (.bool true)], args := [d] }
  | _ => none }
def fnExactLayerTableRow : OpenClaim := { program := "ytbdeppbbgokfhaa", sum := "7f8b37138c7fdda0ec3248c59fcab857125c01844100236d323f6e242f9362c9", func := "loop.example/g03305/laws.FnExactLayerTable", spec := "fnExactLayerTable", unfollowed := true, recurses := true, apart := false }
def FnExactLayerTableSaid : Prop := fnExactLayerTableRow.holds Try.pinned (OpenSpec.ofChange fnExactLayerTableSpec)

/-- ITS FALSE NEIGHBOUR: 'it returns false'. Refute it at one input. -/
def fnExactLayerTableWrong : ChangeSpec := { name := "fnExactLayerTable", fn := fun _ => fun
  | [d] => { results := [.lit (.bool false)], args := [d] }
  | _ => none }
def FnExactLayerTableWrongFalsely : Prop := fnExactLayerTableRow.holds Try.pinned (OpenSpec.ofChange fnExactLayerTableWrong)

/-- 'laws.FnExactThickness': WHATEVER THE INPUT: true; the input reads as it did. -/
def fnExactThicknessSpec : ChangeSpec := { name := "fnExactThickness", fn := fun _ => fun
  | [d1, d2] => { results := [.lit (.bool true)], args := [d1, d2] }
  | _ => none }
def fnExactThicknessRow : OpenClaim := { program := "ytbdeppbbgokfhaa", sum := "7f8b37138c7fdda0ec3248c59fcab857125c01844100236d323f6e242f9362c9", func := "loop.example/g03305/laws.FnExactThickness", spec := "fnExactThickness", apart := false }
def FnExactThicknessSaid : Prop := fnExactThicknessRow.holds Try.pinned (OpenSpec.ofChange fnExactThicknessSpec)

/-- ITS FALSE NEIGHBOUR: 'it returns false'. Refute it at one input. -/
def fnExactThicknessWrong : ChangeSpec := { name := "fnExactThickness", fn := fun _ => fun
  | [d1, d2] => { results := [.lit (.bool false)], args := [d1, d2] }
  | _ => none }
def FnExactThicknessWrongFalsely : Prop := fnExactThicknessRow.holds Try.pinned (OpenSpec.ofChange fnExactThicknessWrong)

/-- 'laws.FnExactFreePart': WHATEVER THE INPUT: true; the input reads as it did. -/
def fnExactFreePartSpec : ChangeSpec := { name := "fnExactFreePart", fn := fun _ => fun
  | [d] => { results := [.lit (.bool true)], args := [d] }
  | _ => none }
def fnExactFreePartRow : OpenClaim := { program := "ytbdeppbbgokfhaa", sum := "7f8b37138c7fdda0ec3248c59fcab857125c01844100236d323f6e242f9362c9", func := "loop.example/g03305/laws.FnExactFreePart", spec := "fnExactFreePart", apart := false }
def FnExactFreePartSaid : Prop := fnExactFreePartRow.holds Try.pinned (OpenSpec.ofChange fnExactFreePartSpec)

/-- ITS FALSE NEIGHBOUR: 'it returns false'. Refute it at one input. -/
def fnExactFreePartWrong : ChangeSpec := { name := "fnExactFreePart", fn := fun _ => fun
  | [d] => { results := [.lit (.bool false)], args := [d] }
  | _ => none }
def FnExactFreePartWrongFalsely : Prop := fnExactFreePartRow.holds Try.pinned (OpenSpec.ofChange fnExactFreePartWrong)

/- THE SECOND FORM. 'bulk': how many values and letters a reading holds, each counted each time it is reached (what is shared counts as often as it is met; a slice's spare places count too). A statement '..UptoSaid' is the law's where the arguments, and the package variables that the reading takes, are together of bulk at most 1048576: NARROWER than '..Said'. Prove '..Said' where nothing that the law and all that it calls make is longer than what came in: it says more and counts as full. Else prove '..UptoSaid'. A law counts once. -/
mutual
def uptoBulk {H : Type} : DataW H → Nat
  | .lit (.string bytes) => bytes.length + 1
  | .lit _ => 1
  | .nil => 1
  | .ptr d => uptoBulk d + 1
  | .slice elems spare => uptoBulkAll elems + uptoBulkAll spare + 1
  | .agg parts => uptoBulkAll parts + 1
  | .iface _ d => uptoBulk d + 1
  | .map entries => uptoBulkEntries entries + 1
  | .held _ => 1
def uptoBulkAll {H : Type} : List (DataW H) → Nat
  | [] => 0
  | d :: r => uptoBulk d + uptoBulkAll r
def uptoBulkEntries {H : Type} : List (Lit × DataW H) → Nat
  | [] => 0
  | x :: r => uptoBulkEntry x + uptoBulkEntries r
def uptoBulkEntry {H : Type} : Lit × DataW H → Nat
  | (.string bytes, d) => bytes.length + uptoBulk d + 1
  | (_, d) => uptoBulk d + 1
 end
def uptoSmall : (H : Type) → List (DataW H) → Bool := fun _ ds => decide (uptoBulkAll ds ≤ 1048576)
def OpenSpec.upto (s : _root_.Go.ChangeSpec) : _root_.Go.OpenSpec := { _root_.Go.OpenSpec.ofChange s with cond := some uptoSmall }

/-- 'laws.FnViews', WHERE WHAT IT READS IS OF BULK AT MOST 1048576: true; the input reads as it did. -/
def fnViewsUptoRow : OpenClaim := { program := "ytbdeppbbgokfhaa", sum := "7f8b37138c7fdda0ec3248c59fcab857125c01844100236d323f6e242f9362c9", func := "loop.example/g03305/laws.FnViews", spec := "fnViews", inPlace := ["internal/abi.NoEscape", "internal/bytealg.MakeNoZero"], unfollowed := true, recurses := true, apart := false, narrowed := true }
def FnViewsUptoSaid : Prop := fnViewsUptoRow.holds Try.pinned (OpenSpec.upto fnViewsSpec)

/-- 'laws.FnLayers', WHERE WHAT IT READS IS OF BULK AT MOST 1048576: true; the input reads as it did. -/
def fnLayersUptoRow : OpenClaim := { program := "ytbdeppbbgokfhaa", sum := "7f8b37138c7fdda0ec3248c59fcab857125c01844100236d323f6e242f9362c9", func := "loop.example/g03305/laws.FnLayers", spec := "fnLayers", unfollowed := true, recurses := true, apart := false, narrowed := true }
def FnLayersUptoSaid : Prop := fnLayersUptoRow.holds Try.pinned (OpenSpec.upto fnLayersSpec)

/-- 'laws.FnExactTopView', WHERE WHAT IT READS IS OF BULK AT MOST 1048576: true; the input reads as it did. -/
def fnExactTopViewUptoRow : OpenClaim := { program := "ytbdeppbbgokfhaa", sum := "7f8b37138c7fdda0ec3248c59fcab857125c01844100236d323f6e242f9362c9", func := "loop.example/g03305/laws.FnExactTopView", spec := "fnExactTopView", unfollowed := true, recurses := true, apart := false, narrowed := true }
def FnExactTopViewUptoSaid : Prop := fnExactTopViewUptoRow.holds Try.pinned (OpenSpec.upto fnExactTopViewSpec)

/-- 'laws.FnExactFrontView', WHERE WHAT IT READS IS OF BULK AT MOST 1048576: true; the input reads as it did. -/
def fnExactFrontViewUptoRow : OpenClaim := { program := "ytbdeppbbgokfhaa", sum := "7f8b37138c7fdda0ec3248c59fcab857125c01844100236d323f6e242f9362c9", func := "loop.example/g03305/laws.FnExactFrontView", spec := "fnExactFrontView", unfollowed := true, recurses := true, apart := false, narrowed := true }
def FnExactFrontViewUptoSaid : Prop := fnExactFrontViewUptoRow.holds Try.pinned (OpenSpec.upto fnExactFrontViewSpec)

/-- 'laws.FnExactLayersOf', WHERE WHAT IT READS IS OF BULK AT MOST 1048576: true; the input reads as it did. -/
def fnExactLayersOfUptoRow : OpenClaim := { program := "ytbdeppbbgokfhaa", sum := "7f8b37138c7fdda0ec3248c59fcab857125c01844100236d323f6e242f9362c9", func := "loop.example/g03305/laws.FnExactLayersOf", spec := "fnExactLayersOf", apart := false, narrowed := true }
def FnExactLayersOfUptoSaid : Prop := fnExactLayersOfUptoRow.holds Try.pinned (OpenSpec.upto fnExactLayersOfSpec)

/-- 'laws.FnExactThickestOf', WHERE WHAT IT READS IS OF BULK AT MOST 1048576: true; the input reads as it did. -/
def fnExactThickestOfUptoRow : OpenClaim := { program := "ytbdeppbbgokfhaa", sum := "7f8b37138c7fdda0ec3248c59fcab857125c01844100236d323f6e242f9362c9", func := "loop.example/g03305/laws.FnExactThickestOf", spec := "fnExactThickestOf", apart := false, narrowed := true }
def FnExactThickestOfUptoSaid : Prop := fnExactThickestOfUptoRow.holds Try.pinned (OpenSpec.upto fnExactThickestOfSpec)

/-- 'laws.FnExactLayerTable', WHERE WHAT IT READS IS OF BULK AT MOST 1048576: true; the input reads as it did. -/
def fnExactLayerTableUptoRow : OpenClaim := { program := "ytbdeppbbgokfhaa", sum := "7f8b37138c7fdda0ec3248c59fcab857125c01844100236d323f6e242f9362c9", func := "loop.example/g03305/laws.FnExactLayerTable", spec := "fnExactLayerTable", unfollowed := true, recurses := true, apart := false, narrowed := true }
def FnExactLayerTableUptoSaid : Prop := fnExactLayerTableUptoRow.holds Try.pinned (OpenSpec.upto fnExactLayerTableSpec)

/-- 'laws.FnExactThickness', WHERE WHAT IT READS IS OF BULK AT MOST 1048576: true; the input reads as it did. -/
def fnExactThicknessUptoRow : OpenClaim := { program := "ytbdeppbbgokfhaa", sum := "7f8b37138c7fdda0ec3248c59fcab857125c01844100236d323f6e242f9362c9", func := "loop.example/g03305/laws.FnExactThickness", spec := "fnExactThickness", apart := false, narrowed := true }
def FnExactThicknessUptoSaid : Prop := fnExactThicknessUptoRow.holds Try.pinned (OpenSpec.upto fnExactThicknessSpec)

/-- 'laws.FnExactFreePart', WHERE WHAT IT READS IS OF BULK AT MOST 1048576: true; the input reads as it did. -/
def fnExactFreePartUptoRow : OpenClaim := { program := "ytbdeppbbgokfhaa", sum := "7f8b37138c7fdda0ec3248c59fcab857125c01844100236d323f6e242f9362c9", func := "loop.example/g03305/laws.FnExactFreePart", spec := "fnExactFreePart", apart := false, narrowed := true }
def FnExactFreePartUptoSaid : Prop := fnExactFreePartUptoRow.holds Try.pinned (OpenSpec.upto fnExactFreePartSpec)

end Rows
end Go.Proofs.Ytbdeppbbgokfhaa
