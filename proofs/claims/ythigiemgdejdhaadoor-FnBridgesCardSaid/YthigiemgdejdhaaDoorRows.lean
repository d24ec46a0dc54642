/-
  NARROWER THAN 'FOR EVERY INPUT', by the rows' own cells (each row's printed sentence says how): FnBridges: ifaces, laid · FnExactBridgeOk: ifaces, laid · FnExactBridgedStrip: ifaces, laid · FnExactRoomBetween: ifaces, laid · FnExactIsLoose: ifaces, laid.
  DERIVED. THE GIVEN ROWS OF THIS SEAT. 5 by the template 'for every input the law returns true; each argument reads behind the call as it read before'; 0 by the template 'total and deterministic' (their statements: YthigiemgdejdhaaDoorTotals.lean).
  GIVEN WITH THE SEED: the statements are not yours to turn. If you find one false, say at which input.
  Laid BY PROGRAM, IN A SANDBOX (cutbox-rows.mjs): the forced cells as the released guide's own fill.sh prints them over the translation 7825ed41eac2e4c4… (all of the seat's roots in one cut). By AI agents, Wed Nov 11 2026. No macro, syntax, notation, axiom, sorry.
-/
import Derived.Test.YthigiemgdejdhaaDoorChecked
import GoSem.Claim
import GoSem.ClaimJoined
import GoSem.ClaimMapViews
import Derived.JoinedTies
import Derived.KernelRfl
namespace Go.Proofs.YthigiemgdejdhaaDoor
/- THE CELL 'sum', in the pinned program and in every row, IS THE sha256 OF THE DUMP (.gsa) THAT YthigiemgdejdhaaDoorProg.lean LOADS. Nothing in Lean hashes anything: it is a label: what it is worth is what the hold of that sum in a sandbox is worth. -/
noncomputable def Tryd.pinned : Pinned := { name := "ythigiemgdejdhaadoor", sum := "7825ed41eac2e4c470254b8ddaa0cb47910e384202fa5bc0ec96bb4080abdbd4", checked := Tryd.checked }
namespace Rows
def none {H : Type} : Left H := { results := [], args := [] }

/- WHAT THE LISTED PACKAGE-LEVEL VARIABLES READ AS WHEN THE CALL BEGINS. Each datum BY PROGRAM (the guide's laid-datum.mjs) off the statement by which the dump's own 'gosem.cut.vars' lays the variable. In a bare row this is a premise. The card (YthigiemgdejdhaaDoorCards.lean) ties it to the program's text. -/
def laid_loop_example_g03305_impl_errMisfit {H : Type} : DataW H := .iface "*errors.errorString" (.ptr (.agg [.lit (.string [116, 104, 101, 32, 98, 114, 105, 100, 103, 101, 32, 100, 111, 101, 115, 32, 110, 111, 116, 32, 102, 105, 116])]))

/-- 'laws.FnBridges': WHATEVER THE INPUT: true; the input reads as it did. -/
def fnBridgesSpec : ChangeSpec := { name := "fnBridges", vars := ["loop.example/g03305/impl.errMisfit"], fn := fun _ => fun
  | [d, g1] => { results := [.lit (.bool true)], args := [d], vars := [g1] }
  | _ => none }
def fnBridgesRow : OpenClaim := { program := "ythigiemgdejdhaadoor", sum := "7825ed41eac2e4c470254b8ddaa0cb47910e384202fa5bc0ec96bb4080abdbd4", func := "loop.example/g03305/laws.FnBridges", spec := "fnBridges", inPlace := ["internal/bytealg.CountString", "internal/bytealg.IndexByteString", "internal/bytealg.IndexString", "internal/reflectlite.TypeOf"], unfollowed := true, recurses := true, named := ["loop.example/g03305/impl.errMisfit", "internal/bytealg.MaxLen"], ifaces := true, apart := false, laid := [("loop.example/g03305/impl.errMisfit", laid_loop_example_g03305_impl_errMisfit)] }
def FnBridgesSaid : Prop := fnBridgesRow.holds Tryd.pinned (OpenSpec.ofChange fnBridgesSpec)

/-- ITS FALSE NEIGHBOUR: 'it returns false'. Refute it at one input. -/
def fnBridgesWrong : ChangeSpec := { name := "fnBridges", vars := ["loop.example/g03305/impl.errMisfit"], fn := fun _ => fun
  | [d, g1] => { results := [.lit (.bool false)], args := [d], vars := [g1] }
  | _ => none }
def FnBridgesWrongFalsely : Prop := fnBridgesRow.holds Tryd.pinned (OpenSpec.ofChange fnBridgesWrong)

/-- 'laws.FnExactBridgeOk': WHATEVER THE INPUT: true; the input reads as it did. -/
def fnExactBridgeOkSpec : ChangeSpec := { name := "fnExactBridgeOk", vars := ["loop.example/g03305/impl.errMisfit"], fn := fun _ => fun
  | [d1, d2, g1] => { results := [.lit (.bool true)], args := [d1, d2], vars := [g1] }
  | _ => none }
def fnExactBridgeOkRow : OpenClaim := { program := "ythigiemgdejdhaadoor", sum := "7825ed41eac2e4c470254b8ddaa0cb47910e384202fa5bc0ec96bb4080abdbd4", func := "loop.example/g03305/laws.FnExactBridgeOk", spec := "fnExactBridgeOk", inPlace := ["internal/bytealg.CountString", "internal/bytealg.IndexByteString", "internal/bytealg.IndexString", "internal/reflectlite.TypeOf"], unfollowed := true, recurses := true, named := ["loop.example/g03305/impl.errMisfit", "internal/bytealg.MaxLen"], ifaces := true, apart := false, laid := [("loop.example/g03305/impl.errMisfit", laid_loop_example_g03305_impl_errMisfit)] }
def FnExactBridgeOkSaid : Prop := fnExactBridgeOkRow.holds Tryd.pinned (OpenSpec.ofChange fnExactBridgeOkSpec)

/-- ITS FALSE NEIGHBOUR: 'it returns false'. Refute it at one input. -/
def fnExactBridgeOkWrong : ChangeSpec := { name := "fnExactBridgeOk", vars := ["loop.example/g03305/impl.errMisfit"], fn := fun _ => fun
  | [d1, d2, g1] => { results := [.lit (.bool false)], args := [d1, d2], vars := [g1] }
  | _ => none }
def FnExactBridgeOkWrongFalsely : Prop := fnExactBridgeOkRow.holds Tryd.pinned (OpenSpec.ofChange fnExactBridgeOkWrong)

/-- 'laws.FnExactBridgedStrip': WHATEVER THE INPUT: true; the input reads as it did. -/
def fnExactBridgedStripSpec : ChangeSpec := { name := "fnExactBridgedStrip", vars := ["loop.example/g03305/impl.errMisfit"], fn := fun _ => fun
  | [d1, d2, g1] => { results := [.lit (.bool true)], args := [d1, d2], vars := [g1] }
  | _ => none }
def fnExactBridgedStripRow : OpenClaim := { program := "ythigiemgdejdhaadoor", sum := "7825ed41eac2e4c470254b8ddaa0cb47910e384202fa5bc0ec96bb4080abdbd4", func := "loop.example/g03305/laws.FnExactBridgedStrip", spec := "fnExactBridgedStrip", inPlace := ["internal/bytealg.CountString", "internal/bytealg.IndexByteString", "internal/bytealg.IndexString"], unfollowed := true, recurses := true, named := ["loop.example/g03305/impl.errMisfit", "internal/bytealg.MaxLen"], ifaces := true, apart := false, laid := [("loop.example/g03305/impl.errMisfit", laid_loop_example_g03305_impl_errMisfit)] }
def FnExactBridgedStripSaid : Prop := fnExactBridgedStripRow.holds Tryd.pinned (OpenSpec.ofChange fnExactBridgedStripSpec)

/-- ITS FALSE NEIGHBOUR: 'it returns false'. Refute it at one input. -/
def fnExactBridgedStripWrong : ChangeSpec := { name := "fnExactBridgedStrip", vars := ["loop.example/g03305/impl.errMisfit"], fn := fun _ => fun
  | [d1, d2, g1] => { results := [.lit (.bool false)], args := [d1, d2], vars := [g1] }
  | _ => none }
def FnExactBridgedStripWrongFalsely : Prop := fnExactBridgedStripRow.holds Tryd.pinned (OpenSpec.ofChange fnExactBridgedStripWrong)

/-- 'laws.FnExactRoomBetween': WHATEVER THE INPUT: true; the input reads as it did. -/
def fnExactRoomBetweenSpec : ChangeSpec := { name := "fnExactRoomBetween", vars := ["loop.example/g03305/impl.errMisfit"], fn := fun _ => fun
  | [d1, d2, g1] => { results := [.lit (.bool true)], args := [d1, d2], vars := [g1] }
  | _ => none }
def fnExactRoomBetweenRow : OpenClaim := { program := "ythigiemgdejdhaadoor", sum := "7825ed41eac2e4c470254b8ddaa0cb47910e384202fa5bc0ec96bb4080abdbd4", func := "loop.example/g03305/laws.FnExactRoomBetween", spec := "fnExactRoomBetween", inPlace := ["internal/bytealg.CountString", "internal/bytealg.IndexByteString", "internal/bytealg.IndexString"], unfollowed := true, recurses := true, named := ["loop.example/g03305/impl.errMisfit", "internal/bytealg.MaxLen"], ifaces := true, apart := false, laid := [("loop.example/g03305/impl.errMisfit", laid_loop_example_g03305_impl_errMisfit)] }
def FnExactRoomBetweenSaid : Prop := fnExactRoomBetweenRow.holds Tryd.pinned (OpenSpec.ofChange fnExactRoomBetweenSpec)

/-- ITS FALSE NEIGHBOUR: 'it returns false'. Refute it at one input. -/
def fnExactRoomBetweenWrong : ChangeSpec := { name := "fnExactRoomBetween", vars := ["loop.example/g03305/impl.errMisfit"], fn := fun _ => fun
  | [d1, d2, g1] => { results := [.lit (.bool false)], args := [d1, d2], vars := [g1] }
  | _ => none }
def FnExactRoomBetweenWrongFalsely : Prop := fnExactRoomBetweenRow.holds Tryd.pinned (OpenSpec.ofChange fnExactRoomBetweenWrong)

/-- 'laws.FnExactIsLoose': WHATEVER THE INPUT: true; the input reads as it did. -/
def fnExactIsLooseSpec : ChangeSpec := { name := "fnExactIsLoose", vars := ["loop.example/g03305/impl.errMisfit"], fn := fun _ => fun
  | [d1, d2, g1] => { results := [.lit (.bool true)], args := [d1, d2], vars := [g1] }
  | _ => none }
def fnExactIsLooseRow : OpenClaim := { program := "ythigiemgdejdhaadoor", sum := "7825ed41eac2e4c470254b8ddaa0cb47910e384202fa5bc0ec96bb4080abdbd4", func := "loop.example/g03305/laws.FnExactIsLoose", spec := "fnExactIsLoose", inPlace := ["internal/bytealg.CountString", "internal/bytealg.IndexByteString", "internal/bytealg.IndexString", "internal/reflectlite.TypeOf"], unfollowed := true, recurses := true, named := ["loop.example/g03305/impl.errMisfit", "internal/bytealg.MaxLen"], ifaces := true, apart := false, laid := [("loop.example/g03305/impl.errMisfit", laid_loop_example_g03305_impl_errMisfit)] }
def FnExactIsLooseSaid : Prop := fnExactIsLooseRow.holds Tryd.pinned (OpenSpec.ofChange fnExactIsLooseSpec)

/-- ITS FALSE NEIGHBOUR: 'it returns false'. Refute it at one input. -/
def fnExactIsLooseWrong : ChangeSpec := { name := "fnExactIsLoose", vars := ["loop.example/g03305/impl.errMisfit"], fn := fun _ => fun
  | [d1, d2, g1] => { results := [.lit (.bool false)], args := [d1, d2], vars := [g1] }
  | _ => none }
def FnExactIsLooseWrongFalsely : Prop := fnExactIsLooseRow.holds Tryd.pinned (OpenSpec.ofChange fnExactIsLooseWrong)

/- THE SECOND FORM. 'bulk': how many values and letters a reading holds, each counted each time it is reached (what is shared counts as often as it is met; a slice's spare places count too). A statement '..UptoSaid' is the law's where the arguments, and the package variables that the reading takes, are together of bulk at most 1048576: NARROWER than '..Said'. Prove '..Said' where nothing that the law and all that it calls make is longer than what came in: it says more and counts as full. Else prove '..UptoSaid'. A law counts once. -/
mutual
def uptoBulk {H : Type} : DataW H → Nat
  | .lit (.string bytes) => bytes.length + 1
  | .lit _ => 1
  | .nil => 1
  | .ptr d => uptoBulk d + 1
  | .slice elems spare => uptoBulkAll elems + uptoBulkAll spare + 1
  | .agg parts => uptoBulkAll parts + 1
  | .iface _ d => uptoBulk d + 1
  | .map entries => uptoBulkEntries entries + 1
  | .held _ => 1
def uptoBulkAll {H : Type} : List (DataW H) → Nat
  | [] => 0
  | d :: r => uptoBulk d + uptoBulkAll r
def uptoBulkEntries {H : Type} : List (Lit × DataW H) → Nat
  | [] => 0
  | x :: r => uptoBulkEntry x + uptoBulkEntries r
def uptoBulkEntry {H : Type} : Lit × DataW H → Nat
  | (.string bytes, d) => bytes.length + uptoBulk d + 1
  | (_, d) => uptoBulk d + 1
 end
def uptoSmall : (H : Type) → List (DataW H) → Bool := fun _ ds => decide (uptoBulkAll ds ≤ 1048576)
def OpenSpec.upto (s : _root_.Go.ChangeSpec) : _root_.Go.OpenSpec := { _root_.Go.OpenSpec.ofChange s with cond := some uptoSmall }

/-- 'laws.FnBridges', WHERE WHAT IT READS IS OF BULK AT MOST 1048576: true; the input reads as it did. -/
def fnBridgesUptoRow : OpenClaim := { program := "ythigiemgdejdhaadoor", sum := "7825ed41eac2e4c470254b8ddaa0cb47910e384202fa5bc0ec96bb4080abdbd4", func := "loop.example/g03305/laws.FnBridges", spec := "fnBridges", inPlace := ["internal/bytealg.CountString", "internal/bytealg.IndexByteString", "internal/bytealg.IndexString", "internal/reflectlite.TypeOf"], unfollowed := true, recurses := true, named := ["loop.example/g03305/impl.errMisfit", "internal/bytealg.MaxLen"], ifaces := true, apart := false, laid := [("loop.example/g03305/impl.errMisfit", laid_loop_example_g03305_impl_errMisfit)], narrowed := true }
def FnBridgesUptoSaid : Prop := fnBridgesUptoRow.holds Tryd.pinned (OpenSpec.upto fnBridgesSpec)

/-- 'laws.FnExactBridgeOk', WHERE WHAT IT READS IS OF BULK AT MOST 1048576: true; the input reads as it did. -/
def fnExactBridgeOkUptoRow : OpenClaim := { program := "ythigiemgdejdhaadoor", sum := "7825ed41eac2e4c470254b8ddaa0cb47910e384202fa5bc0ec96bb4080abdbd4", func := "loop.example/g03305/laws.FnExactBridgeOk", spec := "fnExactBridgeOk", inPlace := ["internal/bytealg.CountString", "internal/bytealg.IndexByteString", "internal/bytealg.IndexString", "internal/reflectlite.TypeOf"], unfollowed := true, recurses := true, named := ["loop.example/g03305/impl.errMisfit", "internal/bytealg.MaxLen"], ifaces := true, apart := false, laid := [("loop.example/g03305/impl.errMisfit", laid_loop_example_g03305_impl_errMisfit)], narrowed := true }
def FnExactBridgeOkUptoSaid : Prop := fnExactBridgeOkUptoRow.holds Tryd.pinned (OpenSpec.upto fnExactBridgeOkSpec)

/-- 'laws.FnExactBridgedStrip', WHERE WHAT IT READS IS OF BULK AT MOST 1048576: true; the input reads as it did. -/
def fnExactBridgedStripUptoRow : OpenClaim := { program := "ythigiemgdejdhaadoor", sum := "7825ed41eac2e4c470254b8ddaa0cb47910e384202fa5bc0ec96bb4080abdbd4", func := "loop.example/g03305/laws.FnExactBridgedStrip", spec := "fnExactBridgedStrip", inPlace := ["internal/bytealg.CountString", "internal/bytealg.IndexByteString", "internal/bytealg.IndexString"], unfollowed := true, recurses := true, named := ["loop.example/g03305/impl.errMisfit", "internal/bytealg.MaxLen"], ifaces := true, apart := false, laid := [("loop.example/g03305/impl.errMisfit", laid_loop_example_g03305_impl_errMisfit)], narrowed := true }
def FnExactBridgedStripUptoSaid : Prop := fnExactBridgedStripUptoRow.holds Tryd.pinned (OpenSpec.upto fnExactBridgedStripSpec)

/-- 'laws.FnExactRoomBetween', WHERE WHAT IT READS IS OF BULK AT MOST 1048576: true; the input reads as it did. -/
def fnExactRoomBetweenUptoRow : OpenClaim := { program := "ythigiemgdejdhaadoor", sum := "7825ed41eac2e4c470254b8ddaa0cb47910e384202fa5bc0ec96bb4080abdbd4", func := "loop.example/g03305/laws.FnExactRoomBetween", spec := "fnExactRoomBetween", inPlace := ["internal/bytealg.CountString", "internal/bytealg.IndexByteString", "internal/bytealg.IndexString"], unfollowed := true, recurses := true, named := ["loop.example/g03305/impl.errMisfit", "internal/bytealg.MaxLen"], ifaces := true, apart := false, laid := [("loop.example/g03305/impl.errMisfit", laid_loop_example_g03305_impl_errMisfit)], narrowed := true }
def FnExactRoomBetweenUptoSaid : Prop := fnExactRoomBetweenUptoRow.holds Tryd.pinned (OpenSpec.upto fnExactRoomBetweenSpec)

/-- 'laws.FnExactIsLoose', WHERE WHAT IT READS IS OF BULK AT MOST 1048576: true; the input reads as it did. -/
def fnExactIsLooseUptoRow : OpenClaim := { program := "ythigiemgdejdhaadoor", sum := "7825ed41eac2e4c470254b8ddaa0cb47910e384202fa5bc0ec96bb4080abdbd4", func := "loop.example/g03305/laws.FnExactIsLoose", spec := "fnExactIsLoose", inPlace := ["internal/bytealg.CountString", "internal/bytealg.IndexByteString", "internal/bytealg.IndexString", "internal/reflectlite.TypeOf"], unfollowed := true, recurses := true, named := ["loop.example/g03305/impl.errMisfit", "internal/bytealg.MaxLen"], ifaces := true, apart := false, laid := [("loop.example/g03305/impl.errMisfit", laid_loop_example_g03305_impl_errMisfit)], narrowed := true }
def FnExactIsLooseUptoSaid : Prop := fnExactIsLooseUptoRow.holds Tryd.pinned (OpenSpec.upto fnExactIsLooseSpec)

end Rows
end Go.Proofs.YthigiemgdejdhaaDoor
