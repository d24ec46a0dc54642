/-
  DERIVED. GIVEN WITH THE SEED: THE CARDS: each row of YthigiemgdejdhaaDoorRows.lean that lists a variable, with what it lists TIED to the program's text (the seventh form; the later family's looks); each row that meets fmt, with fmt's text TOLD by the authors' own Lean function (tested against real Go, not proved from fmt's source: count such statements apart). THE CARD IS WHAT COUNTS. Prove the row's statement (the work); the ties are given (YthigiemgdejdhaaDoorTie.lean); close each card by the builder's one call (the guide's Derived/Test/ToyasCard.lean, 'card_holds'). Laid BY PROGRAM, IN A SANDBOX (cutbox-door.mjs). By AI agents, Wed Nov 11 2026. No macro, syntax, notation, axiom, sorry.
-/
import Derived.Test.YthigiemgdejdhaaDoorRows
import GoSem.ClaimSeven
namespace Go.Proofs.YthigiemgdejdhaaDoor
namespace Rows

/-- THE TIED CARD OF 'laws.FnBridges'. -/
def fnBridgesCard : Claim7 := { stood := { row := fnBridgesRow, standIns := [], harness := (true, "6d2cad7a295d067082694c125167f57ddeb7924a8e1614c075a504e1e8cbcf71"), looks := true }, kinds := [], alts := [], laidByText := true, laidKinds := [.sentinel], laidTests := true, laidLooks := .later }
def FnBridgesCardSaid : Prop := Claim7.holds Tryd.pinned (.plain (OpenSpec.ofChange fnBridgesSpec)) fnBridgesCard

/-- THE TIED CARD OF 'laws.FnExactBridgeOk'. -/
def fnExactBridgeOkCard : Claim7 := { stood := { row := fnExactBridgeOkRow, standIns := [], harness := (true, "6d2cad7a295d067082694c125167f57ddeb7924a8e1614c075a504e1e8cbcf71"), looks := true }, kinds := [], alts := [], laidByText := true, laidKinds := [.sentinel], laidTests := true, laidLooks := .later }
def FnExactBridgeOkCardSaid : Prop := Claim7.holds Tryd.pinned (.plain (OpenSpec.ofChange fnExactBridgeOkSpec)) fnExactBridgeOkCard

/-- THE TIED CARD OF 'laws.FnExactBridgedStrip'. -/
def fnExactBridgedStripCard : Claim7 := { stood := { row := fnExactBridgedStripRow, standIns := [], harness := (true, "6d2cad7a295d067082694c125167f57ddeb7924a8e1614c075a504e1e8cbcf71"), looks := true }, kinds := [], alts := [], laidByText := true, laidKinds := [.sentinel], laidTests := true, laidLooks := .later }
def FnExactBridgedStripCardSaid : Prop := Claim7.holds Tryd.pinned (.plain (OpenSpec.ofChange fnExactBridgedStripSpec)) fnExactBridgedStripCard

/-- THE TIED CARD OF 'laws.FnExactRoomBetween'. -/
def fnExactRoomBetweenCard : Claim7 := { stood := { row := fnExactRoomBetweenRow, standIns := [], harness := (true, "6d2cad7a295d067082694c125167f57ddeb7924a8e1614c075a504e1e8cbcf71"), looks := true }, kinds := [], alts := [], laidByText := true, laidKinds := [.sentinel], laidTests := true, laidLooks := .later }
def FnExactRoomBetweenCardSaid : Prop := Claim7.holds Tryd.pinned (.plain (OpenSpec.ofChange fnExactRoomBetweenSpec)) fnExactRoomBetweenCard

/-- THE TIED CARD OF 'laws.FnExactIsLoose'. -/
def fnExactIsLooseCard : Claim7 := { stood := { row := fnExactIsLooseRow, standIns := [], harness := (true, "6d2cad7a295d067082694c125167f57ddeb7924a8e1614c075a504e1e8cbcf71"), looks := true }, kinds := [], alts := [], laidByText := true, laidKinds := [.sentinel], laidTests := true, laidLooks := .later }
def FnExactIsLooseCardSaid : Prop := Claim7.holds Tryd.pinned (.plain (OpenSpec.ofChange fnExactIsLooseSpec)) fnExactIsLooseCard

/-- THE SECOND FORM's CARD OF 'laws.FnBridges'. -/
def fnBridgesUptoCard : Claim7 := { stood := { row := fnBridgesUptoRow, standIns := [], harness := (true, "6d2cad7a295d067082694c125167f57ddeb7924a8e1614c075a504e1e8cbcf71"), looks := true }, kinds := [], alts := [], laidByText := true, laidKinds := [.sentinel], laidTests := true, laidLooks := .later }
def FnBridgesUptoCardSaid : Prop := Claim7.holds Tryd.pinned (.plain (OpenSpec.upto fnBridgesSpec)) fnBridgesUptoCard

/-- THE SECOND FORM's CARD OF 'laws.FnExactBridgeOk'. -/
def fnExactBridgeOkUptoCard : Claim7 := { stood := { row := fnExactBridgeOkUptoRow, standIns := [], harness := (true, "6d2cad7a295d067082694c125167f57ddeb7924a8e1614c075a504e1e8cbcf71"), looks := true }, kinds := [], alts := [], laidByText := true, laidKinds := [.sentinel], laidTests := true, laidLooks := .later }
def FnExactBridgeOkUptoCardSaid : Prop := Claim7.holds Tryd.pinned (.plain (OpenSpec.upto fnExactBridgeOkSpec)) fnExactBridgeOkUptoCard

/-- THE SECOND FORM's CARD OF 'laws.FnExactBridgedStrip'. -/
def fnExactBridgedStripUptoCard : Claim7 := { stood := { row := fnExactBridgedStripUptoRow, standIns := [], harness := (true, "6d2cad7a295d067082694c125167f57ddeb7924a8e1614c075a504e1e8cbcf71"), looks := true }, kinds := [], alts := [], laidByText := true, laidKinds := [.sentinel], laidTests := true, laidLooks := .later }
def FnExactBridgedStripUptoCardSaid : Prop := Claim7.holds Tryd.pinned (.plain (OpenSpec.upto fnExactBridgedStripSpec)) fnExactBridgedStripUptoCard

/-- THE SECOND FORM's CARD OF 'laws.FnExactRoomBetween'. -/
def fnExactRoomBetweenUptoCard : Claim7 := { stood := { row := fnExactRoomBetweenUptoRow, standIns := [], harness := (true, "6d2cad7a295d067082694c125167f57ddeb7924a8e1614c075a504e1e8cbcf71"), looks := true }, kinds := [], alts := [], laidByText := true, laidKinds := [.sentinel], laidTests := true, laidLooks := .later }
def FnExactRoomBetweenUptoCardSaid : Prop := Claim7.holds Tryd.pinned (.plain (OpenSpec.upto fnExactRoomBetweenSpec)) fnExactRoomBetweenUptoCard

/-- THE SECOND FORM's CARD OF 'laws.FnExactIsLoose'. -/
def fnExactIsLooseUptoCard : Claim7 := { stood := { row := fnExactIsLooseUptoRow, standIns := [], harness := (true, "6d2cad7a295d067082694c125167f57ddeb7924a8e1614c075a504e1e8cbcf71"), looks := true }, kinds := [], alts := [], laidByText := true, laidKinds := [.sentinel], laidTests := true, laidLooks := .later }
def FnExactIsLooseUptoCardSaid : Prop := Claim7.holds Tryd.pinned (.plain (OpenSpec.upto fnExactIsLooseSpec)) fnExactIsLooseUptoCard
end Rows
end Go.Proofs.YthigiemgdejdhaaDoor
