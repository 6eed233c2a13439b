/-
  DERIVED. GIVEN WITH THE SEED: THE CARDS: each row of YtfgkonphbmliaaaGreatDoorRows.lean that lists a variable, with what it lists TIED to the program's text (the seventh form; the later family's looks); each row that meets fmt, with fmt's text TOLD by the authors' own Lean function (tested against real Go, not proved from fmt's source: count such statements apart). THE CARD IS WHAT COUNTS. Prove the row's statement (the work); the ties are given (YtfgkonphbmliaaaGreatDoorTie.lean); close each card by the builder's one call (the guide's Derived/Test/ToyasCard.lean, 'card_holds'). Laid BY PROGRAM, IN A SANDBOX (cutbox-door.mjs). By AI agents, Wed Nov 11 2026. No macro, syntax, notation, axiom, sorry.
-/
import Derived.Test.YtfgkonphbmliaaaGreatDoorRows
import GoSem.ClaimSeven
namespace Go.Proofs.YtfgkonphbmliaaaGreatDoor
namespace Rows

/-- THE TIED CARD OF 'laws.FnExactBoxOk'. -/
def fnExactBoxOkCard : Claim7 := { stood := { row := fnExactBoxOkRow, standIns := [], harness := (true, "d0b6f15d75022069562cebf7b666dd1a0cd5067dd4f3e0c447787b3d64e764b6"), looks := true }, kinds := [], alts := [], laidByText := true, laidKinds := [.data, .data, .data, .sentinel, .sentinel, .sentinel, .sentinel], laidTests := true, laidLooks := .later }
def FnExactBoxOkCardSaid : Prop := Claim7.holds Tryz.pinned (.plain (OpenSpec.ofChange fnExactBoxOkSpec)) fnExactBoxOkCard

/-- THE TIED CARD OF 'laws.FnExactBoxFar'. -/
def fnExactBoxFarCard : Claim7 := { stood := { row := fnExactBoxFarRow, standIns := [], harness := (true, "d0b6f15d75022069562cebf7b666dd1a0cd5067dd4f3e0c447787b3d64e764b6"), looks := true }, kinds := [], alts := [], laidByText := true, laidKinds := [.data, .data, .data, .sentinel, .sentinel, .sentinel, .sentinel], laidTests := true, laidLooks := .later }
def FnExactBoxFarCardSaid : Prop := Claim7.holds Tryz.pinned (.plain (OpenSpec.ofChange fnExactBoxFarSpec)) fnExactBoxFarCard

/-- THE TIED CARD OF 'laws.FnExactBoxTurn'. -/
def fnExactBoxTurnCard : Claim7 := { stood := { row := fnExactBoxTurnRow, standIns := [], harness := (true, "d0b6f15d75022069562cebf7b666dd1a0cd5067dd4f3e0c447787b3d64e764b6"), looks := true }, kinds := [], alts := [], laidByText := true, laidKinds := [.data, .data, .data, .sentinel, .sentinel, .sentinel, .sentinel], laidTests := true, laidLooks := .later }
def FnExactBoxTurnCardSaid : Prop := Claim7.holds Tryz.pinned (.plain (OpenSpec.ofChange fnExactBoxTurnSpec)) fnExactBoxTurnCard

/-- THE TIED CARD OF 'laws.FnExactWldNew'. -/
def fnExactWldNewCard : Claim7 := { stood := { row := fnExactWldNewRow, standIns := [], harness := (true, "d0b6f15d75022069562cebf7b666dd1a0cd5067dd4f3e0c447787b3d64e764b6"), looks := true }, kinds := [], alts := [], laidByText := true, laidKinds := [.data, .data, .data, .sentinel, .sentinel, .sentinel, .sentinel], laidTests := true, laidLooks := .later }
def FnExactWldNewCardSaid : Prop := Claim7.holds Tryz.pinned (.plain (OpenSpec.ofChange fnExactWldNewSpec)) fnExactWldNewCard

/-- THE SECOND FORM's CARD OF 'laws.FnExactBoxOk'. -/
def fnExactBoxOkUptoCard : Claim7 := { stood := { row := fnExactBoxOkUptoRow, standIns := [], harness := (true, "d0b6f15d75022069562cebf7b666dd1a0cd5067dd4f3e0c447787b3d64e764b6"), looks := true }, kinds := [], alts := [], laidByText := true, laidKinds := [.data, .data, .data, .sentinel, .sentinel, .sentinel, .sentinel], laidTests := true, laidLooks := .later }
def FnExactBoxOkUptoCardSaid : Prop := Claim7.holds Tryz.pinned (.plain (OpenSpec.upto fnExactBoxOkSpec)) fnExactBoxOkUptoCard

/-- THE SECOND FORM's CARD OF 'laws.FnExactBoxFar'. -/
def fnExactBoxFarUptoCard : Claim7 := { stood := { row := fnExactBoxFarUptoRow, standIns := [], harness := (true, "d0b6f15d75022069562cebf7b666dd1a0cd5067dd4f3e0c447787b3d64e764b6"), looks := true }, kinds := [], alts := [], laidByText := true, laidKinds := [.data, .data, .data, .sentinel, .sentinel, .sentinel, .sentinel], laidTests := true, laidLooks := .later }
def FnExactBoxFarUptoCardSaid : Prop := Claim7.holds Tryz.pinned (.plain (OpenSpec.upto fnExactBoxFarSpec)) fnExactBoxFarUptoCard

/-- THE SECOND FORM's CARD OF 'laws.FnExactBoxTurn'. -/
def fnExactBoxTurnUptoCard : Claim7 := { stood := { row := fnExactBoxTurnUptoRow, standIns := [], harness := (true, "d0b6f15d75022069562cebf7b666dd1a0cd5067dd4f3e0c447787b3d64e764b6"), looks := true }, kinds := [], alts := [], laidByText := true, laidKinds := [.data, .data, .data, .sentinel, .sentinel, .sentinel, .sentinel], laidTests := true, laidLooks := .later }
def FnExactBoxTurnUptoCardSaid : Prop := Claim7.holds Tryz.pinned (.plain (OpenSpec.upto fnExactBoxTurnSpec)) fnExactBoxTurnUptoCard

/-- THE SECOND FORM's CARD OF 'laws.FnExactWldNew'. -/
def fnExactWldNewUptoCard : Claim7 := { stood := { row := fnExactWldNewUptoRow, standIns := [], harness := (true, "d0b6f15d75022069562cebf7b666dd1a0cd5067dd4f3e0c447787b3d64e764b6"), looks := true }, kinds := [], alts := [], laidByText := true, laidKinds := [.data, .data, .data, .sentinel, .sentinel, .sentinel, .sentinel], laidTests := true, laidLooks := .later }
def FnExactWldNewUptoCardSaid : Prop := Claim7.holds Tryz.pinned (.plain (OpenSpec.upto fnExactWldNewSpec)) fnExactWldNewUptoCard
end Rows
end Go.Proofs.YtfgkonphbmliaaaGreatDoor
