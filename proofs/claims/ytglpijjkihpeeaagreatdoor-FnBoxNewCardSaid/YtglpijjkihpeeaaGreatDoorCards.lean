/-
  DERIVED. GIVEN WITH THE SEED: THE CARDS: each row of YtglpijjkihpeeaaGreatDoorRows.lean that lists a variable, with what it lists TIED to the program's text (the seventh form; the later family's looks); each row that meets fmt, with fmt's text TOLD by the authors' own Lean function (tested against real Go, not proved from fmt's source: count such statements apart). THE CARD IS WHAT COUNTS. Prove the row's statement (the work); the ties are given (YtglpijjkihpeeaaGreatDoorTie.lean); close each card by the builder's one call (the guide's Derived/Test/ToyasCard.lean, 'card_holds'). Laid BY PROGRAM, IN A SANDBOX (cutbox-door.mjs). By AI agents, Wed Nov 11 2026. No macro, syntax, notation, axiom, sorry.
-/
import Derived.Test.YtglpijjkihpeeaaGreatDoorRows
import GoSem.ClaimSeven
namespace Go.Proofs.YtglpijjkihpeeaaGreatDoor
namespace Rows

/-- THE TIED CARD OF 'laws.FnBoxNew'. -/
def fnBoxNewCard : Claim7 := { stood := { row := fnBoxNewRow, standIns := [], harness := (true, "c443be9efffd88ae675605fc8185ebe72c42b77de2bcd26f883e30af0634b246"), looks := true }, kinds := [], alts := [], laidByText := true, laidKinds := [.data, .data, .data, .sentinel, .sentinel, .sentinel, .sentinel], laidTests := true, laidLooks := .later }
def FnBoxNewCardSaid : Prop := Claim7.holds Tryz.pinned (.plain (OpenSpec.ofChange fnBoxNewSpec)) fnBoxNewCard

/-- THE TIED CARD OF 'laws.FnExactBoxTurn'. -/
def fnExactBoxTurnCard : Claim7 := { stood := { row := fnExactBoxTurnRow, standIns := [], harness := (true, "c443be9efffd88ae675605fc8185ebe72c42b77de2bcd26f883e30af0634b246"), looks := true }, kinds := [], alts := [], laidByText := true, laidKinds := [.data, .data, .data, .sentinel, .sentinel, .sentinel, .sentinel], laidTests := true, laidLooks := .later }
def FnExactBoxTurnCardSaid : Prop := Claim7.holds Tryz.pinned (.plain (OpenSpec.ofChange fnExactBoxTurnSpec)) fnExactBoxTurnCard

/-- THE TIED CARD OF 'laws.FnExactWldNew'. -/
def fnExactWldNewCard : Claim7 := { stood := { row := fnExactWldNewRow, standIns := [], harness := (true, "c443be9efffd88ae675605fc8185ebe72c42b77de2bcd26f883e30af0634b246"), looks := true }, kinds := [], alts := [], laidByText := true, laidKinds := [.data, .data, .data, .sentinel, .sentinel, .sentinel, .sentinel], laidTests := true, laidLooks := .later }
def FnExactWldNewCardSaid : Prop := Claim7.holds Tryz.pinned (.plain (OpenSpec.ofChange fnExactWldNewSpec)) fnExactWldNewCard

/-- THE SECOND FORM's CARD OF 'laws.FnBoxNew'. -/
def fnBoxNewUptoCard : Claim7 := { stood := { row := fnBoxNewUptoRow, standIns := [], harness := (true, "c443be9efffd88ae675605fc8185ebe72c42b77de2bcd26f883e30af0634b246"), looks := true }, kinds := [], alts := [], laidByText := true, laidKinds := [.data, .data, .data, .sentinel, .sentinel, .sentinel, .sentinel], laidTests := true, laidLooks := .later }
def FnBoxNewUptoCardSaid : Prop := Claim7.holds Tryz.pinned (.plain (OpenSpec.upto fnBoxNewSpec)) fnBoxNewUptoCard

/-- THE SECOND FORM's CARD OF 'laws.FnExactBoxTurn'. -/
def fnExactBoxTurnUptoCard : Claim7 := { stood := { row := fnExactBoxTurnUptoRow, standIns := [], harness := (true, "c443be9efffd88ae675605fc8185ebe72c42b77de2bcd26f883e30af0634b246"), looks := true }, kinds := [], alts := [], laidByText := true, laidKinds := [.data, .data, .data, .sentinel, .sentinel, .sentinel, .sentinel], laidTests := true, laidLooks := .later }
def FnExactBoxTurnUptoCardSaid : Prop := Claim7.holds Tryz.pinned (.plain (OpenSpec.upto fnExactBoxTurnSpec)) fnExactBoxTurnUptoCard

/-- THE SECOND FORM's CARD OF 'laws.FnExactWldNew'. -/
def fnExactWldNewUptoCard : Claim7 := { stood := { row := fnExactWldNewUptoRow, standIns := [], harness := (true, "c443be9efffd88ae675605fc8185ebe72c42b77de2bcd26f883e30af0634b246"), looks := true }, kinds := [], alts := [], laidByText := true, laidKinds := [.data, .data, .data, .sentinel, .sentinel, .sentinel, .sentinel], laidTests := true, laidLooks := .later }
def FnExactWldNewUptoCardSaid : Prop := Claim7.holds Tryz.pinned (.plain (OpenSpec.upto fnExactWldNewSpec)) fnExactWldNewUptoCard
end Rows
end Go.Proofs.YtglpijjkihpeeaaGreatDoor
