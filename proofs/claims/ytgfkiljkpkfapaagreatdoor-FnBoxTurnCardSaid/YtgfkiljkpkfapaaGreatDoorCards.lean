/-
  DERIVED. GIVEN WITH THE SEED: THE CARDS: each row of YtgfkiljkpkfapaaGreatDoorRows.lean that lists a variable, with what it lists TIED to the program's text (the seventh form; the later family's looks); each row that meets fmt, with fmt's text TOLD by the authors' own Lean function (tested against real Go, not proved from fmt's source: count such statements apart). THE CARD IS WHAT COUNTS. Prove the row's statement (the work); the ties are given (YtgfkiljkpkfapaaGreatDoorTie.lean); close each card by the builder's one call (the guide's Derived/Test/ToyasCard.lean, 'card_holds'). Laid BY PROGRAM, IN A SANDBOX (cutbox-door.mjs). By AI agents, Wed Nov 11 2026. No macro, syntax, notation, axiom, sorry.
-/
import Derived.Test.YtgfkiljkpkfapaaGreatDoorRows
import GoSem.ClaimSeven
namespace Go.Proofs.YtgfkiljkpkfapaaGreatDoor
namespace Rows

/-- THE TIED CARD OF 'laws.FnBoxTurn'. -/
def fnBoxTurnCard : Claim7 := { stood := { row := fnBoxTurnRow, standIns := [], harness := (true, "7332b99729805f9517c9eb241f74442f6b147845cb1e38033ca7169757d7b25f"), looks := true }, kinds := [], alts := [], laidByText := true, laidKinds := [.data, .data, .data, .sentinel, .sentinel, .sentinel, .sentinel], laidTests := true, laidLooks := .later }
def FnBoxTurnCardSaid : Prop := Claim7.holds Tryz.pinned (.plain (OpenSpec.ofChange fnBoxTurnSpec)) fnBoxTurnCard

/-- THE TIED CARD OF 'laws.FnBoxOk'. -/
def fnBoxOkCard : Claim7 := { stood := { row := fnBoxOkRow, standIns := [], harness := (true, "7332b99729805f9517c9eb241f74442f6b147845cb1e38033ca7169757d7b25f"), looks := true }, kinds := [], alts := [], laidByText := true, laidKinds := [.data, .data, .data, .sentinel, .sentinel, .sentinel, .sentinel], laidTests := true, laidLooks := .later }
def FnBoxOkCardSaid : Prop := Claim7.holds Tryz.pinned (.plain (OpenSpec.ofChange fnBoxOkSpec)) fnBoxOkCard

/-- THE TIED CARD OF 'laws.FnBoxPlain'. -/
def fnBoxPlainCard : Claim7 := { stood := { row := fnBoxPlainRow, standIns := [], harness := (true, "7332b99729805f9517c9eb241f74442f6b147845cb1e38033ca7169757d7b25f"), looks := true }, kinds := [], alts := [], laidByText := true, laidKinds := [.data, .data, .data, .sentinel, .sentinel, .sentinel, .sentinel], laidTests := true, laidLooks := .later }
def FnBoxPlainCardSaid : Prop := Claim7.holds Tryz.pinned (.plain (OpenSpec.ofChange fnBoxPlainSpec)) fnBoxPlainCard

/-- THE SECOND FORM's CARD OF 'laws.FnBoxTurn'. -/
def fnBoxTurnUptoCard : Claim7 := { stood := { row := fnBoxTurnUptoRow, standIns := [], harness := (true, "7332b99729805f9517c9eb241f74442f6b147845cb1e38033ca7169757d7b25f"), looks := true }, kinds := [], alts := [], laidByText := true, laidKinds := [.data, .data, .data, .sentinel, .sentinel, .sentinel, .sentinel], laidTests := true, laidLooks := .later }
def FnBoxTurnUptoCardSaid : Prop := Claim7.holds Tryz.pinned (.plain (OpenSpec.upto fnBoxTurnSpec)) fnBoxTurnUptoCard

/-- THE SECOND FORM's CARD OF 'laws.FnBoxOk'. -/
def fnBoxOkUptoCard : Claim7 := { stood := { row := fnBoxOkUptoRow, standIns := [], harness := (true, "7332b99729805f9517c9eb241f74442f6b147845cb1e38033ca7169757d7b25f"), looks := true }, kinds := [], alts := [], laidByText := true, laidKinds := [.data, .data, .data, .sentinel, .sentinel, .sentinel, .sentinel], laidTests := true, laidLooks := .later }
def FnBoxOkUptoCardSaid : Prop := Claim7.holds Tryz.pinned (.plain (OpenSpec.upto fnBoxOkSpec)) fnBoxOkUptoCard

/-- THE SECOND FORM's CARD OF 'laws.FnBoxPlain'. -/
def fnBoxPlainUptoCard : Claim7 := { stood := { row := fnBoxPlainUptoRow, standIns := [], harness := (true, "7332b99729805f9517c9eb241f74442f6b147845cb1e38033ca7169757d7b25f"), looks := true }, kinds := [], alts := [], laidByText := true, laidKinds := [.data, .data, .data, .sentinel, .sentinel, .sentinel, .sentinel], laidTests := true, laidLooks := .later }
def FnBoxPlainUptoCardSaid : Prop := Claim7.holds Tryz.pinned (.plain (OpenSpec.upto fnBoxPlainSpec)) fnBoxPlainUptoCard
end Rows
end Go.Proofs.YtgfkiljkpkfapaaGreatDoor
