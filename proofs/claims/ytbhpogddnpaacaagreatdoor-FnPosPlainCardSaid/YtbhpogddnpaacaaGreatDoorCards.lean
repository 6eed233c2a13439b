/-
  DERIVED. GIVEN WITH THE SEED: THE CARDS: each row of YtbhpogddnpaacaaGreatDoorRows.lean that lists a variable, with what it lists TIED to the program's text (the seventh form; the later family's looks); each row that meets fmt, with fmt's text TOLD by the authors' own Lean function (tested against real Go, not proved from fmt's source: count such statements apart). THE CARD IS WHAT COUNTS. Prove the row's statement (the work); the ties are given (YtbhpogddnpaacaaGreatDoorTie.lean); close each card by the builder's one call (the guide's Derived/Test/ToyasCard.lean, 'card_holds'). Laid BY PROGRAM, IN A SANDBOX (cutbox-door.mjs). By AI agents, Wed Nov 11 2026. No macro, syntax, notation, axiom, sorry.
-/
import Derived.Test.YtbhpogddnpaacaaGreatDoorRows
import GoSem.ClaimSeven
namespace Go.Proofs.YtbhpogddnpaacaaGreatDoor
namespace Rows

/-- THE TIED CARD OF 'laws.FnPosPlain'. -/
def fnPosPlainCard : Claim7 := { stood := { row := fnPosPlainRow, standIns := [], harness := (true, "68a7bb14a6a5c8fb9062dbf461f4986fc12529f8ba36e4b72bcc06a93602433e"), looks := true }, kinds := [], alts := [], laidByText := true, laidKinds := [.data, .data, .data, .sentinel, .sentinel, .sentinel, .sentinel], laidTests := true, laidLooks := .later }
def FnPosPlainCardSaid : Prop := Claim7.holds Tryz.pinned (.plain (OpenSpec.ofChange fnPosPlainSpec)) fnPosPlainCard

/-- THE SECOND FORM's CARD OF 'laws.FnPosPlain'. -/
def fnPosPlainUptoCard : Claim7 := { stood := { row := fnPosPlainUptoRow, standIns := [], harness := (true, "68a7bb14a6a5c8fb9062dbf461f4986fc12529f8ba36e4b72bcc06a93602433e"), looks := true }, kinds := [], alts := [], laidByText := true, laidKinds := [.data, .data, .data, .sentinel, .sentinel, .sentinel, .sentinel], laidTests := true, laidLooks := .later }
def FnPosPlainUptoCardSaid : Prop := Claim7.holds Tryz.pinned (.plain (OpenSpec.upto fnPosPlainSpec)) fnPosPlainUptoCard
end Rows
end Go.Proofs.YtbhpogddnpaacaaGreatDoor
