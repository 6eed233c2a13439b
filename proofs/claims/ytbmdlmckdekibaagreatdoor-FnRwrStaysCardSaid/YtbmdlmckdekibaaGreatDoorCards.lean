/-
  DERIVED. GIVEN WITH THE SEED: THE CARDS: each row of YtbmdlmckdekibaaGreatDoorRows.lean that lists a variable, with what it lists TIED to the program's text (the seventh form; the later family's looks); each row that meets fmt, with fmt's text TOLD by the authors' own Lean function (tested against real Go, not proved from fmt's source: count such statements apart). THE CARD IS WHAT COUNTS. Prove the row's statement (the work); the ties are given (YtbmdlmckdekibaaGreatDoorTie.lean); close each card by the builder's one call (the guide's Derived/Test/ToyasCard.lean, 'card_holds'). Laid BY PROGRAM, IN A SANDBOX (cutbox-door.mjs). By AI agents, Wed Nov 11 2026. No macro, syntax, notation, axiom, sorry.
-/
import Derived.Test.YtbmdlmckdekibaaGreatDoorRows
import GoSem.ClaimSeven
namespace Go.Proofs.YtbmdlmckdekibaaGreatDoor
namespace Rows

/-- THE TIED CARD OF 'laws.FnRwrStays'. -/
def fnRwrStaysCard : Claim7 := { stood := { row := fnRwrStaysRow, standIns := [], harness := (true, "35f5355524ca9efaa39c5b78aec0add97e33b31fbb416bf588ca1156354f157f"), looks := true }, kinds := [], alts := [], laidByText := true, laidKinds := [.data, .data, .data, .sentinel, .sentinel, .sentinel, .sentinel], laidTests := true, laidLooks := .later }
def FnRwrStaysCardSaid : Prop := Claim7.holds Tryz.pinned (.plain (OpenSpec.ofChange fnRwrStaysSpec)) fnRwrStaysCard

/-- THE TIED CARD OF 'laws.FnRwrJoin'. -/
def fnRwrJoinCard : Claim7 := { stood := { row := fnRwrJoinRow, standIns := [], harness := (true, "35f5355524ca9efaa39c5b78aec0add97e33b31fbb416bf588ca1156354f157f"), looks := true }, kinds := [], alts := [], laidByText := true, laidKinds := [.data, .data, .data, .sentinel, .sentinel, .sentinel, .sentinel], laidTests := true, laidLooks := .later }
def FnRwrJoinCardSaid : Prop := Claim7.holds Tryz.pinned (.plain (OpenSpec.ofChange fnRwrJoinSpec)) fnRwrJoinCard

/-- THE TIED CARD OF 'laws.FnRwrAgain'. -/
def fnRwrAgainCard : Claim7 := { stood := { row := fnRwrAgainRow, standIns := [], harness := (true, "35f5355524ca9efaa39c5b78aec0add97e33b31fbb416bf588ca1156354f157f"), looks := true }, kinds := [], alts := [], laidByText := true, laidKinds := [.data, .data, .data, .sentinel, .sentinel, .sentinel, .sentinel], laidTests := true, laidLooks := .later }
def FnRwrAgainCardSaid : Prop := Claim7.holds Tryz.pinned (.plain (OpenSpec.ofChange fnRwrAgainSpec)) fnRwrAgainCard

/-- THE SECOND FORM's CARD OF 'laws.FnRwrStays'. -/
def fnRwrStaysUptoCard : Claim7 := { stood := { row := fnRwrStaysUptoRow, standIns := [], harness := (true, "35f5355524ca9efaa39c5b78aec0add97e33b31fbb416bf588ca1156354f157f"), looks := true }, kinds := [], alts := [], laidByText := true, laidKinds := [.data, .data, .data, .sentinel, .sentinel, .sentinel, .sentinel], laidTests := true, laidLooks := .later }
def FnRwrStaysUptoCardSaid : Prop := Claim7.holds Tryz.pinned (.plain (OpenSpec.upto fnRwrStaysSpec)) fnRwrStaysUptoCard

/-- THE SECOND FORM's CARD OF 'laws.FnRwrJoin'. -/
def fnRwrJoinUptoCard : Claim7 := { stood := { row := fnRwrJoinUptoRow, standIns := [], harness := (true, "35f5355524ca9efaa39c5b78aec0add97e33b31fbb416bf588ca1156354f157f"), looks := true }, kinds := [], alts := [], laidByText := true, laidKinds := [.data, .data, .data, .sentinel, .sentinel, .sentinel, .sentinel], laidTests := true, laidLooks := .later }
def FnRwrJoinUptoCardSaid : Prop := Claim7.holds Tryz.pinned (.plain (OpenSpec.upto fnRwrJoinSpec)) fnRwrJoinUptoCard

/-- THE SECOND FORM's CARD OF 'laws.FnRwrAgain'. -/
def fnRwrAgainUptoCard : Claim7 := { stood := { row := fnRwrAgainUptoRow, standIns := [], harness := (true, "35f5355524ca9efaa39c5b78aec0add97e33b31fbb416bf588ca1156354f157f"), looks := true }, kinds := [], alts := [], laidByText := true, laidKinds := [.data, .data, .data, .sentinel, .sentinel, .sentinel, .sentinel], laidTests := true, laidLooks := .later }
def FnRwrAgainUptoCardSaid : Prop := Claim7.holds Tryz.pinned (.plain (OpenSpec.upto fnRwrAgainSpec)) fnRwrAgainUptoCard
end Rows
end Go.Proofs.YtbmdlmckdekibaaGreatDoor
