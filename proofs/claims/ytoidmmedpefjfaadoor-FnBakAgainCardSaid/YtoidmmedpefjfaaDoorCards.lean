/-
  DERIVED. GIVEN WITH THE SEED: THE CARDS: each row of YtoidmmedpefjfaaDoorRows.lean that lists a variable, with what it lists TIED to the program's text (the seventh form; the later family's looks); each row that meets fmt, with fmt's text TOLD by the authors' own Lean function (tested against real Go, not proved from fmt's source: count such statements apart). THE CARD IS WHAT COUNTS. Prove the row's statement (the work); the ties are given (YtoidmmedpefjfaaDoorTie.lean); close each card by the builder's one call (the guide's Derived/Test/ToyasCard.lean, 'card_holds'). Laid BY PROGRAM, IN A SANDBOX (cutbox-door.mjs). By AI agents, Wed Nov 11 2026. No macro, syntax, notation, axiom, sorry.
-/
import Derived.Test.YtoidmmedpefjfaaDoorRows
import GoSem.ClaimSeven
namespace Go.Proofs.YtoidmmedpefjfaaDoor
namespace Rows

/-- THE TIED CARD OF 'laws.FnBakAgain'. -/
def fnBakAgainCard : Claim7 := { stood := { row := fnBakAgainRow, standIns := [], harness := (true, "88af3ed56cedf4d6d994cf42258f9fa860a7db6061784cf9b9ed724d681fd9eb"), looks := true }, kinds := [], alts := [], laidByText := true, laidKinds := [.data, .data, .data, .sentinel, .sentinel, .sentinel, .sentinel], laidTests := true, laidLooks := .later }
def FnBakAgainCardSaid : Prop := Claim7.holds Tryd.pinned (.plain (OpenSpec.ofChange fnBakAgainSpec)) fnBakAgainCard

/-- THE SECOND FORM's CARD OF 'laws.FnBakAgain'. -/
def fnBakAgainUptoCard : Claim7 := { stood := { row := fnBakAgainUptoRow, standIns := [], harness := (true, "88af3ed56cedf4d6d994cf42258f9fa860a7db6061784cf9b9ed724d681fd9eb"), looks := true }, kinds := [], alts := [], laidByText := true, laidKinds := [.data, .data, .data, .sentinel, .sentinel, .sentinel, .sentinel], laidTests := true, laidLooks := .later }
def FnBakAgainUptoCardSaid : Prop := Claim7.holds Tryd.pinned (.plain (OpenSpec.upto fnBakAgainSpec)) fnBakAgainUptoCard
end Rows
end Go.Proofs.YtoidmmedpefjfaaDoor
