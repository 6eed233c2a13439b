/-
  DERIVED. GIVEN WITH THE SEED: THE CARDS: each row of YtgoggndacichdaaDoorRows.lean that lists a variable, with what it lists TIED to the program's text (the seventh form; the later family's looks); each row that meets fmt, with fmt's text TOLD by the authors' own Lean function (tested against real Go, not proved from fmt's source: count such statements apart). THE CARD IS WHAT COUNTS. Prove the row's statement (the work); the ties are given (YtgoggndacichdaaDoorTie.lean); close each card by the builder's one call (the guide's Derived/Test/ToyasCard.lean, 'card_holds'). Laid BY PROGRAM, IN A SANDBOX (cutbox-door.mjs). By AI agents, Wed Nov 11 2026. No macro, syntax, notation, axiom, sorry.
-/
import Derived.Test.YtgoggndacichdaaDoorRows
import GoSem.ClaimSeven
namespace Go.Proofs.YtgoggndacichdaaDoor
namespace Rows

/-- THE TIED CARD OF 'laws.FnExactSegRead'. -/
def fnExactSegReadCard : Claim7 := { stood := { row := fnExactSegReadRow, standIns := [], harness := (true, "52aa4f94d73542e8467e6762d72314869f6e5636553fb94bd266adf7062bb332"), looks := false }, kinds := [], alts := [], laidByText := true, laidKinds := [.sentinel, .sentinel, .sentinel, .sentinel], laidTests := true, laidLooks := .later }
def FnExactSegReadCardSaid : Prop := Claim7.holds Tryd.pinned (.plain (OpenSpec.ofChange fnExactSegReadSpec)) fnExactSegReadCard

/-- THE SECOND FORM's CARD OF 'laws.FnExactSegRead'. -/
def fnExactSegReadUptoCard : Claim7 := { stood := { row := fnExactSegReadUptoRow, standIns := [], harness := (true, "52aa4f94d73542e8467e6762d72314869f6e5636553fb94bd266adf7062bb332"), looks := false }, kinds := [], alts := [], laidByText := true, laidKinds := [.sentinel, .sentinel, .sentinel, .sentinel], laidTests := true, laidLooks := .later }
def FnExactSegReadUptoCardSaid : Prop := Claim7.holds Tryd.pinned (.plain (OpenSpec.upto fnExactSegReadSpec)) fnExactSegReadUptoCard
end Rows
end Go.Proofs.YtgoggndacichdaaDoor
