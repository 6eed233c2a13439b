/-
  DERIVED. GIVEN WITH THE SEED: THE CARDS: each row of YtpilmldcmpbabaaDoorRows.lean that lists a variable, with what it lists TIED to the program's text (the seventh form; the later family's looks); each row that meets fmt, with fmt's text TOLD by the authors' own Lean function (tested against real Go, not proved from fmt's source: count such statements apart). THE CARD IS WHAT COUNTS. Prove the row's statement (the work); the ties are given (YtpilmldcmpbabaaDoorTie.lean); close each card by the builder's one call (the guide's Derived/Test/ToyasCard.lean, 'card_holds'). Laid BY PROGRAM, IN A SANDBOX (cutbox-door.mjs). By AI agents, Wed Nov 11 2026. No macro, syntax, notation, axiom, sorry.
-/
import Derived.Test.YtpilmldcmpbabaaDoorRows
import GoSem.ClaimSeven
namespace Go.Proofs.YtpilmldcmpbabaaDoor
namespace Rows

/-- THE TIED CARD OF 'laws.FnExactBakLine'. -/
def fnExactBakLineCard : Claim7 := { stood := { row := fnExactBakLineRow, standIns := [], harness := (true, "81e8b5ea4cc18e29f9542ca401f3943720c0cb31b000054a06941f9d94ee34be"), looks := true }, kinds := [], alts := [], laidByText := true, laidKinds := [.data, .data, .data, .sentinel, .sentinel, .sentinel, .sentinel], laidTests := true, laidLooks := .later }
def FnExactBakLineCardSaid : Prop := Claim7.holds Tryd.pinned (.plain (OpenSpec.ofChange fnExactBakLineSpec)) fnExactBakLineCard

/-- THE SECOND FORM's CARD OF 'laws.FnExactBakLine'. -/
def fnExactBakLineUptoCard : Claim7 := { stood := { row := fnExactBakLineUptoRow, standIns := [], harness := (true, "81e8b5ea4cc18e29f9542ca401f3943720c0cb31b000054a06941f9d94ee34be"), looks := true }, kinds := [], alts := [], laidByText := true, laidKinds := [.data, .data, .data, .sentinel, .sentinel, .sentinel, .sentinel], laidTests := true, laidLooks := .later }
def FnExactBakLineUptoCardSaid : Prop := Claim7.holds Tryd.pinned (.plain (OpenSpec.upto fnExactBakLineSpec)) fnExactBakLineUptoCard
end Rows
end Go.Proofs.YtpilmldcmpbabaaDoor
