/-
  DERIVED. GIVEN WITH THE SEED: THE CARDS: each row of YtjnhmobdigfpiaaDoorRows.lean that lists a variable, with what it lists TIED to the program's text (the seventh form; the later family's looks); each row that meets fmt, with fmt's text TOLD by the authors' own Lean function (tested against real Go, not proved from fmt's source: count such statements apart). THE CARD IS WHAT COUNTS. Prove the row's statement (the work); the ties are given (YtjnhmobdigfpiaaDoorTie.lean); close each card by the builder's one call (the guide's Derived/Test/ToyasCard.lean, 'card_holds'). Laid BY PROGRAM, IN A SANDBOX (cutbox-door.mjs). By AI agents, Wed Nov 11 2026. No macro, syntax, notation, axiom, sorry.
-/
import Derived.Test.YtjnhmobdigfpiaaDoorRows
import GoSem.ClaimSeven
namespace Go.Proofs.YtjnhmobdigfpiaaDoor
namespace Rows

/-- THE TIED CARD OF 'laws.FnSegBytes'. -/
def fnSegBytesCard : Claim7 := { stood := { row := fnSegBytesRow, standIns := [], harness := (true, "026505c37a738096d08e930bb68703db92c99c0e5ed359e4b7f3aa97a9cceb9e"), looks := true }, kinds := [], alts := [], laidByText := true, laidKinds := [.sentinel, .sentinel, .sentinel, .sentinel], laidTests := true, laidLooks := .later }
def FnSegBytesCardSaid : Prop := Claim7.holds Tryd.pinned (.plain (OpenSpec.ofChange fnSegBytesSpec)) fnSegBytesCard

/-- THE TIED CARD OF 'laws.FnRulText'. -/
def fnRulTextCard : Claim7 := { stood := { row := fnRulTextRow, standIns := [], harness := (true, "026505c37a738096d08e930bb68703db92c99c0e5ed359e4b7f3aa97a9cceb9e"), looks := true }, kinds := [], alts := [], laidByText := true, laidKinds := [.data, .data, .data, .data, .sentinel, .sentinel, .sentinel, .sentinel, .pinned], laidTests := true, laidLooks := .later }
def FnRulTextCardSaid : Prop := Claim7.holds Tryd.pinned (.plain (OpenSpec.ofChange fnRulTextSpec)) fnRulTextCard

/-- THE SECOND FORM's CARD OF 'laws.FnSegBytes'. -/
def fnSegBytesUptoCard : Claim7 := { stood := { row := fnSegBytesUptoRow, standIns := [], harness := (true, "026505c37a738096d08e930bb68703db92c99c0e5ed359e4b7f3aa97a9cceb9e"), looks := true }, kinds := [], alts := [], laidByText := true, laidKinds := [.sentinel, .sentinel, .sentinel, .sentinel], laidTests := true, laidLooks := .later }
def FnSegBytesUptoCardSaid : Prop := Claim7.holds Tryd.pinned (.plain (OpenSpec.upto fnSegBytesSpec)) fnSegBytesUptoCard

/-- THE SECOND FORM's CARD OF 'laws.FnRulText'. -/
def fnRulTextUptoCard : Claim7 := { stood := { row := fnRulTextUptoRow, standIns := [], harness := (true, "026505c37a738096d08e930bb68703db92c99c0e5ed359e4b7f3aa97a9cceb9e"), looks := true }, kinds := [], alts := [], laidByText := true, laidKinds := [.data, .data, .data, .data, .sentinel, .sentinel, .sentinel, .sentinel, .pinned], laidTests := true, laidLooks := .later }
def FnRulTextUptoCardSaid : Prop := Claim7.holds Tryd.pinned (.plain (OpenSpec.upto fnRulTextSpec)) fnRulTextUptoCard
end Rows
end Go.Proofs.YtjnhmobdigfpiaaDoor
