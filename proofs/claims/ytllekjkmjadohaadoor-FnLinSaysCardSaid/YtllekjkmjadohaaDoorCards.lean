/-
  DERIVED. GIVEN WITH THE SEED: THE CARDS: each row of YtllekjkmjadohaaDoorRows.lean that lists a variable, with what it lists TIED to the program's text (the seventh form; the later family's looks); each row that meets fmt, with fmt's text TOLD by the authors' own Lean function (tested against real Go, not proved from fmt's source: count such statements apart). THE CARD IS WHAT COUNTS. Prove the row's statement (the work); the ties are given (YtllekjkmjadohaaDoorTie.lean); close each card by the builder's one call (the guide's Derived/Test/ToyasCard.lean, 'card_holds'). Laid BY PROGRAM, IN A SANDBOX (cutbox-door.mjs). By AI agents, Wed Nov 11 2026. No macro, syntax, notation, axiom, sorry.
-/
import Derived.Test.YtllekjkmjadohaaDoorRows
import GoSem.ClaimSeven
namespace Go.Proofs.YtllekjkmjadohaaDoor
namespace Rows

/-- THE TIED CARD OF 'laws.FnEndText'. -/
def fnEndTextCard : Claim7 := { stood := { row := fnEndTextRow, standIns := [], harness := (true, "090513287bc4409d542bb104430b6dceb2be6fbd71893a0bd15de2023a4e7c99"), looks := true }, kinds := [], alts := [], laidByText := true, laidKinds := [.data, .data, .data, .sentinel, .sentinel, .sentinel, .sentinel], laidTests := true, laidLooks := .later }
def FnEndTextCardSaid : Prop := Claim7.holds Tryd.pinned (.plain (OpenSpec.ofChange fnEndTextSpec)) fnEndTextCard

/-- THE TIED CARD OF 'laws.FnLinSays'. -/
def fnLinSaysCard : Claim7 := { stood := { row := fnLinSaysRow, standIns := [], harness := (true, "090513287bc4409d542bb104430b6dceb2be6fbd71893a0bd15de2023a4e7c99"), looks := true }, kinds := [], alts := [], laidByText := true, laidKinds := [.data, .data, .data, .sentinel, .sentinel, .sentinel, .sentinel], laidTests := true, laidLooks := .later }
def FnLinSaysCardSaid : Prop := Claim7.holds Tryd.pinned (.plain (OpenSpec.ofChange fnLinSaysSpec)) fnLinSaysCard

/-- THE TIED CARD OF 'laws.FnLinBox'. -/
def fnLinBoxCard : Claim7 := { stood := { row := fnLinBoxRow, standIns := [], harness := (true, "090513287bc4409d542bb104430b6dceb2be6fbd71893a0bd15de2023a4e7c99"), looks := true }, kinds := [], alts := [], laidByText := true, laidKinds := [.data, .data, .data, .sentinel, .sentinel, .sentinel, .sentinel], laidTests := true, laidLooks := .later }
def FnLinBoxCardSaid : Prop := Claim7.holds Tryd.pinned (.plain (OpenSpec.ofChange fnLinBoxSpec)) fnLinBoxCard

/-- THE TIED CARD OF 'laws.FnLinShort'. -/
def fnLinShortCard : Claim7 := { stood := { row := fnLinShortRow, standIns := [], harness := (true, "090513287bc4409d542bb104430b6dceb2be6fbd71893a0bd15de2023a4e7c99"), looks := true }, kinds := [], alts := [], laidByText := true, laidKinds := [.data, .data, .data, .sentinel, .sentinel, .sentinel, .sentinel], laidTests := true, laidLooks := .later }
def FnLinShortCardSaid : Prop := Claim7.holds Tryd.pinned (.plain (OpenSpec.ofChange fnLinShortSpec)) fnLinShortCard

/-- THE TIED CARD OF 'laws.FnEndRead'. -/
def fnEndReadCard : Claim7 := { stood := { row := fnEndReadRow, standIns := [], harness := (true, "090513287bc4409d542bb104430b6dceb2be6fbd71893a0bd15de2023a4e7c99"), looks := true }, kinds := [], alts := [], laidByText := true, laidKinds := [.data, .data, .data, .sentinel, .sentinel, .sentinel, .sentinel], laidTests := true, laidLooks := .later }
def FnEndReadCardSaid : Prop := Claim7.holds Tryd.pinned (.plain (OpenSpec.ofChange fnEndReadSpec)) fnEndReadCard

/-- THE SECOND FORM's CARD OF 'laws.FnEndText'. -/
def fnEndTextUptoCard : Claim7 := { stood := { row := fnEndTextUptoRow, standIns := [], harness := (true, "090513287bc4409d542bb104430b6dceb2be6fbd71893a0bd15de2023a4e7c99"), looks := true }, kinds := [], alts := [], laidByText := true, laidKinds := [.data, .data, .data, .sentinel, .sentinel, .sentinel, .sentinel], laidTests := true, laidLooks := .later }
def FnEndTextUptoCardSaid : Prop := Claim7.holds Tryd.pinned (.plain (OpenSpec.upto fnEndTextSpec)) fnEndTextUptoCard

/-- THE SECOND FORM's CARD OF 'laws.FnLinSays'. -/
def fnLinSaysUptoCard : Claim7 := { stood := { row := fnLinSaysUptoRow, standIns := [], harness := (true, "090513287bc4409d542bb104430b6dceb2be6fbd71893a0bd15de2023a4e7c99"), looks := true }, kinds := [], alts := [], laidByText := true, laidKinds := [.data, .data, .data, .sentinel, .sentinel, .sentinel, .sentinel], laidTests := true, laidLooks := .later }
def FnLinSaysUptoCardSaid : Prop := Claim7.holds Tryd.pinned (.plain (OpenSpec.upto fnLinSaysSpec)) fnLinSaysUptoCard

/-- THE SECOND FORM's CARD OF 'laws.FnLinBox'. -/
def fnLinBoxUptoCard : Claim7 := { stood := { row := fnLinBoxUptoRow, standIns := [], harness := (true, "090513287bc4409d542bb104430b6dceb2be6fbd71893a0bd15de2023a4e7c99"), looks := true }, kinds := [], alts := [], laidByText := true, laidKinds := [.data, .data, .data, .sentinel, .sentinel, .sentinel, .sentinel], laidTests := true, laidLooks := .later }
def FnLinBoxUptoCardSaid : Prop := Claim7.holds Tryd.pinned (.plain (OpenSpec.upto fnLinBoxSpec)) fnLinBoxUptoCard

/-- THE SECOND FORM's CARD OF 'laws.FnLinShort'. -/
def fnLinShortUptoCard : Claim7 := { stood := { row := fnLinShortUptoRow, standIns := [], harness := (true, "090513287bc4409d542bb104430b6dceb2be6fbd71893a0bd15de2023a4e7c99"), looks := true }, kinds := [], alts := [], laidByText := true, laidKinds := [.data, .data, .data, .sentinel, .sentinel, .sentinel, .sentinel], laidTests := true, laidLooks := .later }
def FnLinShortUptoCardSaid : Prop := Claim7.holds Tryd.pinned (.plain (OpenSpec.upto fnLinShortSpec)) fnLinShortUptoCard

/-- THE SECOND FORM's CARD OF 'laws.FnEndRead'. -/
def fnEndReadUptoCard : Claim7 := { stood := { row := fnEndReadUptoRow, standIns := [], harness := (true, "090513287bc4409d542bb104430b6dceb2be6fbd71893a0bd15de2023a4e7c99"), looks := true }, kinds := [], alts := [], laidByText := true, laidKinds := [.data, .data, .data, .sentinel, .sentinel, .sentinel, .sentinel], laidTests := true, laidLooks := .later }
def FnEndReadUptoCardSaid : Prop := Claim7.holds Tryd.pinned (.plain (OpenSpec.upto fnEndReadSpec)) fnEndReadUptoCard
end Rows
end Go.Proofs.YtllekjkmjadohaaDoor
