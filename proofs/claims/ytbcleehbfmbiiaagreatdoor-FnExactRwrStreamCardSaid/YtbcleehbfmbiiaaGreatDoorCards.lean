/-
  DERIVED. GIVEN WITH THE SEED: THE CARDS: each row of YtbcleehbfmbiiaaGreatDoorRows.lean that lists a variable, with what it lists TIED to the program's text (the seventh form; the later family's looks); each row that meets fmt, with fmt's text TOLD by the authors' own Lean function (tested against real Go, not proved from fmt's source: count such statements apart). THE CARD IS WHAT COUNTS. Prove the row's statement (the work); the ties are given (YtbcleehbfmbiiaaGreatDoorTie.lean); close each card by the builder's one call (the guide's Derived/Test/ToyasCard.lean, 'card_holds'). Laid BY PROGRAM, IN A SANDBOX (cutbox-door.mjs). By AI agents, Wed Nov 11 2026. No macro, syntax, notation, axiom, sorry.
-/
import Derived.Test.YtbcleehbfmbiiaaGreatDoorRows
import GoSem.ClaimSeven
namespace Go.Proofs.YtbcleehbfmbiiaaGreatDoor
namespace Rows

/-- THE TIED CARD OF 'laws.FnExactRwrLine'. -/
def fnExactRwrLineCard : Claim7 := { stood := { row := fnExactRwrLineRow, standIns := [], harness := (true, "684e2096fa77a1b11fe23757cf8c0b2bad33c022bdc330d70b00296934d1f1a9"), looks := true }, kinds := [], alts := [], laidByText := true, laidKinds := [.data, .data, .data, .sentinel, .sentinel, .sentinel, .sentinel], laidTests := true, laidLooks := .later }
def FnExactRwrLineCardSaid : Prop := Claim7.holds Tryz.pinned (.plain (OpenSpec.ofChange fnExactRwrLineSpec)) fnExactRwrLineCard

/-- THE TIED CARD OF 'laws.FnExactRwrStream'. -/
def fnExactRwrStreamCard : Claim7 := { stood := { row := fnExactRwrStreamRow, standIns := [], harness := (true, "684e2096fa77a1b11fe23757cf8c0b2bad33c022bdc330d70b00296934d1f1a9"), looks := true }, kinds := [], alts := [], laidByText := true, laidKinds := [.data, .data, .data, .sentinel, .sentinel, .sentinel, .sentinel], laidTests := true, laidLooks := .later }
def FnExactRwrStreamCardSaid : Prop := Claim7.holds Tryz.pinned (.plain (OpenSpec.ofChange fnExactRwrStreamSpec)) fnExactRwrStreamCard

/-- THE TIED CARD OF 'laws.FnExactPosSpans'. -/
def fnExactPosSpansCard : Claim7 := { stood := { row := fnExactPosSpansRow, standIns := [], harness := (true, "684e2096fa77a1b11fe23757cf8c0b2bad33c022bdc330d70b00296934d1f1a9"), looks := true }, kinds := [], alts := [], laidByText := true, laidKinds := [.data, .data, .data, .sentinel, .sentinel, .sentinel, .sentinel], laidTests := true, laidLooks := .later }
def FnExactPosSpansCardSaid : Prop := Claim7.holds Tryz.pinned (.plain (OpenSpec.ofChange fnExactPosSpansSpec)) fnExactPosSpansCard

/-- THE TIED CARD OF 'laws.FnExactPosOut'. -/
def fnExactPosOutCard : Claim7 := { stood := { row := fnExactPosOutRow, standIns := [], harness := (true, "684e2096fa77a1b11fe23757cf8c0b2bad33c022bdc330d70b00296934d1f1a9"), looks := true }, kinds := [], alts := [], laidByText := true, laidKinds := [.data, .data, .data, .sentinel, .sentinel, .sentinel, .sentinel], laidTests := true, laidLooks := .later }
def FnExactPosOutCardSaid : Prop := Claim7.holds Tryz.pinned (.plain (OpenSpec.ofChange fnExactPosOutSpec)) fnExactPosOutCard

/-- THE TIED CARD OF 'laws.FnExactPosBack'. -/
def fnExactPosBackCard : Claim7 := { stood := { row := fnExactPosBackRow, standIns := [], harness := (true, "684e2096fa77a1b11fe23757cf8c0b2bad33c022bdc330d70b00296934d1f1a9"), looks := true }, kinds := [], alts := [], laidByText := true, laidKinds := [.data, .data, .data, .sentinel, .sentinel, .sentinel, .sentinel], laidTests := true, laidLooks := .later }
def FnExactPosBackCardSaid : Prop := Claim7.holds Tryz.pinned (.plain (OpenSpec.ofChange fnExactPosBackSpec)) fnExactPosBackCard

/-- THE SECOND FORM's CARD OF 'laws.FnExactRwrLine'. -/
def fnExactRwrLineUptoCard : Claim7 := { stood := { row := fnExactRwrLineUptoRow, standIns := [], harness := (true, "684e2096fa77a1b11fe23757cf8c0b2bad33c022bdc330d70b00296934d1f1a9"), looks := true }, kinds := [], alts := [], laidByText := true, laidKinds := [.data, .data, .data, .sentinel, .sentinel, .sentinel, .sentinel], laidTests := true, laidLooks := .later }
def FnExactRwrLineUptoCardSaid : Prop := Claim7.holds Tryz.pinned (.plain (OpenSpec.upto fnExactRwrLineSpec)) fnExactRwrLineUptoCard

/-- THE SECOND FORM's CARD OF 'laws.FnExactRwrStream'. -/
def fnExactRwrStreamUptoCard : Claim7 := { stood := { row := fnExactRwrStreamUptoRow, standIns := [], harness := (true, "684e2096fa77a1b11fe23757cf8c0b2bad33c022bdc330d70b00296934d1f1a9"), looks := true }, kinds := [], alts := [], laidByText := true, laidKinds := [.data, .data, .data, .sentinel, .sentinel, .sentinel, .sentinel], laidTests := true, laidLooks := .later }
def FnExactRwrStreamUptoCardSaid : Prop := Claim7.holds Tryz.pinned (.plain (OpenSpec.upto fnExactRwrStreamSpec)) fnExactRwrStreamUptoCard

/-- THE SECOND FORM's CARD OF 'laws.FnExactPosSpans'. -/
def fnExactPosSpansUptoCard : Claim7 := { stood := { row := fnExactPosSpansUptoRow, standIns := [], harness := (true, "684e2096fa77a1b11fe23757cf8c0b2bad33c022bdc330d70b00296934d1f1a9"), looks := true }, kinds := [], alts := [], laidByText := true, laidKinds := [.data, .data, .data, .sentinel, .sentinel, .sentinel, .sentinel], laidTests := true, laidLooks := .later }
def FnExactPosSpansUptoCardSaid : Prop := Claim7.holds Tryz.pinned (.plain (OpenSpec.upto fnExactPosSpansSpec)) fnExactPosSpansUptoCard

/-- THE SECOND FORM's CARD OF 'laws.FnExactPosOut'. -/
def fnExactPosOutUptoCard : Claim7 := { stood := { row := fnExactPosOutUptoRow, standIns := [], harness := (true, "684e2096fa77a1b11fe23757cf8c0b2bad33c022bdc330d70b00296934d1f1a9"), looks := true }, kinds := [], alts := [], laidByText := true, laidKinds := [.data, .data, .data, .sentinel, .sentinel, .sentinel, .sentinel], laidTests := true, laidLooks := .later }
def FnExactPosOutUptoCardSaid : Prop := Claim7.holds Tryz.pinned (.plain (OpenSpec.upto fnExactPosOutSpec)) fnExactPosOutUptoCard

/-- THE SECOND FORM's CARD OF 'laws.FnExactPosBack'. -/
def fnExactPosBackUptoCard : Claim7 := { stood := { row := fnExactPosBackUptoRow, standIns := [], harness := (true, "684e2096fa77a1b11fe23757cf8c0b2bad33c022bdc330d70b00296934d1f1a9"), looks := true }, kinds := [], alts := [], laidByText := true, laidKinds := [.data, .data, .data, .sentinel, .sentinel, .sentinel, .sentinel], laidTests := true, laidLooks := .later }
def FnExactPosBackUptoCardSaid : Prop := Claim7.holds Tryz.pinned (.plain (OpenSpec.upto fnExactPosBackSpec)) fnExactPosBackUptoCard
end Rows
end Go.Proofs.YtbcleehbfmbiiaaGreatDoor
