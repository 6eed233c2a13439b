/-
  DERIVED. GIVEN WITH THE SEED: THE CARDS: each row of YtoidmmedpefjfaaGreatDoorRows.lean that lists a variable, with what it lists TIED to the program's text (the seventh form; the later family's looks); each row that meets fmt, with fmt's text TOLD by the authors' own Lean function (tested against real Go, not proved from fmt's source: count such statements apart). THE CARD IS WHAT COUNTS. Prove the row's statement (the work); the ties are given (YtoidmmedpefjfaaGreatDoorTie.lean); close each card by the builder's one call (the guide's Derived/Test/ToyasCard.lean, 'card_holds'). Laid BY PROGRAM, IN A SANDBOX (cutbox-door.mjs). By AI agents, Wed Nov 11 2026. No macro, syntax, notation, axiom, sorry.
-/
import Derived.Test.YtoidmmedpefjfaaGreatDoorRows
import GoSem.ClaimSeven
namespace Go.Proofs.YtoidmmedpefjfaaGreatDoor
namespace Rows

/-- THE TIED CARD OF 'laws.FnRwrLine'. -/
def fnRwrLineCard : Claim7 := { stood := { row := fnRwrLineRow, standIns := [], harness := (true, "21360af7b2026d16b0d8146fab92a4b1e35233d2baaafb63734262b29b2e0371"), looks := true }, kinds := [], alts := [], laidByText := true, laidKinds := [.data, .data, .data, .sentinel, .sentinel, .sentinel, .sentinel], laidTests := true, laidLooks := .later }
def FnRwrLineCardSaid : Prop := Claim7.holds Tryz.pinned (.plain (OpenSpec.ofChange fnRwrLineSpec)) fnRwrLineCard

/-- THE TIED CARD OF 'laws.FnRwrStream'. -/
def fnRwrStreamCard : Claim7 := { stood := { row := fnRwrStreamRow, standIns := [], harness := (true, "21360af7b2026d16b0d8146fab92a4b1e35233d2baaafb63734262b29b2e0371"), looks := true }, kinds := [], alts := [], laidByText := true, laidKinds := [.data, .data, .data, .sentinel, .sentinel, .sentinel, .sentinel], laidTests := true, laidLooks := .later }
def FnRwrStreamCardSaid : Prop := Claim7.holds Tryz.pinned (.plain (OpenSpec.ofChange fnRwrStreamSpec)) fnRwrStreamCard

/-- THE TIED CARD OF 'laws.FnPosSpans'. -/
def fnPosSpansCard : Claim7 := { stood := { row := fnPosSpansRow, standIns := [], harness := (true, "21360af7b2026d16b0d8146fab92a4b1e35233d2baaafb63734262b29b2e0371"), looks := true }, kinds := [], alts := [], laidByText := true, laidKinds := [.data, .data, .data, .sentinel, .sentinel, .sentinel, .sentinel], laidTests := true, laidLooks := .later }
def FnPosSpansCardSaid : Prop := Claim7.holds Tryz.pinned (.plain (OpenSpec.ofChange fnPosSpansSpec)) fnPosSpansCard

/-- THE TIED CARD OF 'laws.FnPosOut'. -/
def fnPosOutCard : Claim7 := { stood := { row := fnPosOutRow, standIns := [], harness := (true, "21360af7b2026d16b0d8146fab92a4b1e35233d2baaafb63734262b29b2e0371"), looks := true }, kinds := [], alts := [], laidByText := true, laidKinds := [.data, .data, .data, .sentinel, .sentinel, .sentinel, .sentinel], laidTests := true, laidLooks := .later }
def FnPosOutCardSaid : Prop := Claim7.holds Tryz.pinned (.plain (OpenSpec.ofChange fnPosOutSpec)) fnPosOutCard

/-- THE TIED CARD OF 'laws.FnPosBack'. -/
def fnPosBackCard : Claim7 := { stood := { row := fnPosBackRow, standIns := [], harness := (true, "21360af7b2026d16b0d8146fab92a4b1e35233d2baaafb63734262b29b2e0371"), looks := true }, kinds := [], alts := [], laidByText := true, laidKinds := [.data, .data, .data, .sentinel, .sentinel, .sentinel, .sentinel], laidTests := true, laidLooks := .later }
def FnPosBackCardSaid : Prop := Claim7.holds Tryz.pinned (.plain (OpenSpec.ofChange fnPosBackSpec)) fnPosBackCard

/-- THE TIED CARD OF 'laws.FnBakLine'. -/
def fnBakLineCard : Claim7 := { stood := { row := fnBakLineRow, standIns := [], harness := (true, "21360af7b2026d16b0d8146fab92a4b1e35233d2baaafb63734262b29b2e0371"), looks := true }, kinds := [], alts := [], laidByText := true, laidKinds := [.data, .data, .data, .sentinel, .sentinel, .sentinel, .sentinel], laidTests := true, laidLooks := .later }
def FnBakLineCardSaid : Prop := Claim7.holds Tryz.pinned (.plain (OpenSpec.ofChange fnBakLineSpec)) fnBakLineCard

/-- THE TIED CARD OF 'laws.FnBakRwr'. -/
def fnBakRwrCard : Claim7 := { stood := { row := fnBakRwrRow, standIns := [], harness := (true, "21360af7b2026d16b0d8146fab92a4b1e35233d2baaafb63734262b29b2e0371"), looks := true }, kinds := [], alts := [], laidByText := true, laidKinds := [.data, .data, .data, .sentinel, .sentinel, .sentinel, .sentinel], laidTests := true, laidLooks := .later }
def FnBakRwrCardSaid : Prop := Claim7.holds Tryz.pinned (.plain (OpenSpec.ofChange fnBakRwrSpec)) fnBakRwrCard

/-- THE TIED CARD OF 'laws.FnPosPlain'. -/
def fnPosPlainCard : Claim7 := { stood := { row := fnPosPlainRow, standIns := [], harness := (true, "21360af7b2026d16b0d8146fab92a4b1e35233d2baaafb63734262b29b2e0371"), looks := true }, kinds := [], alts := [], laidByText := true, laidKinds := [.data, .data, .data, .sentinel, .sentinel, .sentinel, .sentinel], laidTests := true, laidLooks := .later }
def FnPosPlainCardSaid : Prop := Claim7.holds Tryz.pinned (.plain (OpenSpec.ofChange fnPosPlainSpec)) fnPosPlainCard

/-- THE TIED CARD OF 'laws.FnRwrRoom'. -/
def fnRwrRoomCard : Claim7 := { stood := { row := fnRwrRoomRow, standIns := [], harness := (true, "21360af7b2026d16b0d8146fab92a4b1e35233d2baaafb63734262b29b2e0371"), looks := true }, kinds := [], alts := [], laidByText := true, laidKinds := [.data, .data, .data, .sentinel, .sentinel, .sentinel, .sentinel], laidTests := true, laidLooks := .later }
def FnRwrRoomCardSaid : Prop := Claim7.holds Tryz.pinned (.plain (OpenSpec.ofChange fnRwrRoomSpec)) fnRwrRoomCard

/-- THE TIED CARD OF 'laws.FnPosLine'. -/
def fnPosLineCard : Claim7 := { stood := { row := fnPosLineRow, standIns := [], harness := (true, "21360af7b2026d16b0d8146fab92a4b1e35233d2baaafb63734262b29b2e0371"), looks := true }, kinds := [], alts := [], laidByText := true, laidKinds := [.data, .data, .data, .sentinel, .sentinel, .sentinel, .sentinel], laidTests := true, laidLooks := .later }
def FnPosLineCardSaid : Prop := Claim7.holds Tryz.pinned (.plain (OpenSpec.ofChange fnPosLineSpec)) fnPosLineCard

/-- THE SECOND FORM's CARD OF 'laws.FnRwrLine'. -/
def fnRwrLineUptoCard : Claim7 := { stood := { row := fnRwrLineUptoRow, standIns := [], harness := (true, "21360af7b2026d16b0d8146fab92a4b1e35233d2baaafb63734262b29b2e0371"), looks := true }, kinds := [], alts := [], laidByText := true, laidKinds := [.data, .data, .data, .sentinel, .sentinel, .sentinel, .sentinel], laidTests := true, laidLooks := .later }
def FnRwrLineUptoCardSaid : Prop := Claim7.holds Tryz.pinned (.plain (OpenSpec.upto fnRwrLineSpec)) fnRwrLineUptoCard

/-- THE SECOND FORM's CARD OF 'laws.FnRwrStream'. -/
def fnRwrStreamUptoCard : Claim7 := { stood := { row := fnRwrStreamUptoRow, standIns := [], harness := (true, "21360af7b2026d16b0d8146fab92a4b1e35233d2baaafb63734262b29b2e0371"), looks := true }, kinds := [], alts := [], laidByText := true, laidKinds := [.data, .data, .data, .sentinel, .sentinel, .sentinel, .sentinel], laidTests := true, laidLooks := .later }
def FnRwrStreamUptoCardSaid : Prop := Claim7.holds Tryz.pinned (.plain (OpenSpec.upto fnRwrStreamSpec)) fnRwrStreamUptoCard

/-- THE SECOND FORM's CARD OF 'laws.FnPosSpans'. -/
def fnPosSpansUptoCard : Claim7 := { stood := { row := fnPosSpansUptoRow, standIns := [], harness := (true, "21360af7b2026d16b0d8146fab92a4b1e35233d2baaafb63734262b29b2e0371"), looks := true }, kinds := [], alts := [], laidByText := true, laidKinds := [.data, .data, .data, .sentinel, .sentinel, .sentinel, .sentinel], laidTests := true, laidLooks := .later }
def FnPosSpansUptoCardSaid : Prop := Claim7.holds Tryz.pinned (.plain (OpenSpec.upto fnPosSpansSpec)) fnPosSpansUptoCard

/-- THE SECOND FORM's CARD OF 'laws.FnPosOut'. -/
def fnPosOutUptoCard : Claim7 := { stood := { row := fnPosOutUptoRow, standIns := [], harness := (true, "21360af7b2026d16b0d8146fab92a4b1e35233d2baaafb63734262b29b2e0371"), looks := true }, kinds := [], alts := [], laidByText := true, laidKinds := [.data, .data, .data, .sentinel, .sentinel, .sentinel, .sentinel], laidTests := true, laidLooks := .later }
def FnPosOutUptoCardSaid : Prop := Claim7.holds Tryz.pinned (.plain (OpenSpec.upto fnPosOutSpec)) fnPosOutUptoCard

/-- THE SECOND FORM's CARD OF 'laws.FnPosBack'. -/
def fnPosBackUptoCard : Claim7 := { stood := { row := fnPosBackUptoRow, standIns := [], harness := (true, "21360af7b2026d16b0d8146fab92a4b1e35233d2baaafb63734262b29b2e0371"), looks := true }, kinds := [], alts := [], laidByText := true, laidKinds := [.data, .data, .data, .sentinel, .sentinel, .sentinel, .sentinel], laidTests := true, laidLooks := .later }
def FnPosBackUptoCardSaid : Prop := Claim7.holds Tryz.pinned (.plain (OpenSpec.upto fnPosBackSpec)) fnPosBackUptoCard

/-- THE SECOND FORM's CARD OF 'laws.FnBakLine'. -/
def fnBakLineUptoCard : Claim7 := { stood := { row := fnBakLineUptoRow, standIns := [], harness := (true, "21360af7b2026d16b0d8146fab92a4b1e35233d2baaafb63734262b29b2e0371"), looks := true }, kinds := [], alts := [], laidByText := true, laidKinds := [.data, .data, .data, .sentinel, .sentinel, .sentinel, .sentinel], laidTests := true, laidLooks := .later }
def FnBakLineUptoCardSaid : Prop := Claim7.holds Tryz.pinned (.plain (OpenSpec.upto fnBakLineSpec)) fnBakLineUptoCard

/-- THE SECOND FORM's CARD OF 'laws.FnBakRwr'. -/
def fnBakRwrUptoCard : Claim7 := { stood := { row := fnBakRwrUptoRow, standIns := [], harness := (true, "21360af7b2026d16b0d8146fab92a4b1e35233d2baaafb63734262b29b2e0371"), looks := true }, kinds := [], alts := [], laidByText := true, laidKinds := [.data, .data, .data, .sentinel, .sentinel, .sentinel, .sentinel], laidTests := true, laidLooks := .later }
def FnBakRwrUptoCardSaid : Prop := Claim7.holds Tryz.pinned (.plain (OpenSpec.upto fnBakRwrSpec)) fnBakRwrUptoCard

/-- THE SECOND FORM's CARD OF 'laws.FnPosPlain'. -/
def fnPosPlainUptoCard : Claim7 := { stood := { row := fnPosPlainUptoRow, standIns := [], harness := (true, "21360af7b2026d16b0d8146fab92a4b1e35233d2baaafb63734262b29b2e0371"), looks := true }, kinds := [], alts := [], laidByText := true, laidKinds := [.data, .data, .data, .sentinel, .sentinel, .sentinel, .sentinel], laidTests := true, laidLooks := .later }
def FnPosPlainUptoCardSaid : Prop := Claim7.holds Tryz.pinned (.plain (OpenSpec.upto fnPosPlainSpec)) fnPosPlainUptoCard

/-- THE SECOND FORM's CARD OF 'laws.FnRwrRoom'. -/
def fnRwrRoomUptoCard : Claim7 := { stood := { row := fnRwrRoomUptoRow, standIns := [], harness := (true, "21360af7b2026d16b0d8146fab92a4b1e35233d2baaafb63734262b29b2e0371"), looks := true }, kinds := [], alts := [], laidByText := true, laidKinds := [.data, .data, .data, .sentinel, .sentinel, .sentinel, .sentinel], laidTests := true, laidLooks := .later }
def FnRwrRoomUptoCardSaid : Prop := Claim7.holds Tryz.pinned (.plain (OpenSpec.upto fnRwrRoomSpec)) fnRwrRoomUptoCard

/-- THE SECOND FORM's CARD OF 'laws.FnPosLine'. -/
def fnPosLineUptoCard : Claim7 := { stood := { row := fnPosLineUptoRow, standIns := [], harness := (true, "21360af7b2026d16b0d8146fab92a4b1e35233d2baaafb63734262b29b2e0371"), looks := true }, kinds := [], alts := [], laidByText := true, laidKinds := [.data, .data, .data, .sentinel, .sentinel, .sentinel, .sentinel], laidTests := true, laidLooks := .later }
def FnPosLineUptoCardSaid : Prop := Claim7.holds Tryz.pinned (.plain (OpenSpec.upto fnPosLineSpec)) fnPosLineUptoCard
end Rows
end Go.Proofs.YtoidmmedpefjfaaGreatDoor
