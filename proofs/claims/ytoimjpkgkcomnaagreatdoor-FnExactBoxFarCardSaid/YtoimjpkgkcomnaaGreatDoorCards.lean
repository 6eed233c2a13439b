/-
  DERIVED. GIVEN WITH THE SEED: THE CARDS: each row of YtoimjpkgkcomnaaGreatDoorRows.lean that lists a variable, with what it lists TIED to the program's text (the seventh form; the later family's looks); each row that meets fmt, with fmt's text TOLD by the authors' own Lean function (tested against real Go, not proved from fmt's source: count such statements apart). THE CARD IS WHAT COUNTS. Prove the row's statement (the work); the ties are given (YtoimjpkgkcomnaaGreatDoorTie.lean); close each card by the builder's one call (the guide's Derived/Test/ToyasCard.lean, 'card_holds'). Laid BY PROGRAM, IN A SANDBOX (cutbox-door.mjs). By AI agents, Wed Nov 11 2026. No macro, syntax, notation, axiom, sorry.
-/
import Derived.Test.YtoimjpkgkcomnaaGreatDoorRows
import GoSem.ClaimSeven
namespace Go.Proofs.YtoimjpkgkcomnaaGreatDoor
namespace Rows

/-- THE TIED CARD OF 'laws.FnBoxLate'. -/
def fnBoxLateCard : Claim7 := { stood := { row := fnBoxLateRow, standIns := [], harness := (true, "9ed8cb76d2e2d5517293aec4c5df016450ea33d0af7c41bf8abe03b0e5507e58"), looks := true }, kinds := [], alts := [], goes := true, laidByText := true, laidKinds := [.data, .data, .data, .sentinel, .sentinel, .sentinel, .sentinel], laidTests := true, laidLooks := .later }
def FnBoxLateCardSaid : Prop := Claim7.holds Tryz.pinned (.plain (OpenSpec.ofChange fnBoxLateSpec)) fnBoxLateCard

/-- THE TIED CARD OF 'laws.FnExactBoxOk'. -/
def fnExactBoxOkCard : Claim7 := { stood := { row := fnExactBoxOkRow, standIns := [], harness := (true, "9ed8cb76d2e2d5517293aec4c5df016450ea33d0af7c41bf8abe03b0e5507e58"), looks := true }, kinds := [], alts := [], goes := true, laidByText := true, laidKinds := [.data, .data, .data, .sentinel, .sentinel, .sentinel, .sentinel], laidTests := true, laidLooks := .later }
def FnExactBoxOkCardSaid : Prop := Claim7.holds Tryz.pinned (.plain (OpenSpec.ofChange fnExactBoxOkSpec)) fnExactBoxOkCard

/-- THE TIED CARD OF 'laws.FnExactBoxFar'. -/
def fnExactBoxFarCard : Claim7 := { stood := { row := fnExactBoxFarRow, standIns := [], harness := (true, "9ed8cb76d2e2d5517293aec4c5df016450ea33d0af7c41bf8abe03b0e5507e58"), looks := true }, kinds := [], alts := [], goes := true, laidByText := true, laidKinds := [.data, .data, .data, .sentinel, .sentinel, .sentinel, .sentinel], laidTests := true, laidLooks := .later }
def FnExactBoxFarCardSaid : Prop := Claim7.holds Tryz.pinned (.plain (OpenSpec.ofChange fnExactBoxFarSpec)) fnExactBoxFarCard

/-- THE TIED CARD OF 'laws.FnExactBoxOut'. -/
def fnExactBoxOutCard : Claim7 := { stood := { row := fnExactBoxOutRow, standIns := [], harness := (true, "9ed8cb76d2e2d5517293aec4c5df016450ea33d0af7c41bf8abe03b0e5507e58"), looks := true }, kinds := [], alts := [], goes := true, laidByText := true, laidKinds := [.data, .data, .data, .sentinel, .sentinel, .sentinel, .sentinel], laidTests := true, laidLooks := .later }
def FnExactBoxOutCardSaid : Prop := Claim7.holds Tryz.pinned (.plain (OpenSpec.ofChange fnExactBoxOutSpec)) fnExactBoxOutCard

/-- THE TIED CARD OF 'laws.FnExactBoxIn'. -/
def fnExactBoxInCard : Claim7 := { stood := { row := fnExactBoxInRow, standIns := [], harness := (true, "9ed8cb76d2e2d5517293aec4c5df016450ea33d0af7c41bf8abe03b0e5507e58"), looks := true }, kinds := [], alts := [], goes := true, laidByText := true, laidKinds := [.data, .data, .data, .sentinel, .sentinel, .sentinel, .sentinel], laidTests := true, laidLooks := .later }
def FnExactBoxInCardSaid : Prop := Claim7.holds Tryz.pinned (.plain (OpenSpec.ofChange fnExactBoxInSpec)) fnExactBoxInCard

/-- THE TIED CARD OF 'laws.FnExactBoxTurn'. -/
def fnExactBoxTurnCard : Claim7 := { stood := { row := fnExactBoxTurnRow, standIns := [], harness := (true, "9ed8cb76d2e2d5517293aec4c5df016450ea33d0af7c41bf8abe03b0e5507e58"), looks := true }, kinds := [], alts := [], goes := true, laidByText := true, laidKinds := [.data, .data, .data, .sentinel, .sentinel, .sentinel, .sentinel], laidTests := true, laidLooks := .later }
def FnExactBoxTurnCardSaid : Prop := Claim7.holds Tryz.pinned (.plain (OpenSpec.ofChange fnExactBoxTurnSpec)) fnExactBoxTurnCard

/-- THE SECOND FORM's CARD OF 'laws.FnBoxLate'. -/
def fnBoxLateUptoCard : Claim7 := { stood := { row := fnBoxLateUptoRow, standIns := [], harness := (true, "9ed8cb76d2e2d5517293aec4c5df016450ea33d0af7c41bf8abe03b0e5507e58"), looks := true }, kinds := [], alts := [], goes := true, laidByText := true, laidKinds := [.data, .data, .data, .sentinel, .sentinel, .sentinel, .sentinel], laidTests := true, laidLooks := .later }
def FnBoxLateUptoCardSaid : Prop := Claim7.holds Tryz.pinned (.plain (OpenSpec.upto fnBoxLateSpec)) fnBoxLateUptoCard

/-- THE SECOND FORM's CARD OF 'laws.FnExactBoxOk'. -/
def fnExactBoxOkUptoCard : Claim7 := { stood := { row := fnExactBoxOkUptoRow, standIns := [], harness := (true, "9ed8cb76d2e2d5517293aec4c5df016450ea33d0af7c41bf8abe03b0e5507e58"), looks := true }, kinds := [], alts := [], goes := true, laidByText := true, laidKinds := [.data, .data, .data, .sentinel, .sentinel, .sentinel, .sentinel], laidTests := true, laidLooks := .later }
def FnExactBoxOkUptoCardSaid : Prop := Claim7.holds Tryz.pinned (.plain (OpenSpec.upto fnExactBoxOkSpec)) fnExactBoxOkUptoCard

/-- THE SECOND FORM's CARD OF 'laws.FnExactBoxFar'. -/
def fnExactBoxFarUptoCard : Claim7 := { stood := { row := fnExactBoxFarUptoRow, standIns := [], harness := (true, "9ed8cb76d2e2d5517293aec4c5df016450ea33d0af7c41bf8abe03b0e5507e58"), looks := true }, kinds := [], alts := [], goes := true, laidByText := true, laidKinds := [.data, .data, .data, .sentinel, .sentinel, .sentinel, .sentinel], laidTests := true, laidLooks := .later }
def FnExactBoxFarUptoCardSaid : Prop := Claim7.holds Tryz.pinned (.plain (OpenSpec.upto fnExactBoxFarSpec)) fnExactBoxFarUptoCard

/-- THE SECOND FORM's CARD OF 'laws.FnExactBoxOut'. -/
def fnExactBoxOutUptoCard : Claim7 := { stood := { row := fnExactBoxOutUptoRow, standIns := [], harness := (true, "9ed8cb76d2e2d5517293aec4c5df016450ea33d0af7c41bf8abe03b0e5507e58"), looks := true }, kinds := [], alts := [], goes := true, laidByText := true, laidKinds := [.data, .data, .data, .sentinel, .sentinel, .sentinel, .sentinel], laidTests := true, laidLooks := .later }
def FnExactBoxOutUptoCardSaid : Prop := Claim7.holds Tryz.pinned (.plain (OpenSpec.upto fnExactBoxOutSpec)) fnExactBoxOutUptoCard

/-- THE SECOND FORM's CARD OF 'laws.FnExactBoxIn'. -/
def fnExactBoxInUptoCard : Claim7 := { stood := { row := fnExactBoxInUptoRow, standIns := [], harness := (true, "9ed8cb76d2e2d5517293aec4c5df016450ea33d0af7c41bf8abe03b0e5507e58"), looks := true }, kinds := [], alts := [], goes := true, laidByText := true, laidKinds := [.data, .data, .data, .sentinel, .sentinel, .sentinel, .sentinel], laidTests := true, laidLooks := .later }
def FnExactBoxInUptoCardSaid : Prop := Claim7.holds Tryz.pinned (.plain (OpenSpec.upto fnExactBoxInSpec)) fnExactBoxInUptoCard

/-- THE SECOND FORM's CARD OF 'laws.FnExactBoxTurn'. -/
def fnExactBoxTurnUptoCard : Claim7 := { stood := { row := fnExactBoxTurnUptoRow, standIns := [], harness := (true, "9ed8cb76d2e2d5517293aec4c5df016450ea33d0af7c41bf8abe03b0e5507e58"), looks := true }, kinds := [], alts := [], goes := true, laidByText := true, laidKinds := [.data, .data, .data, .sentinel, .sentinel, .sentinel, .sentinel], laidTests := true, laidLooks := .later }
def FnExactBoxTurnUptoCardSaid : Prop := Claim7.holds Tryz.pinned (.plain (OpenSpec.upto fnExactBoxTurnSpec)) fnExactBoxTurnUptoCard
end Rows
end Go.Proofs.YtoimjpkgkcomnaaGreatDoor
