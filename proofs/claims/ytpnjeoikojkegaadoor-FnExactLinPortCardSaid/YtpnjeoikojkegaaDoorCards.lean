/-
  DERIVED. GIVEN WITH THE SEED: THE CARDS: each row of YtpnjeoikojkegaaDoorRows.lean that lists a variable, with what it lists TIED to the program's text (the seventh form; the later family's looks); each row that meets fmt, with fmt's text TOLD by the authors' own Lean function (tested against real Go, not proved from fmt's source: count such statements apart). THE CARD IS WHAT COUNTS. Prove the row's statement (the work); the ties are given (YtpnjeoikojkegaaDoorTie.lean); close each card by the builder's one call (the guide's Derived/Test/ToyasCard.lean, 'card_holds'). Laid BY PROGRAM, IN A SANDBOX (cutbox-door.mjs). By AI agents, Wed Nov 11 2026. No macro, syntax, notation, axiom, sorry.
-/
import Derived.Test.YtpnjeoikojkegaaDoorRows
import GoSem.ClaimSeven
namespace Go.Proofs.YtpnjeoikojkegaaDoor
namespace Rows

/-- THE TIED CARD OF 'laws.FnExactEndText'. -/
def fnExactEndTextCard : Claim7 := { stood := { row := fnExactEndTextRow, standIns := [], harness := (true, "a3ff5dc80cd3bebaa95bef46e8caf35956c7ef7490532087a1542d4f8434a611"), looks := true }, kinds := [], alts := [], laidByText := true, laidKinds := [.data, .data, .data], laidTests := true, laidLooks := .later }
def FnExactEndTextCardSaid : Prop := Claim7.holds Tryd.pinned (.plain (OpenSpec.ofChange fnExactEndTextSpec)) fnExactEndTextCard

/-- THE TIED CARD OF 'laws.FnExactEndRead'. -/
def fnExactEndReadCard : Claim7 := { stood := { row := fnExactEndReadRow, standIns := [], harness := (true, "a3ff5dc80cd3bebaa95bef46e8caf35956c7ef7490532087a1542d4f8434a611"), looks := true }, kinds := [], alts := [], laidByText := true, laidKinds := [.data, .data, .data, .sentinel, .sentinel, .sentinel, .sentinel], laidTests := true, laidLooks := .later }
def FnExactEndReadCardSaid : Prop := Claim7.holds Tryd.pinned (.plain (OpenSpec.ofChange fnExactEndReadSpec)) fnExactEndReadCard

/-- THE TIED CARD OF 'laws.FnExactLinSays'. -/
def fnExactLinSaysCard : Claim7 := { stood := { row := fnExactLinSaysRow, standIns := [], harness := (true, "a3ff5dc80cd3bebaa95bef46e8caf35956c7ef7490532087a1542d4f8434a611"), looks := true }, kinds := [], alts := [], laidByText := true, laidKinds := [.data, .data, .data, .sentinel, .sentinel, .sentinel, .sentinel], laidTests := true, laidLooks := .later }
def FnExactLinSaysCardSaid : Prop := Claim7.holds Tryd.pinned (.plain (OpenSpec.ofChange fnExactLinSaysSpec)) fnExactLinSaysCard

/-- THE TIED CARD OF 'laws.FnExactLinPort'. -/
def fnExactLinPortCard : Claim7 := { stood := { row := fnExactLinPortRow, standIns := [], harness := (true, "a3ff5dc80cd3bebaa95bef46e8caf35956c7ef7490532087a1542d4f8434a611"), looks := true }, kinds := [], alts := [], laidByText := true, laidKinds := [.data, .data, .data], laidTests := true, laidLooks := .later }
def FnExactLinPortCardSaid : Prop := Claim7.holds Tryd.pinned (.plain (OpenSpec.ofChange fnExactLinPortSpec)) fnExactLinPortCard

/-- THE TIED CARD OF 'laws.FnExactLinBox'. -/
def fnExactLinBoxCard : Claim7 := { stood := { row := fnExactLinBoxRow, standIns := [], harness := (true, "a3ff5dc80cd3bebaa95bef46e8caf35956c7ef7490532087a1542d4f8434a611"), looks := true }, kinds := [], alts := [], laidByText := true, laidKinds := [.data, .data, .data, .sentinel, .sentinel, .sentinel, .sentinel], laidTests := true, laidLooks := .later }
def FnExactLinBoxCardSaid : Prop := Claim7.holds Tryd.pinned (.plain (OpenSpec.ofChange fnExactLinBoxSpec)) fnExactLinBoxCard

/-- THE SECOND FORM's CARD OF 'laws.FnExactEndText'. -/
def fnExactEndTextUptoCard : Claim7 := { stood := { row := fnExactEndTextUptoRow, standIns := [], harness := (true, "a3ff5dc80cd3bebaa95bef46e8caf35956c7ef7490532087a1542d4f8434a611"), looks := true }, kinds := [], alts := [], laidByText := true, laidKinds := [.data, .data, .data], laidTests := true, laidLooks := .later }
def FnExactEndTextUptoCardSaid : Prop := Claim7.holds Tryd.pinned (.plain (OpenSpec.upto fnExactEndTextSpec)) fnExactEndTextUptoCard

/-- THE SECOND FORM's CARD OF 'laws.FnExactEndRead'. -/
def fnExactEndReadUptoCard : Claim7 := { stood := { row := fnExactEndReadUptoRow, standIns := [], harness := (true, "a3ff5dc80cd3bebaa95bef46e8caf35956c7ef7490532087a1542d4f8434a611"), looks := true }, kinds := [], alts := [], laidByText := true, laidKinds := [.data, .data, .data, .sentinel, .sentinel, .sentinel, .sentinel], laidTests := true, laidLooks := .later }
def FnExactEndReadUptoCardSaid : Prop := Claim7.holds Tryd.pinned (.plain (OpenSpec.upto fnExactEndReadSpec)) fnExactEndReadUptoCard

/-- THE SECOND FORM's CARD OF 'laws.FnExactLinSays'. -/
def fnExactLinSaysUptoCard : Claim7 := { stood := { row := fnExactLinSaysUptoRow, standIns := [], harness := (true, "a3ff5dc80cd3bebaa95bef46e8caf35956c7ef7490532087a1542d4f8434a611"), looks := true }, kinds := [], alts := [], laidByText := true, laidKinds := [.data, .data, .data, .sentinel, .sentinel, .sentinel, .sentinel], laidTests := true, laidLooks := .later }
def FnExactLinSaysUptoCardSaid : Prop := Claim7.holds Tryd.pinned (.plain (OpenSpec.upto fnExactLinSaysSpec)) fnExactLinSaysUptoCard

/-- THE SECOND FORM's CARD OF 'laws.FnExactLinPort'. -/
def fnExactLinPortUptoCard : Claim7 := { stood := { row := fnExactLinPortUptoRow, standIns := [], harness := (true, "a3ff5dc80cd3bebaa95bef46e8caf35956c7ef7490532087a1542d4f8434a611"), looks := true }, kinds := [], alts := [], laidByText := true, laidKinds := [.data, .data, .data], laidTests := true, laidLooks := .later }
def FnExactLinPortUptoCardSaid : Prop := Claim7.holds Tryd.pinned (.plain (OpenSpec.upto fnExactLinPortSpec)) fnExactLinPortUptoCard

/-- THE SECOND FORM's CARD OF 'laws.FnExactLinBox'. -/
def fnExactLinBoxUptoCard : Claim7 := { stood := { row := fnExactLinBoxUptoRow, standIns := [], harness := (true, "a3ff5dc80cd3bebaa95bef46e8caf35956c7ef7490532087a1542d4f8434a611"), looks := true }, kinds := [], alts := [], laidByText := true, laidKinds := [.data, .data, .data, .sentinel, .sentinel, .sentinel, .sentinel], laidTests := true, laidLooks := .later }
def FnExactLinBoxUptoCardSaid : Prop := Claim7.holds Tryd.pinned (.plain (OpenSpec.upto fnExactLinBoxSpec)) fnExactLinBoxUptoCard
end Rows
end Go.Proofs.YtpnjeoikojkegaaDoor
