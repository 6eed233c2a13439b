/-
  DERIVED. GIVEN WITH THE SEED: THE CARDS: each row of YtilfpefccklebaaDoorRows.lean that lists a variable, with what it lists TIED to the program's text (the seventh form; the later family's looks); each row that meets fmt, with fmt's text TOLD by the authors' own Lean function (tested against real Go, not proved from fmt's source: count such statements apart). THE CARD IS WHAT COUNTS. Prove the row's statement (the work); the ties are given (YtilfpefccklebaaDoorTie.lean); close each card by the builder's one call (the guide's Derived/Test/ToyasCard.lean, 'card_holds'). Laid BY PROGRAM, IN A SANDBOX (cutbox-door.mjs). By AI agents, Wed Nov 11 2026. No macro, syntax, notation, axiom, sorry.
-/
import Derived.Test.YtilfpefccklebaaDoorRows
import GoSem.ClaimSeven
namespace Go.Proofs.YtilfpefccklebaaDoor
namespace Rows

/-- THE TIED CARD OF 'laws.FnExactDskEvent'. -/
def fnExactDskEventCard : Claim7 := { stood := { row := fnExactDskEventRow, standIns := [], harness := (true, "03e0bb62b38ca5cdf9d971b007120f88013467637040cf19774e70d9ad600c04"), looks := false }, kinds := [], alts := [], laidByText := true, laidKinds := [.data, .data, .pinned], laidTests := true, laidLooks := .later }
def FnExactDskEventCardSaid : Prop := Claim7.holds Tryd.pinned (.plain (OpenSpec.ofChange fnExactDskEventSpec)) fnExactDskEventCard

/-- THE TIED CARD OF 'laws.FnExactDskTable'. -/
def fnExactDskTableCard : Claim7 := { stood := { row := fnExactDskTableRow, standIns := [], harness := (true, "03e0bb62b38ca5cdf9d971b007120f88013467637040cf19774e70d9ad600c04"), looks := false }, kinds := [], alts := [], laidByText := true, laidKinds := [.data, .data, .data], laidTests := true, laidLooks := .later }
def FnExactDskTableCardSaid : Prop := Claim7.holds Tryd.pinned (.plain (OpenSpec.ofChange fnExactDskTableSpec)) fnExactDskTableCard

/-- THE TIED CARD OF 'laws.FnDskEvent'. -/
def fnDskEventCard : Claim7 := { stood := { row := fnDskEventRow, standIns := [], harness := (true, "03e0bb62b38ca5cdf9d971b007120f88013467637040cf19774e70d9ad600c04"), looks := false }, kinds := [], alts := [], laidByText := true, laidKinds := [.data, .data, .pinned], laidTests := true, laidLooks := .later }
def FnDskEventCardSaid : Prop := Claim7.holds Tryd.pinned (.plain (OpenSpec.ofChange fnDskEventSpec)) fnDskEventCard

/-- THE TIED CARD OF 'laws.FnDskTable'. -/
def fnDskTableCard : Claim7 := { stood := { row := fnDskTableRow, standIns := [], harness := (true, "03e0bb62b38ca5cdf9d971b007120f88013467637040cf19774e70d9ad600c04"), looks := false }, kinds := [], alts := [], laidByText := true, laidKinds := [.data, .data, .data], laidTests := true, laidLooks := .later }
def FnDskTableCardSaid : Prop := Claim7.holds Tryd.pinned (.plain (OpenSpec.ofChange fnDskTableSpec)) fnDskTableCard

/-- THE TIED CARD OF 'laws.FnDskLine'. -/
def fnDskLineCard : Claim7 := { stood := { row := fnDskLineRow, standIns := [], harness := (true, "03e0bb62b38ca5cdf9d971b007120f88013467637040cf19774e70d9ad600c04"), looks := false }, kinds := [], alts := [], laidByText := true, laidKinds := [.data, .data, .pinned], laidTests := true, laidLooks := .later }
def FnDskLineCardSaid : Prop := Claim7.holds Tryd.pinned (.plain (OpenSpec.ofChange fnDskLineSpec)) fnDskLineCard

/-- THE SECOND FORM's CARD OF 'laws.FnExactDskEvent'. -/
def fnExactDskEventUptoCard : Claim7 := { stood := { row := fnExactDskEventUptoRow, standIns := [], harness := (true, "03e0bb62b38ca5cdf9d971b007120f88013467637040cf19774e70d9ad600c04"), looks := false }, kinds := [], alts := [], laidByText := true, laidKinds := [.data, .data, .pinned], laidTests := true, laidLooks := .later }
def FnExactDskEventUptoCardSaid : Prop := Claim7.holds Tryd.pinned (.plain (OpenSpec.upto fnExactDskEventSpec)) fnExactDskEventUptoCard

/-- THE SECOND FORM's CARD OF 'laws.FnExactDskTable'. -/
def fnExactDskTableUptoCard : Claim7 := { stood := { row := fnExactDskTableUptoRow, standIns := [], harness := (true, "03e0bb62b38ca5cdf9d971b007120f88013467637040cf19774e70d9ad600c04"), looks := false }, kinds := [], alts := [], laidByText := true, laidKinds := [.data, .data, .data], laidTests := true, laidLooks := .later }
def FnExactDskTableUptoCardSaid : Prop := Claim7.holds Tryd.pinned (.plain (OpenSpec.upto fnExactDskTableSpec)) fnExactDskTableUptoCard

/-- THE SECOND FORM's CARD OF 'laws.FnDskEvent'. -/
def fnDskEventUptoCard : Claim7 := { stood := { row := fnDskEventUptoRow, standIns := [], harness := (true, "03e0bb62b38ca5cdf9d971b007120f88013467637040cf19774e70d9ad600c04"), looks := false }, kinds := [], alts := [], laidByText := true, laidKinds := [.data, .data, .pinned], laidTests := true, laidLooks := .later }
def FnDskEventUptoCardSaid : Prop := Claim7.holds Tryd.pinned (.plain (OpenSpec.upto fnDskEventSpec)) fnDskEventUptoCard

/-- THE SECOND FORM's CARD OF 'laws.FnDskTable'. -/
def fnDskTableUptoCard : Claim7 := { stood := { row := fnDskTableUptoRow, standIns := [], harness := (true, "03e0bb62b38ca5cdf9d971b007120f88013467637040cf19774e70d9ad600c04"), looks := false }, kinds := [], alts := [], laidByText := true, laidKinds := [.data, .data, .data], laidTests := true, laidLooks := .later }
def FnDskTableUptoCardSaid : Prop := Claim7.holds Tryd.pinned (.plain (OpenSpec.upto fnDskTableSpec)) fnDskTableUptoCard

/-- THE SECOND FORM's CARD OF 'laws.FnDskLine'. -/
def fnDskLineUptoCard : Claim7 := { stood := { row := fnDskLineUptoRow, standIns := [], harness := (true, "03e0bb62b38ca5cdf9d971b007120f88013467637040cf19774e70d9ad600c04"), looks := false }, kinds := [], alts := [], laidByText := true, laidKinds := [.data, .data, .pinned], laidTests := true, laidLooks := .later }
def FnDskLineUptoCardSaid : Prop := Claim7.holds Tryd.pinned (.plain (OpenSpec.upto fnDskLineSpec)) fnDskLineUptoCard
end Rows
end Go.Proofs.YtilfpefccklebaaDoor
