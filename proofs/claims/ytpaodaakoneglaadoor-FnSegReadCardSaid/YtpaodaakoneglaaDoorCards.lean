/-
  DERIVED. GIVEN WITH THE SEED: THE CARDS: each row of YtpaodaakoneglaaDoorRows.lean that lists a variable, with what it lists TIED to the program's text (the seventh form; the later family's looks); each row that meets fmt, with fmt's text TOLD by the authors' own Lean function (tested against real Go, not proved from fmt's source: count such statements apart). THE CARD IS WHAT COUNTS. Prove the row's statement (the work); the ties are given (YtpaodaakoneglaaDoorTie.lean); close each card by the builder's one call (the guide's Derived/Test/ToyasCard.lean, 'card_holds'). Laid BY PROGRAM, IN A SANDBOX (cutbox-door.mjs). By AI agents, Wed Nov 11 2026. No macro, syntax, notation, axiom, sorry.
-/
import Derived.Test.YtpaodaakoneglaaDoorRows
import GoSem.ClaimSeven
namespace Go.Proofs.YtpaodaakoneglaaDoor
namespace Rows

/-- THE TIED CARD OF 'laws.FnSegBytes'. -/
def fnSegBytesCard : Claim7 := { stood := { row := fnSegBytesRow, standIns := [], harness := (true, "d313801603e1f2d5a5e059f36dfd96a77ff28fb443b654f298f9558bd3933147"), looks := false }, kinds := [], alts := [], laidByText := true, laidKinds := [.sentinel, .sentinel, .sentinel, .sentinel], laidTests := true, laidLooks := .later }
def FnSegBytesCardSaid : Prop := Claim7.holds Tryd.pinned (.plain (OpenSpec.ofChange fnSegBytesSpec)) fnSegBytesCard

/-- THE TIED CARD OF 'laws.FnSegRead'. -/
def fnSegReadCard : Claim7 := { stood := { row := fnSegReadRow, standIns := [], harness := (true, "d313801603e1f2d5a5e059f36dfd96a77ff28fb443b654f298f9558bd3933147"), looks := false }, kinds := [], alts := [], laidByText := true, laidKinds := [.sentinel, .sentinel, .sentinel, .sentinel], laidTests := true, laidLooks := .later }
def FnSegReadCardSaid : Prop := Claim7.holds Tryd.pinned (.plain (OpenSpec.ofChange fnSegReadSpec)) fnSegReadCard

/-- THE SECOND FORM's CARD OF 'laws.FnSegBytes'. -/
def fnSegBytesUptoCard : Claim7 := { stood := { row := fnSegBytesUptoRow, standIns := [], harness := (true, "d313801603e1f2d5a5e059f36dfd96a77ff28fb443b654f298f9558bd3933147"), looks := false }, kinds := [], alts := [], laidByText := true, laidKinds := [.sentinel, .sentinel, .sentinel, .sentinel], laidTests := true, laidLooks := .later }
def FnSegBytesUptoCardSaid : Prop := Claim7.holds Tryd.pinned (.plain (OpenSpec.upto fnSegBytesSpec)) fnSegBytesUptoCard

/-- THE SECOND FORM's CARD OF 'laws.FnSegRead'. -/
def fnSegReadUptoCard : Claim7 := { stood := { row := fnSegReadUptoRow, standIns := [], harness := (true, "d313801603e1f2d5a5e059f36dfd96a77ff28fb443b654f298f9558bd3933147"), looks := false }, kinds := [], alts := [], laidByText := true, laidKinds := [.sentinel, .sentinel, .sentinel, .sentinel], laidTests := true, laidLooks := .later }
def FnSegReadUptoCardSaid : Prop := Claim7.holds Tryd.pinned (.plain (OpenSpec.upto fnSegReadSpec)) fnSegReadUptoCard
end Rows
end Go.Proofs.YtpaodaakoneglaaDoor
