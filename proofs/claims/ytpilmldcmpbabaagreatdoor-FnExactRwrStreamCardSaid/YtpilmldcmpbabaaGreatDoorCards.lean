/-
  DERIVED. GIVEN WITH THE SEED: THE CARDS: each row of YtpilmldcmpbabaaGreatDoorRows.lean that lists a variable, with what it lists TIED to the program's text (the seventh form; the later family's looks); each row that meets fmt, with fmt's text TOLD by the authors' own Lean function (tested against real Go, not proved from fmt's source: count such statements apart). THE CARD IS WHAT COUNTS. Prove the row's statement (the work); the ties are given (YtpilmldcmpbabaaGreatDoorTie.lean); close each card by the builder's one call (the guide's Derived/Test/ToyasCard.lean, 'card_holds'). Laid BY PROGRAM, IN A SANDBOX (cutbox-door.mjs). By AI agents, Wed Nov 11 2026. No macro, syntax, notation, axiom, sorry.
-/
import Derived.Test.YtpilmldcmpbabaaGreatDoorRows
import GoSem.ClaimSeven
namespace Go.Proofs.YtpilmldcmpbabaaGreatDoor
namespace Rows

/-- THE TIED CARD OF 'laws.FnExactRwrLine'. -/
def fnExactRwrLineCard : Claim7 := { stood := { row := fnExactRwrLineRow, standIns := [], harness := (true, "52e96fa7e187a0b6e6dcae78f4bc1e4f934b0f0eeaa05dde8b2c906c739b27fe"), looks := true }, kinds := [], alts := [], laidByText := true, laidKinds := [.data, .data, .data, .sentinel, .sentinel, .sentinel, .sentinel], laidTests := true, laidLooks := .later }
def FnExactRwrLineCardSaid : Prop := Claim7.holds Tryz.pinned (.plain (OpenSpec.ofChange fnExactRwrLineSpec)) fnExactRwrLineCard

/-- THE TIED CARD OF 'laws.FnExactRwrStream'. -/
def fnExactRwrStreamCard : Claim7 := { stood := { row := fnExactRwrStreamRow, standIns := [], harness := (true, "52e96fa7e187a0b6e6dcae78f4bc1e4f934b0f0eeaa05dde8b2c906c739b27fe"), looks := true }, kinds := [], alts := [], laidByText := true, laidKinds := [.data, .data, .data, .sentinel, .sentinel, .sentinel, .sentinel], laidTests := true, laidLooks := .later }
def FnExactRwrStreamCardSaid : Prop := Claim7.holds Tryz.pinned (.plain (OpenSpec.ofChange fnExactRwrStreamSpec)) fnExactRwrStreamCard

/-- THE SECOND FORM's CARD OF 'laws.FnExactRwrLine'. -/
def fnExactRwrLineUptoCard : Claim7 := { stood := { row := fnExactRwrLineUptoRow, standIns := [], harness := (true, "52e96fa7e187a0b6e6dcae78f4bc1e4f934b0f0eeaa05dde8b2c906c739b27fe"), looks := true }, kinds := [], alts := [], laidByText := true, laidKinds := [.data, .data, .data, .sentinel, .sentinel, .sentinel, .sentinel], laidTests := true, laidLooks := .later }
def FnExactRwrLineUptoCardSaid : Prop := Claim7.holds Tryz.pinned (.plain (OpenSpec.upto fnExactRwrLineSpec)) fnExactRwrLineUptoCard

/-- THE SECOND FORM's CARD OF 'laws.FnExactRwrStream'. -/
def fnExactRwrStreamUptoCard : Claim7 := { stood := { row := fnExactRwrStreamUptoRow, standIns := [], harness := (true, "52e96fa7e187a0b6e6dcae78f4bc1e4f934b0f0eeaa05dde8b2c906c739b27fe"), looks := true }, kinds := [], alts := [], laidByText := true, laidKinds := [.data, .data, .data, .sentinel, .sentinel, .sentinel, .sentinel], laidTests := true, laidLooks := .later }
def FnExactRwrStreamUptoCardSaid : Prop := Claim7.holds Tryz.pinned (.plain (OpenSpec.upto fnExactRwrStreamSpec)) fnExactRwrStreamUptoCard
end Rows
end Go.Proofs.YtpilmldcmpbabaaGreatDoor
