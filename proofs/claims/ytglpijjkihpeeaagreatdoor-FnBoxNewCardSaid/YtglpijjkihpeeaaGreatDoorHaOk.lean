/- That a line of one letter is a line, which each law asks. No condition. -/
import Derived.Test.YtglpijjkihpeeaaGreatDoorILin
namespace Go.Proofs.YtglpijjkihpeeaaGreatDoor
open Go.RowKit

theorem haOk_any (w : World) :
    Calls Tryz.prog 11 #[] w fun e w' => e = .returned (.bool true) ∧ w = w' := by
  have hl : linB (⟨#[97]⟩ : ByteArray).data.toList = true := by decide
  have HL : Hid (∀ w, Calls Tryz.prog 45 #[.string ⟨#[97]⟩] w fun e w' => e = .returned (.bool true) ∧ w = w') := fun w => by
    have := implLin_all ⟨#[97]⟩ w; rw [hl] at this; exact this
  go_enter Tryz.func11, Tryz.ntmps11
  go_wp2_with (go_at_call 45; refine (HL.out _).mono ?_; rintro e w' ⟨rfl, rfl⟩)
  go_ret
  exact ⟨rfl, rfl⟩

end Go.Proofs.YtglpijjkihpeeaaGreatDoor
