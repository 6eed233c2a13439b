/- That a line of one letter is a line, which each law asks. No condition. -/
import Derived.Test.YtempiklhkbgnbaaILin
namespace Go.Proofs.Ytempiklhkbgnbaa
open Go.RowKit

theorem haOk_any (w : World) :
    Calls Try.prog 15 #[] w fun e w' => e = .returned (.bool true) ∧ w = w' := by
  have hl : linB (⟨#[97]⟩ : ByteArray).data.toList = true := by decide
  have HL : Hid (∀ w, Calls Try.prog 34 #[.string ⟨#[97]⟩] w fun e w' => e = .returned (.bool true) ∧ w = w') := fun w => by
    have := implLin_all ⟨#[97]⟩ w; rw [hl] at this; exact this
  go_enter Try.func15, Try.ntmps15
  go_wp2_with (go_at_call 34; refine (HL.out _).mono ?_; rintro e w' ⟨rfl, rfl⟩)
  go_ret
  exact ⟨rfl, rfl⟩

end Go.Proofs.Ytempiklhkbgnbaa
