/- That a line of one letter is a line, which each law asks. No condition. -/
import Derived.Test.YtbhpogddnpaacaaILin
namespace Go.Proofs.Ytbhpogddnpaacaa
open Go.RowKit

theorem haOk_any (w : World) :
    Calls Try.prog 9 #[] w fun e w' => e = .returned (.bool true) ∧ w = w' := by
  have hl : linB (⟨#[97]⟩ : ByteArray).data.toList = true := by decide
  have HL : Hid (∀ w, Calls Try.prog 22 #[.string ⟨#[97]⟩] w fun e w' => e = .returned (.bool true) ∧ w = w') := fun w => by
    have := implLin_all ⟨#[97]⟩ w; rw [hl] at this; exact this
  go_enter Try.func9, Try.ntmps9
  go_wp2_with (go_at_call 22; refine (HL.out _).mono ?_; rintro e w' ⟨rfl, rfl⟩)
  go_ret
  exact ⟨rfl, rfl⟩

end Go.Proofs.Ytbhpogddnpaacaa
