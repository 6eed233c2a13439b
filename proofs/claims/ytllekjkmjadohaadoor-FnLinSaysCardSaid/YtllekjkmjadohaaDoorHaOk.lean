/- That a line of one letter is a line, which each law asks. No condition. -/
import Derived.Test.YtllekjkmjadohaaDoorILin
namespace Go.Proofs.YtllekjkmjadohaaDoor
open Go.RowKit

theorem haOk_any (w : World) :
    Calls Tryd.prog 16 #[] w fun e w' => e = .returned (.bool true) ∧ w = w' := by
  have hl : linB (⟨#[97]⟩ : ByteArray).data.toList = true := by decide
  have HL : Hid (∀ w, Calls Tryd.prog 23 #[.string ⟨#[97]⟩] w fun e w' => e = .returned (.bool true) ∧ w = w') := fun w => by
    have := implLin_all ⟨#[97]⟩ w; rw [hl] at this; exact this
  go_enter Tryd.func16, Tryd.ntmps16
  go_wp2_with (go_at_call 23; refine (HL.out _).mono ?_; rintro e w' ⟨rfl, rfl⟩)
  go_ret
  exact ⟨rfl, rfl⟩

end Go.Proofs.YtllekjkmjadohaaDoor
