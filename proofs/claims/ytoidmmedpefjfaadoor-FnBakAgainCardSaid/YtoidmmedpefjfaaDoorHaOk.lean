/- That a line of one letter is a line, which each law asks. No condition. -/
import Derived.Test.YtoidmmedpefjfaaDoorILin
namespace Go.Proofs.YtoidmmedpefjfaaDoor
open Go.RowKit

theorem haOk_any (w : World) :
    Calls Tryd.prog 9 #[] w fun e w' => e = .returned (.bool true) ∧ w = w' := by
  have hl : linB (⟨#[97]⟩ : ByteArray).data.toList = true := by decide
  have HL : Hid (∀ w, Calls Tryd.prog 17 #[.string ⟨#[97]⟩] w fun e w' => e = .returned (.bool true) ∧ w = w') := fun w => by
    have := implLin_all ⟨#[97]⟩ w; rw [hl] at this; exact this
  go_enter Tryd.func9, Tryd.ntmps9
  go_wp2_with (go_at_call 17; refine (HL.out _).mono ?_; rintro e w' ⟨rfl, rfl⟩)
  go_ret
  exact ⟨rfl, rfl⟩

end Go.Proofs.YtoidmmedpefjfaaDoor
