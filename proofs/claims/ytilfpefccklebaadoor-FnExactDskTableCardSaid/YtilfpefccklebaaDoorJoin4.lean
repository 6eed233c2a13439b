/- spaced of the program: four words, a space between each two. No condition beside lengths. -/
import Derived.Test.YtilfpefccklebaaDoorShelf
import Derived.Test.YtilfpefccklebaaDoorIDskT
import Derived.Shelf.Strings.OnBuilder
namespace Go.Proofs.YtilfpefccklebaaDoor
open Go.RowKit

set_option maxRecDepth 100000 in
set_option maxHeartbeats 400000 in
theorem spaced_ok : SpacedOk := by
  intro b x1 x2 x3 x4 w hb hl h1 h2 h3 h4
  have HJ : Hid (Calls Tryd.prog 61 #[.slice (some ⟨b, 0, none⟩) 4 4, .string ⟨#[32]⟩] w fun e w' => e = .returned (.string ⟨(x1 ++ 32 :: (x2 ++ 32 :: (x3 ++ 32 :: x4))).toArray⟩) ∧ Below w.heap.size w w') := by
    have hc : ∀ (j : Nat) x, ([⟨x1.toArray⟩, ⟨x2.toArray⟩, ⟨x3.toArray⟩, ⟨x4.toArray⟩] : List ByteArray)[j]? = some x → w.cell? ⟨b, 0 + j, none⟩ = some (.string x) := by
      intro j x hx
      match j, hx with
      | 0, hx => simp at hx; subst hx; exact h1
      | 1, hx => simp at hx; subst hx; exact h2
      | 2, hx => simp at hx; subst hx; exact h3
      | 3, hx => simp at hx; subst hx; exact h4
    have hj : Lib.join (([⟨x1.toArray⟩, ⟨x2.toArray⟩, ⟨x3.toArray⟩, ⟨x4.toArray⟩] : List ByteArray).map (·.data.toList)) (⟨#[32]⟩ : ByteArray).data.toList = x1 ++ 32 :: (x2 ++ 32 :: (x3 ++ 32 :: x4)) := by
      simp [Lib.join]
    have := Any.strings_Join Tryd.lays156 Tryd.Builder_Extra_156 b 0 4 [⟨x1.toArray⟩, ⟨x2.toArray⟩, ⟨x3.toArray⟩, ⟨x4.toArray⟩] ⟨#[32]⟩ w hc hb (by simp) (by simp) (by rw [hj]; simp; omega)
    rw [hj] at this
    exact this
  go_enter Tryd.func37, Tryd.ntmps37
  go_wp2_with (go_at_call 61; refine HJ.out.mono ?_; rintro e w1 ⟨rfl, b1⟩)
  go_ret
  exact ⟨rfl, b1⟩

end Go.Proofs.YtilfpefccklebaaDoor
