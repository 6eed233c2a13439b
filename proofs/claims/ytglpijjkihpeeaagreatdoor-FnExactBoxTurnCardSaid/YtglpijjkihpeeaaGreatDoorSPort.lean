/- LinPort of the specification, at every end and at what is none. No condition. -/
import Derived.Test.YtglpijjkihpeeaaGreatDoorSText
import Derived.Test.YtglpijjkihpeeaaGreatDoorLines
namespace Go.Proofs.YtglpijjkihpeeaaGreatDoor
open Go.RowKit

/-- The line that names an end. -/
def lpL (a p : Int) : List UInt8 := if endB a p = true then portL ++ endL a.toNat p.toNat else []
theorem port_cat (l : List UInt8) : (⟨#[112, 111, 114, 116, 32]⟩ : ByteArray) ++ ⟨l.toArray⟩ = ⟨(portL ++ l).toArray⟩ := by
  apply ByteArray.ext; simp [portL]

set_option maxRecDepth 100000 in
set_option maxHeartbeats 800000 in
theorem specLinPort_any (a p : Int) (w : World) :
    Calls Tryz.prog 181 #[.agg #[.int .i64 a, .int .i64 p]] w fun e w' => e = .returned (.string ⟨(lpL a p).toArray⟩) ∧ Below w.heap.size w w' := by
  by_cases hb : endB a p = true
  · obtain ⟨h1, h2, h3, h4⟩ := end_bounds hb
    obtain ⟨m, rfl⟩ := Int.eq_ofNat_of_zero_le (show 0 ≤ a by omega)
    obtain ⟨n, rfl⟩ := Int.eq_ofNat_of_zero_le (show 0 ≤ p by omega)
    have HL : Hid (lpL m n = portL ++ endL m n) := if_pos hb
    have n1 : ¬ 9223372036854775807 < 5 + (endL m n).length := by
      have := dec_len4 (k := m) (by omega); have := dec_len4 (k := n) (by omega)
      simp [endL]; omega
    have HT : Hid (∀ w, Calls Tryz.prog 190 #[.agg #[.int .i64 (m : Int), .int .i64 (n : Int)]] w fun e w' => e = .returned (.string ⟨(endL m n).toArray⟩) ∧ Below w.heap.size w w') := fun w => specText_yes m n w hb
    go_enter Tryz.func181, Tryz.ntmps181
    go_wp2_with (first
      | (go_at_call 110; refine (specOk_any _ _ _).mono ?_; rintro e w1 ⟨rfl, b1⟩; obtain ⟨c1, f1⟩ := bcell b1)
      | (go_at_call 190; refine (HT.out _).mono ?_; rintro e w2 ⟨rfl, b2⟩))
    go_ret
    refine ⟨?_, (below_box b1).trans (b2.mono (by have := b1.size; simp at this; omega))⟩
    rw [HL.out, ← port_cat]; rfl
  · have HL : Hid (lpL a p = []) := if_neg hb
    go_enter Tryz.func181, Tryz.ntmps181
    go_wp2_with (go_at_call 110; refine (specOk_any _ _ _).mono ?_; rintro e w1 ⟨rfl, b1⟩)
    go_ret
    exact ⟨by rw [HL.out]; rfl, below_box b1⟩

end Go.Proofs.YtglpijjkihpeeaaGreatDoor
