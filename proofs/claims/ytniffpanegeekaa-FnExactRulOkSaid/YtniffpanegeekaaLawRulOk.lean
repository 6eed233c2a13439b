/- The law of RulOk, at every rule. No condition. -/
import Derived.Test.YtniffpanegeekaaRulLaw
namespace Go.Proofs.Ytniffpanegeekaa
open Go.RowKit

set_option maxRecDepth 100000 in
set_option maxHeartbeats 1600000 in
theorem lawRulOk_any (al : Bool) (i it o ot p pt : Int) (w : World) :
    Calls Try.prog 6 #[.agg #[.bool al, .int .i64 i, .int .i64 it, .int .i64 o, .int .i64 ot, .int .i64 p, .int .i64 pt]] w fun e w' => e = .returned (.bool true) ∧ Below w.heap.size w w' := by
  obtain ⟨q, hq⟩ : ∃ q, q = ruleB ⟨al, i, it, o, ot, p, pt⟩ := ⟨_, rfl⟩
  have HM : Hid (∀ w, Calls Try.prog 14 #[.agg #[.bool al, .int .i64 i, .int .i64 it, .int .i64 o, .int .i64 ot, .int .i64 p, .int .i64 pt]] w fun e w' => e = .returned (.bool q) ∧ Below w.heap.size w w') := fun w => by rw [hq]; exact specRulOk_any al i it o ot p pt w
  have HI : Hid (∀ w, Calls Try.prog 16 #[.agg #[.bool al, .int .i64 i, .int .i64 it, .int .i64 o, .int .i64 ot, .int .i64 p, .int .i64 pt]] w fun e w' => e = .returned (.bool q) ∧ Below w.heap.size w w') := fun w => by rw [hq]; exact implRulOk_any al i it o ot p pt w
  clear hq
  cases q
  all_goals
    go_enter Try.func6, Try.ntmps6
    go_wp2_with fail
    (go_at_call 17; refine (toRul_any _ _ _ _ _ _ _ _).mono ?_; rintro e w2 ⟨rfl, b2⟩; obtain ⟨c2, f2⟩ := bcell b2; have s2 : w.heap.size < w2.heap.size := by (have := b2.size; simp at this; omega))
    go_wp2_with fail
    (go_at_call 14; refine (HM.out _).mono ?_; rintro e w3 ⟨rfl, b3⟩; obtain ⟨c3, f3⟩ := bcell b3; have s3 : w.heap.size < w3.heap.size := by (have := b3.size; omega))
    go_wp2_with fail
    (go_at_call 17; refine (toRul_any _ _ _ _ _ _ _ _).mono ?_; rintro e w4 ⟨rfl, b4⟩; obtain ⟨c4, f4⟩ := bcell b4; have s4 : w.heap.size < w4.heap.size := by (have := b4.size; omega))
    go_wp2_with fail
    (go_at_call 16; refine (HI.out _).mono ?_; rintro e w5 ⟨rfl, b5⟩)
    go_wp2_with fail
    go_ret
    exact ⟨rfl, (below_box b2).trans ((b3.trans ((b4.trans (b5.mono b4.size)).mono b3.size)).mono (by omega))⟩

end Go.Proofs.Ytniffpanegeekaa
