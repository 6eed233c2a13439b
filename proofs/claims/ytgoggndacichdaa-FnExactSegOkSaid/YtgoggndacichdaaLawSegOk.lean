/- The law of SegOk, at every segment. No condition. -/
import Derived.Test.YtgoggndacichdaaSegOk
import Derived.Test.YtgoggndacichdaaSegLaw
namespace Go.Proofs.Ytgoggndacichdaa
open Go.RowKit

set_option maxRecDepth 100000 in
set_option maxHeartbeats 1600000 in
theorem lawSegOk_any (sa sp da dp sq ak : Int) (d : ByteArray) (w : World) (hd : d.size ≤ maxLen) :
    Calls Try.prog 3 #[.agg #[.int .i64 sa, .int .i64 sp, .int .i64 da, .int .i64 dp, .int .i64 sq, .int .i64 ak, .string d]] w fun e w' => e = .returned (.bool true) ∧ Below w.heap.size w w' := by
  by_cases h : 1048576 < d.size
  · have HS : Hid (∀ w, Calls Try.prog 8 #[.agg #[.int .i64 sa, .int .i64 sp, .int .i64 da, .int .i64 dp, .int .i64 sq, .int .i64 ak, .string d], .int .i64 1048576] w fun e w' => e = .returned (.int .i64 (-1)) ∧ Below w.heap.size w w') := fun w => by
      have := szSeg_any sa sp da dp sq ak d 1048576 w hd (by decide) (by decide)
      rwa [if_pos (by omega)] at this
    go_enter Try.func3, Try.ntmps3
    go_wp2_with (go_at_call 8; refine (HS.out _).mono ?_; rintro e w1 ⟨rfl, b1⟩)
    go_ret
    exact ⟨rfl, below_box b1⟩
  · obtain ⟨q0, hq0⟩ : ∃ q0 : Int, q0 = 1048576 - d.size := ⟨_, rfl⟩
    have hq1 : ¬ q0 < 0 := by omega
    have HS : Hid (∀ w, Calls Try.prog 8 #[.agg #[.int .i64 sa, .int .i64 sp, .int .i64 da, .int .i64 dp, .int .i64 sq, .int .i64 ak, .string d], .int .i64 1048576] w fun e w' => e = .returned (.int .i64 q0) ∧ Below w.heap.size w w') := fun w => by
      have := szSeg_any sa sp da dp sq ak d 1048576 w hd (by decide) (by decide)
      rw [if_neg (by omega)] at this
      rwa [hq0]
    obtain ⟨q, hq⟩ : ∃ q, q = segOkB ⟨sa, sp, da, dp, sq, ak, d.data.toList⟩ := ⟨_, rfl⟩
    have HM : Hid (∀ w, Calls Try.prog 9 #[.agg #[.int .i64 sa, .int .i64 sp, .int .i64 da, .int .i64 dp, .int .i64 sq, .int .i64 ak, .string d]] w fun e w' => e = .returned (.bool q) ∧ Below w.heap.size w w') := fun w => by rw [hq]; exact specSegOk_any sa sp da dp sq ak d w (by omega)
    have HI : Hid (∀ w, Calls Try.prog 11 #[.agg #[.int .i64 sa, .int .i64 sp, .int .i64 da, .int .i64 dp, .int .i64 sq, .int .i64 ak, .string d]] w fun e w' => e = .returned (.bool q) ∧ Below w.heap.size w w') := fun w => by rw [hq]; exact implSegOk_any sa sp da dp sq ak d w (by omega)
    clear hq hq0 hd
    cases q
    all_goals
      go_enter Try.func3, Try.ntmps3
      go_wp2_with fail
      (go_at_call 8; refine (HS.out _).mono ?_; rintro e w1 ⟨rfl, b1⟩; obtain ⟨c1, f1⟩ := bcell b1; have s1 : w.heap.size < w1.heap.size := by (have := b1.size; simp at this; omega))
      go_wp2_with fail
      (go_at_call 10; refine (toSeg_any _ _ _ _ _ _ _ _).mono ?_; rintro e w2 ⟨rfl, b2⟩; obtain ⟨c2, f2⟩ := bcell b2; have s2 : w.heap.size < w2.heap.size := by (have := b2.size; omega))
      go_wp2_with fail
      (go_at_call 9; refine (HM.out _).mono ?_; rintro e w3 ⟨rfl, b3⟩; obtain ⟨c3, f3⟩ := bcell b3; have s3 : w.heap.size < w3.heap.size := by (have := b3.size; omega))
      go_wp2_with fail
      (go_at_call 10; refine (toSeg_any _ _ _ _ _ _ _ _).mono ?_; rintro e w4 ⟨rfl, b4⟩; obtain ⟨c4, f4⟩ := bcell b4; have s4 : w.heap.size < w4.heap.size := by (have := b4.size; omega))
      go_wp2_with fail
      (go_at_call 11; refine (HI.out _).mono ?_; rintro e w5 ⟨rfl, b5⟩)
      go_wp2_with fail
      go_ret
      exact ⟨rfl, (below_box b1).trans ((b2.trans (((b3.trans ((b4.trans (b5.mono b4.size)).mono b3.size)).mono b2.size))).mono (by omega))⟩

end Go.Proofs.Ytgoggndacichdaa
