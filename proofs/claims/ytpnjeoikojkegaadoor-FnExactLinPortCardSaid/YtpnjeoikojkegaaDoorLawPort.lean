/- The law on LinPort, at every end and at what is none. Condition: the table of powers of ten holds what it is laid with. -/
import Derived.Test.YtpnjeoikojkegaaDoorIPort
namespace Go.Proofs.YtpnjeoikojkegaaDoor
open Go.RowKit

set_option maxRecDepth 100000 in
set_option maxHeartbeats 1000000 in
theorem lawLinPort_any (a p : Int) (w : World) (ht : TabOk w) :
    Calls Tryd.prog 6 #[.agg #[.int .i64 a, .int .i64 p]] w fun e w' => e = .returned (.bool true) ∧ Below w.heap.size w w' := by
  obtain ⟨s, hs⟩ : ∃ s : ByteArray, s = ⟨(lpL a p).toArray⟩ := ⟨_, rfl⟩
  have HS : Hid (∀ w, Calls Tryd.prog 16 #[.agg #[.int .i64 a, .int .i64 p]] w fun e w' => e = .returned (.string s) ∧ Below w.heap.size w w') := by
    intro w; rw [hs]; exact specLinPort_any a p w
  have HI : Hid (∀ w, TabOk w → Calls Tryd.prog 17 #[.agg #[.int .i64 a, .int .i64 p]] w fun e w' => e = .returned (.string s) ∧ Below w.heap.size w w') := by
    intro w ht; rw [hs]; exact implLinPort_any a p w ht
  have HT := Lib.hid ht
  clear hs ht
  go_enter Tryd.func6, Tryd.ntmps6
  go_wp2_with fail
  (go_at_call 9; refine (toEnd_any _ _ _).mono ?_; rintro e w1 ⟨rfl, b1⟩; obtain ⟨c1, f1⟩ := bcell b1; have s1 : w.heap.size < w1.heap.size := by (have := b1.size; simp at this; omega))
  go_wp2_with fail
  (go_at_call 16; refine (HS.out _).mono ?_; rintro e w2 ⟨rfl, b2⟩; obtain ⟨c2, f2⟩ := bcell b2; have s2 : w.heap.size < w2.heap.size := by (have := b2.size; omega))
  go_wp2_with fail
  (go_at_call 9; refine (toEnd_any _ _ _).mono ?_; rintro e w3 ⟨rfl, b3⟩)
  have b13 := (below_box b1).trans (((b2.mono (Nat.le_of_lt s1)).trans (b3.mono (Nat.le_of_lt s2))))
  go_wp2_with fail
  (go_at_call 17; refine (HI.out _ (HT.out.below b13 (Nat.le_refl _))).mono ?_; rintro e w4 ⟨rfl, b4⟩)
  go_wp2
  go_ret
  exact ⟨rfl, b13.trans (b4.mono b13.size)⟩

end Go.Proofs.YtpnjeoikojkegaaDoor
