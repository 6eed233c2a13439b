/- The law on LinOk, at every text. No condition. -/
import Derived.Test.YtpnjeoikojkegaaSLine
import Derived.Test.YtpnjeoikojkegaaILin
namespace Go.Proofs.Ytpnjeoikojkegaa
open Go.RowKit

set_option maxRecDepth 100000 in
set_option maxHeartbeats 800000 in
theorem lawLinOk_any (s : ByteArray) (w : World) :
    Calls Try.prog 6 #[.string s] w fun e w' => e = .returned (.bool true) ∧ Below w.heap.size w w' := by
  rcases Nat.lt_or_ge 1048576 s.size with h | h
  · go_enter Try.func6, Try.ntmps6
    go_wp2_with fail
    go_ret
    exact ⟨rfl, Below.refl _ _⟩
  · have h1 : s.size ≤ 2097152 := by omega
    have h2 : s.size ≤ 281474976710656 := by omega
    go_enter Try.func6, Try.ntmps6
    go_wp2_with fail
    (go_at_call 16; refine (specLin_any _ _ h2).mono ?_; rintro e w1 ⟨rfl, b1⟩)
    go_wp2_with fail
    (go_at_call 17; refine (implLin_any _ _ h2).mono ?_; rintro e w2 ⟨rfl, b2⟩)
    go_wp2
    go_ret
    exact ⟨rfl, by subst b1 b2; exact Below.refl _ _⟩

end Go.Proofs.Ytpnjeoikojkegaa
