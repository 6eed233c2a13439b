/- The law on StrOk, at every text. No condition. -/
import Derived.Test.YtpnjeoikojkegaaSLine
import Derived.Test.YtpnjeoikojkegaaIStr
namespace Go.Proofs.Ytpnjeoikojkegaa
open Go.RowKit

set_option maxRecDepth 100000 in
set_option maxHeartbeats 800000 in
theorem lawStrOk_any (s : ByteArray) (w : World) :
    Calls Try.prog 8 #[.string s] w fun e w' => e = .returned (.bool true) ∧ Below w.heap.size w w' := by
  rcases Nat.lt_or_ge 1048576 s.size with h | h
  · go_enter Try.func8, Try.ntmps8
    go_wp2_with fail
    go_ret
    exact ⟨rfl, Below.refl _ _⟩
  · have h1 : s.size ≤ 2097152 := by omega
    have h2 : s.size ≤ 281474976710656 := by omega
    go_enter Try.func8, Try.ntmps8
    go_wp2_with fail
    (go_at_call 23; refine (specStr_any _ _ h1).mono ?_; rintro e w1 ⟨rfl, b1⟩)
    go_wp2_with fail
    (go_at_call 24; refine (implStr_any _ _ h1).mono ?_; rintro e w2 ⟨rfl, b2⟩)
    go_wp2
    go_ret
    exact ⟨rfl, b1.trans (b2.mono b1.size)⟩

end Go.Proofs.Ytpnjeoikojkegaa
