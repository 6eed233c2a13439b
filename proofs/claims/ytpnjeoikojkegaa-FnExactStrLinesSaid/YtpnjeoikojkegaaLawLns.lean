/- The law on StrLines, at every text. No condition. -/
import Derived.Test.YtpnjeoikojkegaaSLine
import Derived.Test.YtpnjeoikojkegaaMark
import Derived.Test.YtpnjeoikojkegaaILines
namespace Go.Proofs.Ytpnjeoikojkegaa
open Go.RowKit

set_option maxRecDepth 100000 in
set_option maxHeartbeats 1600000 in
theorem lawLines_short (s : ByteArray) (w : World) (hs : s.size ≤ 1048576) :
    Calls Try.prog 7 #[.string s] w fun e w' => e = .returned (.bool true) ∧ Below w.heap.size w w' := by
  have hll := lines_len s.data.toList
  rw [len_list] at hll
  obtain ⟨n, hn⟩ : ∃ n, n = (linesL s.data.toList).length := ⟨_, rfl⟩
  obtain ⟨xs, hxs⟩ : ∃ xs, xs = linesL s.data.toList := ⟨_, rfl⟩
  obtain ⟨r, hr⟩ : ∃ r : ByteArray, r = ⟨(restL s.data.toList).toArray⟩ := ⟨_, rfl⟩
  have HS : Hid (∀ w, Calls Try.prog 18 #[.string s] w fun e w' => ∃ v, e = .returned (.tuple #[v, .string r]) ∧ w'.ownsRow w.heap.size 9 1 v n (xs.map strV) ∧ Below w.heap.size w w') := by
    intro w; rw [hn, hxs, hr]; exact specLines_any s w (by omega)
  have HI : Hid (∀ w, Calls Try.prog 19 #[.string s] w fun e w' => ∃ v, e = .returned (.tuple #[v, .string r]) ∧ w'.ownsRow w.heap.size 9 1 v n (xs.map strV) ∧ Below w.heap.size w w') := by
    intro w; rw [hn, hxs, hr]; exact implLines_any s w (by omega)
  have hnn : n ≤ 1048576 := by omega
  have hxl : Hid (xs.length = n) := by rw [hxs, hn]; rfl
  have hxm : xs.length ≤ 4194304 := by rw [hxl.out]; omega
  clear hn hxs hr hll
  go_enter Try.func7, Try.ntmps7
  go_wp2_with fail
  (go_at_call 18; refine (HS.out _).mono ?_; rintro e w1 ⟨v0, rfl, own0, b1⟩)
  have R0 : Hid (RdV w1 v0 (xs.map strV)) := (RdV.of_own own0).1
  clear own0
  go_wp2_with fail
  (go_at_call 19; refine (HI.out _).mono ?_; rintro e w2 ⟨v1, rfl, own1, b2⟩)
  have R1 : Hid (RdV w2 v1 (xs.map strV)) := (RdV.of_own own1).1
  have O1 : Hid (w2.ownsRow w1.heap.size 9 1 v1 n (xs.map strV)) := own1
  clear own1
  go_wp2_with fail
  (go_at_call 20; refine (eqStr_same xs v1 v0 _ hxm R1.out (R0.out.below b2)).mono ?_; rintro e w3 ⟨rfl, b3⟩)
  have O3 : Hid (w3.ownsRow w1.heap.size 9 1 v1 n (xs.map strV)) := own_below O1.out b3
  go_wp2_with fail
  (go_at_call 21; refine (markStr_own 1 n w1.heap.size v1 _ w3 (by omega) (by omega) O3.out).mono ?_; rintro e w4 ⟨rfl, rd4, b4⟩)
  have M4 := Lib.hid rd4
  clear rd4
  go_wp2_with fail
  (go_at_call 22; refine (heldStr_own 1 n v1 w4 (by omega) (by omega) M4.out).mono ?_; rintro e w5 ⟨rfl, b5⟩)
  go_wp2_with fail
  (go_at_call 19; refine (HI.out _).mono ?_; rintro e w6 ⟨v2, rfl, own2, b6⟩)
  have b14 : Below w1.heap.size w1 w4 := (b2.trans (b3.mono b2.size)).trans b4
  have z1 := b14.size
  have z4 := b5.size
  have b46 : Below w4.heap.size w4 w6 := b5.trans (b6.mono z4)
  have R6 : Hid (RdV w6 v0 (xs.map strV)) := R0.out.below (b14.trans (b46.mono z1))
  have S6 : Hid (RdV w6 v2 (xs.map strV)) := (RdV.of_own own2).1
  have M6 : Hid (RdV w6 v1 (marksL 1 n)) := M4.out.below b46
  clear own2
  go_wp2_with fail
  (go_at_call 20; refine (eqStr_same xs v2 v0 _ hxm S6.out R6.out).mono ?_; rintro e w7 ⟨rfl, b7⟩)
  go_wp2_with fail
  (go_at_call 22; refine (heldStr_own 1 n v1 w7 (by omega) (by omega) (M6.out.below b7)).mono ?_; rintro e w8 ⟨rfl, b8⟩)
  go_wp2
  go_ret
  have z6 := b46.size
  have z7 := b7.size
  exact ⟨rfl, b1.trans ((b14.trans ((b46.trans ((b7.trans (b8.mono z7)).mono z6)).mono z1)).mono b1.size)⟩

set_option maxRecDepth 100000 in
set_option maxHeartbeats 800000 in
theorem lawStrLines_any (s : ByteArray) (w : World) :
    Calls Try.prog 7 #[.string s] w fun e w' => e = .returned (.bool true) ∧ Below w.heap.size w w' := by
  rcases Nat.lt_or_ge 1048576 s.size with h | h
  · go_enter Try.func7, Try.ntmps7
    go_wp2_with fail
    go_ret
    exact ⟨rfl, Below.refl _ _⟩
  · exact lawLines_short s w h

end Go.Proofs.Ytpnjeoikojkegaa
