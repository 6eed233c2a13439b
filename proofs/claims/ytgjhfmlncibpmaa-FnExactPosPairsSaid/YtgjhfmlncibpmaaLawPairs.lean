/- The law on PosPairs, at every two texts. No condition. -/
import Derived.Test.YtgjhfmlncibpmaaSPairs
import Derived.Test.YtgjhfmlncibpmaaIPairs
import Derived.Test.YtgjhfmlncibpmaaMarkSp
namespace Go.Proofs.Ytgjhfmlncibpmaa
open Go.RowKit

set_option maxRecDepth 100000 in
set_option maxHeartbeats 1600000 in
theorem lawPairs_short (s far : ByteArray) (w : World) (hs : s.size ≤ 1048576) (hf : far.size ≤ 1048576) :
    Calls Try.prog 3 #[.string s, .string far] w fun e w' => e = .returned (.bool true) ∧ Below w.heap.size w w' := by
  have hll := insL_ge (pairsL s.data.toList far.data.toList)
  have hl2 := pairsL_ins s.data.toList far.data.toList
  rw [len_list] at hl2
  obtain ⟨xs, hxs⟩ : ∃ xs, xs = spansL (pairsL s.data.toList far.data.toList) := ⟨_, rfl⟩
  have hxn : xs.length ≤ 1048576 := by rw [hxs, spansL_len]; omega
  have HS : Hid (∀ w, Calls Try.prog 5 #[.string s, .string far] w fun e w' => ∃ v, e = .returned v ∧ OwnSp w' w.heap.size v xs ∧ Below w.heap.size w w') := by
    intro w; rw [hxs]; exact specPosPairs_any s far w (by omega) (by omega)
  have HI : Hid (∀ w, Calls Try.prog 6 #[.string s, .string far] w fun e w' => ∃ v, e = .returned v ∧ OwnSp w' w.heap.size v xs ∧ Below w.heap.size w w') := by
    intro w; rw [hxs]; exact implPairs_any s far w (by omega) (by omega)
  obtain ⟨m, hm⟩ : ∃ m : Int, m = ((1 + 5 * xs.length : Nat) : Int) := ⟨_, rfl⟩
  have hm0 : 0 ≤ m := by omega
  have HE : Hid (∀ v1 v2 w, RdSp w v1 xs → RdSp w v2 xs → Calls Try.prog 7 #[v1, v2] w fun e w' => e = .returned (.bool true) ∧ Below w.heap.size w w') := fun v1 v2 w h1 h2 => eqSpans_same v1 v2 xs w (by omega) h1 h2
  have HK : Hid (∀ B v w, OwnSp w B v xs → Calls Try.prog 8 #[v, .int .i64 1] w fun e w' => e = .returned (.int .i64 m) ∧ RdSp w' v (marksS 1 xs.length) ∧ Below B w w') := fun B v w h => by rw [hm]; exact markSpans_own 1 B v xs w (by omega) h
  have HH : Hid (∀ v w, RdSp w v (marksS 1 xs.length) → Calls Try.prog 9 #[v, .int .i64 1] w fun e w' => e = .returned (.int .i64 m) ∧ Below w.heap.size w w') := fun v w h => by rw [hm]; exact heldSpans_any 1 v xs.length w (by omega) h
  have hs2 : (s.size : Int) ≤ 1048576 := by omega
  have hf2 : (far.size : Int) ≤ 1048576 := by omega
  clear hxs hm hxn hll hl2
  go_enter Try.func3, Try.ntmps3
  go_wp2_with fail
  (go_at_call 5; refine (HS.out _).mono ?_; rintro e w1 ⟨v0, rfl, own0, b1⟩)
  have R0 := Lib.hid own0.rd
  clear own0
  go_wp2_with fail
  (go_at_call 6; refine (HI.out _).mono ?_; rintro e w2 ⟨v1, rfl, own1, b2⟩)
  have O1 := Lib.hid own1
  clear own1
  go_wp2_with fail
  (go_at_call 7; refine (HE.out v1 v0 _ O1.out.rd (R0.out.below b2)).mono ?_; rintro e w3 ⟨rfl, b3⟩)
  have O3 := Lib.hid (O1.out.below b3)
  go_wp2_with fail
  (go_at_call 8; refine (HK.out w1.heap.size v1 w3 O3.out).mono ?_; rintro e w4 ⟨rfl, rd4, b4⟩)
  have M4 := Lib.hid rd4
  clear rd4
  go_wp2_with fail
  (go_at_call 9; refine (HH.out v1 w4 M4.out).mono ?_; rintro e w5 ⟨rfl, b5⟩)
  go_wp2_with fail
  (go_at_call 6; refine (HI.out _).mono ?_; rintro e w6 ⟨v2, rfl, own2, b6⟩)
  have b14 : Below w1.heap.size w1 w4 := (b2.trans (b3.mono b2.size)).trans b4
  have z1 := b14.size
  have z4 := b5.size
  have b46 : Below w4.heap.size w4 w6 := b5.trans (b6.mono z4)
  have R6 := Lib.hid (R0.out.below (b14.trans (b46.mono z1)))
  have S6 := Lib.hid own2.rd
  have M6 := Lib.hid (M4.out.below b46)
  clear own2
  go_wp2_with fail
  (go_at_call 7; refine (HE.out v2 v0 _ S6.out R6.out).mono ?_; rintro e w7 ⟨rfl, b7⟩)
  go_wp2_with fail
  (go_at_call 9; refine (HH.out v1 w7 (M6.out.below b7)).mono ?_; rintro e w8 ⟨rfl, b8⟩)
  go_wp2
  go_ret
  have z6 := b46.size
  have z7 := b7.size
  exact ⟨rfl, b1.trans ((b14.trans ((b46.trans ((b7.trans (b8.mono z7)).mono z6)).mono z1)).mono b1.size)⟩

set_option maxRecDepth 100000 in
set_option maxHeartbeats 800000 in
theorem lawPosPairs_any (s far : ByteArray) (w : World) :
    Calls Try.prog 3 #[.string s, .string far] w fun e w' => e = .returned (.bool true) ∧ Below w.heap.size w w' := by
  rcases Nat.lt_or_ge 1048576 s.size with h | h
  · go_enter Try.func3, Try.ntmps3
    go_wp2_with fail
    go_ret
    exact ⟨rfl, Below.refl _ _⟩
  · rcases Nat.lt_or_ge 1048576 far.size with h2 | h2
    · have h3 : (s.size : Int) ≤ 1048576 := by omega
      go_enter Try.func3, Try.ntmps3
      go_wp2_with fail
      go_ret
      exact ⟨rfl, Below.refl _ _⟩
    · exact lawPairs_short s far w h h2

end Go.Proofs.Ytgjhfmlncibpmaa
