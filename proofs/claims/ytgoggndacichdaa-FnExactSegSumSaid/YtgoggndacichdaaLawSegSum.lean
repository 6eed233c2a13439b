/- The law of SegSum, at all bytes. No condition. -/
import Derived.Test.YtgoggndacichdaaSegSum
import Derived.Test.YtgoggndacichdaaByLaw
namespace Go.Proofs.Ytgoggndacichdaa
open Go.RowKit

theorem rd_row {w : World} {g : Nat} {l : List UInt8} (h : RowAt w g (byV l)) : RdB w (.slice (some ⟨g, 0, none⟩) l.length l.length) l := ⟨_, _, rfl, Nat.le_refl _, fun _ => ⟨g, rfl, h⟩⟩

set_option maxRecDepth 100000 in
set_option maxHeartbeats 1600000 in
theorem lawSegSum_any (v : Value) (l : List UInt8) (w : World) (hb : ArgB w v l) (hl : l.length ≤ 9223372036854775807) :
    Calls Try.prog 4 #[v] w fun e w' => e = .returned (.bool true) ∧ Below w.heap.size w w' := by
  have HA := Lib.hid hb
  obtain ⟨ao, cap, rfl, _, _⟩ := hb
  by_cases h : 1048576 < l.length
  · go_enter Try.func4, Try.ntmps4
    go_wp2_with fail
    go_ret
    exact ⟨rfl, Below.refl _ _⟩
  · have HT : Hid (∀ w, ArgB w (.slice ao l.length cap) l → Calls Try.prog 13 #[.slice ao l.length cap] w fun e w' => ∃ g, e = .returned (.slice (some ⟨g, 0, none⟩) l.length l.length) ∧ RowAt w' g (byV l) ∧ w.heap.size ≤ g ∧ g < w'.heap.size ∧ Below w.heap.size w w') := fun w h => toBytes_any _ l w (by omega) h
    obtain ⟨z, hz⟩ : ∃ z : Int, z = sumL l := ⟨_, rfl⟩
    have HM : Hid (∀ v w, RdB w v l → Calls Try.prog 12 #[v] w fun e w' => e = .returned (.int .i64 z) ∧ w = w') := fun v w h => by rw [hz]; exact specSum_any v l w (by omega) h
    have HI : Hid (∀ v w, RdB w v l → Calls Try.prog 14 #[v] w fun e w' => e = .returned (.int .i64 z) ∧ w = w') := fun v w h => by rw [hz]; exact implSum_any v l w (by omega) h
    have HE : Hid (∀ v1 v2 w, RdB w v1 l → RdB w v2 l → Calls Try.prog 15 #[v1, v2] w fun e w' => e = .returned (.bool true) ∧ Below w.heap.size w w') := fun v1 v2 w h1 h2 => eqBytes_same v1 v2 l w (by omega) h1 h2
    clear hz
    go_enter Try.func4, Try.ntmps4
    go_wp2_with fail
    (go_at_call 13; refine (HT.out _ HA.out).mono ?_; rintro e w1 ⟨g1, rfl, r1, _, z1, b1⟩; have R1 := Lib.hid (rd_row r1); clear r1)
    go_wp2_with fail
    (go_at_call 12; refine (HM.out _ _ R1.out).mono ?_; rintro e w' ⟨rfl, rfl⟩)
    have A1 := Lib.hid (HA.out.below b1)
    go_wp2_with fail
    (go_at_call 13; refine (HT.out _ A1.out).mono ?_; rintro e w2 ⟨g2, rfl, r2, _, z2, b2⟩; have R2 := Lib.hid (rd_row r2); clear r2)
    go_wp2_with fail
    (go_at_call 14; refine (HI.out _ _ R2.out).mono ?_; rintro e w' ⟨rfl, rfl⟩)
    have A2 := Lib.hid (A1.out.below b2)
    go_wp2_with fail
    (go_at_call 13; refine (HT.out _ A2.out).mono ?_; rintro e w3 ⟨g3, rfl, r3, _, z3, b3⟩; have R3 := Lib.hid (rd_row r3); have S3 := Lib.hid (R2.out.below b3); clear r3)
    go_wp2_with fail
    (go_at_call 15; refine (HE.out _ _ _ S3.out R3.out).mono ?_; rintro e w4 ⟨rfl, b4⟩)
    go_wp2_with fail
    go_ret
    exact ⟨rfl, b1.trans ((b2.trans ((b3.trans (b4.mono b3.size)).mono b2.size)).mono b1.size)⟩

end Go.Proofs.Ytgoggndacichdaa
