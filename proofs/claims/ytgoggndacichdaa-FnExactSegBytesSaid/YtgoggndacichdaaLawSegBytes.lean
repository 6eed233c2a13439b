/- The law of SegBytes, at every segment. No condition. -/
import Derived.Test.YtgoggndacichdaaSegBy
import Derived.Test.YtgoggndacichdaaByLaw
import Derived.Test.YtgoggndacichdaaSegLaw
namespace Go.Proofs.Ytgoggndacichdaa
open Go.RowKit

theorem segBytes_short (s : Sg) : (segBytesL s).length ≤ 27 := by
  unfold segBytesL
  by_cases h : segOkB s = true
  · rw [if_pos h, segL_len]
    have := (segOk_bounds h).2.2
    omega
  · rw [if_neg h]; simp

set_option maxRecDepth 100000 in
set_option maxHeartbeats 1600000 in
theorem lawSegBytes_any (sa sp da dp sq ak : Int) (d : ByteArray) (w : World) (hd : d.size ≤ maxLen) :
    Calls Try.prog 5 #[.agg #[.int .i64 sa, .int .i64 sp, .int .i64 da, .int .i64 dp, .int .i64 sq, .int .i64 ak, .string d]] w fun e w' => e = .returned (.bool true) ∧ Below w.heap.size w w' := by
  by_cases h : 1048576 < d.size
  · have HS : Hid (∀ w, Calls Try.prog 8 #[.agg #[.int .i64 sa, .int .i64 sp, .int .i64 da, .int .i64 dp, .int .i64 sq, .int .i64 ak, .string d], .int .i64 1048576] w fun e w' => e = .returned (.int .i64 (-1)) ∧ Below w.heap.size w w') := fun w => by
      have := szSeg_any sa sp da dp sq ak d 1048576 w hd (by decide) (by decide)
      rwa [if_pos (by omega)] at this
    go_enter Try.func5, Try.ntmps5
    go_wp2_with (go_at_call 8; refine (HS.out _).mono ?_; rintro e w1 ⟨rfl, b1⟩)
    go_ret
    exact ⟨rfl, below_box b1⟩
  · obtain ⟨q0, hq0⟩ : ∃ q0 : Int, q0 = 1048576 - d.size := ⟨_, rfl⟩
    have hq1 : ¬ q0 < 0 := by omega
    have HS : Hid (∀ w, Calls Try.prog 8 #[.agg #[.int .i64 sa, .int .i64 sp, .int .i64 da, .int .i64 dp, .int .i64 sq, .int .i64 ak, .string d], .int .i64 1048576] w fun e w' => e = .returned (.int .i64 q0) ∧ Below w.heap.size w w') := fun w => by
      have := szSeg_any sa sp da dp sq ak d 1048576 w hd (by decide) (by decide)
      rw [if_neg (by omega)] at this
      rwa [hq0]
    have hxn := segBytes_short ⟨sa, sp, da, dp, sq, ak, d.data.toList⟩
    obtain ⟨l, hl⟩ : ∃ l, l = segBytesL ⟨sa, sp, da, dp, sq, ak, d.data.toList⟩ := ⟨_, rfl⟩
    rw [← hl] at hxn
    have HM : Hid (∀ w, Calls Try.prog 16 #[.agg #[.int .i64 sa, .int .i64 sp, .int .i64 da, .int .i64 dp, .int .i64 sq, .int .i64 ak, .string d]] w fun e w' => ∃ v, e = .returned v ∧ OwnB w' w.heap.size v l ∧ Below w.heap.size w w') := fun w => by
      rw [hl]
      refine (specBytes_any sa sp da dp sq ak d w (by omega)).mono ?_
      rintro e w' ⟨g, cap, rfl, o, b⟩
      exact ⟨_, rfl, o, b⟩
    have HI : Hid (∀ w, Calls Try.prog 17 #[.agg #[.int .i64 sa, .int .i64 sp, .int .i64 da, .int .i64 dp, .int .i64 sq, .int .i64 ak, .string d]] w fun e w' => ∃ v, e = .returned v ∧ OwnB w' w.heap.size v l ∧ Below w.heap.size w w') := fun w => by rw [hl]; exact implBytes_any sa sp da dp sq ak d w (by omega)
    obtain ⟨m, hm⟩ : ∃ m : Int, m = ((1 + l.length : Nat) : Int) := ⟨_, rfl⟩
    have hm0 : 0 ≤ m := by omega
    have HE : Hid (∀ v1 v2 w, RdB w v1 l → RdB w v2 l → Calls Try.prog 15 #[v1, v2] w fun e w' => e = .returned (.bool true) ∧ Below w.heap.size w w') := fun v1 v2 w h1 h2 => eqBytes_same v1 v2 l w (by omega) h1 h2
    have HK : Hid (∀ B v w, OwnB w B v l → Calls Try.prog 18 #[v, .int .i64 1] w fun e w' => e = .returned (.int .i64 m) ∧ RdB w' v (marksB 1 l.length) ∧ Below B w w') := fun B v w h => by rw [hm]; exact markBytes_own 1 B v l w (by omega) h
    have HH : Hid (∀ v w, RdB w v (marksB 1 l.length) → Calls Try.prog 19 #[v, .int .i64 1] w fun e w' => e = .returned (.int .i64 m) ∧ w = w') := fun v w h => by rw [hm]; exact heldBytes_any 1 l.length v w (by omega) h
    clear hl hq0 hd hm hxn
    go_enter Try.func5, Try.ntmps5
    go_wp2_with fail
    (go_at_call 8; refine (HS.out _).mono ?_; rintro e w1 ⟨rfl, b1⟩)
    have B1 : Hid (Below w.heap.size w w1) := below_box b1
    have s1 : w.heap.size < w1.heap.size := by have := b1.size; simp at this; omega
    have K1 : Hid (Box7 w1 w.heap.size (.int .i64 sa) (.int .i64 sp) (.int .i64 da) (.int .i64 dp) (.int .i64 sq) (.int .i64 ak) (.string d)) := (box7_new w _ _ _ _ _ _ _ _).below b1 (by simp)
    clear b1
    obtain ⟨k0, k1, k2, k3, k4, k5, k6⟩ := K1.out
    go_wp2_with fail
    clear k0 k1 k2 k3 k4 k5 k6
    (go_at_call 10; refine (toSeg_any _ _ _ _ _ _ _ _).mono ?_; rintro e w2 ⟨rfl, b2⟩)
    have B2 := Lib.hid b2
    clear b2
    go_wp2_with fail
    (go_at_call 16; refine (HM.out _).mono ?_; rintro e w3 ⟨v0, rfl, own0, b3⟩)
    have R3 := Lib.hid own0.rd
    have B3 : Hid (Below w1.heap.size w1 w3) := B2.out.trans (b3.mono B2.out.size)
    have z3 := B3.out.size
    have K3 := Lib.hid (K1.out.below B3.out s1)
    clear own0 b3
    obtain ⟨k0, k1, k2, k3, k4, k5, k6⟩ := K3.out
    go_wp2_with fail
    clear k0 k1 k2 k3 k4 k5 k6
    (go_at_call 10; refine (toSeg_any _ _ _ _ _ _ _ _).mono ?_; rintro e w4 ⟨rfl, b4⟩)
    have C4 := Lib.hid b4
    clear b4
    go_wp2_with fail
    (go_at_call 17; refine (HI.out _).mono ?_; rintro e w5 ⟨v1, rfl, own1, b5⟩)
    have O5 := Lib.hid (own1.mono C4.out.size)
    have C5 : Hid (Below w3.heap.size w3 w5) := C4.out.trans (b5.mono C4.out.size)
    have R5 := Lib.hid (R3.out.below C5.out)
    clear own1 b5
    go_wp2_with fail
    (go_at_call 15; refine (HE.out v1 v0 _ O5.out.rd R5.out).mono ?_; rintro e w6 ⟨rfl, b6⟩)
    have O6 := Lib.hid (O5.out.below b6)
    have C6 : Hid (Below w3.heap.size w3 w6) := C5.out.trans (b6.mono C5.out.size)
    clear b6
    go_wp2_with fail
    (go_at_call 18; refine (HK.out w3.heap.size v1 w6 O6.out).mono ?_; rintro e w7 ⟨rfl, rd7, b7⟩)
    have M7 := Lib.hid rd7
    have C7 : Hid (Below w3.heap.size w3 w7) := C6.out.trans b7
    have z7 := C7.out.size
    have K7 := Lib.hid (K3.out.below C7.out (by omega))
    clear rd7 b7
    go_wp2_with fail
    (go_at_call 19; refine (HH.out v1 w7 M7.out).mono ?_; rintro e w' ⟨rfl, rfl⟩)
    obtain ⟨k0, k1, k2, k3, k4, k5, k6⟩ := K7.out
    go_wp2_with fail
    clear k0 k1 k2 k3 k4 k5 k6
    (go_at_call 10; refine (toSeg_any _ _ _ _ _ _ _ _).mono ?_; rintro e w8 ⟨rfl, b8⟩)
    have C8 : Hid (Below w3.heap.size w3 w8) := C7.out.trans (b8.mono z7)
    have M8 := Lib.hid (M7.out.below b8)
    clear b8
    go_wp2_with fail
    (go_at_call 17; refine (HI.out _).mono ?_; rintro e w9 ⟨v2, rfl, own2, b9⟩)
    have C9 : Hid (Below w3.heap.size w3 w9) := C8.out.trans (b9.mono C8.out.size)
    have M9 := Lib.hid (M8.out.below b9)
    have S9 := Lib.hid own2.rd
    have R9 := Lib.hid (R3.out.below C9.out)
    clear own2 b9
    go_wp2_with fail
    (go_at_call 15; refine (HE.out v2 v0 _ S9.out R9.out).mono ?_; rintro e w10 ⟨rfl, b10⟩)
    have C10 : Hid (Below w3.heap.size w3 w10) := C9.out.trans (b10.mono C9.out.size)
    have M10 := Lib.hid (M9.out.below b10)
    clear b10
    go_wp2_with fail
    (go_at_call 19; refine (HH.out v1 w10 M10.out).mono ?_; rintro e w' ⟨rfl, rfl⟩)
    go_wp2_with fail
    go_ret
    exact ⟨rfl, B1.out.trans ((B3.out.trans (C10.out.mono z3)).mono (by omega))⟩

end Go.Proofs.Ytgoggndacichdaa
