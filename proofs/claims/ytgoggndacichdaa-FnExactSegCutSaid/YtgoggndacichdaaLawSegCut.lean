/- The law of SegCut, at every segment, text and place. Condition: the place is a number. -/
import Derived.Test.YtgoggndacichdaaSegCutS
import Derived.Test.YtgoggndacichdaaMarkSg
import Derived.Test.YtgoggndacichdaaSegLaw
namespace Go.Proofs.Ytgoggndacichdaa
open Go.RowKit

theorem segCut_short (s : Sg) (far : List UInt8) (a : Int) : (segCutL s far a).length ≤ 100 := by
  unfold segCutL
  by_cases h : segOkB s = true ∧ far.length ≤ 240 ∧ 0 ≤ a
  · rw [if_pos h, cutL_len]
    have := h.2.1
    unfold piecesN
    omega
  · rw [if_neg h]; simp

set_option maxRecDepth 100000 in
set_option maxHeartbeats 1600000 in
theorem lawSegCut_any (sa sp da dp sq ak : Int) (d far : ByteArray) (a : Int) (w : World) (hd : d.size ≤ maxLen) (_ : far.size ≤ maxLen) (wa : (Lit.int .i64 a).wf = true) :
    Calls Try.prog 6 #[.agg #[.int .i64 sa, .int .i64 sp, .int .i64 da, .int .i64 dp, .int .i64 sq, .int .i64 ak, .string d], .string far, .int .i64 a] w fun e w' => e = .returned (.bool true) ∧ Below w.heap.size w w' := by
  have ha : a ≤ 9223372036854775807 := by
    simp [Lit.wf, IntKind.min, IntKind.max, IntKind.signed, IntKind.bits] at wa
    omega
  clear wa
  by_cases hf : 1048576 < far.size
  · go_enter Try.func6, Try.ntmps6
    go_wp2_with fail
    go_ret
    exact ⟨rfl, (Below.refl _ _).alloc (Nat.le_refl _) _⟩
  have hf2 : (far.size : Int) ≤ 1048576 := by omega
  by_cases h : 1048576 < d.size
  · have HS : Hid (∀ w, Calls Try.prog 8 #[.agg #[.int .i64 sa, .int .i64 sp, .int .i64 da, .int .i64 dp, .int .i64 sq, .int .i64 ak, .string d], .int .i64 1048576] w fun e w' => e = .returned (.int .i64 (-1)) ∧ Below w.heap.size w w') := fun w => by
      have := szSeg_any sa sp da dp sq ak d 1048576 w hd (by decide) (by decide)
      rwa [if_pos (by omega)] at this
    go_enter Try.func6, Try.ntmps6
    go_wp2_with (go_at_call 8; refine (HS.out _).mono ?_; rintro e w1 ⟨rfl, b1⟩)
    go_ret
    exact ⟨rfl, below_box b1⟩
  · obtain ⟨q0, hq0⟩ : ∃ q0 : Int, q0 = 1048576 - d.size := ⟨_, rfl⟩
    have hq1 : ¬ q0 < 0 := by omega
    have HS : Hid (∀ w, Calls Try.prog 8 #[.agg #[.int .i64 sa, .int .i64 sp, .int .i64 da, .int .i64 dp, .int .i64 sq, .int .i64 ak, .string d], .int .i64 1048576] w fun e w' => e = .returned (.int .i64 q0) ∧ Below w.heap.size w w') := fun w => by
      have := szSeg_any sa sp da dp sq ak d 1048576 w hd (by decide) (by decide)
      rw [if_neg (by omega)] at this
      rwa [hq0]
    have hxn := segCut_short ⟨sa, sp, da, dp, sq, ak, d.data.toList⟩ far.data.toList a
    obtain ⟨l, hl⟩ : ∃ l, l = segCutL ⟨sa, sp, da, dp, sq, ak, d.data.toList⟩ far.data.toList a := ⟨_, rfl⟩
    rw [← hl] at hxn
    have HM : Hid (∀ w, Calls Try.prog 20 #[.agg #[.int .i64 sa, .int .i64 sp, .int .i64 da, .int .i64 dp, .int .i64 sq, .int .i64 ak, .string d], .string far, .int .i64 a] w fun e w' => ∃ v, e = .returned v ∧ OwnSg w' w.heap.size v l ∧ Below w.heap.size w w') := fun w => by
      rw [hl]; exact specCut_any sa sp da dp sq ak d far a w (by omega) (by omega) ha
    have HI : Hid (∀ w, Calls Try.prog 21 #[.agg #[.int .i64 sa, .int .i64 sp, .int .i64 da, .int .i64 dp, .int .i64 sq, .int .i64 ak, .string d], .string far, .int .i64 a] w fun e w' => ∃ v, e = .returned v ∧ OwnSg w' w.heap.size v l ∧ Below w.heap.size w w') := fun w => by rw [hl]; exact implCut_any sa sp da dp sq ak d far a w (by omega) (by omega) ha
    obtain ⟨m, hm⟩ : ∃ m : Int, m = ((1 + 7 * l.length : Nat) : Int) := ⟨_, rfl⟩
    have hm0 : 0 ≤ m := by omega
    have HE : Hid (∀ v1 v2 w, RdSg w v1 l → RdSg w v2 l → Calls Try.prog 22 #[v1, v2] w fun e w' => e = .returned (.bool true) ∧ Below w.heap.size w w') := fun v1 v2 w h1 h2 => eqSegs_same v1 v2 l w (by omega) h1 h2
    have HK : Hid (∀ B v w, OwnSg w B v l → Calls Try.prog 23 #[v, .int .i64 1] w fun e w' => e = .returned (.int .i64 m) ∧ RdSg w' v (marksG 1 l.length) ∧ Below B w w') := fun B v w h => by rw [hm]; exact markSegs_own 1 B v l w (by omega) (by omega) h
    have HH : Hid (∀ v w, RdSg w v (marksG 1 l.length) → Calls Try.prog 24 #[v, .int .i64 1] w fun e w' => e = .returned (.int .i64 m) ∧ Below w.heap.size w w') := fun v w h => by rw [hm]; exact heldSegs_any 1 v l.length w (by omega) (by omega) h
    clear hl hq0 hd hm hxn hf ha
    go_enter Try.func6, Try.ntmps6
    go_wp2_with fail
    (go_at_call 8; refine (HS.out _).mono ?_; rintro e w1 ⟨rfl, b1⟩)
    have B1 : Hid (Below w.heap.size w w1) := below_box b1
    have s1 : w.heap.size < w1.heap.size := by have := b1.size; simp at this; omega
    have K1 : Hid (Box7 w1 w.heap.size (.int .i64 sa) (.int .i64 sp) (.int .i64 da) (.int .i64 dp) (.int .i64 sq) (.int .i64 ak) (.string d)) := (box7_new w _ _ _ _ _ _ _ _).below b1 (by simp)
    clear b1
    obtain ⟨k0, k1, k2, k3, k4, k5, k6⟩ := K1.out
    go_wp2_with fail
    clear k0 k1 k2 k3 k4 k5 k6
    (go_at_call 10; refine (toSeg_any _ _ _ _ _ _ _ _).mono ?_; rintro e w2 ⟨rfl, b2⟩)
    have B2 := Lib.hid b2
    clear b2
    go_wp2_with fail
    (go_at_call 20; refine (HM.out _).mono ?_; rintro e w3 ⟨v0, rfl, own0, b3⟩)
    have R3 := Lib.hid own0.rd
    have B3 : Hid (Below w1.heap.size w1 w3) := B2.out.trans (b3.mono B2.out.size)
    have z3 := B3.out.size
    have K3 := Lib.hid (K1.out.below B3.out s1)
    clear own0 b3
    obtain ⟨k0, k1, k2, k3, k4, k5, k6⟩ := K3.out
    go_wp2_with fail
    clear k0 k1 k2 k3 k4 k5 k6
    (go_at_call 10; refine (toSeg_any _ _ _ _ _ _ _ _).mono ?_; rintro e w4 ⟨rfl, b4⟩)
    have C4 := Lib.hid b4
    clear b4
    go_wp2_with fail
    (go_at_call 21; refine (HI.out _).mono ?_; rintro e w5 ⟨v1, rfl, own1, b5⟩)
    have O5 := Lib.hid (own1.mono C4.out.size)
    have C5 : Hid (Below w3.heap.size w3 w5) := C4.out.trans (b5.mono C4.out.size)
    have R5 := Lib.hid (R3.out.below C5.out)
    clear own1 b5
    go_wp2_with fail
    (go_at_call 22; refine (HE.out v1 v0 _ O5.out.rd R5.out).mono ?_; rintro e w6 ⟨rfl, b6⟩)
    have O6 := Lib.hid (O5.out.below b6)
    have C6 : Hid (Below w3.heap.size w3 w6) := C5.out.trans (b6.mono C5.out.size)
    clear b6
    go_wp2_with fail
    (go_at_call 23; refine (HK.out w3.heap.size v1 w6 O6.out).mono ?_; rintro e w7 ⟨rfl, rd7, b7⟩)
    have M7 := Lib.hid rd7
    have C7 : Hid (Below w3.heap.size w3 w7) := C6.out.trans b7
    have z7 := C7.out.size
    clear rd7 b7 z7
    go_wp2_with fail
    (go_at_call 24; refine (HH.out v1 w7 M7.out).mono ?_; rintro e w7x ⟨rfl, b7x⟩)
    replace M7 := Lib.hid (M7.out.below b7x)
    replace C7 : Hid (Below w3.heap.size w3 w7x) := C7.out.trans (b7x.mono C7.out.size)
    have z7 := C7.out.size
    have K7 := Lib.hid (K3.out.below C7.out (by omega))
    clear b7x
    obtain ⟨k0, k1, k2, k3, k4, k5, k6⟩ := K7.out
    go_wp2_with fail
    clear k0 k1 k2 k3 k4 k5 k6
    (go_at_call 10; refine (toSeg_any _ _ _ _ _ _ _ _).mono ?_; rintro e w8 ⟨rfl, b8⟩)
    have C8 : Hid (Below w3.heap.size w3 w8) := C7.out.trans (b8.mono z7)
    have M8 := Lib.hid (M7.out.below b8)
    clear b8
    go_wp2_with fail
    (go_at_call 21; refine (HI.out _).mono ?_; rintro e w9 ⟨v2, rfl, own2, b9⟩)
    have C9 : Hid (Below w3.heap.size w3 w9) := C8.out.trans (b9.mono C8.out.size)
    have M9 := Lib.hid (M8.out.below b9)
    have S9 := Lib.hid own2.rd
    have R9 := Lib.hid (R3.out.below C9.out)
    clear own2 b9
    go_wp2_with fail
    (go_at_call 22; refine (HE.out v2 v0 _ S9.out R9.out).mono ?_; rintro e w10 ⟨rfl, b10⟩)
    have C10 : Hid (Below w3.heap.size w3 w10) := C9.out.trans (b10.mono C9.out.size)
    have M10 := Lib.hid (M9.out.below b10)
    clear b10
    go_wp2_with fail
    (go_at_call 24; refine (HH.out v1 w10 M10.out).mono ?_; rintro e w11 ⟨rfl, b11⟩)
    replace C10 : Hid (Below w3.heap.size w3 w11) := C10.out.trans (b11.mono C10.out.size)
    go_wp2_with fail
    go_ret
    exact ⟨rfl, B1.out.trans ((B3.out.trans (C10.out.mono z3)).mono (by omega))⟩

end Go.Proofs.Ytgoggndacichdaa
