/- The law that a segment is one only with data, ends and numbers that are: at every code. Condition: the code lies in memory. -/
import Derived.Test.YthcgmkpalmcgbaaDrawSegOk
import Derived.Test.YthcgmkpalmcgbaaHaOk
namespace Go.Proofs.Ythcgmkpalmcgbaa
open Go.RowKit

theorem txB_long : segTxB [97, 98, 99, 100, 101, 102, 103, 104, 105, 106, 107, 108, 109] = false := by decide
theorem txB_big : segTxB [65] = false := by decide

set_option maxRecDepth 100000 in
set_option maxHeartbeats 3200000 in
theorem lwSegOk_any (ao : Option Addr) (n cap : Nat) (w : World) (h : BytesIn w ao n) (hn : n ≤ cap) :
    Calls Try.prog 6 #[.slice ao n cap] w fun e w' => e = .returned (.bool true) ∧ Below w.heap.size w w' := by
  have H := Lib.hid h
  clear h
  by_cases hn2 : 1048576 < n
  · go_enter Try.func6, Try.ntmps6
    go_wp2_with fail
    go_ret
    exact ⟨rfl, Below.refl _ _⟩
  · go_enter Try.func6, Try.ntmps6
    go_wp2_with fail
    (go_at_call 22; refine (drawSegOk_any ao n cap _ H.out hn).mono ?_; rintro e w1 ⟨sa, sp, da, dp, sq, ak, d, rfl, hD, b1⟩)
    have hd : d.size ≤ 2097152 := by have := hD.2.2; omega
    have A1 : Hid (At7 (w1.alloc (.cells #[.int .i64 sa, .int .i64 sp, .int .i64 da, .int .i64 dp, .int .i64 sq, .int .i64 ak, .string d] 29)) w1.heap.size (.int .i64 sa) (.int .i64 sp) (.int .i64 da) (.int .i64 dp) (.int .i64 sq) (.int .i64 ak) (.string d)) := at7_new w1 _ _ _ _ _ _ _ _
    have B1 : Hid (Below w.heap.size w (w1.alloc (.cells #[.int .i64 sa, .int .i64 sp, .int .i64 da, .int .i64 dp, .int .i64 sq, .int .i64 ak, .string d] 29))) := b1.alloc b1.size _
    obtain ⟨b0, hb0⟩ : ∃ b0, b0 = w1.heap.size := ⟨_, rfl⟩
    have hwb : w.heap.size ≤ b0 := by rw [hb0]; exact b1.size
    rw [← hb0] at A1
    obtain ⟨q, hq⟩ : ∃ q, q = segOkB ⟨sa, sp, da, dp, sq, ak, d.data.toList⟩ := ⟨_, rfl⟩
    have HM : Hid (∀ w, Calls Try.prog 16 #[.agg #[.int .i64 sa, .int .i64 sp, .int .i64 da, .int .i64 dp, .int .i64 sq, .int .i64 ak, .string d]] w fun e w' => e = .returned (.bool q) ∧ Below w.heap.size w w') := fun w => by rw [hq]; exact specSegOk_any sa sp da dp sq ak d w hd
    have HI : Hid (∀ w, Calls Try.prog 23 #[.agg #[.int .i64 sa, .int .i64 sp, .int .i64 da, .int .i64 dp, .int .i64 sq, .int .i64 ak, .string d]] w fun e w' => e = .returned (.bool q) ∧ Below w.heap.size w w') := fun w => by rw [hq]; exact implSegOk_any sa sp da dp sq ak d w hd
    have HL : Hid (∀ w, Calls Try.prog 23 #[.agg #[.int .i64 sa, .int .i64 sp, .int .i64 da, .int .i64 dp, .int .i64 sq, .int .i64 ak, .string ⟨#[97, 98, 99, 100, 101, 102, 103, 104, 105, 106, 107, 108, 109]⟩]] w fun e w' => e = .returned (.bool false) ∧ Below w.heap.size w w') := fun w => by
      have := implSegOk_any sa sp da dp sq ak ⟨#[97, 98, 99, 100, 101, 102, 103, 104, 105, 106, 107, 108, 109]⟩ w (by decide)
      rwa [show segOkB ⟨sa, sp, da, dp, sq, ak, [97, 98, 99, 100, 101, 102, 103, 104, 105, 106, 107, 108, 109]⟩ = false by unfold segOkB; rw [txB_long]; simp] at this
    have HB : Hid (∀ w, Calls Try.prog 23 #[.agg #[.int .i64 sa, .int .i64 sp, .int .i64 da, .int .i64 dp, .int .i64 sq, .int .i64 ak, .string ⟨#[65]⟩]] w fun e w' => e = .returned (.bool false) ∧ Below w.heap.size w w') := fun w => by
      have := implSegOk_any sa sp da dp sq ak ⟨#[65]⟩ w (by decide)
      rwa [show segOkB ⟨sa, sp, da, dp, sq, ak, [65]⟩ = false by unfold segOkB; rw [txB_big]; simp] at this
    have HQ : Hid (∀ w, Calls Try.prog 23 #[.agg #[.int .i64 sa, .int .i64 sp, .int .i64 da, .int .i64 dp, .int .i64 241, .int .i64 ak, .string d]] w fun e w' => e = .returned (.bool false) ∧ Below w.heap.size w w') := fun w => by
      have := implSegOk_any sa sp da dp 241 ak d w hd
      rwa [show segOkB ⟨sa, sp, da, dp, 241, ak, d.data.toList⟩ = false by unfold segOkB; simp [inB]] at this
    clear b1 hq hd hD
    obtain ⟨W1, hW1⟩ : ∃ W1, W1 = w1.alloc (.cells #[.int .i64 sa, .int .i64 sp, .int .i64 da, .int .i64 dp, .int .i64 sq, .int .i64 ak, .string d] 29) := ⟨_, rfl⟩
    rw [← hW1] at A1 B1
    obtain ⟨uz, ⟨c0, c1, c2, c3, c4, c5, c6⟩, f0, f1, f2, f3, f4, f5, f6⟩ := A1.out
    rw [hW1] at c0 c1 c2 c3 c4 c5 c6 uz
    have HW1 := Lib.hid hW1
    clear hW1 f0 f1 f2 f3 f4 f5 f6
    go_wp2_with fail
    rw [← hb0]
    rw [← HW1.out]
    clear c0 c1 c2 c3 c4 c5 c6 uz hb0 HW1
    (go_at_call 23; refine (HI.out _).mono ?_; rintro e w2 ⟨rfl, b2⟩)
    have A2 := Lib.hid (A1.out.below b2)
    have B2 := Lib.hid (B1.out.trans (b2.mono B1.out.size))
    clear b2 A1 B1
    obtain ⟨uz, ⟨c0, c1, c2, c3, c4, c5, c6⟩, _⟩ := A2.out
    go_wp2_with fail
    (go_at_call 16; refine (HM.out _).mono ?_; rintro e w3 ⟨rfl, b3⟩)
    have A3 := Lib.hid (A2.out.below b3)
    have B3 := Lib.hid (B2.out.trans (b3.mono B2.out.size))
    clear b3 A2 B2 uz c0 c1 c2 c3 c4 c5 c6
    obtain ⟨uz, ⟨c0, c1, c2, c3, c4, c5, c6⟩, _⟩ := A3.out
    go_wp2_with fail
    have AX : Hid (At7 (((w3.alloc (.cells #[.int .i64 sa, .int .i64 sp, .int .i64 da, .int .i64 dp, .int .i64 sq, .int .i64 ak, .string ⟨#[97, 98, 99, 100, 101, 102, 103, 104, 105, 106, 107, 108, 109]⟩] 29)).alloc (.cells #[.int .i64 sa, .int .i64 sp, .int .i64 da, .int .i64 dp, .int .i64 sq, .int .i64 ak, .string ⟨#[65]⟩] 29)).alloc (.cells #[.int .i64 sa, .int .i64 sp, .int .i64 da, .int .i64 dp, .int .i64 241, .int .i64 ak, .string d] 29)) (w3.heap.size + 1) (.int .i64 sa) (.int .i64 sp) (.int .i64 da) (.int .i64 dp) (.int .i64 sq) (.int .i64 ak) (.string ⟨#[65]⟩)) := by
      have := (at7_new (w3.alloc (.cells #[.int .i64 sa, .int .i64 sp, .int .i64 da, .int .i64 dp, .int .i64 sq, .int .i64 ak, .string ⟨#[97, 98, 99, 100, 101, 102, 103, 104, 105, 106, 107, 108, 109]⟩] 29)) (.int .i64 sa) (.int .i64 sp) (.int .i64 da) (.int .i64 dp) (.int .i64 sq) (.int .i64 ak) (.string ⟨#[65]⟩) 29).alloc (.cells #[.int .i64 sa, .int .i64 sp, .int .i64 da, .int .i64 dp, .int .i64 241, .int .i64 ak, .string d] 29)
      rwa [World.size_alloc] at this
    have AY : Hid (At7 (((w3.alloc (.cells #[.int .i64 sa, .int .i64 sp, .int .i64 da, .int .i64 dp, .int .i64 sq, .int .i64 ak, .string ⟨#[97, 98, 99, 100, 101, 102, 103, 104, 105, 106, 107, 108, 109]⟩] 29)).alloc (.cells #[.int .i64 sa, .int .i64 sp, .int .i64 da, .int .i64 dp, .int .i64 sq, .int .i64 ak, .string ⟨#[65]⟩] 29)).alloc (.cells #[.int .i64 sa, .int .i64 sp, .int .i64 da, .int .i64 dp, .int .i64 241, .int .i64 ak, .string d] 29)) (w3.heap.size + 1 + 1) (.int .i64 sa) (.int .i64 sp) (.int .i64 da) (.int .i64 dp) (.int .i64 241) (.int .i64 ak) (.string d)) := by
      have := at7_new ((w3.alloc (.cells #[.int .i64 sa, .int .i64 sp, .int .i64 da, .int .i64 dp, .int .i64 sq, .int .i64 ak, .string ⟨#[97, 98, 99, 100, 101, 102, 103, 104, 105, 106, 107, 108, 109]⟩] 29)).alloc (.cells #[.int .i64 sa, .int .i64 sp, .int .i64 da, .int .i64 dp, .int .i64 sq, .int .i64 ak, .string ⟨#[65]⟩] 29)) (.int .i64 sa) (.int .i64 sp) (.int .i64 da) (.int .i64 dp) (.int .i64 241) (.int .i64 ak) (.string d) 29
      rwa [World.size_alloc, World.size_alloc] at this
    have BX : Hid (Below w.heap.size w (((w3.alloc (.cells #[.int .i64 sa, .int .i64 sp, .int .i64 da, .int .i64 dp, .int .i64 sq, .int .i64 ak, .string ⟨#[97, 98, 99, 100, 101, 102, 103, 104, 105, 106, 107, 108, 109]⟩] 29)).alloc (.cells #[.int .i64 sa, .int .i64 sp, .int .i64 da, .int .i64 dp, .int .i64 sq, .int .i64 ak, .string ⟨#[65]⟩] 29)).alloc (.cells #[.int .i64 sa, .int .i64 sp, .int .i64 da, .int .i64 dp, .int .i64 241, .int .i64 ak, .string d] 29))) := by
      have z := B3.out.size
      exact ((B3.out.alloc z _).alloc (by simp; omega) _).alloc (by simp; omega) _
    clear uz c0 c1 c2 c3 c4 c5 c6 A3 B3
    (go_at_call 23; refine (HL.out _).mono ?_; rintro e w4 ⟨rfl, b4⟩)
    have AX4 := Lib.hid (AX.out.below b4)
    have AY4 := Lib.hid (AY.out.below b4)
    have B4 := Lib.hid (BX.out.trans (b4.mono BX.out.size))
    clear b4 AX AY BX
    obtain ⟨uz, ⟨c0, c1, c2, c3, c4, c5, c6⟩, _⟩ := AX4.out
    go_wp2_with fail
    (go_at_call 23; refine (HB.out _).mono ?_; rintro e w5 ⟨rfl, b5⟩)
    have AY5 := Lib.hid (AY4.out.below b5)
    have B5 := Lib.hid (B4.out.trans (b5.mono B4.out.size))
    clear b5 AX4 AY4 B4 uz c0 c1 c2 c3 c4 c5 c6
    obtain ⟨uz, ⟨c0, c1, c2, c3, c4, c5, c6⟩, _⟩ := AY5.out
    go_wp2_with fail
    (go_at_call 23; refine (HQ.out _).mono ?_; rintro e w6 ⟨rfl, b6⟩)
    have B6 := Lib.hid (B5.out.trans (b6.mono B5.out.size))
    clear b6 AY5 B5 uz c0 c1 c2 c3 c4 c5 c6
    cases q
    · go_wp2_with fail
      (go_at_call 17; refine (haOk_any _).mono ?_; rintro e w7 ⟨rfl, rfl⟩)
      go_wp2_with fail
      go_ret
      exact ⟨rfl, B6.out⟩
    · go_wp2_with fail
      go_ret
      exact ⟨rfl, B6.out⟩

end Go.Proofs.Ythcgmkpalmcgbaa
