/- The segments that are drawn. Conditions: the reader is there; its place is small. -/
import Derived.Test.YtjnhmobdigfpiaaDrawSm
import Derived.Test.YtjnhmobdigfpiaaDrawStr
import Derived.Test.YtjnhmobdigfpiaaAt7
import Derived.Test.YtjnhmobdigfpiaaSegOk
import Derived.Test.YtjnhmobdigfpiaaSegOk
namespace Go.Proofs.Ytjnhmobdigfpiaa
open Go.RowKit

set_option maxRecDepth 100000 in
set_option maxHeartbeats 1600000 in
theorem data_any (B R L : Nat) (w : World) (h : Rd B R L w) (hL : L ≤ 998000) :
    Calls Try.prog 25 #[.pointer (some ⟨R, 0, none⟩)] w fun e w' => ∃ s : ByteArray, e = .returned (.string s) ∧ s.size ≤ 120 ∧ w.grownBy w' (some R) ∧ Rd B R (L + 51) w' := by
  have H := Lib.hid h
  clear h
  go_enter Try.func25, Try.ntmps25
  go_wp2_with fail
  (go_at_call 14; refine (stream_any B R L _ H.out (by omega)).mono ?_; rintro e w1 ⟨s, rfl, hs, g1, r1⟩)
  have R1 := Lib.hid r1
  have G1 := Lib.hid g1
  clear r1 g1
  go_wp2_with fail
  (go_at_call 15; refine (pick_any 13 B R (L + 50) _ R1.out (by omega)).mono ?_; rintro e w2 ⟨k, rfl, hk, g2, r2⟩)
  have R2 := Lib.hid r2
  have G2 := Lib.hid (G1.out.trans g2)
  clear r2 g2 hk
  by_cases hle : (s.size : Int) ≤ (k : Int)
  · go_wp2_with fail
    go_ret
    exact ⟨_, rfl, by first | exact hs | (simp; omega), G2.out, R2.out⟩
  · have hle2 : (k : Int) < (s.size : Int) := by omega
    have hle3 : (k : Int) ≤ (s.size : Int) := by omega
    go_wp2_with fail
    go_ret
    exact ⟨_, rfl, by first | exact hs | (simp; omega), G2.out, R2.out⟩

/-- What is drawn: a number of the sequence within bounds, and not much data. -/
def SegD (sq : Int) (d : ByteArray) : Prop := -1000000 ≤ sq ∧ sq ≤ 1000000 ∧ d.size ≤ 120

set_option maxRecDepth 100000 in
set_option maxHeartbeats 1600000 in
theorem seg_any (m : Int) (B R L : Nat) (w : World) (h : Rd B R L w) (hL : L ≤ 990000) (hm : 0 ≤ m) (hm2 : m ≤ 1000000) :
    Calls Try.prog 13 #[.pointer (some ⟨R, 0, none⟩), .int .i64 m] w fun e w' => ∃ (sa sp da dp sq ak : Int) (d : ByteArray), e = .returned (.agg #[.int .i64 sa, .int .i64 sp, .int .i64 da, .int .i64 dp, .int .i64 sq, .int .i64 ak, .string d]) ∧ SegD sq d ∧ w.grownBy w' (some R) ∧ Rd B R (L + 90) w' := by
  have hR := h.lt
  have hBR := h.base
  have H := Lib.hid h
  clear h
  go_enter Try.func13, Try.ntmps13
  go_wp2_with fail
  (go_at_call 24; refine (end_any 40 B R L _ (rd_alloc H.out _) (by omega) (by decide) (by decide)).mono ?_; rintro e w1 ⟨sa, sp, rfl, g1, r1⟩)
  have R1 := Lib.hid r1
  have G1 := Lib.hid g1
  have s1 := g1.size
  simp only [World.size_alloc] at s1
  clear r1 g1
  go_wp2_with fail
  (go_at_call 24; refine (end_any 40 B R (L + 8) _ R1.out (by omega) (by decide) (by decide)).mono ?_; rintro e w2 ⟨da, dp, rfl, g2, r2⟩)
  have R2 := Lib.hid r2
  have G2 := Lib.hid (G1.out.trans g2)
  clear r2 g2 G1 R1
  go_wp2_with fail
  (go_at_call 15; refine (pick_any 60 B R (L + 16) _ R2.out (by omega)).mono ?_; rintro e w3 ⟨q, rfl, hq, g3, r3⟩)
  have hq2 : q ≤ 60 := by omega
  have R3 := Lib.hid r3
  have G3 := Lib.hid (G2.out.trans g3)
  clear r3 g3 G2 R2 hq
  go_wp2_with fail
  (go_at_call 15; refine (pick_any 60 B R (L + 17) _ R3.out (by omega)).mono ?_; rintro e w4 ⟨k, rfl, hk, g4, r4⟩)
  have R4 := Lib.hid r4
  have G4 := Lib.hid (G3.out.trans g4)
  clear r4 g4 G3 R3 hk
  go_wp2_with fail
  (go_at_call 25; refine (data_any B R (L + 18) _ R4.out (by omega)).mono ?_; rintro e w5 ⟨d, rfl, hd, g5, r5⟩)
  have R5 := Lib.hid r5
  have G5 := Lib.hid (G4.out.trans g5)
  clear r5 g5 G4 R4
  have z5 : w.heap.size + 1 ≤ w5.heap.size := by have := G5.out.size; simpa using this
  have A5 : Hid (At7 w5 w.heap.size (.int .i64 0) (.int .i64 0) (.int .i64 0) (.int .i64 0) (.int .i64 0) (.int .i64 0) (.string ⟨#[]⟩)) := (at7_new w _ _ _ _ _ _ _ _).grown G5.out (by omega)
  have hB1 : B ≤ w.heap.size := by omega
  have hne1 : w.heap.size ≠ R := by omega
  obtain ⟨b2, hb2⟩ : ∃ b2, b2 = w5.heap.size := ⟨_, rfl⟩
  have hne2 : b2 ≠ R := by omega
  have hne3 : w.heap.size ≠ b2 := by omega
  have hne4 : b2 ≠ w.heap.size := by omega
  have hBb : B ≤ b2 := by omega
  have hwb : w.heap.size ≤ b2 := by omega
  have hwb1 : w.heap.size + 1 ≤ b2 := by omega
  have G7 := Lib.hid (grown_alloc G5.out (.cells #[.int .i64 sa, .int .i64 sp, .int .i64 da, .int .i64 dp, .int .i64 (q : Int), .int .i64 (k : Int), .string d] 26))
  have R7 := Lib.hid (rd_alloc R5.out (.cells #[.int .i64 sa, .int .i64 sp, .int .i64 da, .int .i64 dp, .int .i64 (q : Int), .int .i64 (k : Int), .string d] 26))
  have A7 : Hid (At7 (w5.alloc (.cells #[.int .i64 sa, .int .i64 sp, .int .i64 da, .int .i64 dp, .int .i64 (q : Int), .int .i64 (k : Int), .string d] 26)) w.heap.size (.int .i64 0) (.int .i64 0) (.int .i64 0) (.int .i64 0) (.int .i64 0) (.int .i64 0) (.string ⟨#[]⟩)) := A5.out.grown (World.grownBy_alloc w5 _ (some R)) hne1
  have D7 : Hid (At7 (w5.alloc (.cells #[.int .i64 sa, .int .i64 sp, .int .i64 da, .int .i64 dp, .int .i64 (q : Int), .int .i64 (k : Int), .string d] 26)) b2 (.int .i64 sa) (.int .i64 sp) (.int .i64 da) (.int .i64 dp) (.int .i64 (q : Int)) (.int .i64 (k : Int)) (.string d)) := by rw [hb2]; exact at7_new w5 _ _ _ _ _ _ _ _
  clear A5 R5 G5
  go_wp2_with fail
  rw [← hb2]
  clear hb2
  (go_at_call 26; refine (odd_any m B R (L + 69) _ R7.out (by omega) hm hm2).mono ?_; rintro e w6 ⟨bo, rfl, g6, r6⟩)
  have R8 := Lib.hid (r6.mono (show L + 69 + 1 ≤ L + 72 by omega))
  have A8 := Lib.hid (A7.out.grown g6 hne1)
  have D8 := Lib.hid (D7.out.grown g6 hne2)
  have G8 := Lib.hid (((World.grownBy_alloc w (.cells #[.int .i64 0, .int .i64 0, .int .i64 0, .int .i64 0, .int .i64 0, .int .i64 0, .string ⟨#[]⟩] 26) (some R)).trans G7.out).trans g6)
  clear G7 R7 A7 D7 g6 r6
  cases bo
  · obtain ⟨uz, ⟨uc0, uc1, uc2, uc3, uc4, uc5, uc6⟩, uf0, uf1, uf2, uf3, uf4, uf5, uf6⟩ := A8.out
    obtain ⟨vz, ⟨vc0, vc1, vc2, vc3, vc4, vc5, vc6⟩, vf0, vf1, vf2, vf3, vf4, vf5, vf6⟩ := D8.out
    go_wp2_with fail
    obtain ⟨_, ⟨q0, q1, q2, q3, q4, q5, q6⟩, _⟩ := A8.out.all (.int .i64 sa) (.int .i64 sp) (.int .i64 da) (.int .i64 dp) (.int .i64 (q : Int)) (.int .i64 (k : Int)) (.string d)
    refine bodyPost_ret (v := .agg #[.int .i64 sa, .int .i64 sp, .int .i64 da, .int .i64 dp, .int .i64 (q : Int), .int .i64 (k : Int), .string d]) (by simp [results, Try.results13, go_sem, q0, q1, q2, q3, q4, q5, q6]) rfl ⟨_, _, _, _, _, _, _, rfl, ⟨by omega, by omega, hd⟩, ?_, ?_⟩
    · exact grown_puts G8.out (.int .i64 sa) (.int .i64 sp) (.int .i64 da) (.int .i64 dp) (.int .i64 (q : Int)) (.int .i64 (k : Int)) (.string d) (Nat.le_refl _)
    · exact (rd_puts R8.out (.int .i64 sa) (.int .i64 sp) (.int .i64 da) (.int .i64 dp) (.int .i64 (q : Int)) (.int .i64 (k : Int)) (.string d) hB1 hne1).mono (by omega)
  · go_wp2_with fail
    (go_at_call 15; refine (pick_any 4 B R (L + 72) _ R8.out (by omega)).mono ?_; rintro e w7 ⟨c, rfl, hc, g7, r7⟩)
    have R9 := Lib.hid r7
    have A9 := Lib.hid (A8.out.grown g7 hne1)
    have D9 := Lib.hid (D8.out.grown g7 hne2)
    have G9 := Lib.hid (G8.out.trans g7)
    clear r7 g7 A8 D8 G8 R8 hc
    by_cases c0 : c = 0
    · have e0 : ((c : Int) == 0) = true := by simp [c0]
      clear c0
      go_wp2_with fail
      (go_at_call 24; refine (end_any 1 B R (L + 73) _ R9.out (by omega) (by decide) (by decide)).mono ?_; rintro e w8 ⟨xa, xp, rfl, g8, r8⟩)
      have A10 := Lib.hid (((A9.out.grown g8 hne1).put (i := 0) (.int .i64 xa) hne3).put (i := 1) (.int .i64 xp) hne3)
      have D10 := Lib.hid (D9.out.grown g8 hne2)
      have D11 := Lib.hid ((D10.out.set0 (.int .i64 xa)).set1 (.int .i64 xp))
      have G10 := Lib.hid (grown_new (grown_new (G9.out.trans g8) 0 (.int .i64 xa) hwb) 1 (.int .i64 xp) hwb)
      have R10 := Lib.hid (rd_put (rd_put (i := 0) r8 (.int .i64 xa) hBb hne2) (i := 1) (.int .i64 xp) hBb hne2)
      clear r8 g8 R9 A9 D9 G9
      obtain ⟨tz, ⟨tc0, tc1, tc2, tc3, tc4, tc5, tc6⟩, tf0, tf1, tf2, tf3, tf4, tf5, tf6⟩ := D10.out
      obtain ⟨uz, ⟨uc0, uc1, uc2, uc3, uc4, uc5, uc6⟩, uf0, uf1, uf2, uf3, uf4, uf5, uf6⟩ := A10.out
      obtain ⟨vz, ⟨vc0, vc1, vc2, vc3, vc4, vc5, vc6⟩, vf0, vf1, vf2, vf3, vf4, vf5, vf6⟩ := D11.out
      go_wp2_with fail
      obtain ⟨_, ⟨q0, q1, q2, q3, q4, q5, q6⟩, _⟩ := A10.out.all (.int .i64 xa) (.int .i64 xp) (.int .i64 da) (.int .i64 dp) (.int .i64 (q : Int)) (.int .i64 (k : Int)) (.string d)
      refine bodyPost_ret (v := .agg #[.int .i64 xa, .int .i64 xp, .int .i64 da, .int .i64 dp, .int .i64 (q : Int), .int .i64 (k : Int), .string d]) (by simp [results, Try.results13, go_sem, q0, q1, q2, q3, q4, q5, q6]) rfl ⟨_, _, _, _, _, _, _, rfl, ⟨by omega, by omega, hd⟩, ?_, ?_⟩
      · exact grown_puts G10.out (.int .i64 xa) (.int .i64 xp) (.int .i64 da) (.int .i64 dp) (.int .i64 (q : Int)) (.int .i64 (k : Int)) (.string d) (Nat.le_refl _)
      · exact (rd_puts R10.out (.int .i64 xa) (.int .i64 xp) (.int .i64 da) (.int .i64 dp) (.int .i64 (q : Int)) (.int .i64 (k : Int)) (.string d) hB1 hne1).mono (by omega)
    · have e0 : ((c : Int) == 0) = false := by simp [c0]
      clear c0
      by_cases c1 : c = 1
      · have e1 : ((c : Int) == 1) = true := by simp [c1]
        clear c1
        go_wp2_with fail
        (go_at_call 15; refine (pick_any 3 B R (L + 73) _ (rd_alloc R9.out (.cells #[.int .i64 (-1), .int .i64 241, .int .i64 240] 3)) (by omega)).mono ?_; rintro e w8 ⟨r, rfl, hr, g8, r8⟩)
        have hr3 : r < 3 := by omega
        have lt7 := R9.out.lt
        have hS : w7.heap.size ≠ R := by omega
        have k0 : w8.cell? ⟨w7.heap.size, 0, none⟩ = some (.int .i64 (-1)) := (gcell g8 (b := w7.heap.size) (by simp) hS 0).1.trans (cell_new w7 _ 3 0).1
        have k1 : w8.cell? ⟨w7.heap.size, 1, none⟩ = some (.int .i64 241) := (gcell g8 (b := w7.heap.size) (by simp) hS 1).1.trans (cell_new w7 _ 3 1).1
        have k2 : w8.cell? ⟨w7.heap.size, 2, none⟩ = some (.int .i64 240) := (gcell g8 (b := w7.heap.size) (by simp) hS 2).1.trans (cell_new w7 _ 3 2).1
        have A10 := Lib.hid ((A9.out.grown (World.grownBy_alloc w7 (.cells #[.int .i64 (-1), .int .i64 241, .int .i64 240] 3) (some R)) hne1).grown g8 hne1)
        have D10 := Lib.hid ((D9.out.grown (World.grownBy_alloc w7 (.cells #[.int .i64 (-1), .int .i64 241, .int .i64 240] 3) (some R)) hne2).grown g8 hne2)
        have G10 := Lib.hid ((grown_alloc G9.out (.cells #[.int .i64 (-1), .int .i64 241, .int .i64 240] 3)).trans g8)
        have R10 := Lib.hid r8
        clear r8 g8 R9 A9 D9 G9 hr lt7 hS
        obtain ⟨tz, ⟨tc0, tc1, tc2, tc3, tc4, tc5, tc6⟩, tf0, tf1, tf2, tf3, tf4, tf5, tf6⟩ := D10.out
        obtain rfl | rfl | rfl : r = 0 ∨ r = 1 ∨ r = 2 := by omega
        · have A11 := Lib.hid (A10.out.put (i := 4) (.int .i64 (-1)) hne3)
          have D11 := Lib.hid (D10.out.set4 (.int .i64 (-1)))
          have G11 := Lib.hid (grown_new G10.out 4 (.int .i64 (-1)) hwb)
          have R11 := Lib.hid (rd_put R10.out (i := 4) (.int .i64 (-1)) hBb hne2)
          obtain ⟨uz, ⟨uc0, uc1, uc2, uc3, uc4, uc5, uc6⟩, uf0, uf1, uf2, uf3, uf4, uf5, uf6⟩ := A11.out
          obtain ⟨vz, ⟨vc0, vc1, vc2, vc3, vc4, vc5, vc6⟩, vf0, vf1, vf2, vf3, vf4, vf5, vf6⟩ := D11.out
          go_wp2_with fail
          obtain ⟨_, ⟨q0, q1, q2, q3, q4, q5, q6⟩, _⟩ := A11.out.all (.int .i64 sa) (.int .i64 sp) (.int .i64 da) (.int .i64 dp) (.int .i64 (-1)) (.int .i64 (k : Int)) (.string d)
          refine bodyPost_ret (v := .agg #[.int .i64 sa, .int .i64 sp, .int .i64 da, .int .i64 dp, .int .i64 (-1), .int .i64 (k : Int), .string d]) (by simp [results, Try.results13, go_sem, q0, q1, q2, q3, q4, q5, q6]) rfl ⟨_, _, _, _, _, _, _, rfl, ⟨by decide, by decide, hd⟩, ?_, ?_⟩
          · exact grown_puts G11.out (.int .i64 sa) (.int .i64 sp) (.int .i64 da) (.int .i64 dp) (.int .i64 (-1)) (.int .i64 (k : Int)) (.string d) (Nat.le_refl _)
          · exact (rd_puts R11.out (.int .i64 sa) (.int .i64 sp) (.int .i64 da) (.int .i64 dp) (.int .i64 (-1)) (.int .i64 (k : Int)) (.string d) hB1 hne1).mono (by omega)
        · have A11 := Lib.hid (A10.out.put (i := 4) (.int .i64 241) hne3)
          have D11 := Lib.hid (D10.out.set4 (.int .i64 241))
          have G11 := Lib.hid (grown_new G10.out 4 (.int .i64 241) hwb)
          have R11 := Lib.hid (rd_put R10.out (i := 4) (.int .i64 241) hBb hne2)
          obtain ⟨uz, ⟨uc0, uc1, uc2, uc3, uc4, uc5, uc6⟩, uf0, uf1, uf2, uf3, uf4, uf5, uf6⟩ := A11.out
          obtain ⟨vz, ⟨vc0, vc1, vc2, vc3, vc4, vc5, vc6⟩, vf0, vf1, vf2, vf3, vf4, vf5, vf6⟩ := D11.out
          go_wp2_with fail
          obtain ⟨_, ⟨q0, q1, q2, q3, q4, q5, q6⟩, _⟩ := A11.out.all (.int .i64 sa) (.int .i64 sp) (.int .i64 da) (.int .i64 dp) (.int .i64 241) (.int .i64 (k : Int)) (.string d)
          refine bodyPost_ret (v := .agg #[.int .i64 sa, .int .i64 sp, .int .i64 da, .int .i64 dp, .int .i64 241, .int .i64 (k : Int), .string d]) (by simp [results, Try.results13, go_sem, q0, q1, q2, q3, q4, q5, q6]) rfl ⟨_, _, _, _, _, _, _, rfl, ⟨by decide, by decide, hd⟩, ?_, ?_⟩
          · exact grown_puts G11.out (.int .i64 sa) (.int .i64 sp) (.int .i64 da) (.int .i64 dp) (.int .i64 241) (.int .i64 (k : Int)) (.string d) (Nat.le_refl _)
          · exact (rd_puts R11.out (.int .i64 sa) (.int .i64 sp) (.int .i64 da) (.int .i64 dp) (.int .i64 241) (.int .i64 (k : Int)) (.string d) hB1 hne1).mono (by omega)
        · have A11 := Lib.hid (A10.out.put (i := 4) (.int .i64 240) hne3)
          have D11 := Lib.hid (D10.out.set4 (.int .i64 240))
          have G11 := Lib.hid (grown_new G10.out 4 (.int .i64 240) hwb)
          have R11 := Lib.hid (rd_put R10.out (i := 4) (.int .i64 240) hBb hne2)
          obtain ⟨uz, ⟨uc0, uc1, uc2, uc3, uc4, uc5, uc6⟩, uf0, uf1, uf2, uf3, uf4, uf5, uf6⟩ := A11.out
          obtain ⟨vz, ⟨vc0, vc1, vc2, vc3, vc4, vc5, vc6⟩, vf0, vf1, vf2, vf3, vf4, vf5, vf6⟩ := D11.out
          go_wp2_with fail
          obtain ⟨_, ⟨q0, q1, q2, q3, q4, q5, q6⟩, _⟩ := A11.out.all (.int .i64 sa) (.int .i64 sp) (.int .i64 da) (.int .i64 dp) (.int .i64 240) (.int .i64 (k : Int)) (.string d)
          refine bodyPost_ret (v := .agg #[.int .i64 sa, .int .i64 sp, .int .i64 da, .int .i64 dp, .int .i64 240, .int .i64 (k : Int), .string d]) (by simp [results, Try.results13, go_sem, q0, q1, q2, q3, q4, q5, q6]) rfl ⟨_, _, _, _, _, _, _, rfl, ⟨by decide, by decide, hd⟩, ?_, ?_⟩
          · exact grown_puts G11.out (.int .i64 sa) (.int .i64 sp) (.int .i64 da) (.int .i64 dp) (.int .i64 240) (.int .i64 (k : Int)) (.string d) (Nat.le_refl _)
          · exact (rd_puts R11.out (.int .i64 sa) (.int .i64 sp) (.int .i64 da) (.int .i64 dp) (.int .i64 240) (.int .i64 (k : Int)) (.string d) hB1 hne1).mono (by omega)
      · have e1 : ((c : Int) == 1) = false := by rw [beq_eq_false_iff_ne]; omega
        clear c1
        by_cases c2 : c = 2
        · have e2 : ((c : Int) == 2) = true := by simp [c2]
          clear c2
          go_wp2_with fail
          (go_at_call 15; refine (pick_any 2 B R (L + 73) _ (rd_alloc R9.out (.cells #[.int .i64 (-1), .int .i64 241] 3)) (by omega)).mono ?_; rintro e w8 ⟨r, rfl, hr, g8, r8⟩)
          have hr3 : r < 2 := by omega
          have lt7 := R9.out.lt
          have hS : w7.heap.size ≠ R := by omega
          have k0 : w8.cell? ⟨w7.heap.size, 0, none⟩ = some (.int .i64 (-1)) := (gcell g8 (b := w7.heap.size) (by simp) hS 0).1.trans (cell_new w7 _ 3 0).1
          have k1 : w8.cell? ⟨w7.heap.size, 1, none⟩ = some (.int .i64 241) := (gcell g8 (b := w7.heap.size) (by simp) hS 1).1.trans (cell_new w7 _ 3 1).1
          have A10 := Lib.hid ((A9.out.grown (World.grownBy_alloc w7 (.cells #[.int .i64 (-1), .int .i64 241] 3) (some R)) hne1).grown g8 hne1)
          have D10 := Lib.hid ((D9.out.grown (World.grownBy_alloc w7 (.cells #[.int .i64 (-1), .int .i64 241] 3) (some R)) hne2).grown g8 hne2)
          have G10 := Lib.hid ((grown_alloc G9.out (.cells #[.int .i64 (-1), .int .i64 241] 3)).trans g8)
          have R10 := Lib.hid r8
          clear r8 g8 R9 A9 D9 G9 hr lt7 hS
          obtain ⟨tz, ⟨tc0, tc1, tc2, tc3, tc4, tc5, tc6⟩, tf0, tf1, tf2, tf3, tf4, tf5, tf6⟩ := D10.out
          obtain rfl | rfl : r = 0 ∨ r = 1 := by omega
          · have A11 := Lib.hid (A10.out.put (i := 5) (.int .i64 (-1)) hne3)
            have D11 := Lib.hid (D10.out.set5 (.int .i64 (-1)))
            have G11 := Lib.hid (grown_new G10.out 5 (.int .i64 (-1)) hwb)
            have R11 := Lib.hid (rd_put R10.out (i := 5) (.int .i64 (-1)) hBb hne2)
            obtain ⟨uz, ⟨uc0, uc1, uc2, uc3, uc4, uc5, uc6⟩, uf0, uf1, uf2, uf3, uf4, uf5, uf6⟩ := A11.out
            obtain ⟨vz, ⟨vc0, vc1, vc2, vc3, vc4, vc5, vc6⟩, vf0, vf1, vf2, vf3, vf4, vf5, vf6⟩ := D11.out
            go_wp2_with fail
            obtain ⟨_, ⟨q0, q1, q2, q3, q4, q5, q6⟩, _⟩ := A11.out.all (.int .i64 sa) (.int .i64 sp) (.int .i64 da) (.int .i64 dp) (.int .i64 (q : Int)) (.int .i64 (-1)) (.string d)
            refine bodyPost_ret (v := .agg #[.int .i64 sa, .int .i64 sp, .int .i64 da, .int .i64 dp, .int .i64 (q : Int), .int .i64 (-1), .string d]) (by simp [results, Try.results13, go_sem, q0, q1, q2, q3, q4, q5, q6]) rfl ⟨_, _, _, _, _, _, _, rfl, ⟨by omega, by omega, hd⟩, ?_, ?_⟩
            · exact grown_puts G11.out (.int .i64 sa) (.int .i64 sp) (.int .i64 da) (.int .i64 dp) (.int .i64 (q : Int)) (.int .i64 (-1)) (.string d) (Nat.le_refl _)
            · exact (rd_puts R11.out (.int .i64 sa) (.int .i64 sp) (.int .i64 da) (.int .i64 dp) (.int .i64 (q : Int)) (.int .i64 (-1)) (.string d) hB1 hne1).mono (by omega)
          · have A11 := Lib.hid (A10.out.put (i := 5) (.int .i64 241) hne3)
            have D11 := Lib.hid (D10.out.set5 (.int .i64 241))
            have G11 := Lib.hid (grown_new G10.out 5 (.int .i64 241) hwb)
            have R11 := Lib.hid (rd_put R10.out (i := 5) (.int .i64 241) hBb hne2)
            obtain ⟨uz, ⟨uc0, uc1, uc2, uc3, uc4, uc5, uc6⟩, uf0, uf1, uf2, uf3, uf4, uf5, uf6⟩ := A11.out
            obtain ⟨vz, ⟨vc0, vc1, vc2, vc3, vc4, vc5, vc6⟩, vf0, vf1, vf2, vf3, vf4, vf5, vf6⟩ := D11.out
            go_wp2_with fail
            obtain ⟨_, ⟨q0, q1, q2, q3, q4, q5, q6⟩, _⟩ := A11.out.all (.int .i64 sa) (.int .i64 sp) (.int .i64 da) (.int .i64 dp) (.int .i64 (q : Int)) (.int .i64 241) (.string d)
            refine bodyPost_ret (v := .agg #[.int .i64 sa, .int .i64 sp, .int .i64 da, .int .i64 dp, .int .i64 (q : Int), .int .i64 241, .string d]) (by simp [results, Try.results13, go_sem, q0, q1, q2, q3, q4, q5, q6]) rfl ⟨_, _, _, _, _, _, _, rfl, ⟨by omega, by omega, hd⟩, ?_, ?_⟩
            · exact grown_puts G11.out (.int .i64 sa) (.int .i64 sp) (.int .i64 da) (.int .i64 dp) (.int .i64 (q : Int)) (.int .i64 241) (.string d) (Nat.le_refl _)
            · exact (rd_puts R11.out (.int .i64 sa) (.int .i64 sp) (.int .i64 da) (.int .i64 dp) (.int .i64 (q : Int)) (.int .i64 241) (.string d) hB1 hne1).mono (by omega)
        · have e2 : ((c : Int) == 2) = false := by rw [beq_eq_false_iff_ne]; omega
          clear c2
          go_wp2_with fail
          (go_at_call 15; refine (pick_any 3 B R (L + 73) _ (rd_alloc R9.out (.cells #[.string ⟨#[116, 104, 105, 114, 116, 101, 101, 110, 32, 98, 121, 116, 101]⟩, .string ⟨#[65]⟩, .string ⟨#[10]⟩] 9)) (by omega)).mono ?_; rintro e w8 ⟨r, rfl, hr, g8, r8⟩)
          have hr3 : r < 3 := by omega
          have lt7 := R9.out.lt
          have hS : w7.heap.size ≠ R := by omega
          have k0 : w8.cell? ⟨w7.heap.size, 0, none⟩ = some (.string ⟨#[116, 104, 105, 114, 116, 101, 101, 110, 32, 98, 121, 116, 101]⟩) := (gcell g8 (b := w7.heap.size) (by simp) hS 0).1.trans (cell_new w7 _ 9 0).1
          have k1 : w8.cell? ⟨w7.heap.size, 1, none⟩ = some (.string ⟨#[65]⟩) := (gcell g8 (b := w7.heap.size) (by simp) hS 1).1.trans (cell_new w7 _ 9 1).1
          have k2 : w8.cell? ⟨w7.heap.size, 2, none⟩ = some (.string ⟨#[10]⟩) := (gcell g8 (b := w7.heap.size) (by simp) hS 2).1.trans (cell_new w7 _ 9 2).1
          have A10 := Lib.hid ((A9.out.grown (World.grownBy_alloc w7 (.cells #[.string ⟨#[116, 104, 105, 114, 116, 101, 101, 110, 32, 98, 121, 116, 101]⟩, .string ⟨#[65]⟩, .string ⟨#[10]⟩] 9) (some R)) hne1).grown g8 hne1)
          have D10 := Lib.hid ((D9.out.grown (World.grownBy_alloc w7 (.cells #[.string ⟨#[116, 104, 105, 114, 116, 101, 101, 110, 32, 98, 121, 116, 101]⟩, .string ⟨#[65]⟩, .string ⟨#[10]⟩] 9) (some R)) hne2).grown g8 hne2)
          have G10 := Lib.hid ((grown_alloc G9.out (.cells #[.string ⟨#[116, 104, 105, 114, 116, 101, 101, 110, 32, 98, 121, 116, 101]⟩, .string ⟨#[65]⟩, .string ⟨#[10]⟩] 9)).trans g8)
          have R10 := Lib.hid r8
          clear r8 g8 R9 A9 D9 G9 hr lt7 hS
          obtain ⟨tz, ⟨tc0, tc1, tc2, tc3, tc4, tc5, tc6⟩, tf0, tf1, tf2, tf3, tf4, tf5, tf6⟩ := D10.out
          obtain rfl | rfl | rfl : r = 0 ∨ r = 1 ∨ r = 2 := by omega
          · have A11 := Lib.hid (A10.out.put (i := 6) (.string ⟨#[116, 104, 105, 114, 116, 101, 101, 110, 32, 98, 121, 116, 101]⟩) hne3)
            have D11 := Lib.hid (D10.out.set6 (.string ⟨#[116, 104, 105, 114, 116, 101, 101, 110, 32, 98, 121, 116, 101]⟩))
            have G11 := Lib.hid (grown_new G10.out 6 (.string ⟨#[116, 104, 105, 114, 116, 101, 101, 110, 32, 98, 121, 116, 101]⟩) hwb)
            have R11 := Lib.hid (rd_put R10.out (i := 6) (.string ⟨#[116, 104, 105, 114, 116, 101, 101, 110, 32, 98, 121, 116, 101]⟩) hBb hne2)
            obtain ⟨uz, ⟨uc0, uc1, uc2, uc3, uc4, uc5, uc6⟩, uf0, uf1, uf2, uf3, uf4, uf5, uf6⟩ := A11.out
            obtain ⟨vz, ⟨vc0, vc1, vc2, vc3, vc4, vc5, vc6⟩, vf0, vf1, vf2, vf3, vf4, vf5, vf6⟩ := D11.out
            go_wp2_with fail
            obtain ⟨_, ⟨q0, q1, q2, q3, q4, q5, q6⟩, _⟩ := A11.out.all (.int .i64 sa) (.int .i64 sp) (.int .i64 da) (.int .i64 dp) (.int .i64 (q : Int)) (.int .i64 (k : Int)) (.string ⟨#[116, 104, 105, 114, 116, 101, 101, 110, 32, 98, 121, 116, 101]⟩)
            refine bodyPost_ret (v := .agg #[.int .i64 sa, .int .i64 sp, .int .i64 da, .int .i64 dp, .int .i64 (q : Int), .int .i64 (k : Int), .string ⟨#[116, 104, 105, 114, 116, 101, 101, 110, 32, 98, 121, 116, 101]⟩]) (by simp [results, Try.results13, go_sem, q0, q1, q2, q3, q4, q5, q6]) rfl ⟨_, _, _, _, _, _, _, rfl, ⟨by omega, by omega, by decide⟩, ?_, ?_⟩
            · exact grown_puts G11.out (.int .i64 sa) (.int .i64 sp) (.int .i64 da) (.int .i64 dp) (.int .i64 (q : Int)) (.int .i64 (k : Int)) (.string ⟨#[116, 104, 105, 114, 116, 101, 101, 110, 32, 98, 121, 116, 101]⟩) (Nat.le_refl _)
            · exact (rd_puts R11.out (.int .i64 sa) (.int .i64 sp) (.int .i64 da) (.int .i64 dp) (.int .i64 (q : Int)) (.int .i64 (k : Int)) (.string ⟨#[116, 104, 105, 114, 116, 101, 101, 110, 32, 98, 121, 116, 101]⟩) hB1 hne1).mono (by omega)
          · have A11 := Lib.hid (A10.out.put (i := 6) (.string ⟨#[65]⟩) hne3)
            have D11 := Lib.hid (D10.out.set6 (.string ⟨#[65]⟩))
            have G11 := Lib.hid (grown_new G10.out 6 (.string ⟨#[65]⟩) hwb)
            have R11 := Lib.hid (rd_put R10.out (i := 6) (.string ⟨#[65]⟩) hBb hne2)
            obtain ⟨uz, ⟨uc0, uc1, uc2, uc3, uc4, uc5, uc6⟩, uf0, uf1, uf2, uf3, uf4, uf5, uf6⟩ := A11.out
            obtain ⟨vz, ⟨vc0, vc1, vc2, vc3, vc4, vc5, vc6⟩, vf0, vf1, vf2, vf3, vf4, vf5, vf6⟩ := D11.out
            go_wp2_with fail
            obtain ⟨_, ⟨q0, q1, q2, q3, q4, q5, q6⟩, _⟩ := A11.out.all (.int .i64 sa) (.int .i64 sp) (.int .i64 da) (.int .i64 dp) (.int .i64 (q : Int)) (.int .i64 (k : Int)) (.string ⟨#[65]⟩)
            refine bodyPost_ret (v := .agg #[.int .i64 sa, .int .i64 sp, .int .i64 da, .int .i64 dp, .int .i64 (q : Int), .int .i64 (k : Int), .string ⟨#[65]⟩]) (by simp [results, Try.results13, go_sem, q0, q1, q2, q3, q4, q5, q6]) rfl ⟨_, _, _, _, _, _, _, rfl, ⟨by omega, by omega, by decide⟩, ?_, ?_⟩
            · exact grown_puts G11.out (.int .i64 sa) (.int .i64 sp) (.int .i64 da) (.int .i64 dp) (.int .i64 (q : Int)) (.int .i64 (k : Int)) (.string ⟨#[65]⟩) (Nat.le_refl _)
            · exact (rd_puts R11.out (.int .i64 sa) (.int .i64 sp) (.int .i64 da) (.int .i64 dp) (.int .i64 (q : Int)) (.int .i64 (k : Int)) (.string ⟨#[65]⟩) hB1 hne1).mono (by omega)
          · have A11 := Lib.hid (A10.out.put (i := 6) (.string ⟨#[10]⟩) hne3)
            have D11 := Lib.hid (D10.out.set6 (.string ⟨#[10]⟩))
            have G11 := Lib.hid (grown_new G10.out 6 (.string ⟨#[10]⟩) hwb)
            have R11 := Lib.hid (rd_put R10.out (i := 6) (.string ⟨#[10]⟩) hBb hne2)
            obtain ⟨uz, ⟨uc0, uc1, uc2, uc3, uc4, uc5, uc6⟩, uf0, uf1, uf2, uf3, uf4, uf5, uf6⟩ := A11.out
            obtain ⟨vz, ⟨vc0, vc1, vc2, vc3, vc4, vc5, vc6⟩, vf0, vf1, vf2, vf3, vf4, vf5, vf6⟩ := D11.out
            go_wp2_with fail
            obtain ⟨_, ⟨q0, q1, q2, q3, q4, q5, q6⟩, _⟩ := A11.out.all (.int .i64 sa) (.int .i64 sp) (.int .i64 da) (.int .i64 dp) (.int .i64 (q : Int)) (.int .i64 (k : Int)) (.string ⟨#[10]⟩)
            refine bodyPost_ret (v := .agg #[.int .i64 sa, .int .i64 sp, .int .i64 da, .int .i64 dp, .int .i64 (q : Int), .int .i64 (k : Int), .string ⟨#[10]⟩]) (by simp [results, Try.results13, go_sem, q0, q1, q2, q3, q4, q5, q6]) rfl ⟨_, _, _, _, _, _, _, rfl, ⟨by omega, by omega, by decide⟩, ?_, ?_⟩
            · exact grown_puts G11.out (.int .i64 sa) (.int .i64 sp) (.int .i64 da) (.int .i64 dp) (.int .i64 (q : Int)) (.int .i64 (k : Int)) (.string ⟨#[10]⟩) (Nat.le_refl _)
            · exact (rd_puts R11.out (.int .i64 sa) (.int .i64 sp) (.int .i64 da) (.int .i64 dp) (.int .i64 (q : Int)) (.int .i64 (k : Int)) (.string ⟨#[10]⟩) hB1 hne1).mono (by omega)

end Go.Proofs.Ytjnhmobdigfpiaa
