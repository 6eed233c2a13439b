/- The streams that are drawn, and texts that may be none: at most 200 bytes. Conditions: the reader is there; its place is small; the code lies in memory. -/
import Derived.Test.YtbhpogddnpaacaaDrawLine
import Derived.Test.YtbhpogddnpaacaaDrawBent
import Derived.LoopTactic
namespace Go.Proofs.Ytbhpogddnpaacaa
open Go.RowKit

set_option maxRecDepth 100000 in
set_option maxHeartbeats 3200000 in
theorem stream_any (B R L : Nat) (w : World) (h : Rd B R L w) (hL : L ≤ 999000) :
    Calls Try.prog 31 #[.pointer (some ⟨R, 0, none⟩)] w fun e w' => ∃ s : ByteArray, e = .returned (.string s) ∧ s.size ≤ 120 ∧ w.grownBy w' (some R) ∧ Rd B R (L + 50) w' := by
  have hR := h.lt
  have hBR := h.base
  have H := Lib.hid h
  clear h
  go_enter Try.func31, Try.ntmps31
  go_wp2_with fail
  (go_at_call 16; refine (pick_any 9 B R L _ H.out (by omega)).mono ?_; rintro e w1 ⟨k1, rfl, hk1, g1, r1⟩)
  have hk9 : k1 ≤ 8 := by omega
  have R1 := Lib.hid r1
  have G1 := Lib.hid g1
  clear r1 g1 hk1
  go_wp2_with fail
  go_loopw [3, 4] (fun sv i wr => ∃ (k : Nat) (s : ByteArray) (L' : Nat), sv = .string s ∧ i = .int .i64 k ∧ k ≤ 8 ∧ s.size ≤ 120 ∧ L' + 4 * k ≤ L + 40 ∧ Hid (w.grownBy wr (some R)) ∧ Hid (Rd B R L' wr)) (fun _ i _ => (intOf i).toNat)
  case atStart => exact ⟨k1, ⟨#[]⟩, L + 1, rfl, rfl, hk9, by decide, by omega, G1, R1⟩
  case round =>
    obtain ⟨k, s, L', rfl, rfl, hk8, hs, hl, hg, hr⟩ := hrel
    by_cases h0 : 0 < k
    · have h0i : (0 : Int) < (k : Int) := by omega
      go_wp2_with fail
      (go_at_call 51; refine (line_any B R L' _ hr.out (by omega)).mono ?_; rintro e w2 ⟨x, rfl, hx, g2, r2⟩)
      have n1 : ¬ 9223372036854775807 < s.size + x.size := by omega
      have n2 : ¬ 9223372036854775807 < s.size + x.size + 1 := by omega
      have R2 := Lib.hid r2
      have G2 := Lib.hid (hg.out.trans g2)
      clear r2 g2
      by_cases hle : s.size + x.size + 1 ≤ 120
      · have hlei : (s.size : Int) + (x.size : Int) + 1 ≤ 120 := by omega
        go_wp2_with fail
        go_roundw
        case rel => exact ⟨k - 1, s ++ x ++ ⟨#[59]⟩, L' + 4, rfl, by (congr 1; omega), by omega, by (have e : (⟨#[59]⟩ : ByteArray).size = 1 := rfl; simp [e]; omega), by omega, G2, R2⟩
        case measure => simp [intOf]; omega
      · have hlei : ¬ (s.size : Int) + (x.size : Int) + 1 ≤ 120 := by omega
        go_wp2_with fail
        go_roundw
        case rel => exact ⟨k - 1, s, L' + 4, rfl, by (congr 1; omega), by omega, hs, by omega, G2, R2⟩
        case measure => simp [intOf]; omega
    · have h0i : ¬ (0 : Int) < (k : Int) := by omega
      go_wp2_with fail
      (go_at_call 16; refine (pick_any 3 B R L' _ hr.out (by omega)).mono ?_; rintro e w2 ⟨k2, rfl, hk2, g2, r2⟩)
      have R2 := Lib.hid r2
      have G2 := Lib.hid (hg.out.trans g2)
      clear r2 g2
      by_cases h2 : k2 = 0
      · have e2 : ((k2 : Int) == 0) = true := by simp [h2]
        clear h2 hk2
        go_wp2_with fail
        (go_at_call 51; refine (line_any B R (L' + 1) _ R2.out (by omega)).mono ?_; rintro e w3 ⟨x, rfl, hx, g3, r3⟩)
        have n1 : ¬ 9223372036854775807 < s.size + x.size := by omega
        have R3 := Lib.hid r3
        have G3 := Lib.hid (G2.out.trans g3)
        clear r3 g3
        by_cases hle : s.size + x.size ≤ 120
        · have hlei : (s.size : Int) + (x.size : Int) ≤ 120 := by omega
          go_wp2_with fail
          go_ret
          exact ⟨_, rfl, by simpa using hle, G3.out, R3.out.mono (by omega)⟩
        · have hlei : ¬ (s.size : Int) + (x.size : Int) ≤ 120 := by omega
          go_wp2_with fail
          go_ret
          exact ⟨_, rfl, hs, G3.out, R3.out.mono (by omega)⟩
      · have e2 : ((k2 : Int) == 0) = false := by simp [h2]
        clear h2 hk2
        go_wp2_with fail
        go_ret
        exact ⟨_, rfl, hs, G2.out, R2.out.mono (by omega)⟩

set_option maxRecDepth 100000 in
set_option maxHeartbeats 3200000 in
theorem streamOr_any (m : Int) (hm : 0 ≤ m) (hm2 : m ≤ 1000000) (B R L : Nat) (w : World) (h : Rd B R L w) (hL : L ≤ 990000) :
    Calls Try.prog 30 #[.pointer (some ⟨R, 0, none⟩), .int .i64 m] w fun e w' => ∃ s : ByteArray, e = .returned (.string s) ∧ s.size ≤ 200 ∧ w.grownBy w' (some R) ∧ Rd B R (L + 60) w' := by
  have hR := h.lt
  have hBR := h.base
  have H := Lib.hid h
  clear h
  go_enter Try.func30, Try.ntmps30
  go_wp2_with fail
  (go_at_call 31; refine (stream_any B R L _ H.out (by omega)).mono ?_; rintro e w1 ⟨s, rfl, hs, g1, r1⟩)
  have R1 := Lib.hid r1
  have G1 := Lib.hid g1
  clear r1 g1
  go_wp2_with fail
  (go_at_call 44; refine (odd_any m B R (L + 50) _ R1.out (by omega) hm hm2).mono ?_; rintro e w2 ⟨b, rfl, g2, r2⟩)
  have R2 := Lib.hid r2
  have G2 := Lib.hid (G1.out.trans g2)
  clear r2 g2
  cases b
  · go_wp2_with fail
    go_ret
    exact ⟨_, rfl, by omega, G2.out, R2.out.mono (by omega)⟩
  · go_wp2_with fail
    (go_at_call 16; refine (pick_any 3 B R (L + 51) _ R2.out (by omega)).mono ?_; rintro e w3 ⟨k1, rfl, hk1, g3, r3⟩)
    have R3 := Lib.hid r3
    have G3 := Lib.hid (G2.out.trans g3)
    clear r3 g3 hk1
    by_cases h0 : k1 = 0
    · have e0 : ((k1 : Int) == 0) = true := by simp [h0]
      clear h0
      go_wp2_with fail
      (go_at_call 50; refine (bent_any s (by omega) B R (L + 52) _ R3.out (by omega)).mono ?_; rintro e w4 ⟨t, rfl, ht, g4, r4⟩)
      go_wp2_with fail
      go_ret
      exact ⟨t, rfl, by omega, G3.out.trans g4, r4.mono (by omega)⟩
    · have e0 : ((k1 : Int) == 0) = false := by simp [h0]
      by_cases h1 : k1 = 1
      · have e1 : ((k1 : Int) == 1) = true := by simp [h1]
        have n1 : ¬ 9223372036854775807 < s.size + 18 := by omega
        clear h0 h1
        go_wp2_with fail
        go_ret
        exact ⟨_, rfl, by (simp only [ByteArray.size_append]; have e : (⟨#[97, 98, 99, 100, 101, 102, 103, 104, 105, 106, 32, 107, 108, 109, 110, 111, 112, 59]⟩ : ByteArray).size = 18 := rfl; omega), G3.out, R3.out.mono (by omega)⟩
      · have e1 : ((k1 : Int) == 1) = false := by (simp; omega)
        clear h0 h1
        go_wp2_with fail
        go_loop [5] (fun sv => ∃ t : ByteArray, sv = .string t ∧ t.size ≤ 125) (fun sv => 125 - (match sv with | .string t => t.size | _ => 0))
        case atStart => exact ⟨s, rfl, by omega⟩
        case round =>
          obtain ⟨t, rfl, ht⟩ := hrel
          have n1 : ¬ 9223372036854775807 < t.size + 5 := by omega
          by_cases hle : t.size ≤ 120
          · have hlei : (t.size : Int) ≤ 120 := by omega
            go_wp2_with fail
            go_round
            case rel => exact ⟨_, rfl, by (simp only [ByteArray.size_append]; have e : (⟨#[108, 105, 115, 116, 59]⟩ : ByteArray).size = 5 := rfl; omega)⟩
            case measure => (simp only [ByteArray.size_append]; have e : (⟨#[108, 105, 115, 116, 59]⟩ : ByteArray).size = 5 := rfl; omega)
          · have hlei : ¬ (t.size : Int) ≤ 120 := by omega
            go_wp2_with fail
            go_ret
            exact ⟨_, rfl, by omega, G3.out, R3.out.mono (by omega)⟩

end Go.Proofs.Ytbhpogddnpaacaa
