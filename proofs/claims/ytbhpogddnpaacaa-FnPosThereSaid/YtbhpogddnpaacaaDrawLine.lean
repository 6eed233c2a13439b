/- The lines that are drawn: some text of at most 40 bytes; nothing but the reader's place turns. Conditions: the reader is there; its place is small. -/
import Derived.Test.YtbhpogddnpaacaaDraw
import Derived.Test.YtbhpogddnpaacaaSPort
namespace Go.Proofs.Ytbhpogddnpaacaa
open Go.RowKit

theorem grown_of_below {w w' : World} (h : Below w.heap.size w w') (row : Option Nat) : w.grownBy w' row := ⟨h.os, h.tape, h.output, h.size, fun k hk _ => h.block k hk⟩
theorem lpL_len (a p : Int) : (lpL a p).length ≤ 20 := by
  unfold lpL
  split
  · rename_i h
    obtain ⟨h1, h2, h3, h4⟩ := end_bounds h
    have l1 := dec_len4 (k := a.toNat) (by omega)
    have l2 := dec_len4 (k := p.toNat) (by omega)
    simp [portL, endL]; omega
  · simp

set_option maxRecDepth 100000 in
set_option maxHeartbeats 3200000 in
theorem line_any (B R L : Nat) (w : World) (h : Rd B R L w) (hL : L ≤ 999900) :
    Calls Try.prog 51 #[.pointer (some ⟨R, 0, none⟩)] w fun e w' => ∃ s : ByteArray, e = .returned (.string s) ∧ s.size ≤ 40 ∧ w.grownBy w' (some R) ∧ Rd B R (L + 4) w' := by
  have hR := h.lt
  have hBR := h.base
  have H := Lib.hid h
  clear h
  go_enter Try.func51, Try.ntmps51
  go_wp2_with fail
  (go_at_call 16; refine (pick_any 3 B R L _ H.out (by omega)).mono ?_; rintro e w1 ⟨k1, rfl, hk1, g1, r1⟩)
  have R1 := Lib.hid r1
  have G1 := Lib.hid g1
  have s1 := g1.size
  clear r1 g1 hk1
  by_cases h0 : k1 = 0
  · have e0 : ((k1 : Int) == 0) = true := by simp [h0]
    clear h0
    go_wp2_with fail
    (go_at_call 43; refine (in_any B R (L + 1) _ R1.out (by omega)).mono ?_; rintro e w2 ⟨a, p, rfl, g2, r2⟩)
    have R2 := Lib.hid r2
    have G2 := Lib.hid g2
    have s2 := g2.size
    clear r2 g2
    go_wp2_with fail
    (go_at_call 62; refine (specLinPort_any a p _).mono ?_; rintro e w3 ⟨rfl, b3⟩)
    go_wp2_with fail
    go_ret
    exact ⟨_, rfl, by (have e := lpL_len a p; show (lpL a p).length ≤ 40; omega), (G1.out.trans G2.out).trans (grown_of_below b3 _), (rd_below R2.out b3 (Nat.le_refl _))⟩
  · have e0 : ((k1 : Int) == 0) = false := by simp [h0]
    by_cases h1 : k1 = 1
    · have e1 : ((k1 : Int) == 1) = true := by simp [h1]
      clear h0 h1
      go_wp2_with fail
      (go_at_call 16; refine (pick_any 10 B R (L + 1) _ (rd_alloc R1.out _) (by omega)).mono ?_; rintro e w3 ⟨k3, rfl, hk3, g3, r3⟩)
      have hk5 : k3 < 10 := by omega
      obtain ⟨x, hx, hxs⟩ : ∃ x : ByteArray, w3.cell? ⟨w1.heap.size, k3, none⟩ = some (.string x) ∧ x.size ≤ 40 := by
        rw [(gcell g3 (by simp) (by omega) k3).1, (cell_new _ _ _ _).1]
        match k3, hk5 with
        | 0, _ => exact ⟨_, rfl, by decide⟩
        | 1, _ => exact ⟨_, rfl, by decide⟩
        | 2, _ => exact ⟨_, rfl, by decide⟩
        | 3, _ => exact ⟨_, rfl, by decide⟩
        | 4, _ => exact ⟨_, rfl, by decide⟩
        | 5, _ => exact ⟨_, rfl, by decide⟩
        | 6, _ => exact ⟨_, rfl, by decide⟩
        | 7, _ => exact ⟨_, rfl, by decide⟩
        | 8, _ => exact ⟨_, rfl, by decide⟩
        | 9, _ => exact ⟨_, rfl, by decide⟩
      have hk6 : (k3 : Int) < 10 := by omega
      have gAll := G1.out.trans ((World.grownBy_alloc w1 _ _).trans g3)
      have R3 := Lib.hid r3
      have G3 := Lib.hid gAll
      clear r3 g3 gAll hk3
      go_wp2_with fail
      go_ret
      exact ⟨x, rfl, hxs, G3.out, R3.out.mono (by omega)⟩
    · have e1 : ((k1 : Int) == 1) = false := by (simp; omega)
      clear h0 h1
      go_wp2_with fail
      (go_at_call 16; refine (pick_any 4 B R (L + 1) _ (rd_alloc R1.out _) (by omega)).mono ?_; rintro e w3 ⟨k3, rfl, hk3, g3, r3⟩)
      have hk5 : k3 < 4 := by omega
      obtain ⟨x, hx, hxs⟩ : ∃ x : ByteArray, w3.cell? ⟨w1.heap.size, k3, none⟩ = some (.string x) ∧ x.size ≤ 40 := by
        rw [(gcell g3 (by simp) (by omega) k3).1, (cell_new _ _ _ _).1]
        match k3, hk5 with
        | 0, _ => exact ⟨_, rfl, by decide⟩
        | 1, _ => exact ⟨_, rfl, by decide⟩
        | 2, _ => exact ⟨_, rfl, by decide⟩
        | 3, _ => exact ⟨_, rfl, by decide⟩
      have hk6 : (k3 : Int) < 4 := by omega
      have gAll := G1.out.trans ((World.grownBy_alloc w1 _ _).trans g3)
      have R3 := Lib.hid r3
      have G3 := Lib.hid gAll
      clear r3 g3 gAll hk3
      go_wp2_with fail
      go_ret
      exact ⟨x, rfl, hxs, G3.out, R3.out.mono (by omega)⟩

end Go.Proofs.Ytbhpogddnpaacaa
