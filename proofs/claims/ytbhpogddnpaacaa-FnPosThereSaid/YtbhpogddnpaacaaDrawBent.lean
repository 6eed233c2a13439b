/- A text with one byte put in, taken out or turned: some text of at most one byte more; nothing but the reader's place turns. Conditions: the reader is there; its place is small; the text has at most 2000 bytes. -/
import Derived.Test.YtbhpogddnpaacaaDraw
import Derived.Test.YtbhpogddnpaacaaByte
import Derived.RegionTactic
namespace Go.Proofs.Ytbhpogddnpaacaa
open Go.RowKit

theorem grown_drew (w : World) (row : Option Nat) : w.grownBy w.drew row := ⟨rfl, rfl, rfl, Nat.le_refl _, fun _ _ _ => rfl⟩

set_option maxRecDepth 100000 in
set_option maxHeartbeats 3200000 in
theorem bent_any (s : ByteArray) (hs : s.size ≤ 2000) (B R L : Nat) (w : World) (h : Rd B R L w) (hL : L ≤ 999900) :
    Calls Try.prog 50 #[.pointer (some ⟨R, 0, none⟩), .string s] w fun e w' => ∃ t : ByteArray, e = .returned (.string t) ∧ t.size ≤ s.size + 1 ∧ w.grownBy w' (some R) ∧ Rd B R (L + 4) w' := by
  have hR := h.lt
  have hBR := h.base
  have H := Lib.hid h
  clear h
  go_enter Try.func50, Try.ntmps50
  go_wp2_with fail
  (go_at_call 16; refine (pick_any _ B R L _ H.out (by omega)).mono ?_; rintro e w1 ⟨k1, rfl, hk1, g1, r1⟩)
  have hks : k1 ≤ s.size := by omega
  have R1 := Lib.hid r1
  have G1 := Lib.hid g1
  have s1 := g1.size
  clear r1 g1 hk1
  go_wp2_with fail
  (go_at_call 16; refine (pick_any 256 B R (L + 1) _ R1.out (by omega)).mono ?_; rintro e w2 ⟨k2, rfl, hk2, g2, r2⟩)
  have hk2' : k2 < 256 := by omega
  have R2 := Lib.hid r2
  have G2 := Lib.hid g2
  have s2 := g2.size
  clear r2 g2 hk2
  go_wp2_with fail
  (go_at_call 16; refine (pick_any 8 B R (L + 2) _ (rd_alloc R2.out _) (by omega)).mono ?_; rintro e w3 ⟨k3, rfl, hk3, g3, r3⟩)
  have hk5 : k3 < 8 := by omega
  obtain ⟨c, hc⟩ : ∃ c : UInt8, w3.cell? ⟨w2.heap.size, k3, none⟩ = some (.int .i64 (c.toNat : Int)) := by
    rw [(gcell g3 (by simp) (by omega) k3).1, (cell_new _ _ _ _).1]
    match k3, hk5 with
    | 0, _ => exact ⟨32, rfl⟩
    | 1, _ => exact ⟨48, rfl⟩
    | 2, _ => exact ⟨49, rfl⟩
    | 3, _ => exact ⟨57, rfl⟩
    | 4, _ => exact ⟨59, rfl⟩
    | 5, _ => exact ⟨97, rfl⟩
    | 6, _ => exact ⟨112, rfl⟩
    | 7, _ =>
      refine ⟨UInt8.ofNat k2, ?_⟩
      have e : (UInt8.ofNat k2).toNat = k2 := by simp; omega
      rw [e]; rfl
  have hk6 : (k3 : Int) < 8 := by omega
  have gAll := (G1.out.trans G2.out).trans ((World.grownBy_alloc w2 _ _).trans g3)
  have R3 := Lib.hid r3
  have G3 := Lib.hid gAll
  have s3 := gAll.size
  have hcl := c.toNat_lt
  have hcv := run_one_byte w3 (c.toNat : Int) c rfl
  clear r3 g3 gAll hk3
  go_wp2_with fail
  (go_at_call 16; refine (pick_any 3 B R (L + 3) _ (rd_alloc R3.out _) (by omega)).mono ?_; rintro e w4 ⟨k4, rfl, hk4, g4, r4⟩)
  have R4 := Lib.hid r4
  have G4 := Lib.hid (G3.out.trans ((World.grownBy_alloc w3 _ _).trans g4))
  have hki : (k1 : Int) ≤ (s.size : Int) := by omega
  clear r4 g4 hk4 hcv hc
  have hone : (⟨#[c]⟩ : ByteArray).size = 1 := rfl
  by_cases h0 : k4 = 0
  · have e0 : ((k4 : Int) == 0) = true := by simp [h0]
    clear h0
    go_wp2_with fail
    go_region
    go_wp2_with fail
    go_ret
    refine ⟨_, rfl, ?_, G4.out.trans (grown_drew _ _), rd_drew R4.out⟩
    simp [hone]; omega
  · have e0 : ((k4 : Int) == 0) = false := by simp [h0]
    by_cases hlt : k1 < s.size
    · have hlti : (k1 : Int) < (s.size : Int) := by omega
      by_cases h1 : k4 = 1
      · have e1 : ((k4 : Int) == 1) = true := by simp [h1]
        clear h0 h1
        go_wp2_with fail
        go_region
        go_wp2_with fail
        go_ret
        refine ⟨_, rfl, ?_, G4.out.trans (grown_drew _ _), rd_drew R4.out⟩
        simp; omega
      · have e1 : ((k4 : Int) == 1) = false := by (simp; omega)
        clear h0 h1
        go_wp2_with fail
        go_region
        go_wp2_with fail
        go_ret
        refine ⟨_, rfl, ?_, G4.out.trans (grown_drew _ _), rd_drew R4.out⟩
        simp [hone]; omega
    · have hlti : ¬ (k1 : Int) < (s.size : Int) := by omega
      by_cases h1 : k4 = 1
      · have e1 : ((k4 : Int) == 1) = true := by simp [h1]
        clear h0 h1
        go_wp2_with fail
        go_ret
        exact ⟨_, rfl, by omega, G4.out, R4.out⟩
      · have e1 : ((k4 : Int) == 1) = false := by (simp; omega)
        clear h0 h1
        go_wp2_with fail
        go_ret
        exact ⟨_, rfl, by omega, G4.out, R4.out⟩

end Go.Proofs.Ytbhpogddnpaacaa
