/- The text that is drawn for the law on lines of the box's: at most 60 bytes. Condition: the code lies in memory. -/
import Derived.Test.YtllekjkmjadohaaDoorDrawTxt
namespace Go.Proofs.YtllekjkmjadohaaDoor
open Go.RowKit

set_option maxRecDepth 100000 in
set_option maxHeartbeats 3200000 in
theorem drawLinBox_any (ao : Option Addr) (n cap : Nat) (w : World) (h : BytesIn w ao n) (hn : n ≤ cap) :
    Calls Tryd.prog 27 #[.slice ao n cap] w fun e w' => ∃ s : ByteArray, e = .returned (.string s) ∧ s.size ≤ 60 ∧ Below w.heap.size w w' := by
  have H := Lib.hid h
  clear h
  go_enter Tryd.func27, Tryd.ntmps27
  go_wp2_with fail
  (go_at_call 31; refine (open_any ao n cap _ H.out hn).mono ?_; rintro e w1 ⟨R, rfl, hR, b1, r1⟩)
  have R1 := Lib.hid r1
  have B1 := Lib.hid b1
  clear r1 b1
  go_wp2_with fail
  (go_at_call 32; refine (pick_any 2 w.heap.size R 0 _ R1.out (by omega)).mono ?_; rintro e w2 ⟨k1, rfl, hk1, g2, r2⟩)
  have R2 := Lib.hid r2
  have B2 := Lib.hid (below_grown B1.out g2 hR)
  clear r2 g2 hk1
  by_cases h0 : k1 = 0
  · have e0 : ((k1 : Int) == 0) = true := by simp [h0]
    clear h0
    go_wp2_with fail
    (go_at_call 32; refine (pick_any 9 w.heap.size R 1 _ R2.out (by omega)).mono ?_; rintro e w3 ⟨k3, rfl, hk3, g3, r3⟩)
    have B3 := Lib.hid (below_grown B2.out g3 hR)
    clear r3 g3
    go_wp2_with fail
    (go_at_call 22; refine (specLinPort_any _ _ _).mono ?_; rintro e w4 ⟨rfl, b4⟩)
    go_wp2_with fail
    go_ret
    exact ⟨_, rfl, by (have e := lpL_len 50 (500 + (k3 : Int)); show (lpL 50 (500 + (k3 : Int))).length ≤ 60; omega), B3.out.trans (b4.mono B3.out.size)⟩
  · have e0 : ((k1 : Int) == 0) = false := by simp [h0]
    clear h0
    go_wp2_with fail
    (go_at_call 43; refine (drawLinOk_any ao n cap _ (H.out.below B2.out) hn).mono ?_; rintro e w3 ⟨s, rfl, hs, b3⟩)
    go_wp2_with fail
    go_ret
    exact ⟨s, rfl, hs, B2.out.trans (b3.mono B2.out.size)⟩

end Go.Proofs.YtllekjkmjadohaaDoor
