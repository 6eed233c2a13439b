/- The texts that are drawn for the laws on streams: at most 200 bytes. Condition: the code lies in memory. -/
import Derived.Test.YtllekjkmjadohaaDrawStr
namespace Go.Proofs.Ytllekjkmjadohaa
open Go.RowKit

set_option maxRecDepth 100000 in
set_option maxHeartbeats 1600000 in
theorem drawStrLines_any (ao : Option Addr) (n cap : Nat) (w : World) (h : BytesIn w ao n) (hn : n ≤ cap) :
    Calls Try.prog 17 #[.slice ao n cap] w fun e w' => ∃ s : ByteArray, e = .returned (.string s) ∧ s.size ≤ 200 ∧ Below w.heap.size w w' := by
  have H := Lib.hid h
  clear h
  go_enter Try.func17, Try.ntmps17
  go_wp2_with fail
  (go_at_call 28; refine (open_any ao n cap _ H.out hn).mono ?_; rintro e w1 ⟨R, rfl, hR, b1, r1⟩)
  have R1 := Lib.hid r1
  have B1 := Lib.hid b1
  clear r1 b1
  go_wp2_with fail
  (go_at_call 33; refine (streamOr_any 4 (by omega) (by omega) w.heap.size R 0 _ R1.out (by omega)).mono ?_; rintro e w2 ⟨s, rfl, hs, g2, r2⟩)
  go_wp2_with fail
  go_ret
  exact ⟨s, rfl, hs, below_grown B1.out g2 hR⟩

set_option maxRecDepth 100000 in
set_option maxHeartbeats 1600000 in
theorem drawStrOk_any (ao : Option Addr) (n cap : Nat) (w : World) (h : BytesIn w ao n) (hn : n ≤ cap) :
    Calls Try.prog 21 #[.slice ao n cap] w fun e w' => ∃ s : ByteArray, e = .returned (.string s) ∧ s.size ≤ 200 ∧ Below w.heap.size w w' := by
  have H := Lib.hid h
  clear h
  go_enter Try.func21, Try.ntmps21
  go_wp2_with fail
  (go_at_call 28; refine (open_any ao n cap _ H.out hn).mono ?_; rintro e w1 ⟨R, rfl, hR, b1, r1⟩)
  have R1 := Lib.hid r1
  have B1 := Lib.hid b1
  clear r1 b1
  go_wp2_with fail
  (go_at_call 33; refine (streamOr_any 2 (by omega) (by omega) w.heap.size R 0 _ R1.out (by omega)).mono ?_; rintro e w2 ⟨s, rfl, hs, g2, r2⟩)
  go_wp2_with fail
  go_ret
  exact ⟨s, rfl, hs, below_grown B1.out g2 hR⟩

end Go.Proofs.Ytllekjkmjadohaa
