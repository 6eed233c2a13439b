/- The law on LinBox, at every text. Condition: the variables that are read hold what they are laid with. -/
import Derived.Test.YtpnjeoikojkegaaDoorISays
namespace Go.Proofs.YtpnjeoikojkegaaDoor
open Go.RowKit

set_option maxRecDepth 100000 in
set_option maxHeartbeats 1600000 in
theorem lawLinBox_short (s : ByteArray) (w : World) (h : s.size ≤ 1048576) (hv : VarsOk w) :
    Calls Tryd.prog 7 #[.string s] w fun e w' => e = .returned (.bool true) ∧ Below w.heap.size w w' := by
  obtain ⟨p, b, hf⟩ : ∃ (p : Int) (b : Bool), boxV (boxE s.data.toList) = .tuple #[.int .i64 p, .bool b] := by
    rcases boxE s.data.toList with _ | p
    · exact ⟨0, false, rfl⟩
    · exact ⟨p, true, rfl⟩
  have hs : ∀ w, Calls Tryd.prog 18 #[.string s] w fun e w' => e = .returned (.tuple #[.int .i64 p, .bool b]) ∧ Below w.heap.size w w' := by
    intro w; rw [← hf]; exact specBox_any s w (by omega)
  have hi : ∀ w, VarsOk w → Calls Tryd.prog 19 #[.string s] w fun e w' => e = .returned (.tuple #[.int .i64 p, .bool b]) ∧ Below w.heap.size w w' := by
    intro w hv; rw [← hf]; exact implBox_any s w (by omega) hv
  have HS := Lib.hid hs
  have HI := Lib.hid hi
  have HV := Lib.hid hv
  clear hs hi hf hv
  go_enter Tryd.func7, Tryd.ntmps7
  go_wp2_with fail
  (go_at_call 18; refine (HS.out _).mono ?_; rintro e w1 ⟨rfl, b1⟩)
  go_wp2_with fail
  (go_at_call 19; refine (HI.out _ (HV.out.below b1)).mono ?_; rintro e w2 ⟨rfl, b2⟩)
  go_wp2
  go_ret
  exact ⟨rfl, b1.trans (b2.mono b1.size)⟩

set_option maxRecDepth 100000 in
set_option maxHeartbeats 800000 in
theorem lawLinBox_any (s : ByteArray) (w : World) (hv : VarsOk w) :
    Calls Tryd.prog 7 #[.string s] w fun e w' => e = .returned (.bool true) ∧ Below w.heap.size w w' := by
  rcases Nat.lt_or_ge 1048576 s.size with h | h
  · clear hv
    go_enter Tryd.func7, Tryd.ntmps7
    go_wp2_with fail
    go_ret
    exact ⟨rfl, Below.refl _ _⟩
  · exact lawLinBox_short s w h hv

end Go.Proofs.YtpnjeoikojkegaaDoor
