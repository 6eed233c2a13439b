/- The law on LinSays, at every text. Condition: the variables that are read hold what they are laid with. -/
import Derived.Test.YtpnjeoikojkegaaDoorISays
import Derived.Test.YtpnjeoikojkegaaDoorEqEnd
namespace Go.Proofs.YtpnjeoikojkegaaDoor
open Go.RowKit

set_option maxRecDepth 100000 in
set_option maxHeartbeats 1600000 in
theorem lawLinSays_short (s : ByteArray) (w : World) (h : s.size ≤ 1048576) (hv : VarsOk w) :
    Calls Tryd.prog 5 #[.string s] w fun e w' => e = .returned (.bool true) ∧ Below w.heap.size w w' := by
  obtain ⟨a, p, b, hf⟩ : ∃ (a p : Int) (b : Bool), saysV (saysE s.data.toList) = .tuple #[.agg #[.int .i64 a, .int .i64 p], .bool b] := by
    rcases saysE s.data.toList with _ | ⟨a, p⟩
    · exact ⟨0, 0, false, rfl⟩
    · exact ⟨a, p, true, rfl⟩
  have hs : ∀ w, Calls Tryd.prog 14 #[.string s] w fun e w' => e = .returned (.tuple #[.agg #[.int .i64 a, .int .i64 p], .bool b]) ∧ Below w.heap.size w w' := by
    intro w; rw [← hf]; exact specSays_any s w (by omega)
  have hi : ∀ w, VarsOk w → Calls Tryd.prog 15 #[.string s] w fun e w' => e = .returned (.tuple #[.agg #[.int .i64 a, .int .i64 p], .bool b]) ∧ Below w.heap.size w w' := by
    intro w hv; rw [← hf]; exact implSays_any s w (by omega) hv
  have HS := Lib.hid hs
  have HI := Lib.hid hi
  have HV := Lib.hid hv
  clear hs hi hf hv
  go_enter Tryd.func5, Tryd.ntmps5
  go_wp2_with fail
  (go_at_call 14; refine (HS.out _).mono ?_; rintro e w1 ⟨rfl, b1⟩)
  have V1 : Hid (VarsOk (w1.alloc (.cells #[.int .i64 a, .int .i64 p] 25))) := (HV.out.below b1).below ((Below.refl _ _).alloc (Nat.le_refl _) _)
  go_wp2_with fail
  (go_at_call 15; refine (HI.out _ V1.out).mono ?_; rintro e w2 ⟨rfl, b2⟩; obtain ⟨c2, f2⟩ := bcell b2; have z2 : w1.heap.size < w2.heap.size := by (have := b2.size; simp at this; omega))
  go_wp2_with fail
  (go_at_call 13; refine (eqEnd_same _ _ _).mono ?_; rintro e w3 ⟨rfl, b3⟩)
  go_wp2
  go_ret
  have z1 := b1.size
  exact ⟨rfl, b1.trans ((((Below.refl _ w1).alloc (Nat.le_refl _) _).trans (b2.mono (by simp))).trans ((((Below.refl _ w2).alloc (Nat.le_refl _) _).trans (b3.mono (by simp))).mono (by omega)) |>.mono z1)⟩

set_option maxRecDepth 100000 in
set_option maxHeartbeats 800000 in
theorem lawLinSays_any (s : ByteArray) (w : World) (hv : VarsOk w) :
    Calls Tryd.prog 5 #[.string s] w fun e w' => e = .returned (.bool true) ∧ Below w.heap.size w w' := by
  rcases Nat.lt_or_ge 1048576 s.size with h | h
  · clear hv
    go_enter Tryd.func5, Tryd.ntmps5
    go_wp2_with fail
    go_ret
    exact ⟨rfl, Below.refl _ _⟩
  · exact lawLinSays_short s w h hv

end Go.Proofs.YtpnjeoikojkegaaDoor
