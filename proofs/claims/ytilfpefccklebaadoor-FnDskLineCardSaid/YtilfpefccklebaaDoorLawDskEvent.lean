/- DskEvent of the program and of the specification answer the same of every text. Condition: the variables that are read hold what they are laid with. -/
import Derived.Test.YtilfpefccklebaaDoorEvI
import Derived.Test.YtilfpefccklebaaDoorSEvA
namespace Go.Proofs.YtilfpefccklebaaDoor
open Go.RowKit Go.Sort

/-- What the program's table of forms and the library's variable hold. -/
structure VarsD (w : World) : Prop where
  forms : Forms w
  most : ∃ m : Int, w.cell? ⟨1, 0, none⟩ = some (.int .i64 m)
theorem VarsD.below {w w' : World} (h : VarsD w) (hb : Below w.heap.size w w') : VarsD w' := by
  obtain ⟨m, hm⟩ := h.most
  exact ⟨h.forms.below hb h.forms.lt, m, (hb.cell (World.block_lt_of_cell? _ _ hm)).trans hm⟩
theorem evR_form (o : Option Ev) : ∃ (k a b c d : Int) (ok : Bool), evR o = .tuple #[.agg #[.int .i64 k, .int .i64 a, .int .i64 b, .int .i64 c, .int .i64 d], .bool ok] := ⟨_, _, _, _, _, _, rfl⟩

theorem implDskEvent_any (s : ByteArray) (w : World) (hv : VarsD w) :
    Calls Tryd.prog 9 #[.string s] w fun e w' => e = .returned (evR (evT s.data.toList)) ∧ Below w.heap.size w w' := by
  by_cases hs : 30 < s.size
  · have he : evT s.data.toList = none := if_pos (by rw [len_list]; exact hs)
    rw [he]
    exact implDskE_long s w hs
  · exact implDskE_short s w (by omega) hv.forms hv.most

set_option maxRecDepth 100000 in
set_option maxHeartbeats 800000 in
theorem eqEv_same (k a b c d : Int) (w : World) :
    Calls Tryd.prog 10 #[.agg #[.int .i64 k, .int .i64 a, .int .i64 b, .int .i64 c, .int .i64 d], .agg #[.int .i64 k, .int .i64 a, .int .i64 b, .int .i64 c, .int .i64 d]] w fun e w' => e = .returned (.bool true) ∧ Below w.heap.size w w' := by
  go_enter Tryd.func10, Tryd.ntmps10
  go_wp2
  go_ret
  exact ⟨rfl, ((Below.refl _ _).alloc (Nat.le_refl _) _).alloc (by simp) _⟩

set_option maxRecDepth 100000 in
set_option maxHeartbeats 1600000 in
theorem lawDskEvent_long (s : ByteArray) (w : World) (h : 1048576 < s.size) :
    Calls Tryd.prog 3 #[.string s] w fun e w' => e = .returned (.bool true) ∧ Below w.heap.size w w' := by
  go_enter Tryd.func3, Tryd.ntmps3
  go_wp2_with fail
  go_ret
  exact ⟨rfl, Below.refl _ _⟩

set_option maxRecDepth 100000 in
set_option maxHeartbeats 1600000 in
theorem lawDskEvent_short (s : ByteArray) (w : World) (h : s.size ≤ 1048576) (hv : VarsD w) :
    Calls Tryd.prog 3 #[.string s] w fun e w' => e = .returned (.bool true) ∧ Below w.heap.size w w' := by
  obtain ⟨k, a, b, c, d, ok, hf⟩ := evR_form (evT s.data.toList)
  have hs : ∀ w, Calls Tryd.prog 8 #[.string s] w fun e w' => e = .returned (.tuple #[.agg #[.int .i64 k, .int .i64 a, .int .i64 b, .int .i64 c, .int .i64 d], .bool ok]) ∧ Below w.heap.size w w' := by
    intro w; rw [← hf]; exact specDskEvent_any s w
  have hi : ∀ w, VarsD w → Calls Tryd.prog 9 #[.string s] w fun e w' => e = .returned (.tuple #[.agg #[.int .i64 k, .int .i64 a, .int .i64 b, .int .i64 c, .int .i64 d], .bool ok]) ∧ Below w.heap.size w w' := by
    intro w hv; rw [← hf]; exact implDskEvent_any s w hv
  have HS := Lib.hid hs
  have HI := Lib.hid hi
  have HV := Lib.hid hv
  clear hs hi hf hv
  go_enter Tryd.func3, Tryd.ntmps3
  go_wp2_with fail
  (go_at_call 8; refine (HS.out _).mono ?_; rintro e w1 ⟨rfl, b1⟩)
  have V1 : Hid (VarsD (w1.alloc (.cells #[.int .i64 k, .int .i64 a, .int .i64 b, .int .i64 c, .int .i64 d] 23))) := (HV.out.below b1).below ((Below.refl _ _).alloc (Nat.le_refl _) _)
  go_wp2_with fail
  (go_at_call 9; refine (HI.out _ V1.out).mono ?_; rintro e w2 ⟨rfl, b2⟩; obtain ⟨c2, f2⟩ := bcell b2; have z2 : w1.heap.size < w2.heap.size := by (have := b2.size; simp at this; omega))
  go_wp2_with fail
  (go_at_call 10; refine (eqEv_same _ _ _ _ _ _).mono ?_; rintro e w3 ⟨rfl, b3⟩)
  go_wp2
  go_ret
  have z1 := b1.size
  exact ⟨rfl, b1.trans ((((Below.refl _ w1).alloc (Nat.le_refl _) _).trans (b2.mono (by simp))).trans ((((Below.refl _ w2).alloc (Nat.le_refl _) _).trans (b3.mono (by simp))).mono (by omega)) |>.mono z1)⟩

theorem lawDskEvent_any (s : ByteArray) (w : World) (hv : VarsD w) :
    Calls Tryd.prog 3 #[.string s] w fun e w' => e = .returned (.bool true) ∧ Below w.heap.size w w' := by
  rcases Nat.lt_or_ge 1048576 s.size with h | h
  · exact lawDskEvent_long s w h
  · exact lawDskEvent_short s w h hv

end Go.Proofs.YtilfpefccklebaaDoor
