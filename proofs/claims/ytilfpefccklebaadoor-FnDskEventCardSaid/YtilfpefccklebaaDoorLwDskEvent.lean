/- The law that a line is one thing, or nothing: at every code. Conditions: the code lies in memory; the variables that are read hold what they are laid with. -/
import Derived.Test.YtilfpefccklebaaDoorDrawDskE
import Derived.Test.YtilfpefccklebaaDoorHaOk
import Derived.Test.YtilfpefccklebaaDoorEvQ
import Derived.Test.YtilfpefccklebaaDoorLawDskEvent
namespace Go.Proofs.YtilfpefccklebaaDoor
open Go.RowKit

theorem more_list (s : ByteArray) : (s ++ (⟨#[32, 49, 32, 49, 32, 49, 32, 49]⟩ : ByteArray)).data.toList = s.data.toList ++ [32, 49, 32, 49, 32, 49, 32, 49] := by simp

set_option maxRecDepth 100000 in
set_option maxHeartbeats 1600000 in
theorem lwDskEvent_any (ao : Option Addr) (n cap : Nat) (w : World) (h : BytesIn w ao n) (hn : n ≤ cap) (hv : VarsD w) :
    Calls Tryd.prog 5 #[.slice ao n cap] w fun e w' => e = .returned (.bool true) ∧ Below w.heap.size w w' := by
  have H := Lib.hid h
  have HV : Hid (∀ w', Below w.heap.size w w' → VarsD w') := fun w' hb => hv.below hb
  clear h hv
  by_cases hn2 : 1048576 < n
  · go_enter Tryd.func5, Tryd.ntmps5
    go_wp2_with fail
    go_ret
    exact ⟨rfl, Below.refl _ _⟩
  · go_enter Tryd.func5, Tryd.ntmps5
    go_wp2_with fail
    (go_at_call 20; refine (drawDskEvent_any ao n cap _ H.out hn).mono ?_; rintro e w1 ⟨s, rfl, hs, b1⟩)
    have B1 := Lib.hid b1
    have s1 := b1.size
    clear b1
    have n1 : ¬ 9223372036854775807 < s.size + 8 := by omega
    have HM : Hid (∀ w', Below w.heap.size w w' → Calls Tryd.prog 9 #[.string (s ++ ⟨#[32, 49, 32, 49, 32, 49, 32, 49]⟩)] w' fun e w'' => e = .returned (.tuple #[.agg #[.int .i64 0, .int .i64 0, .int .i64 0, .int .i64 0, .int .i64 0], .bool false]) ∧ Below w'.heap.size w' w'') := fun w' hb => by
      have := implDskEvent_any (s ++ ⟨#[32, 49, 32, 49, 32, 49, 32, 49]⟩) w' (HV.out w' hb)
      rw [more_list, ev_more] at this
      exact this
    rcases ho : evT s.data.toList with _ | ev
    · have HI : Hid (∀ w', Below w.heap.size w w' → Calls Tryd.prog 9 #[.string s] w' fun e w'' => e = .returned (.tuple #[.agg #[.int .i64 0, .int .i64 0, .int .i64 0, .int .i64 0, .int .i64 0], .bool false]) ∧ Below w'.heap.size w' w'') := fun w' hb => by
        have := implDskEvent_any s w' (HV.out w' hb)
        rw [ho] at this
        exact this
      have HS : Hid (∀ w', Calls Tryd.prog 8 #[.string s] w' fun e w'' => e = .returned (.tuple #[.agg #[.int .i64 0, .int .i64 0, .int .i64 0, .int .i64 0, .int .i64 0], .bool false]) ∧ Below w'.heap.size w' w'') := fun w' => by
        have := specDskEvent_any s w'
        rw [ho] at this
        exact this
      clear ho
      go_wp2_with fail
      (go_at_call 9; refine (HI.out _ B1.out).mono ?_; rintro e w2 ⟨rfl, b2⟩; have B2 : Hid (Below w.heap.size w w2) := B1.out.trans (b2.mono s1); have s2 := b2.size; clear b2)
      go_wp2_with fail
      generalize hW : World.alloc w2 _ = W2
      have E2 : Box5 W2 w2.heap.size (.int .i64 0) (.int .i64 0) (.int .i64 0) (.int .i64 0) (.int .i64 0) := by rw [← hW]; exact box5_new w2 _ _ _ _ _ _
      have BW2 : Hid (Below w.heap.size w W2) := by rw [← hW]; exact B2.out.alloc (by omega) _
      have sW2 : W2.heap.size = w2.heap.size + 1 := by rw [← hW]; simp
      clear hW
      (go_at_call 8; refine (HS.out _).mono ?_; rintro e w3 ⟨rfl, b3⟩; have E3 : Hid (Box5 w3 w2.heap.size (.int .i64 0) (.int .i64 0) (.int .i64 0) (.int .i64 0) (.int .i64 0)) := E2.below b3 (by omega); have B3 : Hid (Below w.heap.size w w3) := BW2.out.trans (b3.mono (by omega)); have s3 := b3.size; clear b3 E2)
      obtain ⟨x0, x1, x2, x3, x4⟩ := E3.out
      have z3 : w2.heap.size < w3.heap.size := E3.out.lt
      have HB4 : Hid (∀ o, Below w.heap.size w (w3.alloc o) ∧ Box5 (w3.alloc o) w2.heap.size (.int .i64 0) (.int .i64 0) (.int .i64 0) (.int .i64 0) (.int .i64 0)) := fun o => ⟨B3.out.alloc B3.out.size o, E3.out.alloc o⟩
      go_wp2_with fail
      all_goals
        (go_at_call 9; refine (HM.out _ (by first | exact (HB4.out _).1 | exact bR_drew (HB4.out _).1)).mono ?_; rintro e w5 ⟨rfl, b5⟩; have B5 : Hid (Below w.heap.size w w5) := (by first | exact (HB4.out _).1.trans (b5.mono (HB4.out _).1.size) | exact (bR_drew (HB4.out _).1).trans (b5.mono (bR_drew (HB4.out _).1).size)); have E5 : Hid (Box5 w5 w2.heap.size (.int .i64 0) (.int .i64 0) (.int .i64 0) (.int .i64 0) (.int .i64 0)) := (HB4.out _).2.below b5 (by simp; omega); clear b5)
      all_goals
        obtain ⟨y0, y1, y2, y3, y4⟩ := E5.out
        have z5 : w2.heap.size < w5.heap.size := E5.out.lt
        have HB6 : Hid (∀ o, Below w.heap.size w (w5.alloc o)) := fun o => B5.out.alloc B5.out.size o
        go_wp2_with (go_at_call 21; refine (haOk_any _).mono ?_; rintro e w6 ⟨rfl, rfl⟩)
      all_goals
        first
          | go_ret
          | (trace_state; sorry)
      all_goals exact ⟨rfl, by first | exact HB6.out _ | exact bR_drew (HB6.out _)⟩
    · obtain ⟨g1, g2, g3, g4, g5, g6⟩ := ev_bounds ho
      obtain ⟨k, a, b, c, d⟩ := ev
      simp only at g1 g2 g3 g4 g5 g6
      have HI : Hid (∀ w', Below w.heap.size w w' → Calls Tryd.prog 9 #[.string s] w' fun e w'' => e = .returned (.tuple #[.agg #[.int .i64 k, .int .i64 a, .int .i64 b, .int .i64 c, .int .i64 d], .bool true]) ∧ Below w'.heap.size w' w'') := fun w' hb => by
        have := implDskEvent_any s w' (HV.out w' hb)
        rw [ho] at this
        exact this
      have HS : Hid (∀ w', Calls Tryd.prog 8 #[.string s] w' fun e w'' => e = .returned (.tuple #[.agg #[.int .i64 k, .int .i64 a, .int .i64 b, .int .i64 c, .int .i64 d], .bool true]) ∧ Below w'.heap.size w' w'') := fun w' => by
        have := specDskEvent_any s w'
        rw [ho] at this
        exact this
      clear ho
      go_wp2_with fail
      (go_at_call 9; refine (HI.out _ B1.out).mono ?_; rintro e w2 ⟨rfl, b2⟩; have B2 : Hid (Below w.heap.size w w2) := B1.out.trans (b2.mono s1); have s2 := b2.size; clear b2)
      go_wp2_with fail
      generalize hW : World.alloc w2 _ = W2
      have E2 : Box5 W2 w2.heap.size (.int .i64 k) (.int .i64 a) (.int .i64 b) (.int .i64 c) (.int .i64 d) := by rw [← hW]; exact box5_new w2 _ _ _ _ _ _
      have BW2 : Hid (Below w.heap.size w W2) := by rw [← hW]; exact B2.out.alloc (by omega) _
      have sW2 : W2.heap.size = w2.heap.size + 1 := by rw [← hW]; simp
      clear hW
      (go_at_call 8; refine (HS.out _).mono ?_; rintro e w3 ⟨rfl, b3⟩; have E3 : Hid (Box5 w3 w2.heap.size (.int .i64 k) (.int .i64 a) (.int .i64 b) (.int .i64 c) (.int .i64 d)) := E2.below b3 (by omega); have B3 : Hid (Below w.heap.size w w3) := BW2.out.trans (b3.mono (by omega)); have s3 := b3.size; clear b3 E2)
      obtain ⟨x0, x1, x2, x3, x4⟩ := E3.out
      have z3 : w2.heap.size < w3.heap.size := E3.out.lt
      have HB4 : Hid (∀ o, Below w.heap.size w (w3.alloc o) ∧ Box5 (w3.alloc o) w2.heap.size (.int .i64 k) (.int .i64 a) (.int .i64 b) (.int .i64 c) (.int .i64 d)) := fun o => ⟨B3.out.alloc B3.out.size o, E3.out.alloc o⟩
      go_wp2_with fail
      all_goals
        (go_at_call 9; refine (HM.out _ (by first | exact (HB4.out _).1 | exact bR_drew (HB4.out _).1)).mono ?_; rintro e w5 ⟨rfl, b5⟩; have B5 : Hid (Below w.heap.size w w5) := (by first | exact (HB4.out _).1.trans (b5.mono (HB4.out _).1.size) | exact (bR_drew (HB4.out _).1).trans (b5.mono (bR_drew (HB4.out _).1).size)); have E5 : Hid (Box5 w5 w2.heap.size (.int .i64 k) (.int .i64 a) (.int .i64 b) (.int .i64 c) (.int .i64 d)) := (HB4.out _).2.below b5 (by simp; omega); clear b5)
      all_goals
        obtain ⟨y0, y1, y2, y3, y4⟩ := E5.out
        have z5 : w2.heap.size < w5.heap.size := E5.out.lt
        have HB6 : Hid (∀ o, Below w.heap.size w (w5.alloc o)) := fun o => B5.out.alloc B5.out.size o
        go_wp2_with fail
      all_goals
        first
          | go_ret
          | (trace_state; sorry)
      all_goals exact ⟨rfl, by first | exact HB6.out _ | exact bR_drew (HB6.out _)⟩

end Go.Proofs.YtilfpefccklebaaDoor
