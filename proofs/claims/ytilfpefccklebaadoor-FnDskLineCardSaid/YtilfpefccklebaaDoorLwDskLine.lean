/- The law that what happens has one line: at every two codes. Conditions: the codes lie in memory; the variables that are read hold what they are laid with. -/
import Derived.Test.YtilfpefccklebaaDoorDrawDskE
import Derived.Test.YtilfpefccklebaaDoorHaOk
import Derived.Test.YtilfpefccklebaaDoorEvQ
import Derived.Test.YtilfpefccklebaaDoorLawDskEvent
namespace Go.Proofs.YtilfpefccklebaaDoor
open Go.RowKit

theorem in_later {w w' : World} {ao : Option Addr} {n : Nat} (h : BytesIn w ao n) (hb : Below w.heap.size w w') : BytesIn w' ao n := by
  rcases h with h | ⟨x, rfl, hx, hc⟩
  · exact .inl h
  · refine .inr ⟨x, rfl, by have := hb.size; omega, fun i hi => ?_⟩
    obtain ⟨b, hbb⟩ := hc i hi
    exact ⟨b, (hb.cell (World.block_lt_of_cell? _ _ hbb)).trans hbb⟩

/-- What the two lines say is one thing just if they are one line. -/
theorem ev_same {l m : List UInt8} {k a b c d k2 a2 b2 c2 d2 : Int} (h : evT l = some ⟨k, a, b, c, d⟩) (h2 : evT m = some ⟨k2, a2, b2, c2, d2⟩) : (k = k2 ∧ a = a2 ∧ b = b2 ∧ c = c2 ∧ d = d2) ↔ l = m := by
  constructor
  · rintro ⟨rfl, rfl, rfl, rfl, rfl⟩
    exact ev_inj h h2
  · rintro rfl
    rw [h] at h2
    have := Option.some.inj h2
    simpa using this

set_option maxRecDepth 100000 in
set_option maxHeartbeats 1600000 in
theorem lwDskLine_any (ao : Option Addr) (n cap : Nat) (ao2 : Option Addr) (n2 cap2 : Nat) (w : World) (h : BytesIn w ao n) (hn : n ≤ cap) (h2 : BytesIn w ao2 n2) (hn2 : n2 ≤ cap2) (hv : VarsD w) :
    Calls Tryd.prog 7 #[.slice ao n cap, .slice ao2 n2 cap2] w fun e w' => e = .returned (.bool true) ∧ Below w.heap.size w w' := by
  have H := Lib.hid h
  have H2 := Lib.hid h2
  have HV : Hid (∀ w', Below w.heap.size w w' → VarsD w') := fun w' hb => hv.below hb
  clear h hv h2
  by_cases hb1 : 1048576 < n
  · go_enter Tryd.func7, Tryd.ntmps7
    go_wp2_with fail
    go_ret
    exact ⟨rfl, Below.refl _ _⟩
  · by_cases hb2 : 1048576 < n2
    · go_enter Tryd.func7, Tryd.ntmps7
      go_wp2_with fail
      go_ret
      exact ⟨rfl, Below.refl _ _⟩
    · go_enter Tryd.func7, Tryd.ntmps7
      go_wp2_with fail
      (go_at_call 20; refine (drawDskEvent_any ao n cap _ H.out hn).mono ?_; rintro e w1 ⟨s, rfl, hs, b1⟩)
      have HB1 := Lib.hid b1
      have s1 := b1.size
      clear b1
      go_wp2_with fail
      (go_at_call 20; refine (drawDskEvent_any ao2 n2 cap2 _ (in_later H2.out HB1.out) hn2).mono ?_; rintro e w2 ⟨t, rfl, ht, b2⟩)
      have B2 : Hid (Below w.heap.size w w2) := HB1.out.trans (b2.mono s1)
      have s2 := B2.out.size
      clear b2
      have HI : Hid (∀ (u : ByteArray) w', Below w.heap.size w w' → Calls Tryd.prog 9 #[.string u] w' fun e w'' => e = .returned (evR (evT u.data.toList)) ∧ Below w'.heap.size w' w'') := fun u w' hb => implDskEvent_any u w' (HV.out w' hb)
      obtain ⟨k, a, b, c, d, ok, hR⟩ := evR_form (evT s.data.toList)
      obtain ⟨k2, a2, b2, c2, d2, ok2, hR2⟩ := evR_form (evT t.data.toList)
      have HI1 : Hid (∀ w', Below w.heap.size w w' → Calls Tryd.prog 9 #[.string s] w' fun e w'' => e = .returned (.tuple #[.agg #[.int .i64 k, .int .i64 a, .int .i64 b, .int .i64 c, .int .i64 d], .bool ok]) ∧ Below w'.heap.size w' w'') := fun w' hb => by have := HI.out s w' hb; rw [hR] at this; exact this
      have HI2 : Hid (∀ w', Below w.heap.size w w' → Calls Tryd.prog 9 #[.string t] w' fun e w'' => e = .returned (.tuple #[.agg #[.int .i64 k2, .int .i64 a2, .int .i64 b2, .int .i64 c2, .int .i64 d2], .bool ok2]) ∧ Below w'.heap.size w' w'') := fun w' hb => by have := HI.out t w' hb; rw [hR2] at this; exact this
      have HS : Hid (∀ w', Calls Tryd.prog 8 #[.string s] w' fun e w'' => e = .returned (.tuple #[.agg #[.int .i64 k, .int .i64 a, .int .i64 b, .int .i64 c, .int .i64 d], .bool ok]) ∧ Below w'.heap.size w' w'') := fun w' => by have := specDskEvent_any s w'; rw [hR] at this; exact this
      have HEq : Hid (ok = true → ok2 = true → ((k = k2 ∧ a = a2 ∧ b = b2 ∧ c = c2 ∧ d = d2) ↔ s.data.toList = t.data.toList)) := fun o1 o2 => by
        have f1 : evT s.data.toList = some ⟨k, a, b, c, d⟩ := by
          cases hh : evT s.data.toList with
          | none => rw [hh] at hR; simp [evR, evQ] at hR; rw [hR.2] at o1; simp at o1
          | some ev =>
            rw [hh] at hR
            simp [evR, evQ] at hR
            obtain ⟨⟨q1, q2, q3, q4, q5⟩, _⟩ := hR
            rw [← q1, ← q2, ← q3, ← q4, ← q5]
        have f2 : evT t.data.toList = some ⟨k2, a2, b2, c2, d2⟩ := by
          cases hh : evT t.data.toList with
          | none => rw [hh] at hR2; simp [evR, evQ] at hR2; rw [hR2.2] at o2; simp at o2
          | some ev =>
            rw [hh] at hR2
            simp [evR, evQ] at hR2
            obtain ⟨⟨q1, q2, q3, q4, q5⟩, _⟩ := hR2
            rw [← q1, ← q2, ← q3, ← q4, ← q5]
        exact ev_same f1 f2
      clear hR hR2 HI
      go_wp2_with fail
      (go_at_call 9; refine (HI1.out _ B2.out).mono ?_; rintro e w3 ⟨rfl, b3⟩; have B3 : Hid (Below w.heap.size w w3) := B2.out.trans (b3.mono s2); have s3 := B3.out.size; clear b3)
      go_wp2_with fail
      generalize hW : World.alloc w3 _ = W3
      have E3 : Box5 W3 w3.heap.size (.int .i64 k) (.int .i64 a) (.int .i64 b) (.int .i64 c) (.int .i64 d) := by rw [← hW]; exact box5_new w3 _ _ _ _ _ _
      have BW3 : Hid (Below w.heap.size w W3) := by rw [← hW]; exact B3.out.alloc (by omega) _
      have sW3 : W3.heap.size = w3.heap.size + 1 := by rw [← hW]; simp
      clear hW
      (go_at_call 9; refine (HI2.out _ BW3.out).mono ?_; rintro e w4 ⟨rfl, b4⟩; have E4 : Box5 w4 w3.heap.size (.int .i64 k) (.int .i64 a) (.int .i64 b) (.int .i64 c) (.int .i64 d) := E3.below b4 (by omega); have B4 : Hid (Below w.heap.size w w4) := BW3.out.trans (b4.mono (by omega)); have s4 := b4.size; clear b4 E3)
      go_wp2_with fail
      generalize hW : World.alloc w4 _ = W4
      have F4 : Box5 W4 w4.heap.size (.int .i64 k2) (.int .i64 a2) (.int .i64 b2) (.int .i64 c2) (.int .i64 d2) := by rw [← hW]; exact box5_new w4 _ _ _ _ _ _
      have E5 : Box5 W4 w3.heap.size (.int .i64 k) (.int .i64 a) (.int .i64 b) (.int .i64 c) (.int .i64 d) := by rw [← hW]; exact E4.alloc _
      have BW4 : Hid (Below w.heap.size w W4) := by rw [← hW]; exact B4.out.alloc (by omega) _
      have sW4 : W4.heap.size = w4.heap.size + 1 := by rw [← hW]; simp
      clear hW E4
      (go_at_call 8; refine (HS.out _).mono ?_; rintro e w5 ⟨rfl, b5⟩; have E6 : Hid (Box5 w5 w3.heap.size (.int .i64 k) (.int .i64 a) (.int .i64 b) (.int .i64 c) (.int .i64 d)) := E5.below b5 (by omega); have F6 : Hid (Box5 w5 w4.heap.size (.int .i64 k2) (.int .i64 a2) (.int .i64 b2) (.int .i64 c2) (.int .i64 d2)) := F4.below b5 (by omega); have B5 : Hid (Below w.heap.size w w5) := BW4.out.trans (b5.mono (by omega)); have s5 := b5.size; clear b5 E5 F4)
      obtain ⟨x0, x1, x2, x3, x4⟩ := E6.out
      obtain ⟨y0, y1, y2, y3, y4⟩ := F6.out
      have z3 : w3.heap.size < w5.heap.size := E6.out.lt
      have z4 : w4.heap.size < w5.heap.size := F6.out.lt
      have HB6 : Hid (∀ o, Below w.heap.size w (w5.alloc o)) := fun o => B5.out.alloc B5.out.size o
      cases ok
      · go_wp2_with (go_at_call 21; refine (haOk_any _).mono ?_; rintro e w6 ⟨rfl, rfl⟩)
        all_goals go_ret
        all_goals exact ⟨rfl, HB6.out _⟩
      · cases ok2
        · go_wp2_with (go_at_call 21; refine (haOk_any _).mono ?_; rintro e w6 ⟨rfl, rfl⟩)
          all_goals go_ret
          all_goals exact ⟨rfl, HB6.out _⟩
        · have HE := HEq.out rfl rfl
          clear HEq
          by_cases hst : s.data.toList = t.data.toList
          · have hq : (s.toList == t.toList) = true := by rw [Lib.toList_data, Lib.toList_data, hst]; simp
            obtain ⟨rfl, rfl, rfl, rfl, rfl⟩ := HE.2 hst
            clear HE hst
            go_wp2_with fail
            all_goals go_ret
            all_goals exact ⟨rfl, HB6.out _⟩
          · have hq : (s.toList == t.toList) = false := by rw [Lib.toList_data, Lib.toList_data]; simpa using hst
            have HNE : Hid (¬ (k = k2 ∧ a = a2 ∧ b = b2 ∧ c = c2 ∧ d = d2)) := fun h => hst (HE.1 h)
            clear HE hst
            go_wp2_with fail
            all_goals
              first
                | exact absurd ⟨by first | rfl | assumption, by first | rfl | assumption, by first | rfl | assumption, by first | rfl | assumption, by first | rfl | assumption⟩ HNE.out
                | (go_ret; exact ⟨rfl, HB6.out _⟩)

end Go.Proofs.YtilfpefccklebaaDoor
