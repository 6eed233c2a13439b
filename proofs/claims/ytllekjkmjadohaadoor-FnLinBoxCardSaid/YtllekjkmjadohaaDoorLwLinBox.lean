/- The law that a line that names a port of the box's is just that: at every code. Conditions: the code lies in memory; the variables that are read hold what they are laid with. -/
import Derived.Test.YtllekjkmjadohaaDoorRdSays
import Derived.Test.YtllekjkmjadohaaDoorDrawBox
import Derived.Test.YtllekjkmjadohaaDoorHaOk
namespace Go.Proofs.YtllekjkmjadohaaDoor
open Go.RowKit

theorem lpL_bytes {s : ByteArray} {a p : Int} (h : s.data.toList = lpL a p) : (⟨(lpL a p).toArray⟩ : ByteArray) = s := by
  rw [← h]

set_option maxRecDepth 100000 in
set_option maxHeartbeats 3200000 in
theorem lwLinBox_any (ao : Option Addr) (n cap : Nat) (w : World) (h : BytesIn w ao n) (hn : n ≤ cap) (hv : VarsOk w) :
    Calls Tryd.prog 5 #[.slice ao n cap] w fun e w' => e = .returned (.bool true) ∧ Below w.heap.size w w' := by
  have H := Lib.hid h
  have HV := Lib.hid hv
  clear h hv
  by_cases hn2 : 1048576 < n
  · go_enter Tryd.func5, Tryd.ntmps5
    go_wp2_with fail
    go_ret
    exact ⟨rfl, Below.refl _ _⟩
  · go_enter Tryd.func5, Tryd.ntmps5
    go_wp2_with fail
    (go_at_call 27; refine (drawLinBox_any ao n cap _ H.out hn).mono ?_; rintro e w1 ⟨s, rfl, hs, b1⟩)
    have B1 := Lib.hid b1
    have V1 := Lib.hid (HV.out.below b1)
    clear b1
    rcases hbx : boxE s.data.toList with _ | p
    · have HI : Hid (∀ w, VarsOk w → Calls Tryd.prog 28 #[.string s] w fun e w' => e = .returned (.tuple #[.int .i64 0, .bool false]) ∧ Below w.heap.size w w') := fun w hv => by have := implBox_any s w (by omega) hv; rw [hbx] at this; exact this
      have HS : Hid (∀ w, Calls Tryd.prog 29 #[.string s] w fun e w' => e = .returned (.tuple #[.int .i64 0, .bool false]) ∧ Below w.heap.size w w') := fun w => by have := specBox_any s w (by omega); rw [hbx] at this; exact this
      obtain ⟨a1, p1, o1, e1⟩ : ∃ (a p : Int) (o : Bool), saysV (saysE s.data.toList) = .tuple #[.agg #[.int .i64 a, .int .i64 p], .bool o] := by
        rcases says_form (saysE s.data.toList) with ⟨a, p, _, h2⟩ | ⟨_, h2⟩
        · exact ⟨a, p, true, h2⟩
        · exact ⟨0, 0, false, h2⟩
      have HY : Hid (∀ w, VarsOk w → Calls Tryd.prog 19 #[.string s] w fun e w' => e = .returned (.tuple #[.agg #[.int .i64 a1, .int .i64 p1], .bool o1]) ∧ Below w.heap.size w w') := fun w hv => by rw [← e1]; exact implSays_any s w (by omega) hv
      clear e1 hbx
      go_wp2_with fail
      (go_at_call 28; refine (HI.out _ V1.out).mono ?_; rintro e w2 ⟨rfl, b2⟩)
      have B2 := Lib.hid (B1.out.trans (b2.mono B1.out.size))
      have V2 := Lib.hid (HV.out.below B2.out)
      clear b2
      go_wp2_with fail
      (go_at_call 29; refine (HS.out _).mono ?_; rintro e w3 ⟨rfl, b3⟩)
      have B3 := Lib.hid (B2.out.trans (b3.mono B2.out.size))
      have V3 := Lib.hid (HV.out.below B3.out)
      clear b3
      go_wp2_with fail
      (go_at_call 19; refine (HY.out _ V3.out).mono ?_; rintro e w4 ⟨rfl, b4⟩)
      have B4 := Lib.hid (B3.out.trans (b4.mono B3.out.size))
      clear b4
      go_wp2_with fail
      (go_at_call 16; refine (haOk_any _).mono ?_; rintro e w6 ⟨rfl, rfl⟩)
      go_wp2_with fail
      go_ret
      exact ⟨rfl, B4.out.alloc B4.out.size _⟩
    · obtain ⟨hb1, hb2⟩ := box_line hbx
      have hno := box_no_says hbx
      have HI : Hid (∀ w, VarsOk w → Calls Tryd.prog 28 #[.string s] w fun e w' => e = .returned (.tuple #[.int .i64 p, .bool true]) ∧ Below w.heap.size w w') := fun w hv => by have := implBox_any s w (by omega) hv; rw [hbx] at this; exact this
      have HS : Hid (∀ w, Calls Tryd.prog 29 #[.string s] w fun e w' => e = .returned (.tuple #[.int .i64 p, .bool true]) ∧ Below w.heap.size w w') := fun w => by have := specBox_any s w (by omega); rw [hbx] at this; exact this
      have HY : Hid (∀ w, VarsOk w → Calls Tryd.prog 19 #[.string s] w fun e w' => e = .returned (.tuple #[.agg #[.int .i64 0, .int .i64 0], .bool false]) ∧ Below w.heap.size w w') := fun w hv => by have := implSays_any s w (by omega) hv; rw [hno] at this; exact this
      have HP : Hid (∀ w, TabOk w → Calls Tryd.prog 21 #[.agg #[.int .i64 50, .int .i64 p]] w fun e w' => e = .returned (.string s) ∧ Below w.heap.size w w') := fun w ht => by
        have := implLinPort_any 50 p w ht
        rw [lpL_bytes hb2] at this; exact this
      clear hbx hb1 hb2 hno
      go_wp2_with fail
      (go_at_call 28; refine (HI.out _ V1.out).mono ?_; rintro e w2 ⟨rfl, b2⟩)
      have B2 := Lib.hid (B1.out.trans (b2.mono B1.out.size))
      have V2 := Lib.hid (HV.out.below B2.out)
      clear b2
      go_wp2_with fail
      (go_at_call 29; refine (HS.out _).mono ?_; rintro e w3 ⟨rfl, b3⟩)
      have B3 := Lib.hid (B2.out.trans (b3.mono B2.out.size))
      have V3 := Lib.hid (HV.out.below B3.out)
      clear b3
      go_wp2_with fail
      (go_at_call 19; refine (HY.out _ V3.out).mono ?_; rintro e w4 ⟨rfl, b4⟩)
      have B4 := Lib.hid (B3.out.trans (b4.mono B3.out.size))
      have V4 := Lib.hid (HV.out.below (B4.out.alloc B4.out.size (.cells #[.int .i64 0, .int .i64 0] 24)))
      clear b4
      go_wp2_with fail
      (go_at_call 21; refine (HP.out _ V4.out.tab).mono ?_; rintro e w5 ⟨rfl, b5⟩)
      go_wp2_with fail
      go_ret
      have z4 := B4.out.size
      exact ⟨rfl, (B4.out.alloc B4.out.size _).trans (b5.mono (by simp; omega))⟩

end Go.Proofs.YtllekjkmjadohaaDoor
