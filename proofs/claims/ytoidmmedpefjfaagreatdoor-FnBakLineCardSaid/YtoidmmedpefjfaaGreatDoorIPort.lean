/- LinPort of the program, and the end that a line of the form of LinPort's says. Conditions: the text has at most 2^48 bytes; the variables that are read hold what they are laid with. -/
import Derived.Test.YtoidmmedpefjfaaGreatDoorReads
import Derived.Test.YtoidmmedpefjfaaGreatDoorSSays
namespace Go.Proofs.YtoidmmedpefjfaaGreatDoor
open Go.RowKit Go.Sort

set_option maxRecDepth 100000 in
set_option maxHeartbeats 800000 in
theorem implLinPort_any (a p : Int) (w : World) (ht : TabOk w) :
    Calls Tryz.prog 25 #[.agg #[.int .i64 a, .int .i64 p]] w fun e w' => e = .returned (.string ⟨(lpL a p).toArray⟩) ∧ Below w.heap.size w w' := by
  have HT0 := Lib.hid ht
  clear ht
  by_cases hb : endB a p = true
  · obtain ⟨h1, h2, h3, h4⟩ := end_bounds hb
    obtain ⟨m, rfl⟩ := Int.eq_ofNat_of_zero_le (show 0 ≤ a by omega)
    obtain ⟨n, rfl⟩ := Int.eq_ofNat_of_zero_le (show 0 ≤ p by omega)
    have HL : Hid (lpL m n = portL ++ endL m n) := if_pos hb
    have n1 : ¬ 9223372036854775807 < 5 + (endL m n).length := by
      have := dec_len4 (k := m) (by omega); have := dec_len4 (k := n) (by omega)
      simp [endL]; omega
    have HI : Hid (∀ w, TabOk w → Calls Tryz.prog 66 #[.agg #[.int .i64 (m : Int), .int .i64 (n : Int)]] w fun e w' => e = .returned (.string ⟨(endL m n).toArray⟩) ∧ Below w.heap.size w w') := fun w ht => implText_yes m n w hb ht
    go_enter Tryz.func25, Tryz.ntmps25
    go_wp2_with (first
      | (go_at_call 65; refine (implOk_any _ _ _).mono ?_; rintro e w1 ⟨rfl, b1⟩; obtain ⟨c1, f1⟩ := bcell b1; have T1 : Hid (TabOk w1) := HT0.out.below (below_box b1) (Nat.le_refl _))
      | (go_at_call 66; refine (HI.out _ T1.out).mono ?_; rintro e w2 ⟨rfl, b2⟩))
    go_ret
    refine ⟨?_, (below_box b1).trans (b2.mono (by have := b1.size; simp at this; omega))⟩
    rw [HL.out, ← port_cat]; rfl
  · have HL : Hid (lpL a p = []) := if_neg hb
    go_enter Tryz.func25, Tryz.ntmps25
    go_wp2_with (go_at_call 65; refine (implOk_any _ _ _).mono ?_; rintro e w1 ⟨rfl, b1⟩)
    go_ret
    exact ⟨by rw [HL.out]; rfl, below_box b1⟩

/-- The end, of whichever side, that a line says. -/
def rpE (l : List UInt8) : Option (Int × Int) := if l.take 5 = portL then rdE (l.drop 5) else none

set_option maxRecDepth 100000 in
set_option maxHeartbeats 800000 in
theorem prefix_any (s : ByteArray) (w : World) :
    Calls Tryz.prog 135 #[.string s, .string ⟨#[112, 111, 114, 116, 32]⟩] w fun e w' => e = .returned (.bool (decide (s.data.toList.take 5 = portL))) ∧ w' = w := by
  by_cases h5 : s.size < 5
  · have hno : ¬ s.data.toList.take 5 = portL := by
      intro h; have := congrArg List.length h; simp [portL] at this; omega
    have HD : Hid (decide (s.data.toList.take 5 = portL) = false) := decide_eq_false hno
    clear hno
    go_enter Tryz.func135, Tryz.ntmps135
    go_wp2_with fail
    go_ret
    exact ⟨ret_bool HD.out.symm, rfl⟩
  · have HD : Hid (((s.extract 0 5).toList == [112, 111, 114, 116, 32]) = decide (s.data.toList.take 5 = portL)) := by
      show ((s.extract 0 5).toList == [112, 111, 114, 116, 32]) = decide (s.data.toList.take 5 = portL)
      rw [Lib.toList_data, ext_take, Bool.eq_iff_iff, beq_iff_eq, decide_eq_true_iff]; rfl
    go_enter Tryz.func135, Tryz.ntmps135
    go_wp2_with fail
    go_ret
    exact ⟨ret_bool HD.out, rfl⟩

set_option maxRecDepth 100000 in
set_option maxHeartbeats 800000 in
theorem cutPortS_yes (s : ByteArray) (w : World) (ht : s.data.toList.take 5 = portL) :
    Calls Tryz.prog 123 #[.string s, .string ⟨#[112, 111, 114, 116, 32]⟩] w fun e w' => e = .returned (.tuple #[.string (s.extract 5 s.size), .bool true]) ∧ w' = w := by
  have h5 : 5 ≤ s.size := by have := congrArg List.length ht; simp [portL] at this; omega
  have HD : Hid (decide (s.data.toList.take 5 = portL) = true) := decide_eq_true ht
  clear ht
  go_enter Tryz.func123, Tryz.ntmps123
  go_wp2_with (go_at_call 135; refine (prefix_any _ _).mono ?_; rintro e w' ⟨rfl, rfl⟩; rw [HD.out])
  go_ret2
  exact ⟨rfl, rfl⟩

set_option maxRecDepth 100000 in
set_option maxHeartbeats 800000 in
theorem cutPortS_no (s : ByteArray) (w : World) (ht : ¬ s.data.toList.take 5 = portL) :
    Calls Tryz.prog 123 #[.string s, .string ⟨#[112, 111, 114, 116, 32]⟩] w fun e w' => e = .returned (.tuple #[.string s, .bool false]) ∧ w' = w := by
  have HD : Hid (decide (s.data.toList.take 5 = portL) = false) := decide_eq_false ht
  clear ht
  go_enter Tryz.func123, Tryz.ntmps123
  go_wp2_with (go_at_call 135; refine (prefix_any _ _).mono ?_; rintro e w' ⟨rfl, rfl⟩; rw [HD.out])
  go_ret2
  exact ⟨rfl, rfl⟩

set_option maxRecDepth 100000 in
set_option maxHeartbeats 800000 in
theorem cutPort_yes (s : ByteArray) (w : World) (ht : s.data.toList.take 5 = portL) :
    Calls Tryz.prog 99 #[.string s, .string ⟨#[112, 111, 114, 116, 32]⟩] w fun e w' => e = .returned (.tuple #[.string (s.extract 5 s.size), .bool true]) ∧ w' = w := by
  have HC := Lib.hid (fun w => cutPortS_yes s w ht)
  clear ht
  go_enter Tryz.func99, Tryz.ntmps99
  go_wp2_with (go_at_call 123; refine (HC.out _).mono ?_; rintro e w' ⟨rfl, rfl⟩)
  go_ret2
  exact ⟨rfl, rfl⟩

set_option maxRecDepth 100000 in
set_option maxHeartbeats 800000 in
theorem cutPort_no (s : ByteArray) (w : World) (ht : ¬ s.data.toList.take 5 = portL) :
    Calls Tryz.prog 99 #[.string s, .string ⟨#[112, 111, 114, 116, 32]⟩] w fun e w' => e = .returned (.tuple #[.string s, .bool false]) ∧ w' = w := by
  have HC := Lib.hid (fun w => cutPortS_no s w ht)
  clear ht
  go_enter Tryz.func99, Tryz.ntmps99
  go_wp2_with (go_at_call 123; refine (HC.out _).mono ?_; rintro e w' ⟨rfl, rfl⟩)
  go_ret2
  exact ⟨rfl, rfl⟩

end Go.Proofs.YtoidmmedpefjfaaGreatDoor
