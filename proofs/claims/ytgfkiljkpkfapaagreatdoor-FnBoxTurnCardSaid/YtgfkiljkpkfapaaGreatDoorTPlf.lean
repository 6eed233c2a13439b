/- Whether streams are ok, as the program asks. Conditions: a table that is ok; texts of at most 2^21 bytes. (Several texts, joined: IPort, ISays, IRwr, IStrm, SStrL, IStrmA, IBak, KnowI, ILines, NearI, IMapE, ConnOkI.) -/
import Derived.Test.YtgfkiljkpkfapaaGreatDoorTPle
import Derived.Test.YtgfkiljkpkfapaaGreatDoorTPla
import Derived.Test.YtgfkiljkpkfapaaGreatDoorTPlb
import Derived.Test.YtgfkiljkpkfapaaGreatDoorTPld
import Derived.RangeFuncWrites
import Derived.Test.YtgfkiljkpkfapaaGreatDoorTPlc
import Derived.Deep.RegionWith
import Derived.Test.YtgfkiljkpkfapaaGreatDoorBoxThree

/- LinPort of the program, and the end that a line of the form of LinPort's says. Conditions: the text has at most 2^48 bytes; the variables that are read hold what they are laid with. -/
namespace Go.Proofs.YtgfkiljkpkfapaaGreatDoor
open Go.RowKit Go.Sort

set_option maxRecDepth 100000 in
set_option maxHeartbeats 800000 in
theorem implLinPort_any (a p : Int) (w : World) (ht : TabOk w) :
    Calls Tryz.prog 146 #[.agg #[.int .i64 a, .int .i64 p]] w fun e w' => e = .returned (.string ⟨(lpL a p).toArray⟩) ∧ Below w.heap.size w w' := by
  have HT0 := Lib.hid ht
  clear ht
  by_cases hb : endB a p = true
  · obtain ⟨h1, h2, h3, h4⟩ := end_bounds hb
    obtain ⟨m, rfl⟩ := Int.eq_ofNat_of_zero_le (show 0 ≤ a by omega)
    obtain ⟨n, rfl⟩ := Int.eq_ofNat_of_zero_le (show 0 ≤ p by omega)
    have HL : Hid (lpL m n = portL ++ endL m n) := if_pos hb
    have n1 : ¬ 9223372036854775807 < 5 + (endL m n).length := by
      have := dec_len4 (k := m) (by omega); have := dec_len4 (k := n) (by omega)
      simp [endL]; omega
    have HI : Hid (∀ w, TabOk w → Calls Tryz.prog 164 #[.agg #[.int .i64 (m : Int), .int .i64 (n : Int)]] w fun e w' => e = .returned (.string ⟨(endL m n).toArray⟩) ∧ Below w.heap.size w w') := fun w ht => implText_yes m n w hb ht
    go_enter Tryz.func146, Tryz.ntmps146
    go_wp2_with (first
      | (go_at_call 76; refine (implOk_any _ _ _).mono ?_; rintro e w1 ⟨rfl, b1⟩; obtain ⟨c1, f1⟩ := bcell b1; have T1 : Hid (TabOk w1) := HT0.out.below (below_box b1) (Nat.le_refl _))
      | (go_at_call 164; refine (HI.out _ T1.out).mono ?_; rintro e w2 ⟨rfl, b2⟩))
    go_ret
    refine ⟨?_, (below_box b1).trans (b2.mono (by have := b1.size; simp at this; omega))⟩
    rw [HL.out, ← port_cat]; rfl
  · have HL : Hid (lpL a p = []) := if_neg hb
    go_enter Tryz.func146, Tryz.ntmps146
    go_wp2_with (go_at_call 76; refine (implOk_any _ _ _).mono ?_; rintro e w1 ⟨rfl, b1⟩)
    go_ret
    exact ⟨by rw [HL.out]; rfl, below_box b1⟩

/-- The end, of whichever side, that a line says. -/
def rpE (l : List UInt8) : Option (Int × Int) := if l.take 5 = portL then rdE (l.drop 5) else none

set_option maxRecDepth 100000 in
set_option maxHeartbeats 800000 in
theorem prefix_any (s : ByteArray) (w : World) :
    Calls Tryz.prog 150 #[.string s, .string ⟨#[112, 111, 114, 116, 32]⟩] w fun e w' => e = .returned (.bool (decide (s.data.toList.take 5 = portL))) ∧ w' = w := by
  by_cases h5 : s.size < 5
  · have hno : ¬ s.data.toList.take 5 = portL := by
      intro h; have := congrArg List.length h; simp [portL] at this; omega
    have HD : Hid (decide (s.data.toList.take 5 = portL) = false) := decide_eq_false hno
    clear hno
    go_enter Tryz.func150, Tryz.ntmps150
    go_wp2_with fail
    go_ret
    exact ⟨ret_bool HD.out.symm, rfl⟩
  · have HD : Hid (((s.extract 0 5).toList == [112, 111, 114, 116, 32]) = decide (s.data.toList.take 5 = portL)) := by
      show ((s.extract 0 5).toList == [112, 111, 114, 116, 32]) = decide (s.data.toList.take 5 = portL)
      rw [Lib.toList_data, ext_take, Bool.eq_iff_iff, beq_iff_eq, decide_eq_true_iff]; rfl
    go_enter Tryz.func150, Tryz.ntmps150
    go_wp2_with fail
    go_ret
    exact ⟨ret_bool HD.out, rfl⟩

set_option maxRecDepth 100000 in
set_option maxHeartbeats 800000 in
theorem cutPortS_yes (s : ByteArray) (w : World) (ht : s.data.toList.take 5 = portL) :
    Calls Tryz.prog 136 #[.string s, .string ⟨#[112, 111, 114, 116, 32]⟩] w fun e w' => e = .returned (.tuple #[.string (s.extract 5 s.size), .bool true]) ∧ w' = w := by
  have h5 : 5 ≤ s.size := by have := congrArg List.length ht; simp [portL] at this; omega
  have HD : Hid (decide (s.data.toList.take 5 = portL) = true) := decide_eq_true ht
  clear ht
  go_enter Tryz.func136, Tryz.ntmps136
  go_wp2_with (go_at_call 150; refine (prefix_any _ _).mono ?_; rintro e w' ⟨rfl, rfl⟩; rw [HD.out])
  go_ret2
  exact ⟨rfl, rfl⟩

set_option maxRecDepth 100000 in
set_option maxHeartbeats 800000 in
theorem cutPortS_no (s : ByteArray) (w : World) (ht : ¬ s.data.toList.take 5 = portL) :
    Calls Tryz.prog 136 #[.string s, .string ⟨#[112, 111, 114, 116, 32]⟩] w fun e w' => e = .returned (.tuple #[.string s, .bool false]) ∧ w' = w := by
  have HD : Hid (decide (s.data.toList.take 5 = portL) = false) := decide_eq_false ht
  clear ht
  go_enter Tryz.func136, Tryz.ntmps136
  go_wp2_with (go_at_call 150; refine (prefix_any _ _).mono ?_; rintro e w' ⟨rfl, rfl⟩; rw [HD.out])
  go_ret2
  exact ⟨rfl, rfl⟩

set_option maxRecDepth 100000 in
set_option maxHeartbeats 800000 in
theorem cutPort_yes (s : ByteArray) (w : World) (ht : s.data.toList.take 5 = portL) :
    Calls Tryz.prog 109 #[.string s, .string ⟨#[112, 111, 114, 116, 32]⟩] w fun e w' => e = .returned (.tuple #[.string (s.extract 5 s.size), .bool true]) ∧ w' = w := by
  have HC := Lib.hid (fun w => cutPortS_yes s w ht)
  clear ht
  go_enter Tryz.func109, Tryz.ntmps109
  go_wp2_with (go_at_call 136; refine (HC.out _).mono ?_; rintro e w' ⟨rfl, rfl⟩)
  go_ret2
  exact ⟨rfl, rfl⟩

set_option maxRecDepth 100000 in
set_option maxHeartbeats 800000 in
theorem cutPort_no (s : ByteArray) (w : World) (ht : ¬ s.data.toList.take 5 = portL) :
    Calls Tryz.prog 109 #[.string s, .string ⟨#[112, 111, 114, 116, 32]⟩] w fun e w' => e = .returned (.tuple #[.string s, .bool false]) ∧ w' = w := by
  have HC := Lib.hid (fun w => cutPortS_no s w ht)
  clear ht
  go_enter Tryz.func109, Tryz.ntmps109
  go_wp2_with (go_at_call 136; refine (HC.out _).mono ?_; rintro e w' ⟨rfl, rfl⟩)
  go_ret2
  exact ⟨rfl, rfl⟩

end Go.Proofs.YtgfkiljkpkfapaaGreatDoor

/- LinSays and LinBox of the program: as the specification's, of every text. Conditions: the text has at most 2^21 bytes; the variables that are read hold what they are laid with. -/
namespace Go.Proofs.YtgfkiljkpkfapaaGreatDoor
open Go.RowKit Go.Sort

/-- EndRead of the program at what is behind the word. -/
theorem implRead_drop (s : ByteArray) (w : World) (hs : s.size ≤ 2097152) (hv : VarsOk w) :
    Calls Tryz.prog 110 #[.string (s.extract 5 s.size)] w fun e w' => e = .returned (saysV (rdE (s.data.toList.drop 5))) ∧ Below w.heap.size w w' := by
  have h := implRead_any (s.extract 5 s.size) w (by simp; omega) hv
  rw [ext_drop, rd_same] at h
  rcases hr : rdE (s.data.toList.drop 5) with _ | ⟨a, p⟩
  · rw [rdE_none hr] at h; exact h
  · rw [(rdE_some hr).1] at h; exact h

set_option maxRecDepth 100000 in
set_option maxHeartbeats 800000 in
theorem readPort_form (s : ByteArray) (a p : Int) (b : Bool) (w : World) (hv : VarsOk w) (ht : s.data.toList.take 5 = portL)
    (h : ∀ w, VarsOk w → Calls Tryz.prog 110 #[.string (s.extract 5 s.size)] w fun e w' => e = .returned (.tuple #[.agg #[.int .i64 a, .int .i64 p], .bool b]) ∧ Below w.heap.size w w') :
    Calls Tryz.prog 64 #[.string s] w fun e w' => e = .returned (.tuple #[.agg #[.int .i64 a, .int .i64 p], .bool b]) ∧ Below w.heap.size w w' := by
  have H := Lib.hid h
  have HV := Lib.hid hv
  have HC := Lib.hid (fun w => cutPort_yes s w ht)
  clear h hv ht
  go_enter Tryz.func64, Tryz.ntmps64
  go_wp2_with (first
    | (go_at_call 109; refine (HC.out _).mono ?_; rintro e w' ⟨rfl, rfl⟩)
    | (go_at_call 110; refine (H.out _ (HV.out.below ((Below.refl _ _).alloc (Nat.le_refl _) _))).mono ?_; rintro e w1 ⟨rfl, b1⟩; obtain ⟨c1, f1⟩ := bcell b1; have z1 : w.heap.size < w1.heap.size := by (have hq := b1.size; simp at hq; omega)))
  obtain ⟨q0, q1, q2⟩ := set_two (w := w1) (b := w.heap.size) (x := .int .i64 0) (y := .int .i64 0) (.int .i64 a) (.int .i64 p) (by rw [c1 _ _ (by simp)]; simp) (by rw [c1 _ _ (by simp)]; simp)
  refine bodyPost_ret (v := .tuple #[.agg #[.int .i64 a, .int .i64 p], .bool b]) (by simp [results, Tryz.results64, go_sem, q1, q2]) rfl ⟨rfl, ?_⟩
  exact ((below_box b1).setCell (Nat.le_refl _) _).setCell (Nat.le_refl _) _

set_option maxRecDepth 100000 in
set_option maxHeartbeats 800000 in
theorem readPort_no (s : ByteArray) (w : World) (ht : ¬ s.data.toList.take 5 = portL) :
    Calls Tryz.prog 64 #[.string s] w fun e w' => e = .returned (.tuple #[.agg #[.int .i64 0, .int .i64 0], .bool false]) ∧ Below w.heap.size w w' := by
  have HC := Lib.hid (fun w => cutPort_no s w ht)
  clear ht
  go_enter Tryz.func64, Tryz.ntmps64
  go_wp2_with (go_at_call 109; refine (HC.out _).mono ?_; rintro e w' ⟨rfl, rfl⟩)
  refine bodyPost_ret (v := .tuple #[.agg #[.int .i64 0, .int .i64 0], .bool false]) (by simp [results, Tryz.results64, go_sem]) rfl ⟨rfl, ?_⟩
  exact (Below.refl _ _).alloc (Nat.le_refl _) _

theorem readPort_any (s : ByteArray) (w : World) (hs : s.size ≤ 2097152) (hv : VarsOk w) :
    Calls Tryz.prog 64 #[.string s] w fun e w' => e = .returned (saysV (rpE s.data.toList)) ∧ Below w.heap.size w w' := by
  by_cases ht : s.data.toList.take 5 = portL
  · have e : rpE s.data.toList = rdE (s.data.toList.drop 5) := if_pos ht
    rw [e]
    have hd := fun w hv => implRead_drop s w hs hv
    rcases hr : rdE (s.data.toList.drop 5) with _ | ⟨a, p⟩
    · simp only [hr] at hd; exact readPort_form s 0 0 false w hv ht hd
    · simp only [hr] at hd; exact readPort_form s a p true w hv ht hd
  · have e : rpE s.data.toList = none := if_neg ht
    rw [e]; exact readPort_no s w ht

/-- What LinSays and LinBox make of the end that a line says. -/
theorem says_none {l : List UInt8} (h : rpE l = none) : saysE l = none ∧ boxE l = none := by
  unfold rpE at h
  unfold saysE boxE
  split
  · rename_i ht
    rw [if_pos ht] at h
    rw [h]; exact ⟨rfl, rfl⟩
  · exact ⟨rfl, rfl⟩
theorem says_some {l : List UInt8} {a p : Int} (h : rpE l = some (a, p)) : saysE l = (if insB a p = true then some (a, p) else none) ∧ boxE l = (if boxB a p = true then some p else none) := by
  unfold rpE at h
  unfold saysE boxE
  split
  · rename_i ht
    rw [if_pos ht] at h
    rw [h]
    refine ⟨rfl, ?_⟩
    have hb := (rdE_some h).2
    by_cases ha : a = 50
    · subst ha
      have : boxB 50 p = true := by
        simp [endB, insB, outB, boxB, inB] at hb ⊢; omega
      simp [this]
    · simp [boxB, ha]
  · rename_i ht
    rw [if_neg ht] at h; cases h

set_option maxRecDepth 100000 in
set_option maxHeartbeats 800000 in
theorem implSays_some (s : ByteArray) (a p : Int) (w : World) (hv : VarsOk w)
    (h : ∀ w, VarsOk w → Calls Tryz.prog 64 #[.string s] w fun e w' => e = .returned (.tuple #[.agg #[.int .i64 a, .int .i64 p], .bool true]) ∧ Below w.heap.size w w') :
    Calls Tryz.prog 23 #[.string s] w fun e w' => e = .returned (saysV (if insB a p = true then some (a, p) else none)) ∧ Below w.heap.size w w' := by
  have H := Lib.hid h
  have HV := Lib.hid hv
  clear h hv
  by_cases hin : insB a p = true
  · rw [if_pos hin]
    go_enter Tryz.func23, Tryz.ntmps23
    go_wp2_with (first
      | (go_at_call 64; refine (H.out _ (HV.out.below ((Below.refl _ _).alloc (Nat.le_refl _) _))).mono ?_; rintro e w1 ⟨rfl, b1⟩; obtain ⟨c1, f1⟩ := bcell b1; have z1 : w.heap.size < w1.heap.size := by (have hq := b1.size; simp at hq; omega))
      | (go_at_call 32; refine (implInside_any _ _ _).mono ?_; rintro e w3 ⟨rfl, b3⟩; obtain ⟨c3, f3⟩ := bcell b3; have z3 : w1.heap.size < w3.heap.size := by (have hq := b3.size; simp at hq; omega)))
    obtain ⟨q0, q1, q2⟩ := set_two (w := w3) (b := w.heap.size) (x := .int .i64 0) (y := .int .i64 0) (.int .i64 a) (.int .i64 p) (by rw [c3 _ _ (by simp; omega), cell_alloc_lt z1, c1 _ _ (by simp)]; simp) (by rw [c3 _ _ (by simp; omega), cell_alloc_lt z1, c1 _ _ (by simp)]; simp)
    refine bodyPost_ret (v := .tuple #[.agg #[.int .i64 a, .int .i64 p], .bool true]) (by simp [results, Tryz.results23, go_sem, q1, q2]) rfl ⟨rfl, ?_⟩
    exact ((((below_box b1).trans (((Below.refl _ w1).alloc (Nat.le_refl _) _ |>.trans (b3.mono (by simp))).mono (by omega))).setCell (Nat.le_refl _) _).setCell (Nat.le_refl _) _)
  · rw [if_neg hin]
    go_enter Tryz.func23, Tryz.ntmps23
    go_wp2_with (first
      | (go_at_call 64; refine (H.out _ (HV.out.below ((Below.refl _ _).alloc (Nat.le_refl _) _))).mono ?_; rintro e w1 ⟨rfl, b1⟩; obtain ⟨c1, f1⟩ := bcell b1; have z1 : w.heap.size < w1.heap.size := by (have hq := b1.size; simp at hq; omega))
      | (go_at_call 32; refine (implInside_any _ _ _).mono ?_; rintro e w3 ⟨rfl, b3⟩; obtain ⟨c3, f3⟩ := bcell b3; have z3 : w1.heap.size < w3.heap.size := by (have hq := b3.size; simp at hq; omega)))
    obtain ⟨q0, q1, q2⟩ := set_two (w := w3) (b := w.heap.size) (x := .int .i64 0) (y := .int .i64 0) (.int .i64 0) (.int .i64 0) (by rw [c3 _ _ (by simp; omega), cell_alloc_lt z1, c1 _ _ (by simp)]; simp) (by rw [c3 _ _ (by simp; omega), cell_alloc_lt z1, c1 _ _ (by simp)]; simp)
    refine bodyPost_ret (v := .tuple #[.agg #[.int .i64 0, .int .i64 0], .bool false]) (by simp [results, Tryz.results23, go_sem, q1, q2]) rfl ⟨rfl, ?_⟩
    exact ((((below_box b1).trans (((Below.refl _ w1).alloc (Nat.le_refl _) _ |>.trans (b3.mono (by simp))).mono (by omega))).setCell (Nat.le_refl _) _).setCell (Nat.le_refl _) _)

set_option maxRecDepth 100000 in
set_option maxHeartbeats 800000 in
theorem implSays_none (s : ByteArray) (w : World) (hv : VarsOk w)
    (h : ∀ w, VarsOk w → Calls Tryz.prog 64 #[.string s] w fun e w' => e = .returned (.tuple #[.agg #[.int .i64 0, .int .i64 0], .bool false]) ∧ Below w.heap.size w w') :
    Calls Tryz.prog 23 #[.string s] w fun e w' => e = .returned (saysV none) ∧ Below w.heap.size w w' := by
  have H := Lib.hid h
  have HV := Lib.hid hv
  clear h hv
  go_enter Tryz.func23, Tryz.ntmps23
  go_wp2_with (go_at_call 64; refine (H.out _ (HV.out.below ((Below.refl _ _).alloc (Nat.le_refl _) _))).mono ?_; rintro e w1 ⟨rfl, b1⟩; obtain ⟨c1, f1⟩ := bcell b1; have z1 : w.heap.size < w1.heap.size := by (have hq := b1.size; simp at hq; omega))
  obtain ⟨q0, q1, q2⟩ := set_two (w := w1) (b := w.heap.size) (x := .int .i64 0) (y := .int .i64 0) (.int .i64 0) (.int .i64 0) (by rw [c1 _ _ (by simp)]; simp) (by rw [c1 _ _ (by simp)]; simp)
  refine bodyPost_ret (v := .tuple #[.agg #[.int .i64 0, .int .i64 0], .bool false]) (by simp [results, Tryz.results23, go_sem, cell_alloc_lt, z1, q1, q2]) rfl ⟨rfl, ?_⟩
  exact (((below_box b1).setCell (Nat.le_refl _) _).setCell (Nat.le_refl _) _).alloc (by simp; omega) _

theorem implSays_any (s : ByteArray) (w : World) (hs : s.size ≤ 2097152) (hv : VarsOk w) :
    Calls Tryz.prog 23 #[.string s] w fun e w' => e = .returned (saysV (saysE s.data.toList)) ∧ Below w.heap.size w w' := by
  have hd := fun w hv => readPort_any s w hs hv
  rcases hr : rpE s.data.toList with _ | ⟨a, p⟩
  · rw [(says_none hr).1]; simp only [hr] at hd; exact implSays_none s w hv hd
  · rw [(says_some hr).1]; simp only [hr] at hd; exact implSays_some s a p w hv hd

set_option maxRecDepth 100000 in
set_option maxHeartbeats 800000 in
theorem implBox_some (s : ByteArray) (a p : Int) (w : World) (hv : VarsOk w)
    (h : ∀ w, VarsOk w → Calls Tryz.prog 64 #[.string s] w fun e w' => e = .returned (.tuple #[.agg #[.int .i64 a, .int .i64 p], .bool true]) ∧ Below w.heap.size w w') :
    Calls Tryz.prog 162 #[.string s] w fun e w' => e = .returned (boxV (if boxB a p = true then some p else none)) ∧ Below w.heap.size w w' := by
  have H := Lib.hid h
  have HV := Lib.hid hv
  clear h hv
  by_cases hin : boxB a p = true <;>
  · simp only [hin, if_true, if_false, Bool.false_eq_true]
    go_enter Tryz.func162, Tryz.ntmps162
    go_wp2_with (first
      | (go_at_call 64; refine (H.out _ HV.out).mono ?_; rintro e w1 ⟨rfl, b1⟩; have z1 := b1.size)
      | (go_at_call 33; refine (isBox_any _ _ _).mono ?_; rintro e w3 ⟨rfl, b3⟩; obtain ⟨c3, f3⟩ := bcell b3; have z3 : w1.heap.size < w3.heap.size := by (have hq := b3.size; simp at hq; omega)))
    go_ret2
    exact ⟨rfl, b1.trans ((((Below.refl _ w1).alloc (Nat.le_refl _) _).trans (b3.mono (by simp))).mono z1)⟩

set_option maxRecDepth 100000 in
set_option maxHeartbeats 800000 in
theorem implBox_none (s : ByteArray) (w : World) (hv : VarsOk w)
    (h : ∀ w, VarsOk w → Calls Tryz.prog 64 #[.string s] w fun e w' => e = .returned (.tuple #[.agg #[.int .i64 0, .int .i64 0], .bool false]) ∧ Below w.heap.size w w') :
    Calls Tryz.prog 162 #[.string s] w fun e w' => e = .returned (boxV none) ∧ Below w.heap.size w w' := by
  have H := Lib.hid h
  have HV := Lib.hid hv
  clear h hv
  go_enter Tryz.func162, Tryz.ntmps162
  go_wp2_with (go_at_call 64; refine (H.out _ HV.out).mono ?_; rintro e w1 ⟨rfl, b1⟩; have z1 := b1.size)
  go_ret2
  exact ⟨rfl, b1.alloc z1 _⟩

theorem implBox_any (s : ByteArray) (w : World) (hs : s.size ≤ 2097152) (hv : VarsOk w) :
    Calls Tryz.prog 162 #[.string s] w fun e w' => e = .returned (boxV (boxE s.data.toList)) ∧ Below w.heap.size w w' := by
  have hd := fun w hv => readPort_any s w hs hv
  rcases hr : rpE s.data.toList with _ | ⟨a, p⟩
  · rw [(says_none hr).2]; simp only [hr] at hd; exact implBox_none s w hv hd
  · rw [(says_some hr).2]; simp only [hr] at hd; exact implBox_some s a p w hv hd

end Go.Proofs.YtgfkiljkpkfapaaGreatDoor

/- A line as it goes outside, and RwrLine, of the program. Conditions: the table is ok; the text has at most 2^21 bytes; the variables that are read hold what they are laid with. -/
namespace Go.Proofs.YtgfkiljkpkfapaaGreatDoor
open Go.RowKit Go.Sort

set_option maxRecDepth 100000 in
set_option maxHeartbeats 1600000 in
theorem lineOutside_any (g1 g2 : Nat) (es : List (Int × Int)) (s : ByteArray) (w : World) (hs : s.size ≤ 2097152) (hb : Both w g1 g2 es) (hm : mapB es = true) (hv : ∀ w', Two g1 g2 w w' → VarsOk w') :
    Calls Tryz.prog 130 #[.agg #[.map (some g1), .map (some g2)], .string s] w fun e w' => e = .returned (.string ⟨(lineE es s.data.toList).2.toArray⟩) ∧ Both w' g1 g2 (lineE es s.data.toList).1 ∧ Two g1 g2 w w' := by
  have HBo : Hid (∀ w', Below w.heap.size w w' → Both w' g1 g2 es) := fun w' h => hb.later h
  have HV := Lib.hid hv
  have l1 := hb.lt.1
  have l2 := hb.lt.2
  clear hb hv
  rcases hx : saysE s.data.toList with _ | ⟨a, p⟩
  · have HB : Hid (∀ w, VarsOk w → Calls Tryz.prog 23 #[.string s] w fun e w' => e = .returned (.tuple #[.agg #[.int .i64 0, .int .i64 0], .bool false]) ∧ Below w.heap.size w w') := fun w hv => by have := implSays_any s w hs hv; rw [hx] at this; exact this
    have HE : Hid (lineE es s.data.toList = (es, s.data.toList)) := lineE_none hx
    rw [HE.out, str_same]
    clear hx HE hm
    go_enter Tryz.func130, Tryz.ntmps130
    go_wp2_with fail
    (go_at_call 23; refine (HB.out _ (HV.out _ (Two.of_below ((Below.refl _ _).alloc (Nat.le_refl _) _)))).mono ?_; rintro e w1 ⟨rfl, b1⟩; have B1 : Hid (Below w.heap.size w w1) := ((Below.refl _ _).alloc (Nat.le_refl _) _).trans (b1.mono (by simp)); clear b1)
    go_wp2_with fail
    go_ret
    have B2 : Below w.heap.size w (w1.alloc (.cells #[.int .i64 0, .int .i64 0] 31)) := B1.out.alloc B1.out.size _
    exact ⟨rfl, HBo.out _ B2, Two.of_below B2⟩
  · have HB : Hid (∀ w, VarsOk w → Calls Tryz.prog 23 #[.string s] w fun e w' => e = .returned (.tuple #[.agg #[.int .i64 a, .int .i64 p], .bool true]) ∧ Below w.heap.size w w') := fun w hv => by have := implSays_any s w hs hv; rw [hx] at this; exact this
    have hE := lineE_some (es := es) hx
    have hi := says_ins hx
    obtain ⟨us, hus⟩ : ∃ us, us = (putE es (a, p)).1 := ⟨_, rfl⟩
    obtain ⟨q, hq⟩ : ∃ q, q = (putE es (a, p)).2 := ⟨_, rfl⟩
    rw [← hus, ← hq] at hE
    have HG : Hid (∀ w, Both w g1 g2 es → Calls Tryz.prog 121 #[.agg #[.map (some g1), .map (some g2)], .agg #[.int .i64 a, .int .i64 p]] w fun e w' => e = .returned (.int .i64 q) ∧ Both w' g1 g2 us ∧ Two g1 g2 w w') := fun w h => by rw [hus, hq]; exact givePort_any g1 g2 es a p w h hm hi
    by_cases h0 : q = 0
    · rw [hE, if_pos h0]
      subst h0
      clear hE hx hus hq hm hi
      go_enter Tryz.func130, Tryz.ntmps130
      go_wp2_with fail
      (go_at_call 23; refine (HB.out _ (HV.out _ (Two.of_below ((Below.refl _ _).alloc (Nat.le_refl _) _)))).mono ?_; rintro e w1 ⟨rfl, b1⟩; have B1 : Hid (Below w.heap.size w w1) := ((Below.refl _ _).alloc (Nat.le_refl _) _).trans (b1.mono (by simp)); have t0 : ∀ o, (w1.alloc o).cell? ⟨w.heap.size, 0, none⟩ = some (.map (some g1)) := (fun o => by rw [cell_alloc_lt (by have := b1.size; simp at this; omega), b1.cell (by simp)]; simp); have t1 : ∀ o, (w1.alloc o).cell? ⟨w.heap.size, 1, none⟩ = some (.map (some g2)) := (fun o => by rw [cell_alloc_lt (by have := b1.size; simp at this; omega), b1.cell (by simp)]; simp); clear b1)
      have B2 : Hid (∀ o, Below w.heap.size w (w1.alloc o)) := fun o => B1.out.alloc B1.out.size o
      go_wp2_with fail
      (go_at_call 121; refine (HG.out _ (HBo.out _ (B2.out _))).mono ?_; rintro e w2 ⟨rfl, hb2, t2⟩; have HB2 := Lib.hid hb2; have T2 : Hid (Two g1 g2 w w2) := (Two.of_below (B2.out _)).trans t2; clear hb2 t2)
      go_wp2_with fail
      go_ret
      exact ⟨rfl, HB2.out, T2.out⟩
    · rw [hE, if_neg h0]
      have hqb : (q == 0) = false := by simpa using h0
      clear hE hx hus hq hm hi
      go_enter Tryz.func130, Tryz.ntmps130
      go_wp2_with fail
      (go_at_call 23; refine (HB.out _ (HV.out _ (Two.of_below ((Below.refl _ _).alloc (Nat.le_refl _) _)))).mono ?_; rintro e w1 ⟨rfl, b1⟩; have B1 : Hid (Below w.heap.size w w1) := ((Below.refl _ _).alloc (Nat.le_refl _) _).trans (b1.mono (by simp)); have t0 : ∀ o, (w1.alloc o).cell? ⟨w.heap.size, 0, none⟩ = some (.map (some g1)) := (fun o => by rw [cell_alloc_lt (by have := b1.size; simp at this; omega), b1.cell (by simp)]; simp); have t1 : ∀ o, (w1.alloc o).cell? ⟨w.heap.size, 1, none⟩ = some (.map (some g2)) := (fun o => by rw [cell_alloc_lt (by have := b1.size; simp at this; omega), b1.cell (by simp)]; simp); clear b1)
      have B2 : Hid (∀ o, Below w.heap.size w (w1.alloc o)) := fun o => B1.out.alloc B1.out.size o
      go_wp2_with fail
      (go_at_call 121; refine (HG.out _ (HBo.out _ (B2.out _))).mono ?_; rintro e w2 ⟨rfl, hb2, t2⟩; have HB2 := Lib.hid hb2; have T2 : Hid (Two g1 g2 w w2) := (Two.of_below (B2.out _)).trans t2; clear hb2 t2)
      go_wp2_with fail
      (go_at_call 35; refine (boxAt_any q _).mono ?_; rintro e w25 ⟨rfl, b25⟩; have HB25 := Lib.hid (HB2.out.later b25); have T25 : Hid (Two g1 g2 w w25) := T2.out.trans (Two.of_below b25); clear b25)
      go_wp2_with fail
      (go_at_call 146; refine (implLinPort_any 50 q _ (HV.out _ T25.out).tab).mono ?_; rintro e w3 ⟨rfl, b3⟩)
      go_wp2_with fail
      go_ret
      exact ⟨rfl, HB25.out.later b3, T25.out.trans (Two.of_below b3)⟩

/-- What RwrLine answers. -/
def rwrA (es : List (Int × Int)) (l : List UInt8) : List (Int × Int) × List UInt8 := if mapB es = true ∧ linB l = true then lineE es l else ([], [])

end Go.Proofs.YtgfkiljkpkfapaaGreatDoor

/- RwrStream of the program. Conditions: the table is ok; the text is a stream; the variables that are read hold what they are laid with. -/
namespace Go.Proofs.YtgfkiljkpkfapaaGreatDoor
open Go.RowKit Go.Shelf Go.Sort
attribute [local go_sem] Oper.semAt_some

/-- What stays when a block that is no cells turns. -/
theorem heap_kept {w w' : World} {row : Option Nat} {b : Nat} {cs : Array Value} {t : TypeId} {fz : Nat × Nat} (h : w.heap[b]? = some (.cells cs t fz)) (hg : w.grownBy w' row) (hr : ∀ r, row = some r → ∃ o : Obj, w.heap[r]? = some o ∧ o.isCells = false) : w'.heap[b]? = some (.cells cs t fz) := by
  refine (hg.block b (Array.getElem?_eq_some_iff.1 h).1 fun e => ?_).trans h
  obtain ⟨o, ho, hc⟩ := hr b e.symm
  rw [h] at ho
  cases ho
  cases hc
theorem Bld.kept {w w' : World} {row : Option Nat} {B b : Nat} {l : List UInt8} (h : Bld B b l w) (hg : w.grownBy w' row) (hr : ∀ r, row = some r → ∃ o : Obj, w.heap[r]? = some o ∧ o.isCells = false) : Bld B b l w' := by
  have one : ∀ p, Lib.BuilderAtF 149 5 B b p (Lib.byteCells l) w → Lib.BuilderAtF 149 5 B b p (Lib.byteCells l) w' := by
    rintro p ⟨hB, v, hb, hown, hne⟩
    refine ⟨hB, v, heap_kept hb hg hr, ⟨hown.1, ?_⟩, hne⟩
    rcases hown.2 with h2 | ⟨g, cap, cur, fz, hv, hBg, hh, r⟩
    · exact .inl h2
    · exact .inr ⟨g, cap, cur, fz, hv, hBg, heap_kept hh hg hr, r⟩
  rcases h with h | h
  · exact .inl (one _ h)
  · exact .inr (one _ h)
theorem OwnTab.kept {w w' : World} {row : Option Nat} {B : Nat} {v : Value} {es : List (Int × Int)} (h : OwnTab w B v es) (hg : w.grownBy w' row) (hr : ∀ r, row = some r → ∃ o : Obj, w.heap[r]? = some o ∧ o.isCells = false) : OwnTab w' B v es := by
  refine ⟨h.1, ?_⟩
  rcases h.2 with h2 | ⟨g, cap, cur, hv, hB, hh, r⟩
  · exact .inl h2
  · exact .inr ⟨g, cap, cur, hv, hB, heap_kept hh hg hr, r⟩
theorem MapAt.kind {P : Program} {k : TypeId} {w : World} {b : Nat} {L : List (Value × Value)} (h : MapAt P k w b L) : ∃ o : Obj, w.heap[b]? = some o ∧ o.isCells = false ∧ ∀ c t fz, o ≠ .cells c t fz := by
  obtain ⟨es, clock, hb, _⟩ := h
  exact ⟨_, hb, rfl, fun _ _ _ e => by cases e⟩
/-- A builder stays one, when the two maps turn. -/
theorem Bld.two {w w' : World} {g1 g2 B b : Nat} {l : List UInt8} {us : List (Int × Int)} (h : Bld B b l w) (ht : Two g1 g2 w w') (hb : Both w g1 g2 us) : Bld B b l w' := by
  obtain ⟨o1, k1, c1, _⟩ := hb.1.kind
  obtain ⟨o2, k2, c2, _⟩ := hb.2.1.kind
  have keep : ∀ (c : Nat) (cs : Array Value) (t : TypeId) (fz : Nat × Nat), w.heap[c]? = some (.cells cs t fz) → w'.heap[c]? = some (.cells cs t fz) := fun c cs t fz hc => by
    refine (ht.block c (Array.getElem?_eq_some_iff.1 hc).1 (fun e => ?_) (fun e => ?_)).trans hc
    · rw [e, k1] at hc; cases hc; cases c1
    · rw [e, k2] at hc; cases hc; cases c2
  have one : ∀ p, Lib.BuilderAtF 149 5 B b p (Lib.byteCells l) w → Lib.BuilderAtF 149 5 B b p (Lib.byteCells l) w' := by
    rintro p ⟨hB, v, hb, hown, hne⟩
    refine ⟨hB, v, keep _ _ _ _ hb, ⟨hown.1, ?_⟩, hne⟩
    rcases hown.2 with h2 | ⟨g, cap, cur, fz, hv, hBg, hh, r⟩
    · exact .inl h2
    · exact .inr ⟨g, cap, cur, fz, hv, hBg, keep _ _ _ _ hh, r⟩
  rcases h with h | h
  · exact .inl (one _ h)
  · exact .inr (one _ h)
theorem Both.kept {w w' : World} {g1 g2 b : Nat} {us : List (Int × Int)} (h : Both w g1 g2 us) (hk : Kept b w w') (h1 : g1 ≠ b) (h2 : g2 ≠ b) : Both w' g1 g2 us := by
  obtain ⟨o1, k1, _, c1⟩ := h.1.kind
  obtain ⟨o2, k2, _, c2⟩ := h.2.1.kind
  exact ⟨h.1.same ((hk g1 o1 k1 (by simpa using h1) fun c fz => c1 c _ fz).trans k1.symm), h.2.1.same ((hk g2 o2 k2 (by simpa using h2) fun c fz => c2 c _ fz).trans k2.symm), h.2.2⟩
theorem heap_other {w w' : World} {b k : Nat} {cs : Array Value} {t : TypeId} {fz : Nat × Nat} (h : w.heap[k]? = some (.cells cs t fz)) (hk : Kept b w w') (hb : k ≠ b) (ht : t ≠ 5) : w'.heap[k]? = some (.cells cs t fz) :=
  hk k _ h (by simpa using hb) fun c fz' e => by injection e with _ e2 _; exact ht e2
theorem both_ne8 : (79 : TypeId) ≠ 5 := by decide
theorem tab_ne8 : (26 : TypeId) ≠ 5 := by decide
theorem keeps_two {B g1 g2 : Nat} {w w' : World} (h : Two g1 g2 w w') (h1 : g1 < B) (h2 : g2 < B) : KeepsFrom B w w' :=
  ⟨h.size, fun k o hB hk _ => (h.block k (Array.getElem?_eq_some_iff.1 hk).1 (by omega) (by omega)).trans hk⟩
theorem keeps_kept {B b : Nat} {w w' : World} (h : Kept b w w') (hs : w.heap.size ≤ w'.heap.size) (hb : b < B) : KeepsFrom B w w' :=
  ⟨hs, fun k o hB hk ho => h k o hk (by simp; omega) fun c fz e => by subst e; cases ho⟩
theorem cells_at {w : World} {b : Nat} {cs : Array Value} {t : TypeId} (h : w.heap[b]? = some (.cells cs t (0, 0))) (i : Nat) : w.cell? ⟨b, i, none⟩ = cs[i]? ∧ w.frozen? ⟨b, i, none⟩ = false :=
  ⟨by simp only [World.cell?, h]; simp, by simp only [World.frozen?, h]; simp⟩

theorem end_ne8 : (31 : TypeId) ≠ 5 := by decide
theorem OwnTab.other {w w' : World} {B b : Nat} {v : Value} {es : List (Int × Int)} (h : OwnTab w B v es) (hk : Kept b w w') (hb : b < B) : OwnTab w' B v es := by
  refine ⟨h.1, ?_⟩
  rcases h.2 with h2 | ⟨g, cap, cur, hv, hB, hh, r⟩
  · exact .inl h2
  · exact .inr ⟨g, cap, cur, hv, hB, heap_other hh hk (by omega) end_ne8, r⟩

/-- What a round finds: the table and the text of the lines that have gone. -/
def RoundOk (es : List (Int × Int)) (w0 : World) (s : ByteArray) (g1 g2 b3 r : Nat) (pre : List (LineOf s)) (W : World) : Prop :=
  ∃ us x, (us, x) = streamE es (pre.map Subtype.val) ∧ x.length ≤ pre.length * 2097173 ∧ Both W g1 g2 us ∧ Bld (b3 + 1) (b3 + 1) x W ∧ W.heap[b3]? = some (.cells #[.map (some g1), .map (some g2)] 79 (0, 0)) ∧ W.heap[r]? = some (.cells #[.slice none 0 0] 26 (0, 0)) ∧ Below w0.heap.size w0 W ∧ b3 + 3 ≤ W.heap.size
theorem roundOk_own (es : List (Int × Int)) (w0 : World) (s : ByteArray) (g1 g2 b3 r B : Nat) (h1 : g1 < B) (h2 : g2 < B) (hB : w0.heap.size ≤ B) : OwnFrom B (RoundOk es w0 s g1 g2 b3 r) := by
  rintro pre X Y row ⟨us, x, hT, hx, hb, hl, h3, hr3, hbl, hz⟩ hg hr
  have hr' : ∀ r, row = some r → ∃ o : Obj, X.heap[r]? = some o ∧ o.isCells = false := fun r e => (hr r e).2
  have hn : ∀ g, g < B → some g ≠ row := fun g hlt e => by have := (hr g e.symm).1; omega
  refine ⟨us, x, hT, hx, ⟨hb.1.same (hg.block g1 hb.1.lt (hn _ h1)), hb.2.1.same (hg.block g2 hb.2.1.lt (hn _ h2)), hb.2.2⟩, hl.kept hg hr', heap_kept h3 hg hr', heap_kept hr3 hg hr', hbl.grown hg hbl.size (fun k e => Nat.le_trans hB (hr k e).1), Nat.le_trans hz hg.size⟩

set_option maxRecDepth 100000 in
set_option maxHeartbeats 4000000 in
theorem implStream_in (n : Nat) (hn3 : 3 ≤ n) (v : Value) (es : List (Int × Int)) (s : ByteArray) (w : World) (hn : es.length ≤ 4194304) (hs : s.size ≤ 2097152) (ht : TabAt w v es) (hm : mapB es = true) (hl : strB s.data.toList = true) (hv : VarsOk w) :
    CallsIn Fence.wide n Tryz.prog 103 #[.agg #[v], .string s] w fun e w' => ∃ g c, e = .returned (.tuple #[.agg #[.slice g (streamE es (linesL s.data.toList)).1.length c], .string ⟨(streamE es (linesL s.data.toList)).2.toArray⟩]) ∧ OwnTab w' w.heap.size (.slice g (streamE es (linesL s.data.toList)).1.length c) (streamE es (linesL s.data.toList)).1 ∧ Below w.heap.size w w' := by
  have h1 : 1 ≤ n := by omega
  have HT := Lib.hid ht
  have hwf := mapB_wf hm
  obtain ⟨ad, cap, rfl, hcap, hr⟩ := ht
  have hM : Hid (∀ w, TabAt w (.slice ad es.length cap) es → Calls Tryz.prog 53 #[.agg #[.slice ad es.length cap]] w fun e w' => e = .returned (.bool true) ∧ Below w.heap.size w w') := fun w h => by rw [← hm]; exact implMapOk_any _ es w hn hwf h
  have hL : Hid (∀ w, Calls Tryz.prog 120 #[.string s] w fun e w' => e = .returned (.bool true) ∧ Below w.heap.size w w') := fun w => by rw [← hl]; exact implStr_any s w hs
  have HP : Hid (∀ w, TabAt w (.slice ad es.length cap) es → Calls Tryz.prog 46 #[.agg #[.slice ad es.length cap]] w fun e w' => ∃ g1 g2, e = .returned (.agg #[.map (some g1), .map (some g2)]) ∧ w.heap.size ≤ g1 ∧ w.heap.size ≤ g2 ∧ Both w' g1 g2 es ∧ Below w.heap.size w w') := fun w h => portsOf_any _ es w hn hwf h
  have HV : Hid (∀ w', Below w.heap.size w w' → VarsOk w') := fun w' h => hv.below h
  have HM := Lib.hid hm
  clear hr hm hwf hcap hn hl hv
  refine callsIn_of_wp_marks Tryz.func103 rfl trivial ?_ rfl
  simp only [Tryz.ntmps103, List.size_toArray, List.length_cons, List.length_nil, Nat.reduceAdd, Nat.reduceSub, Array.replicate_succ, Array.replicate_zero, List.push_toArray, List.append_toArray, List.nil_append, List.cons_append]
  gi_wp2_with (refine ⟨trivial, ?_⟩; first
    | (gi_at_call 53; refine (callsIn_wide.2 (hM.out _ (HT.out.below (((Below.refl _ _).alloc (Nat.le_refl _) _).alloc (by simp) _)))).mono ?_; rintro e w1 ⟨rfl, b1⟩; obtain ⟨cA, _, b01, z1⟩ := cell_two b1; have t0 := (cA 0).1; simp at t0; have hR1 : w1.heap[w.heap.size + 1]? = some (.cells #[.slice none 0 0] 26 (0, 0)) := (by have h := heap_alloc_new (w.alloc (.cells #[.slice ad es.length cap] 26)) (.cells #[.slice none 0 0] 26); simp only [World.size_alloc] at h; exact (b1.block (w.heap.size + 1) (by simp)).trans h); have HR1 := Lib.hid hR1; clear cA b1 hR1)
    | (gi_at_call 120; refine (callsIn_wide.2 (hL.out _)).mono ?_; rintro e w2 ⟨rfl, b2⟩; replace t0 := box_below t0 b2; replace HR1 := Lib.hid ((b2.block _ (by omega)).trans HR1.out); replace b01 := b01.trans (b2.mono (by omega)); replace z1 := Nat.le_trans z1 b2.size; clear b2)
    | (gi_at_call 46; refine (callsIn_wide.2 (HP.out _ (HT.out.below b01))).mono ?_; rintro e w3 ⟨g1, g2, rfl, l1, l2, hb, b3⟩; replace HR1 := Lib.hid ((b3.block _ (by omega)).trans HR1.out); have B3 := Lib.hid (b01.trans (b3.mono (by omega))); have z3 := b3.size; have m1 := hb.lt.1; have m2 := hb.lt.2; have HB := Lib.hid hb; clear b01 b3 hb t0)
    | (gi_at_call 62; refine (callsIn_wide.2 (linesOf_any _ _)).mono ?_; rintro e w' ⟨rfl, rfl⟩))
  obtain ⟨W0, hW0⟩ : ∃ W0, ((w3.alloc (.cells #[.map (some g1), .map (some g2)] 79)).alloc (.cells #[.pointer none, .slice none 0 0] 149)).alloc (.cells #[.string s] 9) = W0 := ⟨_, rfl⟩
  obtain ⟨b3, hb3⟩ : ∃ b3, b3 = w3.heap.size := ⟨_, rfl⟩
  have hs0 : W0.heap.size = b3 + 3 := by rw [← hW0, hb3]; simp
  have BW : Hid (Below w3.heap.size w3 W0) := by rw [← hW0]; exact (((Below.refl _ _).alloc (Nat.le_refl _) _).alloc (by simp) _).alloc (by simp; omega) _
  have hS : W0.cell? ⟨b3 + 2, 0, none⟩ = some (.string s) := by
    have := (cell_new ((w3.alloc (.cells #[.map (some g1), .map (some g2)] 79)).alloc (.cells #[.pointer none, .slice none 0 0] 149)) #[.string s] 9 0).1
    simp only [World.size_alloc] at this
    rw [← hW0, hb3]; exact this
  have I0 : RoundOk es w s g1 g2 b3 (w.heap.size + 1) [] W0 := by
    refine ⟨es, [], rfl, by simp, HB.out.later BW.out, ?_, ?_, ?_, B3.out.trans (BW.out.mono B3.out.size), by omega⟩
    · refine .inl ⟨Nat.le_refl _, .slice none 0 0, ?_, ⟨rfl, .inl ⟨rfl, rfl⟩⟩, fun e => by cases e⟩
      have := heap_alloc_new (w3.alloc (.cells #[.map (some g1), .map (some g2)] 79)) (.cells #[.pointer none, .slice none 0 0] 149)
      simp only [World.size_alloc] at this
      rw [← hW0, hb3, Below.heap_alloc _ _ _ (by simp)]
      exact this
    · rw [← hW0, hb3, Below.heap_alloc _ _ _ (by simp; omega), Below.heap_alloc _ _ _ (by simp)]
      exact heap_alloc_new w3 _
    · exact (BW.out.block _ (by omega)).trans HR1.out
  rw [hW0]
  rw [← hb3] at m1 m2 z3 ⊢
  have hs1 : W0.heap.size ≤ b3 + 3 := Nat.le_of_eq hs0
  have hs2 : b3 + 3 ≤ W0.heap.size := Nat.le_of_eq hs0.symm
  have hzw : w.heap.size + 2 ≤ b3 := by omega
  have HI0 := Lib.hid I0
  have HSt := Lib.hid hS
  have hln : (linesL s.data.toList).length ≤ 2097152 := by have := lines_len s.data.toList; rw [len_list] at this; omega
  clear hs0 hW0 hb3 I0 hS BW
  refine wpIn_rangeFunc_ownG rfl h1 (gf := 106) (lb := #[.pointer (some ⟨b3 + 1 + 1, 0, none⟩)]) rfl trivial (enters_of Tryz.func106 (by kernel_rfl) rfl)
    (tell_stopsS (n - 1) (by omega) (b3 + 2) s hs W0 (by omega) HSt.out) (fun _ _ => trivial) (fun _ _ _ _ _ _ _ _ => trivial) (Below.refl _ _) (fun _ => rfl)
    (RoundOk es w s g1 g2 b3 (w.heap.size + 1))
    (fun _ _ _ => False)
    (roundOk_own es w s g1 g2 b3 (w.heap.size + 1) W0.heap.size (by omega) (by omega) (by omega))
    (fun c => fun _ _ _ _ h _ _ => h.elim)
    HI0.out
    (fun x => { tmps := #[.agg #[.slice ad es.length cap], .string s, .pointer (some ⟨w.heap.size, 0, none⟩), undef, .pointer (some ⟨w.heap.size + 1, 0, none⟩), .string ⟨#[]⟩, .pointer (some ⟨b3, 0, none⟩), .pointer (some ⟨b3 + 1, 0, none⟩), .string ⟨x.1.toArray⟩, .agg #[.slice ad es.length cap], .bool true, .bool false, .bool false, .string s, .bool true, .bool false, .bool false, undef, .agg #[.slice ad es.length cap], .agg #[.map (some g1), .map (some g2)], .string s, .func (.func 106) #[] #[.pointer (some ⟨b3 + 1 + 1, 0, none⟩)], .string ⟨x.1.toArray⟩, undef, undef, undef, undef, undef, undef, undef, undef], defers := [] }) ?assign ?body ?done ?stop
  case assign =>
    intro l x W K hK
    gi_wp2
    exact hK
  case body =>
    rintro l pre x W ⟨us, y, hT, hy, hb, hbl, h3, hr3, hB, hz⟩ hpre
    have hmu : mapB us = true := by
      have := streamE_ok HM.out (pre.map Subtype.val)
      rw [← hT] at this
      exact this
    have hxl : x.1.length ≤ 2097152 := by have := line_len x.2; rw [len_list] at this; omega
    obtain ⟨us', hus⟩ : ∃ us', us' = (lineE us x.1).1 := ⟨_, rfl⟩
    obtain ⟨x', hx'⟩ : ∃ x', x' = (lineE us x.1).2 := ⟨_, rfl⟩
    have hx'l : x'.length ≤ 2097172 := by have := lineE_len us x.1; rw [hx']; omega
    have hyb : y.length ≤ 4400000000000 := by have : pre.length * 2097173 ≤ 2097152 * 2097173 := Nat.mul_le_mul_right _ (by omega); omega
    have HY : Hid ((y ++ (x' ++ [59])).length ≤ (pre ++ [x]).length * 2097173) := by show _ ≤ _; simp; omega
    have HN : Hid ((us', y ++ (x' ++ [59])) = streamE es ((pre ++ [x]).map Subtype.val)) := by
      show _ = _
      rw [List.map_append, List.map_singleton, streamE_snoc, ← hT, hus, hx']
      simp [strF]
    have HC : Hid (Calls Tryz.prog 130 #[.agg #[.map (some g1), .map (some g2)], .string ⟨x.1.toArray⟩] W fun e w' => e = .returned (.string ⟨x'.toArray⟩) ∧ Both w' g1 g2 us' ∧ Two g1 g2 W w') := by
      rw [hus, hx']
      exact lineOutside_any g1 g2 us ⟨x.1.toArray⟩ W (by show x.1.toArray.size ≤ _; simpa using hxl) hb hmu fun w' h => HV.out _ (hB.trans (h.below hB.size (by omega) (by omega)))
    have HW : Hid (∀ w, Bld (b3 + 1) (b3 + 1) y w → b3 + 1 ≤ w.heap.size → Calls Tryz.prog 129 #[.pointer (some ⟨b3 + 1, 0, none⟩), .string (⟨x'.toArray⟩ ++ ⟨#[59]⟩)] w fun e w' => e = .returned (.tuple #[.int .i64 ((x' ++ [59]).length : Int), .nilIface]) ∧ Bld (b3 + 1) (b3 + 1) (y ++ (x' ++ [59])) w' ∧ Below (b3 + 1) w w' ∧ Kept (b3 + 1) w w') := fun w h1 h2 => by
      rw [show (⟨x'.toArray⟩ ++ ⟨#[59]⟩ : ByteArray) = ⟨(x' ++ [59]).toArray⟩ from by apply ByteArray.ext; apply Array.ext'; simp]
      exact write_any (b3 + 1) (b3 + 1) y (x' ++ [59]) w h1 (by simp; omega) h2
    have p0 := (cells_at h3 0).1
    have p1 := (cells_at h3 1).1
    simp at p0 p1
    have HBo := Lib.hid hb
    have HBl := Lib.hid hbl
    have H3 := Lib.hid h3
    have HR3 := Lib.hid hr3
    have HB := Lib.hid hB
    have hd : 1 ≤ n - 1 - 1 := by omega
    clear hT hy hb hbl h3 hr3 hB hmu hus hx' hxl hyb
    gi_wp2_with (refine ⟨trivial, ?_⟩; first
      | (gi_at_call 130; refine (CallsIn.inRound l (callsIn_wide.2 HC.out)).mono ?_; rintro e W1 ⟨rfl, hb1, t1⟩; have HB1 := Lib.hid hb1; have T1 := Lib.hid t1; have zW := t1.size; clear hb1 t1)
      | (gi_at_call 129; refine (CallsIn.inRound l (callsIn_wide.2 (HW.out _ (HBl.out.two T1.out HBo.out) (by omega)))).mono ?_; rintro e W2 ⟨rfl, hl2, b2, k2⟩))
    have T1 := T1.out
    have e3 : W1.heap[b3]? = some (.cells #[.map (some g1), .map (some g2)] 79 (0, 0)) := (T1.block b3 (by omega) (by omega) (by omega)).trans H3.out
    have er : W1.heap[w.heap.size + 1]? = some (.cells #[.slice none 0 0] 26 (0, 0)) := (T1.block _ (by omega) (by omega) (by omega)).trans HR3.out
    exact ⟨(keeps_two T1 (by omega) (by omega)).trans (keeps_kept k2 b2.size (by omega)), trivial, us', y ++ (x' ++ [59]), HN.out, HY.out, HB1.out.kept k2 (by omega) (by omega), hl2, heap_other e3 k2 (by omega) both_ne8, heap_other er k2 (by omega) tab_ne8, (HB.out.trans (T1.below HB.out.size (by omega) (by omega))).trans (b2.mono (by omega)), by have := b2.size; omega⟩
  case done =>
    rintro D xs W hD hxs ⟨us, y, hT, hy, hb, hbl, h3, hr3, hB, hz⟩ hK
    rw [hxs] at hT
    have hmu : mapB us = true := by
      have := streamE_ok HM.out (linesL s.data.toList)
      rw [← hT] at this
      exact this
    have HO : Hid (Calls Tryz.prog 122 #[.agg #[.map (some g1), .map (some g2)]] W fun e w' => ∃ a c, e = .returned (.agg #[.slice a us.length c]) ∧ OwnTab w' W.heap.size (.slice a us.length c) us ∧ Below W.heap.size W w') := tableOf_any g1 g2 us W hb (valsL_ok hmu) (by have := mapB_le hmu; omega)
    have HS : Hid (∀ w, Bld (b3 + 1) (b3 + 1) y w → b3 + 1 ≤ w.heap.size → Calls Tryz.prog 131 #[.pointer (some ⟨b3 + 1, 0, none⟩)] w fun e w' => e = .returned (.string ⟨y.toArray⟩) ∧ Bld (b3 + 1) (b3 + 1) y w' ∧ Below (b3 + 1) w w' ∧ Kept (b3 + 1) w w') := fun w h1 h2 => buildString_any (b3 + 1) (b3 + 1) y w h1 h2
    have p0 := (cells_at h3 0).1
    have p1 := (cells_at h3 1).1
    simp at p0 p1
    have HBo := Lib.hid hb
    have HBl := Lib.hid hbl
    have HR3 := Lib.hid hr3
    have HB := Lib.hid hB
    have HK := Lib.hid hK
    have HTT := Lib.hid hT
    clear hT hy hb hbl h3 hr3 hB hmu hxs hK
    gi_wp2_with (refine ⟨trivial, ?_⟩; first
      | (gi_at_call 122; refine (callsIn_wide.2 HO.out).mono ?_; rintro e W1 ⟨ga, ca, rfl, o1, b1⟩; have O1 := Lib.hid o1; have B1 := Lib.hid b1; have zW := b1.size; clear o1 b1)
      | (gi_at_call 131; refine (callsIn_wide.2 (HS.out _ (HBl.out.two (Two.of_below B1.out) HBo.out) (by omega))).mono ?_; rintro e W2 ⟨rfl, _, b2, k2⟩; have z2 := b2.size; have hr2 := heap_other ((B1.out.block _ (by omega)).trans HR3.out) k2 (by omega) tab_ne8; have hc2 := (cells_at hr2 0).1; have hf2 := (cells_at hr2 0).2; simp at hc2; have HR2 := Lib.hid hr2; have B2 := Lib.hid b2; have K2 := Lib.hid k2; clear b2 k2 hr2))
    have hD2 : W2.heap[D]? = some (.deferred (some [])) := K2.out D _ ((B1.out.block D (Array.getElem?_eq_some_iff.1 HK.out).1).trans HK.out) (by simp; omega) (fun c fz e => by cases e)
    have hK' := (KeepsOthers.setCell W2 ⟨w.heap.size + 1, 0, none⟩ (.slice ga us.length ca)).same D _ hD2 rfl
    have O2 : OwnTab W2 W.heap.size (.slice ga us.length ca) us := O1.out.other K2.out (by omega)
    have BB : Below w.heap.size w W2 := (HB.out.trans (B1.out.mono (by omega))).trans (B2.out.mono (by omega))
    have hc3 : (W2.setCell ⟨w.heap.size + 1, 0, none⟩ (.slice ga us.length ca)).cell? ⟨w.heap.size + 1, 0, none⟩ = some (.slice ga us.length ca) := World.cell?_setCell_same _ _ _ hc2
    have hg := grownBy_putObj' (W2.setCell ⟨w.heap.size + 1, 0, none⟩ (.slice ga us.length ca)) D (.deferred none)
    have hrw : ∀ r, some D = some r → ∃ o : Obj, (W2.setCell ⟨w.heap.size + 1, 0, none⟩ (.slice ga us.length ca)).heap[r]? = some o ∧ o.isCells = false := fun r e => by cases e; exact ⟨_, hK', rfl⟩
    refine ⟨by simp, .inl ⟨_, _, rfl, run_takeDeferred hK', ?_⟩⟩
    have hc5 := cell_kept hc3 hg hrw
    refine ⟨.tuple #[.agg #[.slice ga us.length ca], .string ⟨y.toArray⟩], ?_, ga, ca, ?_, ?_, ?_⟩
    · simp [results, Tryz.results103, go_sem, hc5]
    · rw [← HTT.out]
    · rw [← HTT.out]
      exact OwnTab.kept (OwnTab.mono (B := W.heap.size) (ownsRow_setCell_below (a := ⟨w.heap.size + 1, 0, none⟩) O2 (by simp; omega) _) (by omega)) hg hrw
    · exact (BB.setCell (by simp) _).trans (belowK_b (w := w) (Nat.le_refl _) _ D _ _ (by omega) hK' rfl rfl)
  case stop =>
    intro D c pre W hD hpre hx
    exact hx.elim

end Go.Proofs.YtgfkiljkpkfapaaGreatDoor

/- RwrStream of the specification. Conditions: at most 2^22 ends; the text has at most 2^21 bytes. -/
namespace Go.Proofs.YtgfkiljkpkfapaaGreatDoor
open Go.RowKit Go.Sort

end Go.Proofs.YtgfkiljkpkfapaaGreatDoor

/- RwrStream of the program and of the specification, in one form. Conditions: at most 2^22 ends; all numbers are ints; the text has at most 2^21 bytes; the variables that are read hold what they are laid with. -/
namespace Go.Proofs.YtgfkiljkpkfapaaGreatDoor
open Go.RowKit

/-- What RwrStream answers. -/
def strA (es : List (Int × Int)) (l : List UInt8) : List (Int × Int) × List UInt8 := if mapB es = true ∧ strB l = true then streamE es (linesL l) else ([], [])

set_option maxRecDepth 100000 in
set_option maxHeartbeats 1600000 in
theorem implRwrStream_not (v : Value) (es : List (Int × Int)) (s : ByteArray) (w : World) (hn : es.length ≤ 4194304) (hs : s.size ≤ 2097152) (hwf : wfE es) (ht : TabAt w v es) (hno : (mapB es && strB s.data.toList) = false) :
    Calls Tryz.prog 103 #[.agg #[v], .string s] w fun e w' => e = .returned (.tuple #[.agg #[.slice none 0 0], .string ⟨#[]⟩]) ∧ Below w.heap.size w w' := by
  have HT := Lib.hid ht
  obtain ⟨ad, cap, rfl, hcap, hr⟩ := ht
  have hM : Hid (∀ w, TabAt w (.slice ad es.length cap) es → Calls Tryz.prog 53 #[.agg #[.slice ad es.length cap]] w fun e w' => e = .returned (.bool (mapB es)) ∧ Below w.heap.size w w') := fun w h => implMapOk_any _ es w hn hwf h
  have hL : Hid (∀ w, Calls Tryz.prog 120 #[.string s] w fun e w' => e = .returned (.bool (strB s.data.toList)) ∧ Below w.heap.size w w') := fun w => implStr_any s w hs
  clear hr hwf
  by_cases hm : mapB es = true
  · have hi : strB s.data.toList = false := by rw [hm] at hno; simpa using hno
    rw [hm] at hM
    rw [hi] at hL
    clear hno hm
    go_enter Tryz.func103, Tryz.ntmps103
    go_wp2_with (first
      | (go_at_call 53; refine (hM.out _ (HT.out.below (((Below.refl _ _).alloc (Nat.le_refl _) _).alloc (by simp) _))).mono ?_; rintro e w1 ⟨rfl, b1⟩; obtain ⟨_, cB, b01, z1⟩ := cell_two b1; have r0 := (cB 0).1; have g0 := (cB 0).2; simp at r0; clear cB)
      | (go_at_call 120; refine (hL.out _).mono ?_; rintro e w2 ⟨rfl, b2⟩; replace g0 := box_frozen r0 g0 b2; replace r0 := box_below r0 b2; replace b01 := b01.trans (b2.mono (by omega))))
    refine bodyPost_ret (v := .tuple #[.agg #[.slice none 0 0], .string ⟨#[]⟩]) (by simp [results, Tryz.results103, go_sem, World.cell?_setCell_same _ _ _ r0]) rfl ⟨rfl, ?_⟩
    exact b01.setCell (by simp) _
  · have hm' : mapB es = false := by simpa using hm
    rw [hm'] at hM
    clear hno hm hm'
    go_enter Tryz.func103, Tryz.ntmps103
    go_wp2_with (go_at_call 53; refine (hM.out _ (HT.out.below (((Below.refl _ _).alloc (Nat.le_refl _) _).alloc (by simp) _))).mono ?_; rintro e w1 ⟨rfl, b1⟩; obtain ⟨_, cB, b01, z1⟩ := cell_two b1; have r0 := (cB 0).1; have g0 := (cB 0).2; simp at r0; clear cB)
    refine bodyPost_ret (v := .tuple #[.agg #[.slice none 0 0], .string ⟨#[]⟩]) (by simp [results, Tryz.results103, go_sem, World.cell?_setCell_same _ _ _ r0]) rfl ⟨rfl, ?_⟩
    exact b01.setCell (by simp) _

theorem implStream_ok (v : Value) (es : List (Int × Int)) (s : ByteArray) (w : World) (hn : es.length ≤ 4194304) (hs : s.size ≤ 2097152) (ht : TabAt w v es) (hm : mapB es = true) (hl : strB s.data.toList = true) (hv : VarsOk w) :
    Calls Tryz.prog 103 #[.agg #[v], .string s] w fun e w' => ∃ g c, e = .returned (.tuple #[.agg #[.slice g (streamE es (linesL s.data.toList)).1.length c], .string ⟨(streamE es (linesL s.data.toList)).2.toArray⟩]) ∧ OwnTab w' w.heap.size (.slice g (streamE es (linesL s.data.toList)).1.length c) (streamE es (linesL s.data.toList)).1 ∧ Below w.heap.size w w' :=
  callsIn_wide.1 (implStream_in 3 (by omega) v es s w hn hs ht hm hl hv)

theorem strA_yes {es : List (Int × Int)} {l : List UInt8} (h : (mapB es && strB l) = true) : strA es l = streamE es (linesL l) := if_pos (by simpa using h)
theorem strA_not {es : List (Int × Int)} {l : List UInt8} (h : (mapB es && strB l) = false) : strA es l = ([], []) := if_neg (by simpa using h)
theorem strA_le (es : List (Int × Int)) (l : List UInt8) : (strA es l).1.length ≤ 6 := by
  by_cases h : (mapB es && strB l) = true
  · rw [strA_yes h]
    exact mapB_le (streamE_ok (by simp at h; exact h.1) _)
  · rw [strA_not (by simpa using h)]
    simp

theorem implStrA (v : Value) (es : List (Int × Int)) (s : ByteArray) (w : World) (hn : es.length ≤ 4194304) (hs : s.size ≤ 2097152) (hwf : wfE es) (ht : TabAt w v es) (hv : VarsOk w) :
    Calls Tryz.prog 103 #[.agg #[v], .string s] w fun e w' => ∃ g c, e = .returned (.tuple #[.agg #[.slice g (strA es s.data.toList).1.length c], .string ⟨(strA es s.data.toList).2.toArray⟩]) ∧ FreshTab w' w.heap.size (.slice g (strA es s.data.toList).1.length c) (strA es s.data.toList).1 ∧ Below w.heap.size w w' := by
  by_cases h : (mapB es && strB s.data.toList) = true
  · rw [strA_yes h]
    simp only [Bool.and_eq_true] at h
    refine (implStream_ok v es s w hn hs ht h.1 h.2 hv).mono ?_
    rintro e w' ⟨g, c, rfl, h1, h2⟩
    exact ⟨_, _, rfl, h1.fresh, h2⟩
  · have h' : (mapB es && strB s.data.toList) = false := by simpa using h
    rw [strA_not h']
    refine (implRwrStream_not v es s w hn hs hwf ht h').mono ?_
    rintro e w' ⟨rfl, h2⟩
    exact ⟨_, _, rfl, FreshTab.nil _ _, h2⟩

end Go.Proofs.YtgfkiljkpkfapaaGreatDoor

/- BakLine of the program: as the specification's, of every table and text. Conditions: at most 2^22 ends, all numbers ints; the text has at most 2^21 bytes; the variables that are read hold what they are laid with. -/
namespace Go.Proofs.YtgfkiljkpkfapaaGreatDoor
open Go.RowKit Go.Sort

theorem box_port {l : List UInt8} {p : Int} (h : boxE l = some p) : 1 ≤ p ∧ p ≤ 999 := by
  unfold boxE at h
  split at h
  · split at h
    · rename_i a q hr
      split at h
      · rename_i ha
        subst ha
        obtain rfl : q = p := by simpa using h
        have he := (rdE_some hr).2
        simp [endB, insB, outB, boxB, inB] at he
        omega
      · cases h
    · cases h
  · cases h

set_option maxRecDepth 100000 in
set_option maxHeartbeats 1600000 in
theorem lineInside_any (g1 g2 : Nat) (es : List (Int × Int)) (s : ByteArray) (w : World) (hs : s.size ≤ 2097152) (hb : Both w g1 g2 es) (hv : VarsOk w) (htb : TabOk w) :
    Calls Tryz.prog 144 #[.agg #[.map (some g1), .map (some g2)], .string s] w fun e w' => e = .returned (.string ⟨(backE es s.data.toList).toArray⟩) ∧ Below w.heap.size w w' := by
  have HBo : Hid (∀ w', Below w.heap.size w w' → Both w' g1 g2 es) := fun w' h => hb.later h
  have HV := Lib.hid hv
  have HTb : Hid (∀ w', Below w.heap.size w w' → TabOk w') := fun w' h => htb.below h (Nat.le_refl _)
  clear hb hv htb
  rcases hx : boxE s.data.toList with _ | p
  · have HB : Hid (∀ w, VarsOk w → Calls Tryz.prog 162 #[.string s] w fun e w' => e = .returned (.tuple #[.int .i64 0, .bool false]) ∧ Below w.heap.size w w') := fun w hv => by have := implBox_any s w hs hv; rw [hx] at this; exact this
    have HE : Hid (backE es s.data.toList = s.data.toList) := by show backE _ _ = _; unfold backE; rw [hx]
    clear hx
    go_enter Tryz.func144, Tryz.ntmps144
    go_wp2_with fail
    (go_at_call 162; refine (HB.out _ (HV.out.below ((Below.refl _ _).alloc (Nat.le_refl _) _))).mono ?_; rintro e w1 ⟨rfl, b1⟩)
    go_wp2_with fail
    go_ret
    exact ⟨by rw [HE.out, str_same]; rfl, ((Below.refl _ _).alloc (Nat.le_refl _) _).trans (b1.mono (by simp))⟩
  · have hp := box_port hx
    have wn : (Lit.int .i64 p).wf = true := WalkArith.wf_i64 (by omega)
    have HB : Hid (∀ w, VarsOk w → Calls Tryz.prog 162 #[.string s] w fun e w' => e = .returned (.tuple #[.int .i64 p, .bool true]) ∧ Below w.heap.size w w') := fun w hv => by have := implBox_any s w hs hv; rw [hx] at this; exact this
    rcases hi : endI es p with _ | ⟨a, q⟩
    · have HE : Hid (backE es s.data.toList = s.data.toList) := by show backE _ _ = _; unfold backE; rw [hx]; simp only [hi]
      have HM : Hid (∀ w, Both w g1 g2 es → Calls Tryz.prog 47 #[.agg #[.map (some g1), .map (some g2)], .int .i64 p] w fun e w' => e = .returned (.tuple #[.agg #[.int .i64 0, .int .i64 0], .bool false]) ∧ Below w.heap.size w w') := fun w h => by have := key_any g1 g2 es p w h wn; rw [hi] at this; exact this
      clear hx hi hp wn
      go_enter Tryz.func144, Tryz.ntmps144
      go_wp2_with fail
      (go_at_call 162; refine (HB.out _ (HV.out.below ((Below.refl _ _).alloc (Nat.le_refl _) _))).mono ?_; rintro e w1 ⟨rfl, b1⟩; have B1 : Hid (Below w.heap.size w w1) := ((Below.refl _ _).alloc (Nat.le_refl _) _).trans (b1.mono (by simp)); have t0 : w1.cell? ⟨w.heap.size, 0, none⟩ = some (.map (some g1)) := (by rw [b1.cell (by simp)]; simp); have t1 : w1.cell? ⟨w.heap.size, 1, none⟩ = some (.map (some g2)) := (by rw [b1.cell (by simp)]; simp); clear b1)
      go_wp2_with fail
      (go_at_call 47; refine (HM.out _ (HBo.out _ B1.out)).mono ?_; rintro e w2 ⟨rfl, b2⟩; have B2 : Hid (Below w.heap.size w w2) := B1.out.trans (b2.mono B1.out.size); clear b2)
      go_wp2_with fail
      go_ret
      exact ⟨by rw [HE.out, str_same]; rfl, B2.out.alloc B2.out.size _⟩
    · have HE : Hid (backE es s.data.toList = lpL a q) := by show backE _ _ = _; unfold backE; rw [hx]; simp only [hi]
      have HM : Hid (∀ w, Both w g1 g2 es → Calls Tryz.prog 47 #[.agg #[.map (some g1), .map (some g2)], .int .i64 p] w fun e w' => e = .returned (.tuple #[.agg #[.int .i64 a, .int .i64 q], .bool true]) ∧ Below w.heap.size w w') := fun w h => by have := key_any g1 g2 es p w h wn; rw [hi] at this; exact this
      clear hx hi hp wn
      go_enter Tryz.func144, Tryz.ntmps144
      go_wp2_with fail
      (go_at_call 162; refine (HB.out _ (HV.out.below ((Below.refl _ _).alloc (Nat.le_refl _) _))).mono ?_; rintro e w1 ⟨rfl, b1⟩; have B1 : Hid (Below w.heap.size w w1) := ((Below.refl _ _).alloc (Nat.le_refl _) _).trans (b1.mono (by simp)); have t0 : w1.cell? ⟨w.heap.size, 0, none⟩ = some (.map (some g1)) := (by rw [b1.cell (by simp)]; simp); have t1 : w1.cell? ⟨w.heap.size, 1, none⟩ = some (.map (some g2)) := (by rw [b1.cell (by simp)]; simp); clear b1)
      go_wp2_with fail
      (go_at_call 47; refine (HM.out _ (HBo.out _ B1.out)).mono ?_; rintro e w2 ⟨rfl, b2⟩; have B2 : Hid (Below w.heap.size w w2) := B1.out.trans (b2.mono B1.out.size); clear b2)
      have B3 := Lib.hid (B2.out.alloc B2.out.size (.cells #[.int .i64 a, .int .i64 q] 31))
      go_wp2_with fail
      (go_at_call 146; refine (implLinPort_any a q _ (HTb.out _ B3.out)).mono ?_; rintro e w3 ⟨rfl, b3⟩)
      go_wp2_with fail
      go_ret
      exact ⟨by rw [HE.out]; rfl, B3.out.trans (b3.mono B3.out.size)⟩

set_option maxRecDepth 100000 in
set_option maxHeartbeats 1600000 in
theorem implBakLine_any (v : Value) (es : List (Int × Int)) (s : ByteArray) (w : World) (hn : es.length ≤ 4194304) (hs : s.size ≤ 2097152) (hwf : wfE es) (ht : TabAt w v es) (hv : VarsOk w) (htb : TabOk w) :
    Calls Tryz.prog 128 #[.agg #[v], .string s] w fun e w' => e = .returned (.string ⟨(bakE es s.data.toList).toArray⟩) ∧ Below w.heap.size w w' := by
  have HT := Lib.hid ht
  obtain ⟨ad, cap, rfl, _, _⟩ := ht
  have HV : Hid (∀ w', Below w.heap.size w w' → VarsOk w' ∧ TabOk w') := fun w' h => ⟨hv.below h, htb.below h (Nat.le_refl _)⟩
  clear hv htb
  by_cases hm : mapB es = true
  · have hM : Hid (∀ w, TabAt w (.slice ad es.length cap) es → Calls Tryz.prog 53 #[.agg #[.slice ad es.length cap]] w fun e w' => e = .returned (.bool true) ∧ Below w.heap.size w w') := fun w h => by rw [← hm]; exact implMapOk_any _ es w hn hwf h
    by_cases hl : linB s.data.toList = true
    · have hL : Hid (∀ w, Calls Tryz.prog 45 #[.string s] w fun e w' => e = .returned (.bool true) ∧ w = w') := fun w => by rw [← hl]; exact implLin_any s w (by omega)
      have HP : Hid (∀ w, TabAt w (.slice ad es.length cap) es → Calls Tryz.prog 46 #[.agg #[.slice ad es.length cap]] w fun e w' => ∃ g1 g2, e = .returned (.agg #[.map (some g1), .map (some g2)]) ∧ w.heap.size ≤ g1 ∧ w.heap.size ≤ g2 ∧ Both w' g1 g2 es ∧ Below w.heap.size w w') := fun w h => portsOf_any _ es w hn hwf h
      have HI : Hid (∀ g1 g2 w, Both w g1 g2 es → VarsOk w → TabOk w → Calls Tryz.prog 144 #[.agg #[.map (some g1), .map (some g2)], .string s] w fun e w' => e = .returned (.string ⟨(bakE es s.data.toList).toArray⟩) ∧ Below w.heap.size w w') := fun g1 g2 w h1 h2 h3 => by
        rw [show bakE es s.data.toList = backE es s.data.toList from if_pos ⟨hm, hl⟩]
        exact lineInside_any g1 g2 es s w hs h1 h2 h3
      obtain ⟨x, hx⟩ : ∃ x, x = (bakE es s.data.toList).toArray := ⟨_, rfl⟩
      rw [← hx] at HI ⊢
      clear hm hl hwf hx hn
      go_enter Tryz.func128, Tryz.ntmps128
      go_wp2_with (first
        | (go_at_call 53; refine (hM.out _ (HT.out.below ((Below.refl _ _).alloc (Nat.le_refl _) _))).mono ?_; rintro e w1 ⟨rfl, b1⟩; have B1 : Hid (Below w.heap.size w w1) := ((Below.refl _ _).alloc (Nat.le_refl _) _).trans (b1.mono (by simp)); have t0 : w1.cell? ⟨w.heap.size, 0, none⟩ = some (.slice ad es.length cap) := (by rw [b1.cell (by simp)]; simp); clear b1)
        | (go_at_call 45; refine (hL.out _).mono ?_; rintro e w2 ⟨rfl, rfl⟩)
        | (go_at_call 46; refine (HP.out _ (HT.out.below B1.out)).mono ?_; rintro e w3 ⟨g1, g2, rfl, _, _, hb, b3⟩; have HB := Lib.hid hb; have B3 : Hid (Below w.heap.size w w3) := B1.out.trans (b3.mono B1.out.size); clear b3 hb)
        | (go_at_call 144; refine (HI.out _ _ _ HB.out (HV.out _ B3.out).1 (HV.out _ B3.out).2).mono ?_; rintro e w4 ⟨rfl, b4⟩; have B4 : Hid (Below w.heap.size w w4) := B3.out.trans (b4.mono B3.out.size)))
      go_ret
      exact ⟨rfl, B4.out⟩
    · have hl' : linB s.data.toList = false := by simpa using hl
      have hL : Hid (∀ w, Calls Tryz.prog 45 #[.string s] w fun e w' => e = .returned (.bool false) ∧ w = w') := fun w => by rw [← hl']; exact implLin_any s w (by omega)
      rw [show bakE es s.data.toList = [] from if_neg (fun h => hl h.2)]
      clear hm hl hl' hwf HV
      go_enter Tryz.func128, Tryz.ntmps128
      go_wp2_with (first
        | (go_at_call 53; refine (hM.out _ (HT.out.below ((Below.refl _ _).alloc (Nat.le_refl _) _))).mono ?_; rintro e w1 ⟨rfl, b1⟩; have B1 : Hid (Below w.heap.size w w1) := ((Below.refl _ _).alloc (Nat.le_refl _) _).trans (b1.mono (by simp)); clear b1)
        | (go_at_call 45; refine (hL.out _).mono ?_; rintro e w2 ⟨rfl, rfl⟩))
      go_ret
      exact ⟨rfl, B1.out⟩
  · have hm' : mapB es = false := by simpa using hm
    have hM : Hid (∀ w, TabAt w (.slice ad es.length cap) es → Calls Tryz.prog 53 #[.agg #[.slice ad es.length cap]] w fun e w' => e = .returned (.bool false) ∧ Below w.heap.size w w') := fun w h => by rw [← hm']; exact implMapOk_any _ es w hn hwf h
    rw [show bakE es s.data.toList = [] from if_neg (fun h => hm h.1)]
    clear hm hm' hwf HV
    go_enter Tryz.func128, Tryz.ntmps128
    go_wp2_with (go_at_call 53; refine (hM.out _ (HT.out.below ((Below.refl _ _).alloc (Nat.le_refl _) _))).mono ?_; rintro e w1 ⟨rfl, b1⟩)
    go_ret
    exact ⟨rfl, ((Below.refl _ _).alloc (Nat.le_refl _) _).trans (b1.mono (by simp))⟩

end Go.Proofs.YtgfkiljkpkfapaaGreatDoor

/- Whether a stream's lines give no port, and whether lines may have gone inside, as the program asks. Conditions: a table that is ok; texts of at most 2^21 bytes. -/
namespace Go.Proofs.YtgfkiljkpkfapaaGreatDoor
open Go.RowKit Go.Sort

set_option maxRecDepth 100000 in
set_option maxHeartbeats 1600000 in
theorem implKnow_any (v : Value) (es : List (Int × Int)) (s : ByteArray) (w : World) (hm : mapB es = true) (hs : s.size ≤ 2097152) (ht : TabAt w v es) (hv : VarsOk w) :
    Calls Tryz.prog 101 #[.agg #[v], .string s] w fun e w' => e = .returned (.bool (strB s.data.toList && knowB es s.data.toList)) ∧ Below w.heap.size w w' := by
  have h6 := mapB_le hm
  have HT := Lib.hid ht
  obtain ⟨ad, cap, rfl, _, _⟩ := ht
  have B0 : Hid (Below w.heap.size w (w.alloc (.cells #[.slice ad es.length cap] 26))) := (Below.refl _ _).alloc (Nat.le_refl _) _
  have HC : Hid (∀ w, TabAt w (.slice ad es.length cap) es → VarsOk w → Calls Tryz.prog 103 #[.agg #[.slice ad es.length cap], .string s] w fun e w' => ∃ g c, e = .returned (.tuple #[.agg #[.slice g (strA es s.data.toList).1.length c], .string ⟨(strA es s.data.toList).2.toArray⟩]) ∧ Below w.heap.size w w') := fun w ht hv => by
    refine (implStrA _ es s w (by omega) hs (mapB_wf hm) ht hv).mono ?_
    rintro e w' ⟨g, c, rfl, _, b⟩
    exact ⟨g, c, rfl, b⟩
  have HS : Hid (∀ w, Calls Tryz.prog 120 #[.string s] w fun e w' => e = .returned (.bool (strB s.data.toList)) ∧ Below w.heap.size w w') := fun w => implStr_any s w hs
  have HK : Hid (strB s.data.toList = true → knowB es s.data.toList = decide ((strA es s.data.toList).1.length = es.length)) := fun h => by
    rw [strA_yes (by rw [hm, h]; rfl)]; rfl
  have HT0 := Lib.hid (HT.out.below B0.out)
  have HV0 := Lib.hid (hv.below B0.out)
  obtain ⟨q0, hq0⟩ : ∃ q, q = strB s.data.toList := ⟨_, rfl⟩
  obtain ⟨q1, hq1⟩ : ∃ q, q = knowB es s.data.toList := ⟨_, rfl⟩
  obtain ⟨k, hk⟩ : ∃ k, k = (strA es s.data.toList).1.length := ⟨_, rfl⟩
  obtain ⟨n, hn⟩ : ∃ n, n = es.length := ⟨_, rfl⟩
  obtain ⟨ot, hot⟩ : ∃ o : ByteArray, o = ⟨(strA es s.data.toList).2.toArray⟩ := ⟨_, rfl⟩
  rw [← hq0, ← hq1, ← hk, ← hn] at HK
  rw [← hq0, ← hq1]
  rw [← hq0] at HS
  rw [← hk, ← hot, ← hn] at HC
  rw [← hn] at HT0 HV0 B0 h6 ⊢
  have hk6 : k ≤ 6 := by rw [hk]; exact strA_le _ _
  clear hk hn hot hq0 hq1 HT hm hv
  obtain ⟨q, hq⟩ : ∃ q, q = (q0 && q1) := ⟨_, rfl⟩
  rw [← hq]
  cases q0
  · have hqf : q = false := hq
    subst hqf
    clear hq HK
    go_enter Tryz.func101, Tryz.ntmps101
    go_wp2_with fail
    (go_at_call 103; refine (HC.out _ HT0.out HV0.out).mono ?_; rintro e w1 ⟨g, c, rfl, b1⟩)
    obtain ⟨x0, _⟩ := fresh1 b1
    have hsz : w.heap.size < w1.heap.size := by have := b1.size; simp at this; omega
    have B1 : Hid (Below w.heap.size w w1) := B0.out.trans (b1.mono (by simp))
    have C1 : Hid (∀ o, Below w.heap.size w (w1.alloc o)) := fun o => B1.out.alloc B1.out.size o
    clear b1
    go_wp2_with fail
    (go_at_call 120; refine (HS.out _).mono ?_; rintro e w2 ⟨rfl, b2⟩)
    have B2 : Hid (Below w.heap.size w w2) := (C1.out _).trans (b2.mono (C1.out _).size)
    clear b2
    go_wp2_with fail
    go_ret
    exact ⟨rfl, B2.out⟩
  · have HK2 := Lib.hid (HK.out rfl)
    clear HK
    by_cases he : k = n
    · have hqt : q = true := by rw [hq, HK2.out, decide_eq_true he]; rfl
      subst hqt
      clear hq HK2
      go_enter Tryz.func101, Tryz.ntmps101
      go_wp2_with fail
      (go_at_call 103; refine (HC.out _ HT0.out HV0.out).mono ?_; rintro e w1 ⟨g, c, rfl, b1⟩)
      obtain ⟨x0, _⟩ := fresh1 b1
      have hsz : w.heap.size < w1.heap.size := by have := b1.size; simp at this; omega
      have B1 : Hid (Below w.heap.size w w1) := B0.out.trans (b1.mono (by simp))
      have C1 : Hid (∀ o, Below w.heap.size w (w1.alloc o)) := fun o => B1.out.alloc B1.out.size o
      clear b1
      go_wp2_with fail
      (go_at_call 120; refine (HS.out _).mono ?_; rintro e w2 ⟨rfl, b2⟩)
      have B2 : Hid (Below w.heap.size w w2) := (C1.out _).trans (b2.mono (C1.out _).size)
      obtain ⟨y0, _⟩ := fresh1 b2
      have x2 : w2.cell? ⟨w.heap.size, 0, none⟩ = some (.slice ad n cap) := by
        rw [b2.cell (p := ⟨w.heap.size, 0, none⟩) (by simp; omega), cell_alloc_lt hsz]; exact x0
      clear b2 x0
      go_wp2_with fail
      go_ret
      exact ⟨ret_bool (by simp), B2.out⟩
    · have hqt : q = false := by rw [hq, HK2.out, decide_eq_false he]; rfl
      subst hqt
      clear hq HK2
      go_enter Tryz.func101, Tryz.ntmps101
      go_wp2_with fail
      (go_at_call 103; refine (HC.out _ HT0.out HV0.out).mono ?_; rintro e w1 ⟨g, c, rfl, b1⟩)
      obtain ⟨x0, _⟩ := fresh1 b1
      have hsz : w.heap.size < w1.heap.size := by have := b1.size; simp at this; omega
      have B1 : Hid (Below w.heap.size w w1) := B0.out.trans (b1.mono (by simp))
      have C1 : Hid (∀ o, Below w.heap.size w (w1.alloc o)) := fun o => B1.out.alloc B1.out.size o
      clear b1
      go_wp2_with fail
      (go_at_call 120; refine (HS.out _).mono ?_; rintro e w2 ⟨rfl, b2⟩)
      have B2 : Hid (Below w.heap.size w w2) := (C1.out _).trans (b2.mono (C1.out _).size)
      obtain ⟨y0, _⟩ := fresh1 b2
      have x2 : w2.cell? ⟨w.heap.size, 0, none⟩ = some (.slice ad n cap) := by
        rw [b2.cell (p := ⟨w.heap.size, 0, none⟩) (by simp; omega), cell_alloc_lt hsz]; exact x0
      clear b2 x0
      go_wp2_with fail
      go_ret
      exact ⟨ret_bool (by simp; omega), B2.out⟩

end Go.Proofs.YtgfkiljkpkfapaaGreatDoor

/- StrLines of the program: the lines of a text as a list of its own, and what is behind the last sign. Condition: the text has at most 2^21 bytes. -/
namespace Go.Proofs.YtgfkiljkpkfapaaGreatDoor
open Go.RowKit Go.Shelf

set_option maxRecDepth 100000 in
set_option maxHeartbeats 2000000 in
theorem append_in (n : Nat) (hn : 3 ≤ n) (s : ByteArray) (hs : s.size ≤ 2097152) (Bn : Nat) (w : World) (hBn : Bn < w.heap.size) (hc : w.cell? ⟨Bn, 0, none⟩ = some (.string s)) :
    CallsIn Fence.wide n Tryz.prog 105 #[.slice none 0 0, .func (.func 106) #[] #[.pointer (some ⟨Bn, 0, none⟩)]] w fun e w' => ∃ v, e = .returned v ∧ w'.ownsRow w.heap.size 9 1 v (linesL s.data.toList).length ((linesL s.data.toList).map strV) ∧ Below w.heap.size w w' := by
  have h1 : 1 ≤ n := by omega
  have hll := lines_len s.data.toList
  rw [len_list] at hll
  obtain ⟨i0, hi, hz0, hz1, hz2⟩ := info_parts infoStr
  refine callsIn_of_wp_marks Tryz.func105 rfl trivial ?_ rfl
  simp only [Tryz.ntmps105, List.size_toArray, List.length_cons, List.length_nil, Nat.reduceAdd, Nat.reduceSub, Array.replicate_succ, Array.replicate_zero, List.push_toArray, List.append_toArray, List.nil_append, List.cons_append]
  gi_wp2
  have bO := Boxed.new w 53 (.slice none 0 0)
  have hB0 : Below w.heap.size w (w.alloc (.cells #[.slice none 0 0] 53)) := (Below.refl _ w).alloc (Nat.le_refl _) _
  refine wpIn_rangeFunc_ownG rfl h1 (gf := 106) (lb := #[.pointer (some ⟨Bn, 0, none⟩)]) rfl trivial (enters_of Tryz.func106 (by kernel_rfl) rfl)
    (tell_stops (n - 1) (by omega) Bn s hs (w.alloc (.cells #[.slice none 0 0] 53)) (by simp; omega) ((hB0.cell (p := ⟨Bn, 0, none⟩) hBn).trans hc)) (fun _ _ => trivial) (fun _ _ _ _ _ _ _ _ => trivial) (Below.refl _ _) (fun _ => rfl)
    (fun pre W => (∃ v, Boxed W w.heap.size 53 v ∧ W.ownsRow w.heap.size 9 1 v pre.length (pre.map strV) ∧ True) ∧ Below w.heap.size w W)
    (fun _ _ _ => False)
    (OwnFrom.and (Own.from (holdsRow_own w.heap.size w.heap.size 53 9 1 (fun pre : List (List UInt8) => pre.length) (fun pre => pre.map strV) (fun _ _ => True)) _) (ownFrom_below (Nat.le_refl _) (by simp)))
    (fun _ _ _ _ _ hs _ _ => hs)
    ⟨⟨_, bO, World.ownsRow_nil _ _ _ _, trivial⟩, hB0⟩
    (fun x => { tmps := #[.slice none 0 0, .func (.func 106) #[] #[.pointer (some ⟨Bn, 0, none⟩)], .pointer (some ⟨w.heap.size, 0, none⟩), undef, .slice none 0 0, .string ⟨x.toArray⟩, .func (.func 106) #[] #[.pointer (some ⟨Bn, 0, none⟩)], .string ⟨x.toArray⟩, undef, undef, undef, undef, undef], defers := [] }) ?assign ?body ?done ?stop
  case assign =>
    intro l x W K hK
    gi_wp2_with (rw [Oper.semAt_eq _ _ _ (fun c h => by cases h)]; go_simp; try go_bits)
    exact hK
  case body =>
    rintro l pre x W ⟨⟨v, hv, hrow, _⟩, hB⟩ hlt
    have hc := hv.cell
    have hpl : (pre.map strV).length = pre.length := List.length_map _
    gi_wp2_with (first
      | (gi_at_builtin; refine wpListIn_append_own _ rfl _ _ 53 rfl w.heap.size 9 i0 (.string ⟨#[]⟩) 1 16 Tryz.underlying53 hi hz0 hz1 hz2 rfl (by decide) _ _ _ rfl (hrow.alloc _) ⟨W.heap.size, 0, none⟩ 1 1 [.string ⟨x.toArray⟩] rfl rfl (cell_one_new _ _ _) (by simp [Value.oneCell']) (by unfold maxLen; omega) (by omega) (by have := hB.size; simp; omega) ?_; intro v' w1 hown' hgrow _; obtain ⟨g', cap', rfl⟩ := ownsRow_succ hown'; obtain ⟨hv1, hv2, hr2, hk2, hb2⟩ := hv.appended (by decide) hrow hB.size (Nat.le_refl _) hown' hgrow; have hc1 := hv1.cell; have hf1 := hv1.frozen)
      | (rw [Oper.semAt_eq _ _ _ (fun c h => by cases h)]; go_simp; try go_bits))
    exact ⟨hk2.from _, trivial, ⟨_, hv2, by simpa [strV] using hr2, trivial⟩, hB.trans hb2⟩
  case done =>
    rintro D ys W hD rfl ⟨⟨v, hv, hrow, _⟩, hB⟩ hK
    have hc := hv.cell
    gi_wp2
    refine ⟨by simp, .inl ⟨_, _, rfl, run_takeDeferred hK, ?_⟩⟩
    exact ⟨_, results_tmp rfl _ _ _, v, rfl, ownsRow_putObj hrow _ hK rfl, hB.trans (belowK_b (w := w) (Nat.le_refl _) W D _ _ (by simp at hD; omega) hK rfl rfl)⟩
  case stop =>
    rintro D c pre W _ _ h _
    exact h.elim

set_option maxRecDepth 100000 in
set_option maxHeartbeats 800000 in
theorem collect_any (s : ByteArray) (hs : s.size ≤ 2097152) (Bn : Nat) (w : World) (hBn : Bn < w.heap.size) (hc : w.cell? ⟨Bn, 0, none⟩ = some (.string s)) :
    Calls Tryz.prog 61 #[.func (.func 106) #[] #[.pointer (some ⟨Bn, 0, none⟩)]] w fun e w' => ∃ v, e = .returned v ∧ w'.ownsRow w.heap.size 9 1 v (linesL s.data.toList).length ((linesL s.data.toList).map strV) ∧ Below w.heap.size w w' := by
  have HA := Lib.hid (callsIn_wide.1 (append_in 3 (by omega) s hs Bn w hBn hc))
  clear hc
  go_enter Tryz.func61, Tryz.ntmps61
  go_wp2_with (go_at_call 105; refine HA.out.mono ?_; rintro e w' ⟨v, rfl, ho, hb⟩)
  obtain ⟨a1, cap1, rfl⟩ := own_form ho
  go_ret
  exact ⟨_, rfl, ho, hb⟩

set_option maxRecDepth 100000 in
set_option maxHeartbeats 800000 in
theorem implLines_any (s : ByteArray) (w : World) (hs : s.size ≤ 2097152) :
    Calls Tryz.prog 22 #[.string s] w fun e w' => ∃ v, e = .returned (.tuple #[v, .string ⟨(restL s.data.toList).toArray⟩]) ∧ w'.ownsRow w.heap.size 9 1 v (linesL s.data.toList).length ((linesL s.data.toList).map strV) ∧ Below w.heap.size w w' := by
  go_enter Tryz.func22, Tryz.ntmps22
  go_wp2_with (first
    | (go_at_call 62; refine (linesOf_any _ _).mono ?_; rintro e w' ⟨rfl, rfl⟩)
    | (go_at_call 61; refine (collect_any s hs w.heap.size _ (by simp) (by simp)).mono ?_; rintro e w1 ⟨v, rfl, ho, hb⟩; obtain ⟨a1, cap1, rfl⟩ := own_form ho)
    | (go_at_call 63; refine (rest_any _ _ (by omega)).mono ?_; rintro e w2 ⟨rfl, rfl⟩))
  go_ret2
  exact ⟨_, rfl, own_base ho (by simp), below_box hb⟩

end Go.Proofs.YtgfkiljkpkfapaaGreatDoor

/- Whether lines may have gone inside, as the program asks. Conditions: a table that is ok; texts of at most 2^21 bytes. -/
namespace Go.Proofs.YtgfkiljkpkfapaaGreatDoor
open Go.RowKit Go.Sort

set_option maxRecDepth 100000 in
set_option maxHeartbeats 3200000 in
theorem implNear_any (v : Value) (es : List (Int × Int)) (he ne : ByteArray) (w : World) (hm : mapB es = true) (hh : he.size ≤ 2097152) (hne : ne.size ≤ 2097152) (ht : TabAt w v es) (hv : VarsOk w) (htb : TabOk w) :
    Calls Tryz.prog 102 #[.agg #[v], .string he, .string ne] w fun e w' => e = .returned (.bool (strB he.data.toList && nearB es he.data.toList ne.data.toList)) ∧ Below w.heap.size w w' := by
  have h6 := mapB_le hm
  have HT := Lib.hid ht
  have HV := Lib.hid hv
  have HB := Lib.hid htb
  have HBE : Hid (∀ l, linB l = true → bakE es l = backE es l) := fun l h => bakE_back hm h
  have hwf := mapB_wf hm
  obtain ⟨ad, cap, rfl, _, _⟩ := ht
  have HS : Hid (∀ w, Calls Tryz.prog 120 #[.string he] w fun e w' => e = .returned (.bool (strB he.data.toList)) ∧ Below w.heap.size w w') := fun w => implStr_any he w hh
  have HLI : Hid (strB he.data.toList = true → ∀ x ∈ linesL he.data.toList, linB x = true) := lines_lin
  obtain ⟨q0, hq0⟩ : ∃ q, q = strB he.data.toList := ⟨_, rfl⟩
  rw [← hq0] at HS HLI ⊢
  clear hq0 hv htb hm
  have HL : Hid (∀ w, Calls Tryz.prog 22 #[.string he] w fun e w' => ∃ v, e = .returned (.tuple #[v, .string ⟨(restL he.data.toList).toArray⟩]) ∧ w'.ownsRow w.heap.size 9 1 v (linesL he.data.toList).length ((linesL he.data.toList).map strV) ∧ Below w.heap.size w w') := fun w => implLines_any he w hh
  have HO : Hid (∀ w, Calls Tryz.prog 22 #[.string ne] w fun e w' => ∃ v, e = .returned (.tuple #[v, .string ⟨(restL ne.data.toList).toArray⟩]) ∧ w'.ownsRow w.heap.size 9 1 v (linesL ne.data.toList).length ((linesL ne.data.toList).map strV) ∧ Below w.heap.size w w') := fun w => implLines_any ne w hne
  have hlz : ∀ x ∈ linesL he.data.toList, x.length ≤ 2097152 := fun x hx => by have := line_len hx; rw [len_list] at this; omega
  have hl0 := lines_len he.data.toList
  rw [len_list] at hl0
  have HQ : Hid (nearB es he.data.toList ne.data.toList = (decide ((linesL he.data.toList).length = (linesL ne.data.toList).length) && decide (restL ne.data.toList = []) && decide (ne.size ≤ 240) && (List.range (linesL he.data.toList).length).all (nearAt es (linesL he.data.toList) (linesL ne.data.toList)))) := by
    show nearB _ _ _ = _
    unfold nearB
    rw [len_list]
  obtain ⟨q, hq⟩ : ∃ q, q = nearB es he.data.toList ne.data.toList := ⟨_, rfl⟩
  rw [← hq] at HQ ⊢
  obtain ⟨ls, hls⟩ : ∃ ls, ls = linesL he.data.toList := ⟨_, rfl⟩
  obtain ⟨os, hos⟩ : ∃ os, os = linesL ne.data.toList := ⟨_, rfl⟩
  obtain ⟨rs, hrs⟩ : ∃ rs, rs = restL ne.data.toList := ⟨_, rfl⟩
  obtain ⟨ra, hra⟩ : ∃ rs, rs = (restL he.data.toList).toArray := ⟨_, rfl⟩
  rw [← hls] at HL HQ HLI hlz hl0
  rw [← hra] at HL
  rw [← hos, ← hrs] at HO
  rw [← hos, ← hrs] at HQ
  have hln : ls.length ≤ 2097152 := by omega
  have HLZ := Lib.hid hlz
  clear hq hls hos hrs hra hlz hl0
  obtain ⟨R, hR⟩ : ∃ R : ByteArray, R = ⟨rs.toArray⟩ := ⟨_, rfl⟩
  have hRe : R.toList.isEmpty = decide (rs = []) := by rw [hR]; exact str_emp rs
  rw [← hR] at HO
  clear hR
  cases q0
  · go_enter Tryz.func102, Tryz.ntmps102
    go_wp2_with (go_at_call 120; refine (HS.out _).mono ?_; rintro e w1 ⟨rfl, b1⟩)
    go_ret
    exact ⟨rfl, ((Below.refl _ _).alloc (Nat.le_refl _) _).trans (b1.mono (by simp))⟩
  rw [Bool.true_and]
  have HLI2 := Lib.hid (HLI.out rfl)
  clear HLI
  by_cases h240 : 240 < ne.size
  · have hqf : q = false := by have := HQ.out; simpa [show ¬ ne.size ≤ 240 by omega] using this
    subst hqf
    clear HQ hRe
    go_enter Tryz.func102, Tryz.ntmps102
    go_wp2_with (go_at_call 120; refine (HS.out _).mono ?_; rintro e w1 ⟨rfl, b1⟩)
    go_ret
    exact ⟨rfl, ((Below.refl _ _).alloc (Nat.le_refl _) _).trans (b1.mono (by simp))⟩
  go_enter Tryz.func102, Tryz.ntmps102
  go_wp2_with fail
  (go_at_call 120; refine (HS.out _).mono ?_; rintro e w0 ⟨rfl, b0⟩)
  have B0 : Hid (Below w.heap.size w w0) := ((Below.refl _ _).alloc (Nat.le_refl _) _).trans (b0.mono (by simp))
  have hx0 := (fresh1 b0).1
  have s0 : w.heap.size < w0.heap.size := by have := b0.size; simp at this; omega
  clear b0
  go_wp2_with fail
  (go_at_call 22; refine (HL.out _).mono ?_; rintro e w1 ⟨v1, rfl, own1, b1⟩)
  have B1 : Hid (Below w.heap.size w w1) := B0.out.trans (b1.mono (by omega))
  have hx1 : w1.cell? ⟨w.heap.size, 0, none⟩ = some (.slice ad es.length cap) := (b1.cell (p := ⟨w.heap.size, 0, none⟩) s0).trans hx0
  have s1 : w.heap.size < w1.heap.size := by have := b1.size; omega
  obtain ⟨rd1, _⟩ := RdV.of_own own1
  have R1 := Lib.hid rd1
  obtain ⟨a1, c1, rfl⟩ := own_form own1
  clear own1 b1 rd1
  go_wp2_with fail
  (go_at_call 22; refine (HO.out _).mono ?_; rintro e w2 ⟨v2, rfl, own2, b2⟩)
  have B2 : Hid (Below w.heap.size w w2) := B1.out.trans (b2.mono (by omega))
  have hx2 : w2.cell? ⟨w.heap.size, 0, none⟩ = some (.slice ad es.length cap) := (b2.cell (p := ⟨w.heap.size, 0, none⟩) s1).trans hx1
  obtain ⟨rd2, _⟩ := RdV.of_own own2
  have R2 := Lib.hid rd2
  have R12 := Lib.hid (R1.out.below b2)
  obtain ⟨a2, c2, rfl⟩ := own_form own2
  have s2 : w.heap.size < w2.heap.size := by have := b2.size; omega
  clear own2 b2 rd2 hx1 R1
  by_cases hlen : ls.length = os.length
  rotate_left
  · have hqf : q = false := by have := HQ.out; simpa [hlen] using this
    subst hqf
    go_wp2
    go_ret
    exact ⟨rfl, B2.out⟩
  by_cases hr0 : rs = []
  rotate_left
  · have hqf : q = false := by have := HQ.out; simpa [hr0] using this
    have hRf : R.toList.isEmpty = false := by rw [hRe]; simp [hr0]
    subst hqf
    clear hRe
    go_wp2
    go_ret
    exact ⟨rfl, B2.out⟩
  have HQ2 : Hid (q = (List.range ls.length).all (nearAt es ls os)) := by
    show q = _
    have := HQ.out
    rw [decide_eq_true hlen, decide_eq_true hr0, decide_eq_true (by omega : ne.size ≤ 240)] at this
    simpa using this
  have hRf : R.toList.isEmpty = true := by rw [hRe]; simp [hr0]
  have HLEN := Lib.hid hlen
  clear hRe HQ hr0
  have rowL : Hid (0 < ls.length → ∃ g, a1 = some ⟨g, 0, none⟩ ∧ g < w2.heap.size ∧ RowAt w2 g (ls.map strV)) := fun h => by
    obtain ⟨a', cap', e, hr⟩ := R12.out
    simp at e
    obtain ⟨rfl, rfl⟩ := e
    obtain ⟨g, e, h2⟩ := hr (by simpa using h)
    exact ⟨g, e, h2.lt (by simpa using h), h2⟩
  have rowO : Hid (0 < ls.length → ∃ g, a2 = some ⟨g, 0, none⟩ ∧ g < w2.heap.size ∧ RowAt w2 g (os.map strV)) := fun h => by
    obtain ⟨a', cap', e, hr⟩ := R2.out
    simp at e
    obtain ⟨rfl, rfl⟩ := e
    obtain ⟨g, e, h2⟩ := hr (by simp; omega)
    exact ⟨g, e, h2.lt (by simp; omega), h2⟩
  have hT2 := Lib.hid (HT.out.below B2.out)
  have HV2 := Lib.hid (HV.out.below B2.out)
  have HB2 := Lib.hid (HB.out.below B2.out (Nat.le_refl _))
  clear R12 R2
  have hk9 : (ls.length : Int) = (os.length : Int) := by omega
  go_wp2_with fail
  clear hk9
  go_loopw [11, 42] (fun _ i wr => ∃ k : Nat, k ≤ ls.length ∧ i = .int .i64 k ∧ (∀ j, j < k → nearAt es ls os j = true) ∧ wr.cell? ⟨w.heap.size, 0, none⟩ = some (.slice ad es.length cap) ∧ Below w2.heap.size w2 wr) (fun _ i _ => ls.length - (intOf i).toNat)
  case atStart => exact ⟨0, Nat.zero_le _, rfl, fun j hj => by omega, hx2, Below.refl _ _⟩
  case round =>
    obtain ⟨k, hk, rfl, hd, k0, hb⟩ := hrel
    have HD := Lib.hid hd
    clear hd
    by_cases hlt : k < ls.length
    · obtain ⟨g1, rfl, hg1, q1⟩ := rowL.out (by omega)
      obtain ⟨g2, rfl, hg2, q2⟩ := rowO.out (by omega)
      have hlo : k < os.length := by have := HLEN.out; omega
      obtain ⟨x, hx⟩ : ∃ x, x = ls[k] := ⟨_, rfl⟩
      obtain ⟨y, hy⟩ : ∃ y, y = os[k] := ⟨_, rfl⟩
      have r1 : wr.cell? ⟨g1, k, none⟩ = some (.string ⟨x.toArray⟩) := by
        rw [hb.cell (p := ⟨g1, k, none⟩) hg1, (q1 k (by simpa using hlt)).1]; simp [hx, strV]
      have r2 : wr.cell? ⟨g2, k, none⟩ = some (.string ⟨y.toArray⟩) := by
        rw [hb.cell (p := ⟨g2, k, none⟩) hg2, (q2 k (by simpa using hlo)).1]; simp [hy, strV]
      have HN : Hid (nearAt es ls os k = (decide (y = x) || decide (y = backE es x))) := by
        show nearAt es ls os k = _
        unfold nearAt
        rw [show ls.getD k [] = x from by simp [List.getD, hlt, hx], show os.getD k [] = y from by simp [List.getD, hlo, hy]]
      have hxl : linB x = true := HLI2.out x (by rw [hx]; exact List.getElem_mem _)
      have hxs : x.length ≤ 2097152 := HLZ.out x (by rw [hx]; exact List.getElem_mem _)
      obtain ⟨X, hX⟩ : ∃ X : ByteArray, X = ⟨x.toArray⟩ := ⟨_, rfl⟩
      obtain ⟨Y, hY⟩ : ∃ Y : ByteArray, Y = ⟨y.toArray⟩ := ⟨_, rfl⟩
      obtain ⟨Z, hZ⟩ : ∃ Z : ByteArray, Z = ⟨(backE es x).toArray⟩ := ⟨_, rfl⟩
      have HE1 : Hid ((Y.toList == X.toList) = decide (y = x)) := by show _ = _; rw [hX, hY]; exact str_beqB y x
      have HE2 : Hid ((Y.toList == Z.toList) = decide (y = backE es x)) := by show _ = _; rw [hZ, hY]; exact str_beqB y (backE es x)
      have hXs : X.size ≤ 2097152 := by rw [hX]; simpa [ByteArray.size] using hxs
      have hXd : X.data.toList = x := by rw [hX]
      have cB : ∀ d os, Calls Tryz.prog 128 #[.agg #[.slice ad es.length cap], .string X] (grow (redrawn wr d) os) fun e w'' => e = .returned (.string Z) ∧ ∃ q : Regrown, w'' = grow (redrawn wr q.d) q.os :=
        fun d os => Calls.regrown_of (by
          have := implBakLine_any _ es X (grow (redrawn wr d) os) (by omega) hXs hwf ((hT2.out.below hb).below (below_regrown wr d os)) ((HV2.out.below hb).below (below_regrown wr d os)) ((HB2.out.below hb (Nat.le_refl _)).below (below_regrown wr d os) (Nat.le_refl _))
          rw [hXd, HBE.out x hxl, ← hZ] at this
          exact this)
      rw [← hX] at r1
      rw [← hY] at r2
      have K0 := cell_regrown k0
      have K1 := cell_regrown r1
      have K2 := cell_regrown r2
      have hk2 : (k : Int) < (ls.length : Int) := by omega
      have hk3 : (k : Int) < (os.length : Int) := by omega
      clear q1 q2 hx hy hX hY hZ hXd hxs hxl r2
      cases e1 : decide (y = x)
      rotate_left
      · have F1 : (Y.toList == X.toList) = true := HE1.out.trans e1
        have HNT : Hid (nearAt es ls os k = true) := by show _ = _; rw [HN.out, e1]; rfl
        clear HE1 HE2 HN e1
        go_wp2_with fail
        refine wp_region_quiet_below (by kernel_rfl) (by kernel_rfl) ?_
        repeat (first | go_big_quiet_skip | quiet_step (exact cB _ _))
        refine wpQuiet_nil ?_
        intro _ hw'
        obtain ⟨⟨dq, osq⟩, hw''⟩ := hw'
        subst hw''
        go_wp2
        go_roundw
        case rel =>
          refine ⟨k + 1, by omega, by go_num, fun j hj => ?_, K0 dq osq, hb.trans ((below_regrown wr dq osq).mono hb.size)⟩
          by_cases hjk : j = k
          · subst hjk; exact HNT.out
          · exact HD.out j (by omega)
        case measure => simp [intOf]; omega
      cases e2 : decide (y = backE es x)
      rotate_left
      · have F1 : (Y.toList == X.toList) = false := HE1.out.trans e1
        have F2 : (Y.toList == Z.toList) = true := HE2.out.trans e2
        have HNT : Hid (nearAt es ls os k = true) := by show _ = _; rw [HN.out, e2]; simp
        clear HE1 HE2 HN e1 e2
        go_wp2_with fail
        refine wp_region_quiet_below (by kernel_rfl) (by kernel_rfl) ?_
        repeat (first | go_big_quiet_skip | quiet_step (exact cB _ _))
        refine wpQuiet_nil ?_
        intro _ hw'
        obtain ⟨⟨dq, osq⟩, hw''⟩ := hw'
        subst hw''
        go_wp2
        go_roundw
        case rel =>
          refine ⟨k + 1, by omega, by go_num, fun j hj => ?_, K0 dq osq, hb.trans ((below_regrown wr dq osq).mono hb.size)⟩
          by_cases hjk : j = k
          · subst hjk; exact HNT.out
          · exact HD.out j (by omega)
        case measure => simp [intOf]; omega
      have F1 : (Y.toList == X.toList) = false := HE1.out.trans e1
      have F2 : (Y.toList == Z.toList) = false := HE2.out.trans e2
      have HQF : Hid (q = false) := HQ2.out.trans (near_no_at hlt (by rw [HN.out, e1, e2]; rfl))
      clear HE1 HE2 HN e1 e2 HQ2
      go_wp2_with fail
      refine wp_region_quiet_below (by kernel_rfl) (by kernel_rfl) ?_
      repeat (first | go_big_quiet_skip | quiet_step (exact cB _ _))
      refine wpQuiet_nil ?_
      intro _ hw'
      obtain ⟨⟨dq, osq⟩, hw''⟩ := hw'
      subst hw''
      go_wp2
      go_ret
      exact ⟨ret_bool HQF.out.symm, B2.out.trans ((hb.trans ((below_regrown wr dq osq).mono hb.size)).mono B2.out.size)⟩
    · have HQT : Hid (q = true) := HQ2.out.trans (near_yes fun j hj => HD.out j (by omega))
      have hkl : k = ls.length := by omega
      clear HQ2 HD
      go_wp2
      go_ret
      exact ⟨ret_bool HQT.out.symm, B2.out.trans (hb.mono B2.out.size)⟩

end Go.Proofs.YtgfkiljkpkfapaaGreatDoor

/- The program's MapEnd and MapPort answer as the document says. Conditions: at most 2^22 ends; all numbers are ints. -/
namespace Go.Proofs.YtgfkiljkpkfapaaGreatDoor
open Go.RowKit Go.Sort

theorem endV_form' (x : Option (Int × Int)) : ∃ (a p : Int) (b : Bool), endV x = .tuple #[.agg #[.int .i64 a, .int .i64 p], .bool b] := by
  rcases x with _ | ⟨a, p⟩
  · exact ⟨0, 0, false, rfl⟩
  · exact ⟨a, p, true, rfl⟩

set_option maxRecDepth 100000 in
set_option maxHeartbeats 1600000 in
theorem implMapEnd_any (v : Value) (es : List (Int × Int)) (port : Int) (w : World) (hn : es.length ≤ 4194304) (hwf : wfE es) (wn : (Lit.int .i64 port).wf = true) (ht : TabAt w v es) :
    Calls Tryz.prog 12 #[.agg #[v], .int .i64 port] w fun e w' => e = .returned (endV (endI es port)) ∧ Below w.heap.size w w' := by
  have HT := Lib.hid ht
  obtain ⟨ad, cap, rfl, _, _⟩ := ht
  have HP : Hid (∀ w, TabAt w (.slice ad es.length cap) es → Calls Tryz.prog 46 #[.agg #[.slice ad es.length cap]] w fun e w' => ∃ g1 g2, e = .returned (.agg #[.map (some g1), .map (some g2)]) ∧ w.heap.size ≤ g1 ∧ w.heap.size ≤ g2 ∧ Both w' g1 g2 es ∧ Below w.heap.size w w') := fun w h => portsOf_any _ es w hn hwf h
  obtain ⟨a, p, b, hv⟩ := endV_form' (endI es port)
  have HK : Hid (∀ g1 g2 w, Both w g1 g2 es → Calls Tryz.prog 47 #[.agg #[.map (some g1), .map (some g2)], .int .i64 port] w fun e w' => e = .returned (.tuple #[.agg #[.int .i64 a, .int .i64 p], .bool b]) ∧ Below w.heap.size w w') := fun g1 g2 w h => by rw [← hv]; exact key_any g1 g2 es port w h wn
  rw [hv]
  clear hwf wn hv hn
  go_enter Tryz.func12, Tryz.ntmps12
  go_wp2_with fail
  (go_at_call 46; refine (HP.out _ (HT.out.below (((Below.refl _ _).alloc (Nat.le_refl _) _).alloc (by simp) _))).mono ?_; rintro e w1 ⟨g1, g2, rfl, _, _, hb, b1⟩; have HB := Lib.hid hb; obtain ⟨_, cB, b01, z1⟩ := cell_two b1; have r0 := (cB 0).1; have r1 := (cB 1).1; have f0 := (cB 0).2; have f1 := (cB 1).2; simp at r0 r1; clear cB b1 hb)
  go_wp2_with fail
  (go_at_call 47; refine (HK.out g1 g2 _ HB.out).mono ?_; rintro e w2 ⟨rfl, b2⟩; have r20 : w2.cell? ⟨w.heap.size + 1, 0, none⟩ = some (.int .i64 0) := (by rw [b2.cell (by simp; omega)]; exact r0); have r21 : w2.cell? ⟨w.heap.size + 1, 1, none⟩ = some (.int .i64 0) := (by rw [b2.cell (by simp; omega)]; exact r1); have f20 : w2.frozen? ⟨w.heap.size + 1, 0, none⟩ = false := (by rw [b2.frozen (by simp; omega)]; exact f0); have f21 : w2.frozen? ⟨w.heap.size + 1, 1, none⟩ = false := (by rw [b2.frozen (by simp; omega)]; exact f1); have BW : Hid (Below w.heap.size w w2) := b01.trans (b2.mono (by omega)); obtain ⟨e0, e1, e2⟩ := set_two (.int .i64 a) (.int .i64 p) r20 r21; have E1 := Lib.hid e1; have E2 := Lib.hid e2; clear e1 e2 b2)
  go_wp2_with fail
  refine bodyPost_ret (v := .tuple #[.agg #[.int .i64 a, .int .i64 p], .bool b]) (by simp [results, Tryz.results12, go_sem, E1.out, E2.out]) rfl ⟨rfl, (BW.out.setCell (by simp) _).setCell (by simp) _⟩

set_option maxRecDepth 100000 in
set_option maxHeartbeats 1600000 in
theorem implMapPort_any (v : Value) (es : List (Int × Int)) (a p : Int) (w : World) (hn : es.length ≤ 4194304) (hwf : wfE es) (wa : (Lit.int .i64 a).wf = true) (wp : (Lit.int .i64 p).wf = true) (ht : TabAt w v es) :
    Calls Tryz.prog 15 #[.agg #[v], .agg #[.int .i64 a, .int .i64 p]] w fun e w' => e = .returned (.int .i64 (portI es (a, p))) ∧ Below w.heap.size w w' := by
  have HT := Lib.hid ht
  obtain ⟨ad, cap, rfl, _, _⟩ := ht
  have HP : Hid (∀ w, TabAt w (.slice ad es.length cap) es → Calls Tryz.prog 46 #[.agg #[.slice ad es.length cap]] w fun e w' => ∃ g1 g2, e = .returned (.agg #[.map (some g1), .map (some g2)]) ∧ w.heap.size ≤ g1 ∧ w.heap.size ≤ g2 ∧ Both w' g1 g2 es ∧ Below w.heap.size w w') := fun w h => portsOf_any _ es w hn hwf h
  obtain ⟨q, hq⟩ : ∃ q, q = portI es (a, p) := ⟨_, rfl⟩
  obtain ⟨b, hbb⟩ : ∃ b, b = decide ((a, p) ∈ es) := ⟨_, rfl⟩
  have HV : Hid (∀ g1 g2 w, Both w g1 g2 es → Calls Tryz.prog 51 #[.agg #[.map (some g1), .map (some g2)], .agg #[.int .i64 a, .int .i64 p]] w fun e w' => e = .returned (.tuple #[.int .i64 q, .bool b]) ∧ Below w.heap.size w w') := fun g1 g2 w h => by rw [hq, hbb]; exact value_any g1 g2 es a p w h wa wp
  rw [← hq]
  clear hwf wa wp hq hn hbb
  go_enter Tryz.func15, Tryz.ntmps15
  go_wp2_with fail
  obtain ⟨W0, hW0⟩ : ∃ W0, W0 = (w.alloc (.cells #[.slice ad es.length cap] 26)).alloc (.cells #[.int .i64 a, .int .i64 p] 31) := ⟨_, rfl⟩
  have t0 : W0.cell? ⟨w.heap.size, 0, none⟩ = some (.slice ad es.length cap) := by rw [hW0, cell_alloc_lt (by simp)]; exact (cell_new w _ _ 0).1
  have e0 : W0.cell? ⟨w.heap.size + 1, 0, none⟩ = some (.int .i64 a) := by rw [hW0]; simp
  have e1 : W0.cell? ⟨w.heap.size + 1, 1, none⟩ = some (.int .i64 p) := by rw [hW0]; simp
  have B0 : Hid (Below w.heap.size w W0) := by rw [hW0]; exact ((Below.refl _ _).alloc (Nat.le_refl _) _).alloc (by simp) _
  have z0 : W0.heap.size = w.heap.size + 2 := by rw [hW0]; simp
  rw [← hW0]
  clear hW0
  have HT0 := Lib.hid (HT.out.below B0.out)
  go_region_with (first
    | (go_at_call 46; refine (HP.out _ (HT0.out.below ((Below.refl _ _).drew))).mono ?_; rintro e w1 ⟨g1, g2, rfl, _, _, hb, b1⟩; have HB := Lib.hid hb; have b1 : Below W0.heap.size W0 w1 := ((Below.refl _ _).drew).trans b1; have e0 : w1.cell? ⟨w.heap.size + 1, 0, none⟩ = some (.int .i64 a) := (by rw [b1.cell (by simp; omega)]; exact e0); have e1 : w1.cell? ⟨w.heap.size + 1, 1, none⟩ = some (.int .i64 p) := (by rw [b1.cell (by simp; omega)]; exact e1); clear hb)
    | (go_at_call 51; refine (HV.out _ _ _ HB.out).mono ?_; rintro e w2 ⟨rfl, b2⟩; have BW : Hid (Below w.heap.size w w2) := B0.out.trans ((b1.trans (b2.mono b1.size)).mono (by omega))))
  all_goals
    go_wp2_with fail
    go_ret
    exact ⟨rfl, BW.out⟩

end Go.Proofs.YtgfkiljkpkfapaaGreatDoor

/- Whether streams are ok, as the program asks. Conditions: a table that is ok; texts of at most 2^21 bytes. -/
namespace Go.Proofs.YtgfkiljkpkfapaaGreatDoor
open Go.RowKit Go.Sort

theorem seven_cells {w : World} {b : Nat} {t : TypeId} {x0 x1 x2 x3 x4 x5 x6 : Value} (h : Blk w b t [x0, x1, x2, x3, x4, x5, x6]) :
    w.cell? ⟨b, 0, none⟩ = some x0 ∧ w.cell? ⟨b, 1, none⟩ = some x1 ∧ w.cell? ⟨b, 2, none⟩ = some x2 ∧ w.cell? ⟨b, 3, none⟩ = some x3 ∧ w.cell? ⟨b, 4, none⟩ = some x4 ∧ w.cell? ⟨b, 5, none⟩ = some x5 ∧ w.cell? ⟨b, 6, none⟩ = some x6 :=
  ⟨(h.cell 0 x0 rfl).1, (h.cell 1 x1 rfl).1, (h.cell 2 x2 rfl).1, (h.cell 3 x3 rfl).1, (h.cell 4 x4 rfl).1, (h.cell 5 x5 rfl).1, (h.cell 6 x6 rfl).1⟩

set_option maxRecDepth 100000 in
set_option maxHeartbeats 6400000 in
theorem implConn_any (v : Value) (es : List (Int × Int)) (ia ip oa op : Int) (kn he ne : ByteArray) (w : World) (hm : mapB es = true) (hk : kn.size ≤ 2097152) (hh : he.size ≤ 2097152) (hne : ne.size ≤ 2097152) (wa : (Lit.int .i64 ia).wf = true) (wp : (Lit.int .i64 ip).wf = true) (ht : TabAt w v es) (hv : VarsOk w) (htb : TabOk w) :
    Calls Tryz.prog 55 #[.agg #[v], .agg #[.int .i64 ia, .int .i64 ip, .int .i64 oa, .int .i64 op, .string kn, .string he, .string ne]] w fun e w' => e = .returned (.bool (conI es ⟨ia, ip, oa, op, kn, he, ne⟩)) ∧ Below w.heap.size w w' := by
  have h6 := mapB_le hm
  obtain ⟨W1, hW1⟩ : ∃ W, W = (w.alloc (.cells #[v] 26)).alloc (.cells #[.int .i64 ia, .int .i64 ip, .int .i64 oa, .int .i64 op, .string kn, .string he, .string ne] 49) := ⟨_, rfl⟩
  have hB1 : Below w.heap.size w W1 := by rw [hW1]; exact ((Below.refl _ _).alloc (Nat.le_refl _) _).alloc (by simp) _
  have hs1 : W1.heap.size = w.heap.size + 2 := by rw [hW1]; simp
  have HT := Lib.hid ht
  have HV := Lib.hid hv
  have HB := Lib.hid htb
  obtain ⟨ad, cap, rfl, _, _⟩ := ht
  have K2 : Blk W1 (w.heap.size + 1) 49 [.int .i64 ia, .int .i64 ip, .int .i64 oa, .int .i64 op, .string kn, .string he, .string ne] := by
    rw [hW1]
    have := heap_last3 (w.alloc (.cells #[.slice ad es.length cap] 26)) (.cells #[.int .i64 ia, .int .i64 ip, .int .i64 oa, .int .i64 op, .string kn, .string he, .string ne] 49)
    unfold Blk
    simpa using this
  have K0 : Blk W1 w.heap.size 26 [.slice ad es.length cap] := by
    rw [hW1]
    exact (show Blk (w.alloc (.cells #[.slice ad es.length cap] 26)) w.heap.size _ _ from heap_last3 w _).below ((Below.refl _ _).alloc (Nat.le_refl _) _)
  have HF : Hid (∀ w', Below W1.heap.size W1 w' → w'.cell? ⟨w.heap.size, 0, none⟩ = some (.slice ad es.length cap) ∧ (w'.cell? ⟨w.heap.size + 1, 0, none⟩ = some (.int .i64 ia) ∧ w'.cell? ⟨w.heap.size + 1, 1, none⟩ = some (.int .i64 ip) ∧ w'.cell? ⟨w.heap.size + 1, 2, none⟩ = some (.int .i64 oa) ∧ w'.cell? ⟨w.heap.size + 1, 3, none⟩ = some (.int .i64 op) ∧ w'.cell? ⟨w.heap.size + 1, 4, none⟩ = some (.string kn) ∧ w'.cell? ⟨w.heap.size + 1, 5, none⟩ = some (.string he) ∧ w'.cell? ⟨w.heap.size + 1, 6, none⟩ = some (.string ne))) := fun w' h =>
    ⟨((K0.below h).cell 0 _ rfl).1, seven_cells (K2.below h)⟩
  have HH : Hid (∀ w', Below W1.heap.size W1 w' → Below w.heap.size w w') := fun w' h => hB1.trans (h.mono hB1.size)
  have BB : Hid (Below W1.heap.size W1 W1) := Below.refl _ _
  have C1 : Hid (∀ w', Below W1.heap.size W1 w' → Calls Tryz.prog 15 #[.agg #[.slice ad es.length cap], .agg #[.int .i64 ia, .int .i64 ip]] w' fun e w'' => e = .returned (.int .i64 (portI es (ia, ip))) ∧ Below w'.heap.size w' w'') := fun w' h => implMapPort_any _ es ia ip w' (by omega) (mapB_wf hm) wa wp (HT.out.below (HH.out _ h))
  have C2 : Hid (∀ w', Below W1.heap.size W1 w' → Calls Tryz.prog 100 #[.agg #[.int .i64 oa, .int .i64 op]] w' fun e w'' => e = .returned (.bool (outB oa op && decide (op = 21))) ∧ Below w'.heap.size w' w'') := fun w' h => isCtl_any oa op w'
  have C3 : Hid (∀ w', Below W1.heap.size W1 w' → Calls Tryz.prog 101 #[.agg #[.slice ad es.length cap], .string kn] w' fun e w'' => e = .returned (.bool (strB kn.data.toList && knowB es kn.data.toList)) ∧ Below w'.heap.size w' w'') := fun w' h => implKnow_any _ es kn w' hm hk (HT.out.below (HH.out _ h)) (HV.out.below (HH.out _ h))
  have C4 : Hid (∀ w', Below W1.heap.size W1 w' → Calls Tryz.prog 102 #[.agg #[.slice ad es.length cap], .string he, .string ne] w' fun e w'' => e = .returned (.bool (strB he.data.toList && nearB es he.data.toList ne.data.toList)) ∧ Below w'.heap.size w' w'') := fun w' h => implNear_any _ es he ne w' hm hh hne (HT.out.below (HH.out _ h)) (HV.out.below (HH.out _ h)) (HB.out.below (HH.out _ h) (Nat.le_refl _))
  have HC : Hid (conI es ⟨ia, ip, oa, op, kn, he, ne⟩ = (decide (portI es (ia, ip) ≠ 0) && (outB oa op && decide (op = 21)) && (strB kn.data.toList && knowB es kn.data.toList) && (strB he.data.toList && nearB es he.data.toList ne.data.toList))) := by
    show conI es ⟨ia, ip, oa, op, kn, he, ne⟩ = _
    simp only [conI, Bool.and_assoc]
  obtain ⟨Q, hQ⟩ : ∃ Q, Q = conI es ⟨ia, ip, oa, op, kn, he, ne⟩ := ⟨_, rfl⟩
  obtain ⟨z1, e1⟩ : ∃ q, q = portI es (ia, ip) := ⟨_, rfl⟩
  obtain ⟨q2, e2⟩ : ∃ q, q = (outB oa op && decide (op = 21)) := ⟨_, rfl⟩
  obtain ⟨q3, e3⟩ : ∃ q, q = (strB kn.data.toList && knowB es kn.data.toList) := ⟨_, rfl⟩
  obtain ⟨q4, e4⟩ : ∃ q, q = (strB he.data.toList && nearB es he.data.toList ne.data.toList) := ⟨_, rfl⟩
  rw [← hQ] at HC ⊢
  rw [← e1] at C1 HC
  rw [← e2] at C2 HC
  rw [← e3] at C3 HC
  rw [← e4] at C4 HC
  clear hQ e1 e2 e3 e4 K0 K2 hB1 HT HV HB hv htb wa wp hk hh hne hm
  clear hs1
  subst hW1
  by_cases h1 : z1 = 0
  · have hq : Q = false := by have := HC.out; simpa [h1] using this
    subst hq h1
    clear HC
    go_enter Tryz.func55, Tryz.ntmps55
    go_wp2_with (first
      | (go_at_call 15; refine (C1.out _ BB.out).mono ?_; rintro e wn ⟨rfl, bn⟩; have BB := Lib.hid (BB.out.trans (bn.mono BB.out.size)); obtain ⟨x0, y0, y1, y2, y3, y4, y5, y6⟩ := HF.out _ BB.out; clear bn)
      | (go_at_call 100; refine (C2.out _ BB.out).mono ?_; rintro e wn ⟨rfl, bn⟩; have BB := Lib.hid (BB.out.trans (bn.mono BB.out.size)); obtain ⟨x0, y0, y1, y2, y3, y4, y5, y6⟩ := HF.out _ BB.out; clear bn)
      | (go_at_call 101; refine (C3.out _ BB.out).mono ?_; rintro e wn ⟨rfl, bn⟩; have BB := Lib.hid (BB.out.trans (bn.mono BB.out.size)); obtain ⟨x0, y0, y1, y2, y3, y4, y5, y6⟩ := HF.out _ BB.out; clear bn)
      | (go_at_call 102; refine (C4.out _ BB.out).mono ?_; rintro e wn ⟨rfl, bn⟩; have BB := Lib.hid (BB.out.trans (bn.mono BB.out.size)); obtain ⟨x0, y0, y1, y2, y3, y4, y5, y6⟩ := HF.out _ BB.out; clear bn))
    go_ret
    exact ⟨rfl, HH.out _ BB.out⟩
  cases q2
  · have hq : Q = false := by have := HC.out; simpa using this
    subst hq
    clear HC
    go_enter Tryz.func55, Tryz.ntmps55
    go_wp2_with (first
      | (go_at_call 15; refine (C1.out _ BB.out).mono ?_; rintro e wn ⟨rfl, bn⟩; have BB := Lib.hid (BB.out.trans (bn.mono BB.out.size)); obtain ⟨x0, y0, y1, y2, y3, y4, y5, y6⟩ := HF.out _ BB.out; clear bn)
      | (go_at_call 100; refine (C2.out _ BB.out).mono ?_; rintro e wn ⟨rfl, bn⟩; have BB := Lib.hid (BB.out.trans (bn.mono BB.out.size)); obtain ⟨x0, y0, y1, y2, y3, y4, y5, y6⟩ := HF.out _ BB.out; clear bn)
      | (go_at_call 101; refine (C3.out _ BB.out).mono ?_; rintro e wn ⟨rfl, bn⟩; have BB := Lib.hid (BB.out.trans (bn.mono BB.out.size)); obtain ⟨x0, y0, y1, y2, y3, y4, y5, y6⟩ := HF.out _ BB.out; clear bn)
      | (go_at_call 102; refine (C4.out _ BB.out).mono ?_; rintro e wn ⟨rfl, bn⟩; have BB := Lib.hid (BB.out.trans (bn.mono BB.out.size)); obtain ⟨x0, y0, y1, y2, y3, y4, y5, y6⟩ := HF.out _ BB.out; clear bn))
    go_ret
    exact ⟨rfl, HH.out _ BB.out⟩
  have HQ2 : Hid (Q = (q3 && q4)) := by
    show Q = _
    have := HC.out
    rw [decide_eq_true h1] at this
    simpa using this
  clear HC
  cases q3
  rotate_left
  cases q4
  all_goals
    first
    | (have hq : Q = true := by (have := HQ2.out; simpa using this)
       subst hq)
    | (have hq : Q = false := by (have := HQ2.out; simpa using this)
       subst hq)
    clear HQ2
    go_enter Tryz.func55, Tryz.ntmps55
    go_wp2_with (first
      | (go_at_call 15; refine (C1.out _ BB.out).mono ?_; rintro e wn ⟨rfl, bn⟩; have BB := Lib.hid (BB.out.trans (bn.mono BB.out.size)); obtain ⟨x0, y0, y1, y2, y3, y4, y5, y6⟩ := HF.out _ BB.out; clear bn)
      | (go_at_call 100; refine (C2.out _ BB.out).mono ?_; rintro e wn ⟨rfl, bn⟩; have BB := Lib.hid (BB.out.trans (bn.mono BB.out.size)); obtain ⟨x0, y0, y1, y2, y3, y4, y5, y6⟩ := HF.out _ BB.out; clear bn)
      | (go_at_call 101; refine (C3.out _ BB.out).mono ?_; rintro e wn ⟨rfl, bn⟩; have BB := Lib.hid (BB.out.trans (bn.mono BB.out.size)); obtain ⟨x0, y0, y1, y2, y3, y4, y5, y6⟩ := HF.out _ BB.out; clear bn)
      | (go_at_call 102; refine (C4.out _ BB.out).mono ?_; rintro e wn ⟨rfl, bn⟩; have BB := Lib.hid (BB.out.trans (bn.mono BB.out.size)); obtain ⟨x0, y0, y1, y2, y3, y4, y5, y6⟩ := HF.out _ BB.out; clear bn))
    go_ret
    first
      | exact ⟨rfl, HH.out _ BB.out⟩
      | exact ⟨ret_bool (by simpa using h1), HH.out _ BB.out⟩

end Go.Proofs.YtgfkiljkpkfapaaGreatDoor
