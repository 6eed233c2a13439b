/- How the law marks a list of texts and finds the marks again; two lists of the same texts are found the same. Conditions: the lists are of at most 2^22 texts, the marks from 1 on. -/
import Derived.Test.YtilfpefccklebaaDoorByte
import Derived.Test.YtilfpefccklebaaDoorRdV
import Derived.Lib.QuietBelow
namespace Go.Proofs.YtilfpefccklebaaDoor
open Go.RowKit Go.Sort

/-- The text of a mark. -/
def markL (k : Nat) : List UInt8 := 109 :: Lib.decDigits k

set_option maxRecDepth 100000 in
set_option maxHeartbeats 400000 in
theorem markText_any (n : Nat) (w : World) (h0 : 1 ≤ n) (hn : n ≤ 1000000000000000000) :
    Calls Tryd.prog 43 #[.int .i64 n] w fun e w' => e = .returned (.string ⟨(markL n).toArray⟩) ∧ Below w.heap.size w w' := by
  have h0' : ¬ (n : Int) ≤ 0 := by omega
  go_enter Tryd.func43, Tryd.ntmps43
  go_wp2
  go_loopw [0, 3] (fun s o wr => ∃ (k : Nat) (l : List UInt8), s = .int .i64 k ∧ o = .string ⟨l.toArray⟩ ∧ (k = 0 → l = Lib.decDigits n) ∧ (0 < k → Lib.decDigits k ++ l = Lib.decDigits n) ∧ l.length + k ≤ n ∧ Below w.heap.size w wr) (fun s _ _ => (intOf s).toNat)
  case atStart => exact ⟨n, [], rfl, rfl, by omega, by simp, by simp, Below.refl _ _⟩
  case round =>
    obtain ⟨k, l, rfl, rfl, hz, hd, hl, hb⟩ := hrel
    have HZ := Lib.hid hz
    have HD := Lib.hid hd
    clear hz hd
    have n1 : ¬ 9223372036854775807 < 1 + l.length := by omega
    by_cases hk : 0 < k
    · have hcv := run_one_byte wr (48 + (k : Int) % 10) (dg k) (dg_val k).symm
      go_wp2
      refine ⟨⟨k / 10, dg k :: l, by simp, by rw [byte_cat], ?_, ?_, by simp; omega, hb.alloc hb.size _⟩, by simp [intOf]; omega⟩
      · intro h10
        rw [← HD.out hk, dec_last (by omega)]; rfl
      · intro h10
        rw [← HD.out hk, dec_step (k := k) (by omega)]; simp
    · have k0 : k = 0 := by omega
      subst k0
      have HL : Hid (l = Lib.decDigits n) := HZ.out rfl
      go_wp2
      go_ret
      refine ⟨?_, hb⟩
      rw [HL.out, byte_cat]; rfl


set_option maxRecDepth 100000 in
set_option maxHeartbeats 800000 in
theorem eqStr_same (xs : List (List UInt8)) (v1 v2 : Value) (w : World) (hn : xs.length ≤ 4194304) (h1 : RdV w v1 (xs.map strV)) (h2 : RdV w v2 (xs.map strV)) :
    Calls Tryd.prog 15 #[v1, v2] w fun e w' => e = .returned (.bool true) ∧ Below w.heap.size w w' := by
  obtain ⟨a1, cap1, rfl, r1⟩ := h1
  obtain ⟨a2, cap2, rfl, r2⟩ := h2
  simp only [List.length_map] at r1 r2 ⊢
  have R1 := Lib.hid r1
  have R2 := Lib.hid r2
  clear r1 r2
  go_enter Tryd.func15, Tryd.ntmps15
  go_wp2
  go_loopw [5] (fun i wr => ∃ k : Nat, k ≤ xs.length ∧ i = .int .i64 k ∧ Below w.heap.size w wr) (fun i _ => xs.length - (intOf i).toNat)
  case atStart => exact ⟨0, Nat.zero_le _, rfl, Below.refl _ _⟩
  case round =>
    obtain ⟨k, hk, rfl, hb⟩ := hrel
    by_cases hlt : k < xs.length
    · obtain ⟨g1, rfl, q1⟩ := R1.out (by omega)
      obtain ⟨g2, rfl, q2⟩ := R2.out (by omega)
      have c1 := (hb.cell (p := ⟨g1, k, none⟩) (q1.lt (by simp; omega))).trans (eq_cell q1 (i := k) (by simpa using hlt))
      have c2 := (hb.cell (p := ⟨g2, k, none⟩) (q2.lt (by simp; omega))).trans (eq_cell q2 (i := k) (by simpa using hlt))
      obtain ⟨x, hx⟩ : ∃ x, x = xs[k] := ⟨_, rfl⟩
      simp only [List.getElem_map, ← hx, strV] at c1 c2
      clear hx q1 q2 R1 R2
      go_wp2_with fail
      go_quiet (fail)
      go_wp2
      go_roundw
      case rel => exact ⟨k + 1, by omega, by go_num, hb.trans ⟨rfl, rfl, rfl, Nat.le_refl _, fun _ _ => rfl⟩⟩
      case measure => simp [intOf]; omega
    · go_wp2
      go_ret
      exact ⟨rfl, hb⟩

/-- n marks, from k on. -/
def marksL (k n : Nat) : List Value := (List.range n).map fun i => strV (markL (k + i))
theorem marksL_len (k n : Nat) : (marksL k n).length = n := by simp [marksL]
theorem marksL_at (k n i : Nat) (h : i < (marksL k n).length) : (marksL k n)[i] = strV (markL (k + i)) := by simp [marksL]
theorem marks_set (k n j : Nat) (xs : List Value) (hx : xs.length = n) (hj : j < n) : ((marksL k n).take j ++ xs.drop j).set j (strV (markL (k + j))) = (marksL k n).take (j + 1) ++ xs.drop (j + 1) := by
  apply List.ext_getElem
  · simp [marksL_len, hx]; omega
  · intro i h1 h2
    by_cases e : j = i
    · subst e
      rw [List.getElem_set_self, List.getElem_append_left (by simp [marksL_len]; omega)]
      simp [marksL]
    · rw [List.getElem_set_ne e]
      by_cases hi : i < j
      · rw [List.getElem_append_left (by simp [marksL_len]; omega), List.getElem_append_left (by simp [marksL_len]; omega)]
        simp
      · rw [List.getElem_append_right (by simp [marksL_len]; omega), List.getElem_append_right (by simp [marksL_len]; omega)]
        simp [marksL_len]
        congr 1; omega

set_option maxRecDepth 100000 in
set_option maxHeartbeats 800000 in
theorem markStr_any (k n g cap B : Nat) (xs : List Value) (w : World) (h0 : 1 ≤ k) (hn : k + n ≤ 1000000000000000) (hx : xs.length = n) (hr : RowAt w g xs) (hg : g < w.heap.size) (hB : B ≤ g) :
    Calls Tryd.prog 18 #[.slice (some ⟨g, 0, none⟩) n cap, .int .i64 k] w fun e w' => e = .returned (.int .i64 (k + n : Nat)) ∧ RowAt w' g (marksL k n) ∧ Below B w w' := by
  have HR := Lib.hid hr
  clear hr
  go_enter Tryd.func18, Tryd.ntmps18
  go_wp2
  go_loopw [1, 5] (fun m i wr => ∃ j : Nat, j ≤ n ∧ i = .int .i64 j ∧ m = .int .i64 (k + j : Nat) ∧ RowAt wr g ((marksL k n).take j ++ xs.drop j) ∧ Below B w wr) (fun _ i _ => n - (intOf i).toNat)
  case atStart => exact ⟨0, Nat.zero_le _, rfl, rfl, by simpa using HR.out, Below.refl _ _⟩
  case round =>
    obtain ⟨j, hj, rfl, rfl, hrow, hb⟩ := hrel
    have hgl : g < wr.heap.size := by have := hb.size; omega
    by_cases hlt : j < n
    · have hl : j < ((marksL k n).take j ++ xs.drop j).length := by simp [marksL_len, hx]; omega
      have hset := marks_set k n j xs hx hlt
      have HS := Lib.hid hset
      have HW := Lib.hid hrow
      clear hset hrow
      go_wp2_with (go_at_call 43; rw [show ((k : Int) + (j : Int)) = ((k + j : Nat) : Int) from by omega]; refine (markText_any _ _ (by omega) (by omega)).mono ?_; rintro e w1 ⟨rfl, b1⟩; have R1 : Hid (RowAt w1 g ((marksL k n).take j ++ xs.drop j)) := (HW.out.below b1 hgl); obtain ⟨old, k1⟩ : ∃ old, w1.cell? ⟨g, j, none⟩ = some old := ⟨_, (R1.out j hl).1⟩; have f1 := (R1.out j hl).2)
      go_roundw
      case rel => exact ⟨j + 1, by omega, by go_num, by go_num, by rw [← HS.out]; exact R1.out.set hl _, (hb.trans (b1.mono (by omega))).setCell hB _⟩
      case measure => simp [intOf]; omega
    · have hjn : j = n := by omega
      subst hjn
      have HE : Hid ((marksL k j).take j ++ xs.drop j = marksL k j) := by
        show (marksL k j).take j ++ xs.drop j = marksL k j
        rw [List.take_of_length_le (by rw [marksL_len]; omega), List.drop_of_length_le (by omega)]; simp
      go_wp2
      go_ret
      exact ⟨rfl, by rw [← HE.out]; exact hrow, hb⟩

set_option maxRecDepth 100000 in
set_option maxHeartbeats 800000 in
theorem heldStr_any (k n g cap : Nat) (w : World) (h0 : 1 ≤ k) (hn : k + n ≤ 1000000000000000) (hr : RowAt w g (marksL k n)) (hg : g < w.heap.size) :
    Calls Tryd.prog 19 #[.slice (some ⟨g, 0, none⟩) n cap, .int .i64 k] w fun e w' => e = .returned (.int .i64 (k + n : Nat)) ∧ Below w.heap.size w w' := by
  have HR := Lib.hid hr
  clear hr
  go_enter Tryd.func19, Tryd.ntmps19
  go_wp2
  go_loopw [1, 5] (fun m i wr => ∃ j : Nat, j ≤ n ∧ i = .int .i64 j ∧ m = .int .i64 (k + j : Nat) ∧ Below w.heap.size w wr) (fun _ i _ => n - (intOf i).toNat)
  case atStart => exact ⟨0, Nat.zero_le _, rfl, rfl, Below.refl _ _⟩
  case round =>
    obtain ⟨j, hj, rfl, rfl, hb⟩ := hrel
    have hgl : g < wr.heap.size := by have := hb.size; omega
    by_cases hlt : j < n
    · have hrow : RowAt wr g (marksL k n) := HR.out.below hb hg
      have hc : wr.cell? ⟨g, j, none⟩ = some (.string ⟨(markL (k + j)).toArray⟩) := by
        rw [(hrow j (by rw [marksL_len]; exact hlt)).1, marksL_at]; rfl
      have k0 := cell_regrown hc
      have cM : ∀ (q : Nat) (h1 : 1 ≤ q) (h2 : q ≤ 1000000000000000000) d os, Calls Tryd.prog 43 #[.int .i64 (q : Int)] (grow (redrawn wr d) os) fun e w'' => e = .returned (.string ⟨(markL q).toArray⟩) ∧ ∃ p : Regrown, w'' = grow (redrawn wr p.d) p.os := fun q h1 h2 d os => Calls.regrown_of (markText_any q _ h1 h2)
      have cJ := cM (k + j) (by omega) (by omega)
      rw [show (((k + j : Nat) : Int)) = (k : Int) + (j : Int) from by omega] at cJ
      clear hrow hc cM
      go_wp2_with fail
      refine wp_region_quiet_below (by kernel_rfl) (by kernel_rfl) ?_
      repeat (quiet_step (exact cJ _ _))
      refine wpQuiet_nil ?_
      intro _ hw'
      obtain ⟨⟨dq, osq⟩, hw''⟩ := hw'
      subst hw''
      go_wp2
      go_roundw
      case rel => exact ⟨j + 1, by omega, by go_num, by go_num, hb.trans ((below_regrown wr dq osq).mono hb.size)⟩
      case measure => simp [intOf]; omega
    · have hjn : j = n := by omega
      subst hjn
      go_wp2
      go_ret
      exact ⟨rfl, hb⟩

theorem markStr_zero (k cap : Nat) (a : Option Addr) (w : World) :
    Calls Tryd.prog 18 #[.slice a 0 cap, .int .i64 k] w fun e w' => e = .returned (.int .i64 k) ∧ w = w' := by
  go_enter Tryd.func18, Tryd.ntmps18
  go_wp2
  go_loop [1, 5] (fun m i => m = .int .i64 k ∧ i = .int .i64 0) (fun _ _ => 0)
  case atStart => exact ⟨rfl, rfl⟩
  case round =>
    obtain ⟨rfl, rfl⟩ := hrel
    go_wp2
    go_ret
    exact ⟨rfl, rfl⟩
theorem heldStr_zero (k cap : Nat) (a : Option Addr) (w : World) :
    Calls Tryd.prog 19 #[.slice a 0 cap, .int .i64 k] w fun e w' => e = .returned (.int .i64 k) ∧ w = w' := by
  go_enter Tryd.func19, Tryd.ntmps19
  go_wp2
  go_loop [1, 5] (fun m i => m = .int .i64 k ∧ i = .int .i64 0) (fun _ _ => 0)
  case atStart => exact ⟨rfl, rfl⟩
  case round =>
    obtain ⟨rfl, rfl⟩ := hrel
    go_wp2
    go_ret
    exact ⟨rfl, rfl⟩

/-- A list of the call's own, marked: what it then holds, and that older blocks stay as they were. -/
theorem markStr_own (k n B : Nat) (v : Value) (xs : List Value) (w : World) (h0 : 1 ≤ k) (hn : k + n ≤ 1000000000000000) (ho : w.ownsRow B 9 1 v n xs) :
    Calls Tryd.prog 18 #[v, .int .i64 k] w fun e w' => e = .returned (.int .i64 (k + n : Nat)) ∧ RdV w' v (marksL k n) ∧ Below B w w' := by
  obtain ⟨a, cap, rfl⟩ := own_form ho
  by_cases hz : n = 0
  · subst hz
    refine (markStr_zero k cap a w).mono ?_
    rintro e w' ⟨rfl, rfl⟩
    exact ⟨rfl, ⟨a, cap, rfl, fun h => by simp [marksL] at h⟩, Below.refl _ _⟩
  · obtain ⟨g, cap', e, hB, hg, _, hc⟩ := own_cells ho (by omega)
    simp at e
    obtain ⟨rfl, rfl⟩ := e
    have hl : xs.length = n := by rw [ho.1]; omega
    refine (markStr_any k n g cap B xs w h0 hn hl hc hg hB).mono ?_
    rintro e w' ⟨rfl, hr, hb⟩
    exact ⟨rfl, ⟨_, cap, by rw [marksL_len], fun _ => ⟨g, rfl, hr⟩⟩, hb⟩

theorem heldStr_own (k n : Nat) (v : Value) (w : World) (h0 : 1 ≤ k) (hn : k + n ≤ 1000000000000000) (h : RdV w v (marksL k n)) :
    Calls Tryd.prog 19 #[v, .int .i64 k] w fun e w' => e = .returned (.int .i64 (k + n : Nat)) ∧ Below w.heap.size w w' := by
  obtain ⟨a, cap, rfl, hr⟩ := h
  rw [marksL_len] at hr ⊢
  by_cases hz : n = 0
  · subst hz
    refine (heldStr_zero k cap a w).mono ?_
    rintro e w' ⟨rfl, rfl⟩
    exact ⟨rfl, Below.refl _ _⟩
  · obtain ⟨g, rfl, hrow⟩ := hr (by omega)
    exact heldStr_any k n g cap w h0 hn hrow (hrow.lt (by rw [marksL_len]; omega))

end Go.Proofs.YtilfpefccklebaaDoor
