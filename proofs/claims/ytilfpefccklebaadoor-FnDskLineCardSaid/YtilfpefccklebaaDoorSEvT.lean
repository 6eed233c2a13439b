/- l9Text of the specification: the text of what happens. Conditions: the kind is one of 1 to 8, the numbers are at most 9999. -/
import Derived.Test.YtilfpefccklebaaDoorSEvN
import Derived.Lib.QuietBelow
import Derived.Deep.RegionWith
namespace Go.Proofs.YtilfpefccklebaaDoor
open Go.RowKit Go.Sort

theorem sp_cat (l m : List UInt8) : (⟨l.toArray⟩ : ByteArray) ++ ⟨#[32]⟩ ++ ⟨m.toArray⟩ = ⟨(l ++ 32 :: m).toArray⟩ := by
  apply ByteArray.ext; simp
theorem evTx1 (k a : Nat) : evTx k [a] = nameL k ++ 32 :: Lib.decDigits a := by simp [evTx]
theorem evTx2 (k a b : Nat) : evTx k [a, b] = (nameL k ++ 32 :: Lib.decDigits a) ++ 32 :: Lib.decDigits b := by simp [evTx]
theorem evTx3 (k a b c : Nat) : evTx k [a, b, c] = ((nameL k ++ 32 :: Lib.decDigits a) ++ 32 :: Lib.decDigits b) ++ 32 :: Lib.decDigits c := by simp [evTx]
theorem numsE3 {k a b c d : Nat} (h : k = 1 ∨ k = 2) : numsE k a b c d = [a, b, c] := if_pos h
theorem numsE6 (a b c d : Nat) : numsE 6 a b c d = [b, c, d] := rfl
theorem numsE8 (a b c d : Nat) : numsE 8 a b c d = [a, b] := rfl
theorem numsE1 {k a b c d : Nat} (h1 : k ≠ 1) (h2 : k ≠ 2) (h6 : k ≠ 6) (h8 : k ≠ 8) : numsE k a b c d = [b] := by unfold numsE; rw [if_neg (by omega), if_neg h6, if_neg h8]
theorem nameL_len (k : Nat) : (nameL k).length ≤ 5 := by unfold nameL; split <;> decide

set_option maxRecDepth 100000 in
set_option maxHeartbeats 1600000 in
theorem specEvTx_1 (k a b c d : Nat) (w : World) (h1 : 1 ≤ k) (h8 : k ≤ 8) (ha : a ≤ 9999) (hb : b ≤ 9999) (hc : c ≤ 9999) (hd : d ≤ 9999) (q1 : ((k : Int) == 1) = true) :
    Calls Tryd.prog 29 #[.agg #[.int .i64 k, .int .i64 a, .int .i64 b, .int .i64 c, .int .i64 d]] w fun e w' => e = .returned (.string (((⟨(nameL k).toArray⟩ ++ ⟨#[32]⟩ ++ ⟨(Lib.decDigits a).toArray⟩ : ByteArray) ++ ⟨#[32]⟩ ++ ⟨(Lib.decDigits b).toArray⟩ : ByteArray) ++ ⟨#[32]⟩ ++ ⟨(Lib.decDigits c).toArray⟩ : ByteArray)) ∧ Below w.heap.size w w' := by
  have hnl := nameL_len k
  have hla := dec_len4 ha
  have hlb := dec_len4 hb
  have hlc := dec_len4 hc
  have hld := dec_len4 hd
  have n0 : ¬ 9223372036854775807 < (nameL k).length + 1 := by omega
  have n1 : ¬ 9223372036854775807 < (nameL k).length + 1 + (Lib.decDigits a).length := by omega
  have n2 : ¬ 9223372036854775807 < (nameL k).length + 1 + (Lib.decDigits a).length + 1 := by omega
  have n3 : ¬ 9223372036854775807 < (nameL k).length + 1 + (Lib.decDigits a).length + 1 + (Lib.decDigits b).length := by omega
  have n4 : ¬ 9223372036854775807 < (nameL k).length + 1 + (Lib.decDigits a).length + 1 + (Lib.decDigits b).length + 1 := by omega
  have n5 : ¬ 9223372036854775807 < (nameL k).length + 1 + (Lib.decDigits a).length + 1 + (Lib.decDigits b).length + 1 + (Lib.decDigits c).length := by omega
  clear hnl hla hlb hlc hld
  go_enter Tryd.func29, Tryd.ntmps29
  go_wp2_with fail
  generalize hW : World.alloc w _ = W
  have hs : W.heap.size = w.heap.size + 1 := by rw [← hW]; simp
  have k0 : W.cell? ⟨w.heap.size, 0, none⟩ = some (.int .i64 k) := by rw [← hW]; simp
  have k1 : W.cell? ⟨w.heap.size, 1, none⟩ = some (.int .i64 a) := by rw [← hW]; simp
  have k2 : W.cell? ⟨w.heap.size, 2, none⟩ = some (.int .i64 b) := by rw [← hW]; simp
  have k3 : W.cell? ⟨w.heap.size, 3, none⟩ = some (.int .i64 c) := by rw [← hW]; simp
  have k4 : W.cell? ⟨w.heap.size, 4, none⟩ = some (.int .i64 d) := by rw [← hW]; simp
  have BW : Hid (Below w.heap.size w W) := by rw [← hW]; exact (Below.refl _ _).alloc (Nat.le_refl _) _
  have mk : Hid (∀ w', Below W.heap.size W w' → w'.cell? ⟨w.heap.size, 0, none⟩ = some (.int .i64 k) ∧ Below W.heap.size W w') := fun w' h => ⟨(h.cell (by rw [hs]; exact Nat.lt_succ_self _)).trans k0, h⟩
  have HH := Lib.hid hW
  clear hW
  go_cut [3] (fun s3 wx => s3 = .string ⟨(nameL k).toArray⟩ ∧ Below W.heap.size W wx)
  case first =>
    go_region_with (first | (go_at_call 52; refine (specNames_any _).mono ?_; rintro e w2 ⟨g, rfl, gB, gl, row, b2⟩; have B2 : Below W.heap.size W w2 := ((Below.refl _ W).drew).trans (b2.mono (Nat.le_refl _)); have hn := row k (by omega); unfold nameV at hn; clear row; have hk9 : (k : Int) < 9 := (by omega); have k0 := (mk.out _ B2).1))
    all_goals (go_wp2_with fail; go_meet)
    all_goals exact ⟨rfl, B2⟩
  case rest =>
    obtain ⟨rfl, hB⟩ := hcut
    have e0 := (hB.cell (p := ⟨w.heap.size, 0, none⟩) (by rw [hs]; exact Nat.lt_succ_self _)).trans k0
    have k1 := cell_regrown ((hB.cell (p := ⟨w.heap.size, 1, none⟩) (by rw [hs]; exact Nat.lt_succ_self _)).trans k1)
    have k2 := cell_regrown ((hB.cell (p := ⟨w.heap.size, 2, none⟩) (by rw [hs]; exact Nat.lt_succ_self _)).trans k2)
    have k3 := cell_regrown ((hB.cell (p := ⟨w.heap.size, 3, none⟩) (by rw [hs]; exact Nat.lt_succ_self _)).trans k3)
    have k4 := cell_regrown ((hB.cell (p := ⟨w.heap.size, 4, none⟩) (by rw [hs]; exact Nat.lt_succ_self _)).trans k4)
    have cN : ∀ (n : Nat) (hk : n ≤ 9999) dd os, Calls Tryd.prog 33 #[.int .i64 (n : Int)] (grow (redrawn wc dd) os) fun e w'' => e = .returned (.string ⟨(Lib.decDigits n).toArray⟩) ∧ ∃ p : Regrown, w'' = grow (redrawn wc p.d) p.os := fun n hk dd os => Calls.regrown_of (specPlain_any n _ (by omega))
    clear mk k0
    go_wp2_with fail
    refine wp_region_quiet_below (by kernel_rfl) (by kernel_rfl) ?_
    repeat (quiet_step (exact cN _ (by omega) _ _))
    refine wpQuiet_nil ?_
    intro _ hw'
    obtain ⟨⟨dq, osq⟩, hw''⟩ := hw'
    subst hw''
    go_wp2
    go_ret
    exact ⟨rfl, (BW.out.trans (hB.mono (by omega))).trans ((below_regrown wc dq osq).mono (by have := hB.size; omega))⟩

set_option maxRecDepth 100000 in
set_option maxHeartbeats 1600000 in
theorem specEvTx_2 (k a b c d : Nat) (w : World) (h1 : 1 ≤ k) (h8 : k ≤ 8) (ha : a ≤ 9999) (hb : b ≤ 9999) (hc : c ≤ 9999) (hd : d ≤ 9999) (q1 : ((k : Int) == 1) = false) (q2 : ((k : Int) == 2) = true) :
    Calls Tryd.prog 29 #[.agg #[.int .i64 k, .int .i64 a, .int .i64 b, .int .i64 c, .int .i64 d]] w fun e w' => e = .returned (.string (((⟨(nameL k).toArray⟩ ++ ⟨#[32]⟩ ++ ⟨(Lib.decDigits a).toArray⟩ : ByteArray) ++ ⟨#[32]⟩ ++ ⟨(Lib.decDigits b).toArray⟩ : ByteArray) ++ ⟨#[32]⟩ ++ ⟨(Lib.decDigits c).toArray⟩ : ByteArray)) ∧ Below w.heap.size w w' := by
  have hnl := nameL_len k
  have hla := dec_len4 ha
  have hlb := dec_len4 hb
  have hlc := dec_len4 hc
  have hld := dec_len4 hd
  have n0 : ¬ 9223372036854775807 < (nameL k).length + 1 := by omega
  have n1 : ¬ 9223372036854775807 < (nameL k).length + 1 + (Lib.decDigits a).length := by omega
  have n2 : ¬ 9223372036854775807 < (nameL k).length + 1 + (Lib.decDigits a).length + 1 := by omega
  have n3 : ¬ 9223372036854775807 < (nameL k).length + 1 + (Lib.decDigits a).length + 1 + (Lib.decDigits b).length := by omega
  have n4 : ¬ 9223372036854775807 < (nameL k).length + 1 + (Lib.decDigits a).length + 1 + (Lib.decDigits b).length + 1 := by omega
  have n5 : ¬ 9223372036854775807 < (nameL k).length + 1 + (Lib.decDigits a).length + 1 + (Lib.decDigits b).length + 1 + (Lib.decDigits c).length := by omega
  clear hnl hla hlb hlc hld
  go_enter Tryd.func29, Tryd.ntmps29
  go_wp2_with fail
  generalize hW : World.alloc w _ = W
  have hs : W.heap.size = w.heap.size + 1 := by rw [← hW]; simp
  have k0 : W.cell? ⟨w.heap.size, 0, none⟩ = some (.int .i64 k) := by rw [← hW]; simp
  have k1 : W.cell? ⟨w.heap.size, 1, none⟩ = some (.int .i64 a) := by rw [← hW]; simp
  have k2 : W.cell? ⟨w.heap.size, 2, none⟩ = some (.int .i64 b) := by rw [← hW]; simp
  have k3 : W.cell? ⟨w.heap.size, 3, none⟩ = some (.int .i64 c) := by rw [← hW]; simp
  have k4 : W.cell? ⟨w.heap.size, 4, none⟩ = some (.int .i64 d) := by rw [← hW]; simp
  have BW : Hid (Below w.heap.size w W) := by rw [← hW]; exact (Below.refl _ _).alloc (Nat.le_refl _) _
  have mk : Hid (∀ w', Below W.heap.size W w' → w'.cell? ⟨w.heap.size, 0, none⟩ = some (.int .i64 k) ∧ Below W.heap.size W w') := fun w' h => ⟨(h.cell (by rw [hs]; exact Nat.lt_succ_self _)).trans k0, h⟩
  have HH := Lib.hid hW
  clear hW
  go_cut [3] (fun s3 wx => s3 = .string ⟨(nameL k).toArray⟩ ∧ Below W.heap.size W wx)
  case first =>
    go_region_with (first | (go_at_call 52; refine (specNames_any _).mono ?_; rintro e w2 ⟨g, rfl, gB, gl, row, b2⟩; have B2 : Below W.heap.size W w2 := ((Below.refl _ W).drew).trans (b2.mono (Nat.le_refl _)); have hn := row k (by omega); unfold nameV at hn; clear row; have hk9 : (k : Int) < 9 := (by omega); have k0 := (mk.out _ B2).1))
    all_goals (go_wp2_with fail; go_meet)
    all_goals exact ⟨rfl, B2⟩
  case rest =>
    obtain ⟨rfl, hB⟩ := hcut
    have e0 := (hB.cell (p := ⟨w.heap.size, 0, none⟩) (by rw [hs]; exact Nat.lt_succ_self _)).trans k0
    have k1 := cell_regrown ((hB.cell (p := ⟨w.heap.size, 1, none⟩) (by rw [hs]; exact Nat.lt_succ_self _)).trans k1)
    have k2 := cell_regrown ((hB.cell (p := ⟨w.heap.size, 2, none⟩) (by rw [hs]; exact Nat.lt_succ_self _)).trans k2)
    have k3 := cell_regrown ((hB.cell (p := ⟨w.heap.size, 3, none⟩) (by rw [hs]; exact Nat.lt_succ_self _)).trans k3)
    have k4 := cell_regrown ((hB.cell (p := ⟨w.heap.size, 4, none⟩) (by rw [hs]; exact Nat.lt_succ_self _)).trans k4)
    have cN : ∀ (n : Nat) (hk : n ≤ 9999) dd os, Calls Tryd.prog 33 #[.int .i64 (n : Int)] (grow (redrawn wc dd) os) fun e w'' => e = .returned (.string ⟨(Lib.decDigits n).toArray⟩) ∧ ∃ p : Regrown, w'' = grow (redrawn wc p.d) p.os := fun n hk dd os => Calls.regrown_of (specPlain_any n _ (by omega))
    clear mk k0
    go_wp2_with fail
    refine wp_region_quiet_below (by kernel_rfl) (by kernel_rfl) ?_
    repeat (quiet_step (exact cN _ (by omega) _ _))
    refine wpQuiet_nil ?_
    intro _ hw'
    obtain ⟨⟨dq, osq⟩, hw''⟩ := hw'
    subst hw''
    go_wp2
    go_ret
    exact ⟨rfl, (BW.out.trans (hB.mono (by omega))).trans ((below_regrown wc dq osq).mono (by have := hB.size; omega))⟩

set_option maxRecDepth 100000 in
set_option maxHeartbeats 1600000 in
theorem specEvTx_6 (k a b c d : Nat) (w : World) (h1 : 1 ≤ k) (h8 : k ≤ 8) (ha : a ≤ 9999) (hb : b ≤ 9999) (hc : c ≤ 9999) (hd : d ≤ 9999) (q1 : ((k : Int) == 1) = false) (q2 : ((k : Int) == 2) = false) (q6 : ((k : Int) == 6) = true) :
    Calls Tryd.prog 29 #[.agg #[.int .i64 k, .int .i64 a, .int .i64 b, .int .i64 c, .int .i64 d]] w fun e w' => e = .returned (.string (((⟨(nameL k).toArray⟩ ++ ⟨#[32]⟩ ++ ⟨(Lib.decDigits b).toArray⟩ : ByteArray) ++ ⟨#[32]⟩ ++ ⟨(Lib.decDigits c).toArray⟩ : ByteArray) ++ ⟨#[32]⟩ ++ ⟨(Lib.decDigits d).toArray⟩ : ByteArray)) ∧ Below w.heap.size w w' := by
  have hnl := nameL_len k
  have hla := dec_len4 ha
  have hlb := dec_len4 hb
  have hlc := dec_len4 hc
  have hld := dec_len4 hd
  have n0 : ¬ 9223372036854775807 < (nameL k).length + 1 := by omega
  have n1 : ¬ 9223372036854775807 < (nameL k).length + 1 + (Lib.decDigits b).length := by omega
  have n2 : ¬ 9223372036854775807 < (nameL k).length + 1 + (Lib.decDigits b).length + 1 := by omega
  have n3 : ¬ 9223372036854775807 < (nameL k).length + 1 + (Lib.decDigits b).length + 1 + (Lib.decDigits c).length := by omega
  have n4 : ¬ 9223372036854775807 < (nameL k).length + 1 + (Lib.decDigits b).length + 1 + (Lib.decDigits c).length + 1 := by omega
  have n5 : ¬ 9223372036854775807 < (nameL k).length + 1 + (Lib.decDigits b).length + 1 + (Lib.decDigits c).length + 1 + (Lib.decDigits d).length := by omega
  clear hnl hla hlb hlc hld
  go_enter Tryd.func29, Tryd.ntmps29
  go_wp2_with fail
  generalize hW : World.alloc w _ = W
  have hs : W.heap.size = w.heap.size + 1 := by rw [← hW]; simp
  have k0 : W.cell? ⟨w.heap.size, 0, none⟩ = some (.int .i64 k) := by rw [← hW]; simp
  have k1 : W.cell? ⟨w.heap.size, 1, none⟩ = some (.int .i64 a) := by rw [← hW]; simp
  have k2 : W.cell? ⟨w.heap.size, 2, none⟩ = some (.int .i64 b) := by rw [← hW]; simp
  have k3 : W.cell? ⟨w.heap.size, 3, none⟩ = some (.int .i64 c) := by rw [← hW]; simp
  have k4 : W.cell? ⟨w.heap.size, 4, none⟩ = some (.int .i64 d) := by rw [← hW]; simp
  have BW : Hid (Below w.heap.size w W) := by rw [← hW]; exact (Below.refl _ _).alloc (Nat.le_refl _) _
  have mk : Hid (∀ w', Below W.heap.size W w' → w'.cell? ⟨w.heap.size, 0, none⟩ = some (.int .i64 k) ∧ Below W.heap.size W w') := fun w' h => ⟨(h.cell (by rw [hs]; exact Nat.lt_succ_self _)).trans k0, h⟩
  have HH := Lib.hid hW
  clear hW
  go_cut [3] (fun s3 wx => s3 = .string ⟨(nameL k).toArray⟩ ∧ Below W.heap.size W wx)
  case first =>
    go_region_with (first | (go_at_call 52; refine (specNames_any _).mono ?_; rintro e w2 ⟨g, rfl, gB, gl, row, b2⟩; have B2 : Below W.heap.size W w2 := ((Below.refl _ W).drew).trans (b2.mono (Nat.le_refl _)); have hn := row k (by omega); unfold nameV at hn; clear row; have hk9 : (k : Int) < 9 := (by omega); have k0 := (mk.out _ B2).1))
    all_goals (go_wp2_with fail; go_meet)
    all_goals exact ⟨rfl, B2⟩
  case rest =>
    obtain ⟨rfl, hB⟩ := hcut
    have e0 := (hB.cell (p := ⟨w.heap.size, 0, none⟩) (by rw [hs]; exact Nat.lt_succ_self _)).trans k0
    have k1 := cell_regrown ((hB.cell (p := ⟨w.heap.size, 1, none⟩) (by rw [hs]; exact Nat.lt_succ_self _)).trans k1)
    have k2 := cell_regrown ((hB.cell (p := ⟨w.heap.size, 2, none⟩) (by rw [hs]; exact Nat.lt_succ_self _)).trans k2)
    have k3 := cell_regrown ((hB.cell (p := ⟨w.heap.size, 3, none⟩) (by rw [hs]; exact Nat.lt_succ_self _)).trans k3)
    have k4 := cell_regrown ((hB.cell (p := ⟨w.heap.size, 4, none⟩) (by rw [hs]; exact Nat.lt_succ_self _)).trans k4)
    have cN : ∀ (n : Nat) (hk : n ≤ 9999) dd os, Calls Tryd.prog 33 #[.int .i64 (n : Int)] (grow (redrawn wc dd) os) fun e w'' => e = .returned (.string ⟨(Lib.decDigits n).toArray⟩) ∧ ∃ p : Regrown, w'' = grow (redrawn wc p.d) p.os := fun n hk dd os => Calls.regrown_of (specPlain_any n _ (by omega))
    clear mk k0
    go_wp2_with fail
    refine wp_region_quiet_below (by kernel_rfl) (by kernel_rfl) ?_
    repeat (quiet_step (exact cN _ (by omega) _ _))
    refine wpQuiet_nil ?_
    intro _ hw'
    obtain ⟨⟨dq, osq⟩, hw''⟩ := hw'
    subst hw''
    go_wp2
    go_ret
    exact ⟨rfl, (BW.out.trans (hB.mono (by omega))).trans ((below_regrown wc dq osq).mono (by have := hB.size; omega))⟩

set_option maxRecDepth 100000 in
set_option maxHeartbeats 1600000 in
theorem specEvTx_8 (k a b c d : Nat) (w : World) (h1 : 1 ≤ k) (h8 : k ≤ 8) (ha : a ≤ 9999) (hb : b ≤ 9999) (hc : c ≤ 9999) (hd : d ≤ 9999) (q1 : ((k : Int) == 1) = false) (q2 : ((k : Int) == 2) = false) (q6 : ((k : Int) == 6) = false) (q8 : ((k : Int) == 8) = true) :
    Calls Tryd.prog 29 #[.agg #[.int .i64 k, .int .i64 a, .int .i64 b, .int .i64 c, .int .i64 d]] w fun e w' => e = .returned (.string ((⟨(nameL k).toArray⟩ ++ ⟨#[32]⟩ ++ ⟨(Lib.decDigits a).toArray⟩ : ByteArray) ++ ⟨#[32]⟩ ++ ⟨(Lib.decDigits b).toArray⟩ : ByteArray)) ∧ Below w.heap.size w w' := by
  have hnl := nameL_len k
  have hla := dec_len4 ha
  have hlb := dec_len4 hb
  have hlc := dec_len4 hc
  have hld := dec_len4 hd
  have n0 : ¬ 9223372036854775807 < (nameL k).length + 1 := by omega
  have n1 : ¬ 9223372036854775807 < (nameL k).length + 1 + (Lib.decDigits a).length := by omega
  have n2 : ¬ 9223372036854775807 < (nameL k).length + 1 + (Lib.decDigits a).length + 1 := by omega
  have n3 : ¬ 9223372036854775807 < (nameL k).length + 1 + (Lib.decDigits a).length + 1 + (Lib.decDigits b).length := by omega
  clear hnl hla hlb hlc hld
  go_enter Tryd.func29, Tryd.ntmps29
  go_wp2_with fail
  generalize hW : World.alloc w _ = W
  have hs : W.heap.size = w.heap.size + 1 := by rw [← hW]; simp
  have k0 : W.cell? ⟨w.heap.size, 0, none⟩ = some (.int .i64 k) := by rw [← hW]; simp
  have k1 : W.cell? ⟨w.heap.size, 1, none⟩ = some (.int .i64 a) := by rw [← hW]; simp
  have k2 : W.cell? ⟨w.heap.size, 2, none⟩ = some (.int .i64 b) := by rw [← hW]; simp
  have k3 : W.cell? ⟨w.heap.size, 3, none⟩ = some (.int .i64 c) := by rw [← hW]; simp
  have k4 : W.cell? ⟨w.heap.size, 4, none⟩ = some (.int .i64 d) := by rw [← hW]; simp
  have BW : Hid (Below w.heap.size w W) := by rw [← hW]; exact (Below.refl _ _).alloc (Nat.le_refl _) _
  have mk : Hid (∀ w', Below W.heap.size W w' → w'.cell? ⟨w.heap.size, 0, none⟩ = some (.int .i64 k) ∧ Below W.heap.size W w') := fun w' h => ⟨(h.cell (by rw [hs]; exact Nat.lt_succ_self _)).trans k0, h⟩
  have HH := Lib.hid hW
  clear hW
  go_cut [3] (fun s3 wx => s3 = .string ⟨(nameL k).toArray⟩ ∧ Below W.heap.size W wx)
  case first =>
    go_region_with (first | (go_at_call 52; refine (specNames_any _).mono ?_; rintro e w2 ⟨g, rfl, gB, gl, row, b2⟩; have B2 : Below W.heap.size W w2 := ((Below.refl _ W).drew).trans (b2.mono (Nat.le_refl _)); have hn := row k (by omega); unfold nameV at hn; clear row; have hk9 : (k : Int) < 9 := (by omega); have k0 := (mk.out _ B2).1))
    all_goals (go_wp2_with fail; go_meet)
    all_goals exact ⟨rfl, B2⟩
  case rest =>
    obtain ⟨rfl, hB⟩ := hcut
    have e0 := (hB.cell (p := ⟨w.heap.size, 0, none⟩) (by rw [hs]; exact Nat.lt_succ_self _)).trans k0
    have k1 := cell_regrown ((hB.cell (p := ⟨w.heap.size, 1, none⟩) (by rw [hs]; exact Nat.lt_succ_self _)).trans k1)
    have k2 := cell_regrown ((hB.cell (p := ⟨w.heap.size, 2, none⟩) (by rw [hs]; exact Nat.lt_succ_self _)).trans k2)
    have k3 := cell_regrown ((hB.cell (p := ⟨w.heap.size, 3, none⟩) (by rw [hs]; exact Nat.lt_succ_self _)).trans k3)
    have k4 := cell_regrown ((hB.cell (p := ⟨w.heap.size, 4, none⟩) (by rw [hs]; exact Nat.lt_succ_self _)).trans k4)
    have cN : ∀ (n : Nat) (hk : n ≤ 9999) dd os, Calls Tryd.prog 33 #[.int .i64 (n : Int)] (grow (redrawn wc dd) os) fun e w'' => e = .returned (.string ⟨(Lib.decDigits n).toArray⟩) ∧ ∃ p : Regrown, w'' = grow (redrawn wc p.d) p.os := fun n hk dd os => Calls.regrown_of (specPlain_any n _ (by omega))
    clear mk k0
    go_wp2_with fail
    refine wp_region_quiet_below (by kernel_rfl) (by kernel_rfl) ?_
    repeat (quiet_step (exact cN _ (by omega) _ _))
    refine wpQuiet_nil ?_
    intro _ hw'
    obtain ⟨⟨dq, osq⟩, hw''⟩ := hw'
    subst hw''
    go_wp2
    go_ret
    exact ⟨rfl, (BW.out.trans (hB.mono (by omega))).trans ((below_regrown wc dq osq).mono (by have := hB.size; omega))⟩

set_option maxRecDepth 100000 in
set_option maxHeartbeats 1600000 in
theorem specEvTx_o (k a b c d : Nat) (w : World) (h1 : 1 ≤ k) (h8 : k ≤ 8) (ha : a ≤ 9999) (hb : b ≤ 9999) (hc : c ≤ 9999) (hd : d ≤ 9999) (q1 : ((k : Int) == 1) = false) (q2 : ((k : Int) == 2) = false) (q6 : ((k : Int) == 6) = false) (q8 : ((k : Int) == 8) = false) :
    Calls Tryd.prog 29 #[.agg #[.int .i64 k, .int .i64 a, .int .i64 b, .int .i64 c, .int .i64 d]] w fun e w' => e = .returned (.string (⟨(nameL k).toArray⟩ ++ ⟨#[32]⟩ ++ ⟨(Lib.decDigits b).toArray⟩ : ByteArray)) ∧ Below w.heap.size w w' := by
  have hnl := nameL_len k
  have hla := dec_len4 ha
  have hlb := dec_len4 hb
  have hlc := dec_len4 hc
  have hld := dec_len4 hd
  have n0 : ¬ 9223372036854775807 < (nameL k).length + 1 := by omega
  have n1 : ¬ 9223372036854775807 < (nameL k).length + 1 + (Lib.decDigits b).length := by omega
  clear hnl hla hlb hlc hld
  go_enter Tryd.func29, Tryd.ntmps29
  go_wp2_with fail
  generalize hW : World.alloc w _ = W
  have hs : W.heap.size = w.heap.size + 1 := by rw [← hW]; simp
  have k0 : W.cell? ⟨w.heap.size, 0, none⟩ = some (.int .i64 k) := by rw [← hW]; simp
  have k1 : W.cell? ⟨w.heap.size, 1, none⟩ = some (.int .i64 a) := by rw [← hW]; simp
  have k2 : W.cell? ⟨w.heap.size, 2, none⟩ = some (.int .i64 b) := by rw [← hW]; simp
  have k3 : W.cell? ⟨w.heap.size, 3, none⟩ = some (.int .i64 c) := by rw [← hW]; simp
  have k4 : W.cell? ⟨w.heap.size, 4, none⟩ = some (.int .i64 d) := by rw [← hW]; simp
  have BW : Hid (Below w.heap.size w W) := by rw [← hW]; exact (Below.refl _ _).alloc (Nat.le_refl _) _
  have mk : Hid (∀ w', Below W.heap.size W w' → w'.cell? ⟨w.heap.size, 0, none⟩ = some (.int .i64 k) ∧ Below W.heap.size W w') := fun w' h => ⟨(h.cell (by rw [hs]; exact Nat.lt_succ_self _)).trans k0, h⟩
  have HH := Lib.hid hW
  clear hW
  go_cut [3] (fun s3 wx => s3 = .string ⟨(nameL k).toArray⟩ ∧ Below W.heap.size W wx)
  case first =>
    go_region_with (first | (go_at_call 52; refine (specNames_any _).mono ?_; rintro e w2 ⟨g, rfl, gB, gl, row, b2⟩; have B2 : Below W.heap.size W w2 := ((Below.refl _ W).drew).trans (b2.mono (Nat.le_refl _)); have hn := row k (by omega); unfold nameV at hn; clear row; have hk9 : (k : Int) < 9 := (by omega); have k0 := (mk.out _ B2).1))
    all_goals (go_wp2_with fail; go_meet)
    all_goals exact ⟨rfl, B2⟩
  case rest =>
    obtain ⟨rfl, hB⟩ := hcut
    have e0 := (hB.cell (p := ⟨w.heap.size, 0, none⟩) (by rw [hs]; exact Nat.lt_succ_self _)).trans k0
    have e2 := (hB.cell (p := ⟨w.heap.size, 2, none⟩) (by rw [hs]; exact Nat.lt_succ_self _)).trans k2
    clear mk k0
    go_wp2_with (go_at_call 33; refine (specPlain_any _ _ (by omega)).mono ?_; rintro e w3 ⟨rfl, b3⟩)
    go_ret
    exact ⟨rfl, (BW.out.trans (hB.mono (by omega))).trans (b3.mono (by have := hB.size; omega))⟩

theorem specEvTx_any (k a b c d : Nat) (w : World) (h1 : 1 ≤ k) (h8 : k ≤ 8) (ha : a ≤ 9999) (hb : b ≤ 9999) (hc : c ≤ 9999) (hd : d ≤ 9999) :
    Calls Tryd.prog 29 #[.agg #[.int .i64 k, .int .i64 a, .int .i64 b, .int .i64 c, .int .i64 d]] w fun e w' => e = .returned (.string ⟨(evTx k (numsE k a b c d)).toArray⟩) ∧ Below w.heap.size w w' := by
  have no : ∀ m : Nat, k ≠ m → ((k : Int) == (m : Int)) = false := fun m h => by simp; omega
  have ye : ∀ m : Nat, k = m → ((k : Int) == (m : Int)) = true := fun m h => by simp; omega
  by_cases q1 : k = 1
  · rw [numsE3 (Or.inl q1), evTx3, ← sp_cat, ← sp_cat, ← sp_cat]
    exact specEvTx_1 k a b c d w h1 h8 ha hb hc hd (ye 1 q1)
  · by_cases q2 : k = 2
    · rw [numsE3 (Or.inr q2), evTx3, ← sp_cat, ← sp_cat, ← sp_cat]
      exact specEvTx_2 k a b c d w h1 h8 ha hb hc hd (no 1 q1) (ye 2 q2)
    · by_cases q6 : k = 6
      · have e : numsE k a b c d = [b, c, d] := by rw [q6]; rfl
        rw [e, evTx3, ← sp_cat, ← sp_cat, ← sp_cat]
        exact specEvTx_6 k a b c d w h1 h8 ha hb hc hd (no 1 q1) (no 2 q2) (ye 6 q6)
      · by_cases q8 : k = 8
        · have e : numsE k a b c d = [a, b] := by rw [q8]; rfl
          rw [e, evTx2, ← sp_cat, ← sp_cat]
          exact specEvTx_8 k a b c d w h1 h8 ha hb hc hd (no 1 q1) (no 2 q2) (no 6 q6) (ye 8 q8)
        · rw [numsE1 q1 q2 q6 q8, evTx1, ← sp_cat]
          exact specEvTx_o k a b c d w h1 h8 ha hb hc hd (no 1 q1) (no 2 q2) (no 6 q6) (no 8 q8)

end Go.Proofs.YtilfpefccklebaaDoor
