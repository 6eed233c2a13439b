/- How the law compares lists of spans, marks them and finds the marks again. Conditions: at most 2^22 spans. -/
import Derived.Test.YtgjhfmlncibpmaaSpMem
import Derived.Deep.RegionWith
namespace Go.Proofs.Ytgjhfmlncibpmaa
open Go.RowKit

set_option maxRecDepth 100000 in
set_option maxHeartbeats 1600000 in
theorem eqSpan_same (f t o u : Int) (p : Bool) (w : World) :
    Calls Try.prog 15 #[.agg #[.int .i64 f, .int .i64 t, .int .i64 o, .int .i64 u, .bool p], .agg #[.int .i64 f, .int .i64 t, .int .i64 o, .int .i64 u, .bool p]] w fun e w' => e = .returned (.bool true) ∧ Below w.heap.size w w' := by
  go_enter Try.func15, Try.ntmps15
  go_wp2
  go_ret
  exact ⟨rfl, ((Below.refl _ _).alloc (Nat.le_refl _) _).alloc (by simp) _⟩

/-- The five cells of an element. -/
theorem RowAt.five {w : World} {g : Nat} {xs : List (Nat × Nat × Nat × Nat × Bool)} (h : RowAt w g (flatC spC xs)) (i : Nat) (hi : i < xs.length) (f t o u : Nat) (p : Bool) (hp : (f, t, o, u, p) = xs[i]) :
    (w.cell? ⟨g, i * 5, none⟩ = some (.int .i64 f) ∧ w.cell? ⟨g, i * 5 + 1, none⟩ = some (.int .i64 t) ∧ w.cell? ⟨g, i * 5 + 2, none⟩ = some (.int .i64 o) ∧ w.cell? ⟨g, i * 5 + 3, none⟩ = some (.int .i64 u) ∧ w.cell? ⟨g, i * 5 + 4, none⟩ = some (.bool p)) ∧
    (w.frozen? ⟨g, i * 5, none⟩ = false ∧ w.frozen? ⟨g, i * 5 + 1, none⟩ = false ∧ w.frozen? ⟨g, i * 5 + 2, none⟩ = false ∧ w.frozen? ⟨g, i * 5 + 3, none⟩ = false ∧ w.frozen? ⟨g, i * 5 + 4, none⟩ = false) := by
  have e0 := h.elem spC_len i hi 0 (by decide) (.int .i64 f) (by rw [← hp]; rfl)
  have e1 := h.elem spC_len i hi 1 (by decide) (.int .i64 t) (by rw [← hp]; rfl)
  have e2 := h.elem spC_len i hi 2 (by decide) (.int .i64 o) (by rw [← hp]; rfl)
  have e3 := h.elem spC_len i hi 3 (by decide) (.int .i64 u) (by rw [← hp]; rfl)
  have e4 := h.elem spC_len i hi 4 (by decide) (.bool p) (by rw [← hp]; rfl)
  exact ⟨⟨e0.1, e1.1, e2.1, e3.1, e4.1⟩, ⟨e0.2, e1.2, e2.2, e3.2, e4.2⟩⟩

set_option maxRecDepth 100000 in
set_option maxHeartbeats 1600000 in
theorem eqSpans_same (v1 v2 : Value) (xs : List (Nat × Nat × Nat × Nat × Bool)) (w : World) (hn : xs.length ≤ 4194304) (h1 : RdSp w v1 xs) (h2 : RdSp w v2 xs) :
    Calls Try.prog 7 #[v1, v2] w fun e w' => e = .returned (.bool true) ∧ Below w.heap.size w w' := by
  obtain ⟨a1, cap1, rfl, hc1, r1⟩ := h1
  obtain ⟨a2, cap2, rfl, hc2, r2⟩ := h2
  have R1 := Lib.hid r1
  have R2 := Lib.hid r2
  clear r1 r2
  go_enter Try.func7, Try.ntmps7
  go_wp2
  go_loopw [5] (fun i wr => ∃ k : Nat, k ≤ xs.length ∧ i = .int .i64 k ∧ Below w.heap.size w wr) (fun i _ => xs.length - (intOf i).toNat)
  case atStart => exact ⟨0, Nat.zero_le _, rfl, Below.refl _ _⟩
  case round =>
    obtain ⟨k, hk, rfl, hb⟩ := hrel
    by_cases hlt : k < xs.length
    · obtain ⟨g1, rfl, q1⟩ := R1.out (by omega)
      obtain ⟨g2, rfl, q2⟩ := R2.out (by omega)
      have hl : 0 < (flatC spC xs).length := by rw [flatC_len spC_len]; omega
      obtain ⟨⟨f, t, o, u, p⟩, hp⟩ : ∃ p, p = xs[k] := ⟨_, rfl⟩
      obtain ⟨⟨p0, p1, p2, p3, p4⟩, _⟩ := (q1.below hb (q1.lt hl)).five k hlt f t o u p hp
      obtain ⟨⟨s0, s1, s2, s3, s4⟩, _⟩ := (q2.below hb (q2.lt hl)).five k hlt f t o u p hp
      have HC : Hid (∀ w, Calls Try.prog 15 #[.agg #[.int .i64 f, .int .i64 t, .int .i64 o, .int .i64 u, .bool p], .agg #[.int .i64 f, .int .i64 t, .int .i64 o, .int .i64 u, .bool p]] w fun e w' => e = .returned (.bool true) ∧ Below w.heap.size w w') := fun w => eqSpan_same f t o u p w
      have HB := Lib.hid hb
      have hsz := hb.size
      have hk2 : (k : Int) ≤ (cap1 : Int) := by omega
      have hk3 : (k : Int) ≤ (cap2 : Int) := by omega
      clear hp q1 q2 R1 R2 hb
      go_wp2_with fail
      go_region_with (go_at_call 15; refine (HC.out _).mono ?_; rintro e w1 ⟨rfl, b1⟩; have BB : Hid (Below w.heap.size w w1) := (by first | exact HB.out.trans ((((Below.refl _ _).drew).trans b1).mono hsz) | exact HB.out.trans (b1.mono hsz)); clear b1)
      all_goals
        go_wp2
        go_roundw
        case rel => exact ⟨k + 1, by omega, by go_num, BB.out⟩
        case measure => simp [intOf]; omega
    · go_wp2
      go_ret
      exact ⟨rfl, hb⟩

/-- n marks of spans, from k on. -/
def marksS (k n : Nat) : List (Nat × Nat × Nat × Nat × Bool) := (List.range n).map fun i => (k + 5 * i, k + 5 * i + 1, k + 5 * i + 2, k + 5 * i + 3, decide ((k + 5 * i + 4) % 3 = 0))
theorem marksS_len (k n : Nat) : (marksS k n).length = n := by simp [marksS]
theorem marksS_at (k n i : Nat) (h : i < (marksS k n).length) : (marksS k n)[i] = (k + 5 * i, k + 5 * i + 1, k + 5 * i + 2, k + 5 * i + 3, decide ((k + 5 * i + 4) % 3 = 0)) := by simp [marksS]
theorem set_right {α : Type} (X Y : List α) (i : Nat) (v : α) : (X ++ Y).set (X.length + i) v = X ++ Y.set i v := by
  rw [List.set_append_right _ _ (by omega)]; congr 2; omega
theorem flat_set5 (A C : List (Nat × Nat × Nat × Nat × Bool)) (o p : Nat × Nat × Nat × Nat × Bool) :
    (((((flatC spC (A ++ o :: C)).set (A.length * 5) (.int .i64 p.1)).set (A.length * 5 + 1) (.int .i64 p.2.1)).set (A.length * 5 + 2) (.int .i64 p.2.2.1)).set (A.length * 5 + 3) (.int .i64 p.2.2.2.1)).set (A.length * 5 + 4) (.bool p.2.2.2.2) = flatC spC (A ++ p :: C) := by
  have hX := flatC_len spC_len A
  rw [flatC_app, flatC_app]
  obtain ⟨X, hx⟩ : ∃ X, X = flatC spC A := ⟨_, rfl⟩
  rw [← hx] at hX ⊢
  rw [← hX]
  have h0 := set_right X (flatC spC (o :: C)) 0 (.int .i64 p.1)
  simp only [Nat.add_zero] at h0
  rw [h0, set_right, set_right, set_right, set_right]
  rfl
theorem marks_next {k : Nat} {xs : List (Nat × Nat × Nat × Nat × Bool)} {j : Nat} (h : j < xs.length) :
    (marksS k xs.length).take j ++ xs.drop j = (marksS k xs.length).take j ++ xs[j] :: xs.drop (j + 1) ∧
    (marksS k xs.length).take (j + 1) ++ xs.drop (j + 1) = (marksS k xs.length).take j ++ (k + 5 * j, k + 5 * j + 1, k + 5 * j + 2, k + 5 * j + 3, decide ((k + 5 * j + 4) % 3 = 0)) :: xs.drop (j + 1) := by
  refine ⟨by rw [List.drop_eq_getElem_cons h], ?_⟩
  rw [List.take_succ_eq_append_getElem (by rw [marksS_len]; exact h), marksS_at]
  simp

theorem RowAt.mark5 {w : World} {g j : Nat} {A C : List (Nat × Nat × Nat × Nat × Bool)} {o : Nat × Nat × Nat × Nat × Bool} (h : RowAt w g (flatC spC (A ++ o :: C))) (hj : A.length = j) (p : Nat × Nat × Nat × Nat × Bool) (v0 v1 v2 v3 v4 : Value) (hv : spC p = [v0, v1, v2, v3, v4]) :
    RowAt (((((w.setCell ⟨g, j * 5, none⟩ v0).setCell ⟨g, j * 5 + 1, none⟩ v1).setCell ⟨g, j * 5 + 2, none⟩ v2).setCell ⟨g, j * 5 + 3, none⟩ v3).setCell ⟨g, j * 5 + 4, none⟩ v4) g (flatC spC (A ++ p :: C)) := by
  subst hj
  have hl : (flatC spC (A ++ o :: C)).length = (A.length + (C.length + 1)) * 5 := by rw [flatC_len spC_len]; simp
  simp only [spC, List.cons.injEq, and_true] at hv
  obtain ⟨rfl, rfl, rfl, rfl, rfl⟩ := hv
  rw [← flat_set5 A C o p]
  exact ((((h.set (by omega) _).set (by simp only [List.length_set]; omega) _).set (by simp only [List.length_set]; omega) _).set (by simp only [List.length_set]; omega) _).set (by simp only [List.length_set]; omega) _

set_option maxRecDepth 100000 in
set_option maxHeartbeats 3200000 in
theorem markSpans_any (k g cap B : Nat) (xs : List (Nat × Nat × Nat × Nat × Bool)) (w : World) (hn : k + 5 * xs.length ≤ 1000000000000000) (hcap : xs.length ≤ cap) (hr : RowAt w g (flatC spC xs)) (hg : g < w.heap.size) (hB : B ≤ g) :
    Calls Try.prog 8 #[.slice (some ⟨g, 0, none⟩) xs.length cap, .int .i64 k] w fun e w' => e = .returned (.int .i64 (k + 5 * xs.length : Nat)) ∧ RowAt w' g (flatC spC (marksS k xs.length)) ∧ Below B w w' := by
  have HR := Lib.hid hr
  clear hr
  go_enter Try.func8, Try.ntmps8
  go_wp2
  go_loopw [1, 5] (fun m i wr => ∃ (j q : Nat), j ≤ xs.length ∧ i = .int .i64 j ∧ m = .int .i64 q ∧ q = k + 5 * j ∧ RowAt wr g (flatC spC ((marksS k xs.length).take j ++ xs.drop j)) ∧ Below B w wr) (fun _ i _ => xs.length - (intOf i).toNat)
  case atStart => exact ⟨0, k, Nat.zero_le _, rfl, rfl, rfl, by simpa using HR.out, Below.refl _ _⟩
  case round =>
    obtain ⟨j, q, hj, rfl, rfl, hq, hrow, hb⟩ := hrel
    have HQ := Lib.hid hq
    have hq1 : q ≤ 1000000000000000 := by omega
    have HB := Lib.hid hb
    have hgl : g < wr.heap.size := by have := hb.size; omega
    by_cases hlt : j < xs.length
    · have hl : ((marksS k xs.length).take j ++ xs.drop j).length = xs.length := by simp [marksS_len]; omega
      obtain ⟨⟨oa, ob, oc, od, op⟩, hp⟩ : ∃ p, p = ((marksS k xs.length).take j ++ xs.drop j)[j]'(by rw [hl]; exact hlt) := ⟨_, rfl⟩
      obtain ⟨⟨a0, a1, a2, a3, a4⟩, ⟨f0, f1, f2, f3, f4⟩⟩ := hrow.five j (by rw [hl]; exact hlt) oa ob oc od op hp
      have HRow := Lib.hid hrow
      have hk2 : (j : Int) ≤ (cap : Int) := by omega
      clear hrow hq hb hp hl
      go_wp2
      go_roundw
      case rel =>
        obtain ⟨e1, e2⟩ := marks_next (k := k) hlt
        have h := HRow.out
        rw [e1] at h
        have hA : ((marksS k xs.length).take j).length = j := by rw [List.length_take, marksS_len]; omega
        refine ⟨j + 1, q + 5, by omega, by go_num, by go_num, by have := HQ.out; omega, ?_, ?_⟩
        · rw [e2, ← HQ.out]
          refine h.mark5 hA _ _ _ _ _ _ ?_
          have hb : (((q : Int) + 1 + 1 + 1 + 1) % 3 == 0) = decide ((q + 4) % 3 = 0) := by
            rw [Bool.eq_iff_iff]
            simp
            omega
          rw [hb]
          simp only [spC]
          refine congr (congrArg _ (congrArg _ ?_)) (congr (congrArg _ (congrArg _ ?_)) (congr (congrArg _ (congrArg _ ?_)) (congr (congrArg _ (congrArg _ ?_)) rfl))) <;> omega
        · exact ((((HB.out.setCell hB _).setCell hB _).setCell hB _).setCell hB _).setCell hB _
      case measure => simp [intOf]; omega
    · have hjn : j = xs.length := by omega
      have HE : Hid (RowAt wr g (flatC spC (marksS k xs.length))) := by
        rw [hjn, List.take_of_length_le (by rw [marksS_len]; omega), List.drop_of_length_le (by omega), List.append_nil] at hrow
        exact hrow
      have HQE : Hid ((q : Int) = ((k + 5 * xs.length : Nat) : Int)) := by show _ = _; rw [hq, hjn]
      clear hrow hq hjn HQ
      go_wp2
      go_ret
      exact ⟨ret_int HQE.out, HE.out, HB.out⟩

set_option maxRecDepth 100000 in
set_option maxHeartbeats 3200000 in
theorem heldSpans_any (k : Nat) (v : Value) (n : Nat) (w : World) (hn : k + 5 * n ≤ 1000000000000000) (hr : RdSp w v (marksS k n)) :
    Calls Try.prog 9 #[v, .int .i64 k] w fun e w' => e = .returned (.int .i64 (k + 5 * n : Nat)) ∧ Below w.heap.size w w' := by
  have HR := Lib.hid hr
  obtain ⟨a, cap, rfl, hcap, hrow0⟩ := hr
  rw [marksS_len] at hcap hrow0 ⊢
  have HR0 := Lib.hid hrow0
  clear hrow0 HR
  go_enter Try.func9, Try.ntmps9
  go_wp2
  go_loopw [1, 5] (fun m i wr => ∃ (j q : Nat), j ≤ n ∧ i = .int .i64 j ∧ m = .int .i64 q ∧ q = k + 5 * j ∧ Below w.heap.size w wr) (fun _ i _ => n - (intOf i).toNat)
  case atStart => exact ⟨0, k, Nat.zero_le _, rfl, rfl, rfl, Below.refl _ _⟩
  case round =>
    obtain ⟨j, q, hj, rfl, rfl, hq, hb⟩ := hrel
    have HQ := Lib.hid hq
    have hq1 : q ≤ 1000000000000000 := by omega
    have HB := Lib.hid hb
    by_cases hlt : j < n
    · obtain ⟨g, rfl, hrow⟩ := HR0.out (by omega)
      have hl : j < (marksS k n).length := by rw [marksS_len]; exact hlt
      obtain ⟨⟨a0, a1, a2, a3, a4⟩, _⟩ := (hrow.below hb (hrow.lt (by rw [flatC_len spC_len, marksS_len]; omega))).five j hl q (q + 1) (q + 2) (q + 3) (decide ((q + 4) % 3 = 0)) (by rw [marksS_at, ← hq])
      have hb : decide ((q + 4) % 3 = 0) = (((q : Int) + 1 + 1 + 1 + 1) % 3 == 0) := by
        rw [Bool.eq_iff_iff]
        simp
        omega
      rw [hb] at a4
      rw [show ((q + 1 : Nat) : Int) = (q : Int) + 1 from by omega] at a1
      rw [show ((q + 2 : Nat) : Int) = (q : Int) + 1 + 1 from by omega] at a2
      rw [show ((q + 3 : Nat) : Int) = (q : Int) + 1 + 1 + 1 from by omega] at a3
      have hk2 : (j : Int) ≤ (cap : Int) := by omega
      clear hrow hq hb hl HR0
      go_wp2
      go_roundw
      case rel => exact ⟨j + 1, q + 5, by omega, by go_num, by go_num, by have := HQ.out; omega, HB.out⟩
      case measure => simp [intOf]; omega
    · have hjn : j = n := by omega
      have HQE : Hid ((q : Int) = ((k + 5 * n : Nat) : Int)) := by show _ = _; rw [hq, hjn]
      clear hq hjn HQ
      go_wp2
      go_ret
      exact ⟨ret_int HQE.out, HB.out⟩

set_option maxRecDepth 100000 in
set_option maxHeartbeats 800000 in
theorem markSpans_zero (k cap : Nat) (a : Option Addr) (w : World) :
    Calls Try.prog 8 #[.slice a 0 cap, .int .i64 k] w fun e w' => e = .returned (.int .i64 k) ∧ w = w' := by
  go_enter Try.func8, Try.ntmps8
  go_wp2
  go_loop [1, 5] (fun m i => m = .int .i64 k ∧ i = .int .i64 0) (fun _ _ => 0)
  case atStart => exact ⟨rfl, rfl⟩
  case round =>
    obtain ⟨rfl, rfl⟩ := hrel
    go_wp2
    go_ret
    exact ⟨rfl, rfl⟩

/-- A list of the call's own, marked: what it then holds, and that older blocks stay as they were. -/
theorem markSpans_own (k B : Nat) (v : Value) (xs : List (Nat × Nat × Nat × Nat × Bool)) (w : World) (hn : k + 5 * xs.length ≤ 1000000000000000) (ho : OwnSp w B v xs) :
    Calls Try.prog 8 #[v, .int .i64 k] w fun e w' => e = .returned (.int .i64 (k + 5 * xs.length : Nat)) ∧ RdSp w' v (marksS k xs.length) ∧ Below B w w' := by
  by_cases hz : 0 < xs.length
  · obtain ⟨g, cap, rfl, hc, hB, hg, hr⟩ := RowAt.of_own ho (by rw [flatC_len spC_len]; omega)
    refine (markSpans_any k g cap B xs w hn hc hr hg hB).mono ?_
    rintro e w' ⟨rfl, h1, h2⟩
    exact ⟨rfl, ⟨_, cap, by rw [marksS_len], by rw [marksS_len]; exact hc, fun _ => ⟨g, rfl, h1⟩⟩, h2⟩
  · obtain ⟨a, cap, rfl, hc, _⟩ := ho.rd
    have h0 : xs.length = 0 := by omega
    rw [h0]
    refine (markSpans_zero k cap a w).mono ?_
    rintro e w' ⟨rfl, rfl⟩
    exact ⟨rfl, ⟨a, cap, rfl, Nat.zero_le _, fun h => by simp [marksS] at h⟩, Below.refl _ _⟩

end Go.Proofs.Ytgjhfmlncibpmaa
