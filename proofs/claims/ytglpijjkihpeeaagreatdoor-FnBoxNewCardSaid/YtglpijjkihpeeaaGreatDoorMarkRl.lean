/- Lists of rules that the call made, how the law marks them and finds the marks again. Condition: at most 2^22 rules. -/
import Derived.Test.YtglpijjkihpeeaaGreatDoorRulLaw
import Derived.Test.YtglpijjkihpeeaaGreatDoorFrL
namespace Go.Proofs.YtglpijjkihpeeaaGreatDoor
open Go.RowKit

/-- A list of rules that nobody else holds: made here, or without rules. -/
def FrRl (w : World) (B : Nat) (v : Value) (l : List Rl) : Prop := FrL 35 7 rlC w B v l
/-- A slice reads as these rules, from its block's first cell on. -/
def RcRl (w : World) (v : Value) (l : List Rl) : Prop := RdC rlC w v l
theorem RcRl.below {w w' : World} {v : Value} {l : List Rl} (h : RcRl w v l) (hb : Below w.heap.size w w') : RcRl w' v l := RdC.below rlC_len (by decide) h hb
theorem RcRl.rd {w : World} {v : Value} {l : List Rl} (h : RcRl w v l) : RdRl w v l := by
  obtain ⟨a, cap, rfl, hc, hr⟩ := h
  refine ⟨a, cap, rfl, hc, fun hn => ?_⟩
  obtain ⟨g, rfl, hrow⟩ := hr hn
  refine ⟨g, 0, rfl, hrow.lt (by rw [flatC_len rlC_len]; omega), fun i hi j u hu => ?_⟩
  have hj : j < 7 := by
    have := (List.getElem?_eq_some_iff.1 hu).1
    rwa [rlC_len] at this
  rw [Nat.zero_add]
  exact (hrow.elem rlC_len i hi j hj u hu).1
theorem FrRl.rc {w : World} {B : Nat} {v : Value} {l : List Rl} (h : FrRl w B v l) : RcRl w v l := FrL.rd rlC_len (by decide) h
theorem FrRl.rd {w : World} {B : Nat} {v : Value} {l : List Rl} (h : FrRl w B v l) : RdRl w v l := h.rc.rd

/-- The seven cells of a rule in a row. -/
theorem RowAt.rul {w : World} {g : Nat} {xs : List Rl} (h : RowAt w g (flatC rlC xs)) (i : Nat) (hi : i < xs.length) (s : Rl) (hs : s = xs[i]) :
    (w.cell? ⟨g, i * 7, none⟩ = some (.bool s.al) ∧ w.cell? ⟨g, i * 7 + 1, none⟩ = some (.int .i64 s.i) ∧ w.cell? ⟨g, i * 7 + 2, none⟩ = some (.int .i64 s.it) ∧ w.cell? ⟨g, i * 7 + 3, none⟩ = some (.int .i64 s.o) ∧ w.cell? ⟨g, i * 7 + 4, none⟩ = some (.int .i64 s.ot) ∧ w.cell? ⟨g, i * 7 + 5, none⟩ = some (.int .i64 s.p) ∧ w.cell? ⟨g, i * 7 + 6, none⟩ = some (.int .i64 s.pt)) ∧
    (w.frozen? ⟨g, i * 7, none⟩ = false ∧ w.frozen? ⟨g, i * 7 + 1, none⟩ = false ∧ w.frozen? ⟨g, i * 7 + 2, none⟩ = false ∧ w.frozen? ⟨g, i * 7 + 3, none⟩ = false ∧ w.frozen? ⟨g, i * 7 + 4, none⟩ = false ∧ w.frozen? ⟨g, i * 7 + 5, none⟩ = false ∧ w.frozen? ⟨g, i * 7 + 6, none⟩ = false) := by
  have e0 := h.elem rlC_len i hi 0 (by decide) (.bool s.al) (by rw [← hs]; rfl)
  have e1 := h.elem rlC_len i hi 1 (by decide) (.int .i64 s.i) (by rw [← hs]; rfl)
  have e2 := h.elem rlC_len i hi 2 (by decide) (.int .i64 s.it) (by rw [← hs]; rfl)
  have e3 := h.elem rlC_len i hi 3 (by decide) (.int .i64 s.o) (by rw [← hs]; rfl)
  have e4 := h.elem rlC_len i hi 4 (by decide) (.int .i64 s.ot) (by rw [← hs]; rfl)
  have e5 := h.elem rlC_len i hi 5 (by decide) (.int .i64 s.p) (by rw [← hs]; rfl)
  have e6 := h.elem rlC_len i hi 6 (by decide) (.int .i64 s.pt) (by rw [← hs]; rfl)
  exact ⟨⟨e0.1, e1.1, e2.1, e3.1, e4.1, e5.1, e6.1⟩, ⟨e0.2, e1.2, e2.2, e3.2, e4.2, e5.2, e6.2⟩⟩

/-- n marks of rules, from k on. -/
def marksR (k n : Nat) : List Rl := (List.range n).map fun i => ⟨decide ((k + 7 * i) % 3 = 0), (k + 7 * i + 1 : Nat), (k + 7 * i + 2 : Nat), (k + 7 * i + 3 : Nat), (k + 7 * i + 4 : Nat), (k + 7 * i + 5 : Nat), (k + 7 * i + 6 : Nat)⟩
theorem marksR_len (k n : Nat) : (marksR k n).length = n := by simp [marksR]
theorem marksR_at (k n i : Nat) (h : i < (marksR k n).length) : (marksR k n)[i] = ⟨decide ((k + 7 * i) % 3 = 0), (k + 7 * i + 1 : Nat), (k + 7 * i + 2 : Nat), (k + 7 * i + 3 : Nat), (k + 7 * i + 4 : Nat), (k + 7 * i + 5 : Nat), (k + 7 * i + 6 : Nat)⟩ := by simp [marksR]
theorem set_rightR {α : Type} (X Y : List α) (i : Nat) (v : α) : (X ++ Y).set (X.length + i) v = X ++ Y.set i v := by
  rw [List.set_append_right _ _ (by omega)]; congr 2; omega
theorem flat_setR (A C : List Rl) (o p : Rl) :
    ((((((((flatC rlC (A ++ o :: C)).set (A.length * 7) (.bool p.al)).set (A.length * 7 + 1) (.int .i64 p.i)).set (A.length * 7 + 2) (.int .i64 p.it)).set (A.length * 7 + 3) (.int .i64 p.o)).set (A.length * 7 + 4) (.int .i64 p.ot)).set (A.length * 7 + 5) (.int .i64 p.p)).set (A.length * 7 + 6) (.int .i64 p.pt)) = flatC rlC (A ++ p :: C) := by
  have hX := flatC_len rlC_len A
  rw [flatC_app, flatC_app]
  obtain ⟨X, hx⟩ : ∃ X, X = flatC rlC A := ⟨_, rfl⟩
  rw [← hx] at hX ⊢
  rw [← hX]
  have h0 := set_rightR X (flatC rlC (o :: C)) 0 (.bool p.al)
  simp only [Nat.add_zero] at h0
  rw [h0, set_rightR, set_rightR, set_rightR, set_rightR, set_rightR, set_rightR]
  rfl
theorem marksR_next {k : Nat} {xs : List Rl} {j : Nat} (h : j < xs.length) :
    (marksR k xs.length).take j ++ xs.drop j = (marksR k xs.length).take j ++ xs[j] :: xs.drop (j + 1) ∧
    (marksR k xs.length).take (j + 1) ++ xs.drop (j + 1) = (marksR k xs.length).take j ++ ⟨decide ((k + 7 * j) % 3 = 0), (k + 7 * j + 1 : Nat), (k + 7 * j + 2 : Nat), (k + 7 * j + 3 : Nat), (k + 7 * j + 4 : Nat), (k + 7 * j + 5 : Nat), (k + 7 * j + 6 : Nat)⟩ :: xs.drop (j + 1) := by
  refine ⟨by rw [List.drop_eq_getElem_cons h], ?_⟩
  rw [List.take_succ_eq_append_getElem (by rw [marksR_len]; exact h), marksR_at]
  simp
theorem RowAt.markR {w : World} {g j : Nat} {A C : List Rl} {o : Rl} (h : RowAt w g (flatC rlC (A ++ o :: C))) (hj : A.length = j) (p : Rl) (v0 v1 v2 v3 v4 v5 v6 : Value) (hv : rlC p = [v0, v1, v2, v3, v4, v5, v6]) :
    RowAt (((((((w.setCell ⟨g, j * 7, none⟩ v0).setCell ⟨g, j * 7 + 1, none⟩ v1).setCell ⟨g, j * 7 + 2, none⟩ v2).setCell ⟨g, j * 7 + 3, none⟩ v3).setCell ⟨g, j * 7 + 4, none⟩ v4).setCell ⟨g, j * 7 + 5, none⟩ v5).setCell ⟨g, j * 7 + 6, none⟩ v6) g (flatC rlC (A ++ p :: C)) := by
  subst hj
  have hl : (flatC rlC (A ++ o :: C)).length = (A.length + (C.length + 1)) * 7 := by rw [flatC_len rlC_len]; simp
  simp only [rlC, List.cons.injEq, and_true] at hv
  obtain ⟨rfl, rfl, rfl, rfl, rfl, rfl, rfl⟩ := hv
  rw [← flat_setR A C o p]
  exact ((((((h.set (by omega) _).set (by simp only [List.length_set]; omega) _).set (by simp only [List.length_set]; omega) _).set (by simp only [List.length_set]; omega) _).set (by simp only [List.length_set]; omega) _).set (by simp only [List.length_set]; omega) _).set (by simp only [List.length_set]; omega) _

set_option maxRecDepth 100000 in
set_option maxHeartbeats 3200000 in
theorem markRuls_any (k g cap : Nat) (xs : List Rl) (w : World) (hn : k + 7 * xs.length ≤ 1000000000000000) (hcap : xs.length ≤ cap) (hr : RowAt w g (flatC rlC xs)) (hg : g < w.heap.size) :
    Calls Tryz.prog 34 #[.slice (some ⟨g, 0, none⟩) xs.length cap, .int .i64 k] w fun e w' => e = .returned (.int .i64 (k + 7 * xs.length : Nat)) ∧ RowAt w' g (flatC rlC (marksR k xs.length)) ∧ w.grownBy w' (some g) := by
  have HR := Lib.hid hr
  clear hr
  go_enter Tryz.func34, Tryz.ntmps34
  go_wp2
  go_loopw [1, 5] (fun m i wr => ∃ (j q : Nat), j ≤ xs.length ∧ i = .int .i64 j ∧ m = .int .i64 q ∧ q = k + 7 * j ∧ RowAt wr g (flatC rlC ((marksR k xs.length).take j ++ xs.drop j)) ∧ w.grownBy wr (some g)) (fun _ i _ => xs.length - (intOf i).toNat)
  case atStart => exact ⟨0, k, Nat.zero_le _, rfl, rfl, rfl, by simpa using HR.out, World.grownBy.refl _ _⟩
  case round =>
    obtain ⟨j, q, hj, rfl, rfl, hq, hrow, hb⟩ := hrel
    have HQ := Lib.hid hq
    have hq1 : q ≤ 1000000000000000 := by omega
    have HB := Lib.hid hb
    have hgl : g < wr.heap.size := by have := hb.size; omega
    by_cases hlt : j < xs.length
    · have hl : ((marksR k xs.length).take j ++ xs.drop j).length = xs.length := by simp [marksR_len]; omega
      obtain ⟨o, hp⟩ : ∃ p, p = ((marksR k xs.length).take j ++ xs.drop j)[j]'(by rw [hl]; exact hlt) := ⟨_, rfl⟩
      obtain ⟨⟨a0, a1, a2, a3, a4, a5, a6⟩, ⟨f0, f1, f2, f3, f4, f5, f6⟩⟩ := hrow.rul j (by rw [hl]; exact hlt) o hp
      have HRow := Lib.hid hrow
      have hk2 : (j : Int) ≤ (cap : Int) := by omega
      clear hrow hq hb hp hl
      go_wp2
      go_roundw
      case rel =>
        obtain ⟨e1, e2⟩ := marksR_next (k := k) hlt
        have h := HRow.out
        rw [e1] at h
        have hA : ((marksR k xs.length).take j).length = j := by rw [List.length_take, marksR_len]; omega
        refine ⟨j + 1, q + 7, by omega, by go_num, by go_num, by have := HQ.out; omega, ?_, ?_⟩
        · rw [e2, ← HQ.out]
          refine h.markR hA _ _ _ _ _ _ _ _ ?_
          have hb : ((q : Int) % 3 == 0) = decide (q % 3 = 0) := by
            rw [Bool.eq_iff_iff]
            simp
            omega
          rw [hb]
          simp only [rlC]
          refine congr (congrArg _ rfl) (congr (congrArg _ (congrArg _ ?_)) (congr (congrArg _ (congrArg _ ?_)) (congr (congrArg _ (congrArg _ ?_)) (congr (congrArg _ (congrArg _ ?_)) (congr (congrArg _ (congrArg _ ?_)) (congr (congrArg _ (congrArg _ ?_)) rfl)))))) <;> omega
        · exact grown_setF (grown_setF (grown_setF (grown_setF (grown_setF (grown_setF (grown_setF HB.out _ _) _ _) _ _) _ _) _ _) _ _) _ _
      case measure => simp [intOf]; omega
    · have hjn : j = xs.length := by omega
      have HE : Hid (RowAt wr g (flatC rlC (marksR k xs.length))) := by
        rw [hjn, List.take_of_length_le (by rw [marksR_len]; omega), List.drop_of_length_le (by omega), List.append_nil] at hrow
        exact hrow
      have HQE : Hid ((q : Int) = ((k + 7 * xs.length : Nat) : Int)) := by show _ = _; rw [hq, hjn]
      clear hrow hq hjn HQ
      go_wp2
      go_ret
      exact ⟨ret_int HQE.out, HE.out, HB.out⟩

set_option maxRecDepth 100000 in
set_option maxHeartbeats 800000 in
theorem markRuls_zero (k cap : Nat) (a : Option Addr) (w : World) :
    Calls Tryz.prog 34 #[.slice a 0 cap, .int .i64 k] w fun e w' => e = .returned (.int .i64 k) ∧ w = w' := by
  go_enter Tryz.func34, Tryz.ntmps34
  go_wp2
  go_loop [1, 5] (fun m i => m = .int .i64 k ∧ i = .int .i64 0) (fun _ _ => 0)
  case atStart => exact ⟨rfl, rfl⟩
  case round =>
    obtain ⟨rfl, rfl⟩ := hrel
    go_wp2
    go_ret
    exact ⟨rfl, rfl⟩

/-- A list that nobody else holds, marked: what it then holds, and that its row alone turned. -/
theorem markRuls_own (k B : Nat) (v : Value) (xs : List Rl) (w : World) (hn : k + 7 * xs.length ≤ 1000000000000000) (ho : FrRl w B v xs) :
    Calls Tryz.prog 34 #[v, .int .i64 k] w fun e w' => e = .returned (.int .i64 (k + 7 * xs.length : Nat)) ∧ RcRl w' v (marksR k xs.length) ∧ ∃ row, w.grownBy w' row ∧ ∀ j, row = some j → v.ownBlock = some j ∧ B ≤ j ∧ j < w.heap.size ∧ 0 < xs.length := by
  by_cases hz : 0 < xs.length
  · obtain ⟨g, cap, cur, rfl, hc, hB, hg, _, hr⟩ := ho.block hz
    refine (markRuls_any k g cap xs w hn hc (hr (by decide) rlC_len) hg).mono ?_
    rintro e w' ⟨rfl, h1, h2⟩
    exact ⟨rfl, ⟨_, cap, by rw [marksR_len], by rw [marksR_len]; exact hc, fun _ => ⟨g, rfl, h1⟩⟩, some g, h2, fun j hj => by cases hj; exact ⟨rfl, hB, hg, hz⟩⟩
  · obtain ⟨a, cap, rfl, _⟩ := ho.form
    have h0 : xs.length = 0 := by omega
    rw [h0]
    refine (markRuls_zero k cap a w).mono ?_
    rintro e w' ⟨rfl, rfl⟩
    exact ⟨rfl, ⟨a, cap, rfl, Nat.zero_le _, fun h => by simp [marksR] at h⟩, none, World.grownBy.refl _ _, fun j hj => by cases hj⟩

set_option maxRecDepth 100000 in
set_option maxHeartbeats 3200000 in
theorem heldRuls_any (k : Nat) (v : Value) (n : Nat) (w : World) (hn : k + 7 * n ≤ 1000000000000000) (hr : RcRl w v (marksR k n)) :
    Calls Tryz.prog 72 #[v, .int .i64 k] w fun e w' => e = .returned (.int .i64 (k + 7 * n : Nat)) ∧ Below w.heap.size w w' := by
  obtain ⟨a, cap, rfl, hcap, hrow0⟩ := hr
  rw [marksR_len] at hcap hrow0 ⊢
  have HR0 := Lib.hid hrow0
  clear hrow0
  go_enter Tryz.func72, Tryz.ntmps72
  go_wp2
  go_loopw [1, 5] (fun m i wr => ∃ (j q : Nat), j ≤ n ∧ i = .int .i64 j ∧ m = .int .i64 q ∧ q = k + 7 * j ∧ Below w.heap.size w wr) (fun _ i _ => n - (intOf i).toNat)
  case atStart => exact ⟨0, k, Nat.zero_le _, rfl, rfl, rfl, Below.refl _ _⟩
  case round =>
    obtain ⟨j, q, hj, rfl, rfl, hq, hb⟩ := hrel
    have HQ := Lib.hid hq
    have hq1 : q ≤ 1000000000000000 := by omega
    have HB := Lib.hid hb
    by_cases hlt : j < n
    · obtain ⟨g, rfl, hrow⟩ := HR0.out (by omega)
      have hl : j < (marksR k n).length := by rw [marksR_len]; exact hlt
      obtain ⟨⟨a0, a1, a2, a3, a4, a5, a6⟩, _⟩ := (hrow.below hb (hrow.lt (by rw [flatC_len rlC_len, marksR_len]; omega))).rul j hl ⟨decide (q % 3 = 0), (q + 1 : Nat), (q + 2 : Nat), (q + 3 : Nat), (q + 4 : Nat), (q + 5 : Nat), (q + 6 : Nat)⟩ (by rw [marksR_at, ← hq])
      simp only at a0 a1 a2 a3 a4 a5 a6
      have hb : decide (q % 3 = 0) = ((q : Int) % 3 == 0) := by
        rw [Bool.eq_iff_iff]
        simp
        omega
      rw [hb] at a0
      rw [show ((q + 1 : Nat) : Int) = (q : Int) + 1 from by omega] at a1
      rw [show ((q + 2 : Nat) : Int) = (q : Int) + 1 + 1 from by omega] at a2
      rw [show ((q + 3 : Nat) : Int) = (q : Int) + 1 + 1 + 1 from by omega] at a3
      rw [show ((q + 4 : Nat) : Int) = (q : Int) + 1 + 1 + 1 + 1 from by omega] at a4
      rw [show ((q + 5 : Nat) : Int) = (q : Int) + 1 + 1 + 1 + 1 + 1 from by omega] at a5
      rw [show ((q + 6 : Nat) : Int) = (q : Int) + 1 + 1 + 1 + 1 + 1 + 1 from by omega] at a6
      have hk2 : (j : Int) ≤ (cap : Int) := by omega
      clear hrow hq hb hl HR0
      go_wp2
      go_roundw
      case rel => exact ⟨j + 1, q + 7, by omega, by go_num, by go_num, by have := HQ.out; omega, HB.out⟩
      case measure => simp [intOf]; omega
    · have hjn : j = n := by omega
      have HQE : Hid ((q : Int) = ((k + 7 * n : Nat) : Int)) := by show _ = _; rw [hq, hjn]
      clear hq hjn HQ
      go_wp2
      go_ret
      exact ⟨ret_int HQE.out, HB.out⟩

end Go.Proofs.YtglpijjkihpeeaaGreatDoor
