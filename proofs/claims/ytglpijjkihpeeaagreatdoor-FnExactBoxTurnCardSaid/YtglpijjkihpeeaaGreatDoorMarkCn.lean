/- How the law compares lists of streams, marks them and finds the marks again. Condition: at most 2^22 streams. -/
import Derived.Test.YtglpijjkihpeeaaGreatDoorCnMem
import Derived.Test.YtglpijjkihpeeaaGreatDoorMark
import Derived.Test.YtglpijjkihpeeaaGreatDoorEqEnd
import Derived.Deep.RegionWith
import Derived.Deep.RegionHeld3
namespace Go.Proofs.YtglpijjkihpeeaaGreatDoor
open Go.RowKit Go.Sort

set_option maxRecDepth 100000 in
set_option maxHeartbeats 1600000 in
theorem eqConn_same (ia ip oa op : Int) (kn he ne : ByteArray) (w : World) :
    Calls Tryz.prog 125 #[.agg #[.int .i64 ia, .int .i64 ip, .int .i64 oa, .int .i64 op, .string kn, .string he, .string ne], .agg #[.int .i64 ia, .int .i64 ip, .int .i64 oa, .int .i64 op, .string kn, .string he, .string ne]] w fun e w' => e = .returned (.bool true) ∧ Below w.heap.size w w' := by
  go_enter Tryz.func125, Tryz.ntmps125
  go_wp2_with fail
  (go_at_call 69; refine (eqEnd_same ia ip _).mono ?_; rintro e w1 ⟨rfl, b1⟩; obtain ⟨c1, f1⟩ := bcell b1)
  have s1 : w.heap.size < w1.heap.size := by have := b1.size; simp at this; omega
  have s2 : w.heap.size + 1 < w1.heap.size := by have := b1.size; simp at this; omega
  go_wp2_with fail
  (go_at_call 69; refine (eqEnd_same oa op _).mono ?_; rintro e w2 ⟨rfl, b2⟩; obtain ⟨c2, f2⟩ := bcell b2)
  go_wp2_with fail
  go_ret
  exact ⟨rfl, ((((Below.refl _ _).alloc (Nat.le_refl _) _).alloc (by simp) _).trans (b1.mono (by simp; omega))).trans (b2.mono (by omega))⟩

set_option maxRecDepth 100000 in
set_option maxHeartbeats 1600000 in
theorem eqConns_same (v1 v2 : Value) (xs : List Cn) (w : World) (hn : xs.length ≤ 4194304) (h1 : RdCn w v1 xs) (h2 : RdCn w v2 xs) :
    Calls Tryz.prog 68 #[v1, v2] w fun e w' => e = .returned (.bool true) ∧ Below w.heap.size w w' := by
  obtain ⟨a1, cap1, rfl, hc1, r1⟩ := h1
  obtain ⟨a2, cap2, rfl, hc2, r2⟩ := h2
  have R1 := Lib.hid r1
  have R2 := Lib.hid r2
  clear r1 r2
  go_enter Tryz.func68, Tryz.ntmps68
  go_wp2
  go_loopw [5] (fun i wr => ∃ k : Nat, k ≤ xs.length ∧ i = .int .i64 k ∧ Below w.heap.size w wr) (fun i _ => xs.length - (intOf i).toNat)
  case atStart => exact ⟨0, Nat.zero_le _, rfl, Below.refl _ _⟩
  case round =>
    obtain ⟨k, hk, rfl, hb⟩ := hrel
    by_cases hlt : k < xs.length
    · obtain ⟨g1, rfl, q1⟩ := R1.out (by omega)
      obtain ⟨g2, rfl, q2⟩ := R2.out (by omega)
      have hl : 0 < (flatC cnC xs).length := by rw [flatC_len cnC_len]; omega
      obtain ⟨⟨ia, ip, oa, op, kn, he, ne⟩, hp⟩ : ∃ p, p = xs[k] := ⟨_, rfl⟩
      obtain ⟨⟨p0, p1, p2, p3, p4, p5, p6⟩, _⟩ := (q1.below hb (q1.lt hl)).conn k hlt _ hp
      obtain ⟨⟨s0, s1, s2, s3, s4, s5, s6⟩, _⟩ := (q2.below hb (q2.lt hl)).conn k hlt _ hp
      simp only at p0 p1 p2 p3 p4 p5 p6 s0 s1 s2 s3 s4 s5 s6
      have HC : Hid (∀ w, Calls Tryz.prog 125 #[.agg #[.int .i64 ia, .int .i64 ip, .int .i64 oa, .int .i64 op, .string kn, .string he, .string ne], .agg #[.int .i64 ia, .int .i64 ip, .int .i64 oa, .int .i64 op, .string kn, .string he, .string ne]] w fun e w' => e = .returned (.bool true) ∧ Below w.heap.size w w') := fun w => eqConn_same ia ip oa op kn he ne w
      have HB := Lib.hid hb
      have hsz := hb.size
      have hk2 : (k : Int) ≤ (cap1 : Int) := by omega
      have hk3 : (k : Int) ≤ (cap2 : Int) := by omega
      clear hp q1 q2 R1 R2 hb
      go_wp2_with fail
      go_region_with (go_at_call 125; refine (HC.out _).mono ?_; rintro e w1 ⟨rfl, b1⟩; have BB : Hid (Below w.heap.size w w1) := (by first | exact HB.out.trans ((((Below.refl _ _).drew).trans b1).mono hsz) | exact HB.out.trans (b1.mono hsz)); clear b1)
      all_goals
        go_wp2
        go_roundw
        case rel => exact ⟨k + 1, by omega, by go_num, BB.out⟩
        case measure => simp [intOf]; omega
    · go_wp2
      go_ret
      exact ⟨rfl, hb⟩

/-- A mark's text, as a value of a field. -/
def mkT (k : Nat) : ByteArray := ⟨(markL k).toArray⟩
/-- n marks of streams, from k on. -/
def marksC (k n : Nat) : List Cn := (List.range n).map fun i => ⟨(k + 7 * i : Nat), (k + 7 * i + 1 : Nat), (k + 7 * i + 2 : Nat), (k + 7 * i + 3 : Nat), mkT (k + 7 * i + 4), mkT (k + 7 * i + 5), mkT (k + 7 * i + 6)⟩
theorem marksC_len (k n : Nat) : (marksC k n).length = n := by simp [marksC]
theorem marksC_at (k n i : Nat) (h : i < (marksC k n).length) : (marksC k n)[i] = ⟨(k + 7 * i : Nat), (k + 7 * i + 1 : Nat), (k + 7 * i + 2 : Nat), (k + 7 * i + 3 : Nat), mkT (k + 7 * i + 4), mkT (k + 7 * i + 5), mkT (k + 7 * i + 6)⟩ := by simp [marksC]
theorem set_rightC {α : Type} (X Y : List α) (i : Nat) (v : α) : (X ++ Y).set (X.length + i) v = X ++ Y.set i v := by
  rw [List.set_append_right _ _ (by omega)]; congr 2; omega
theorem flat_setC (A C : List Cn) (o p : Cn) :
    ((((((((flatC cnC (A ++ o :: C)).set (A.length * 7) (.int .i64 p.ia)).set (A.length * 7 + 1) (.int .i64 p.ip)).set (A.length * 7 + 2) (.int .i64 p.oa)).set (A.length * 7 + 3) (.int .i64 p.op)).set (A.length * 7 + 4) (.string p.kn)).set (A.length * 7 + 5) (.string p.he)).set (A.length * 7 + 6) (.string p.ne)) = flatC cnC (A ++ p :: C) := by
  have hX := flatC_len cnC_len A
  rw [flatC_app, flatC_app]
  obtain ⟨X, hx⟩ : ∃ X, X = flatC cnC A := ⟨_, rfl⟩
  rw [← hx] at hX ⊢
  rw [← hX]
  have h0 := set_rightC X (flatC cnC (o :: C)) 0 (.int .i64 p.ia)
  simp only [Nat.add_zero] at h0
  rw [h0, set_rightC, set_rightC, set_rightC, set_rightC, set_rightC, set_rightC]
  rfl
theorem marksC_next {k : Nat} {xs : List Cn} {j : Nat} (h : j < xs.length) :
    (marksC k xs.length).take j ++ xs.drop j = (marksC k xs.length).take j ++ xs[j] :: xs.drop (j + 1) ∧
    (marksC k xs.length).take (j + 1) ++ xs.drop (j + 1) = (marksC k xs.length).take j ++ ⟨(k + 7 * j : Nat), (k + 7 * j + 1 : Nat), (k + 7 * j + 2 : Nat), (k + 7 * j + 3 : Nat), mkT (k + 7 * j + 4), mkT (k + 7 * j + 5), mkT (k + 7 * j + 6)⟩ :: xs.drop (j + 1) := by
  refine ⟨by rw [List.drop_eq_getElem_cons h], ?_⟩
  rw [List.take_succ_eq_append_getElem (by rw [marksC_len]; exact h), marksC_at]
  simp
/-- Stores into an element, so far. -/
def cn4 (j : Nat) (L : List Cn) (v0 v1 v2 v3 : Value) : List Value := (((((flatC cnC L).set (j * 7) v0).set (j * 7 + 1) v1).set (j * 7 + 2) v2).set (j * 7 + 3) v3)
theorem cn4_len (j : Nat) (L : List Cn) (v0 v1 v2 v3 : Value) : (cn4 j L v0 v1 v2 v3).length = L.length * 7 := by simp [cn4, flatC_len cnC_len]
theorem RowAt.cn4 {w : World} {g j : Nat} {L : List Cn} (h : RowAt w g (flatC cnC L)) (hj : j < L.length) (v0 v1 v2 v3 : Value) :
    RowAt ((((w.setCell ⟨g, j * 7, none⟩ v0).setCell ⟨g, j * 7 + 1, none⟩ v1).setCell ⟨g, j * 7 + 2, none⟩ v2).setCell ⟨g, j * 7 + 3, none⟩ v3) g (cn4 j L v0 v1 v2 v3) := by
  have hl : (flatC cnC L).length = L.length * 7 := flatC_len cnC_len L
  exact (((h.set (by omega) _).set (by simp only [List.length_set]; omega) _).set (by simp only [List.length_set]; omega) _).set (by simp only [List.length_set]; omega) _
theorem cn7_all {A C : List Cn} {o p : Cn} {j : Nat} (hj : A.length = j) : (((cn4 j (A ++ o :: C) (.int .i64 p.ia) (.int .i64 p.ip) (.int .i64 p.oa) (.int .i64 p.op)).set (j * 7 + 4) (.string p.kn)).set (j * 7 + 5) (.string p.he)).set (j * 7 + 6) (.string p.ne) = flatC cnC (A ++ p :: C) := by
  subst hj
  exact flat_setC A C o p

set_option maxRecDepth 100000 in
set_option maxHeartbeats 6400000 in
theorem markConns_any (k g cap : Nat) (xs : List Cn) (w : World) (h1 : 1 ≤ k) (hn : k + 7 * xs.length ≤ 1000000000000000) (hcap : xs.length ≤ cap) (hr : RowAt w g (flatC cnC xs)) (hg : g < w.heap.size) :
    Calls Tryz.prog 71 #[.slice (some ⟨g, 0, none⟩) xs.length cap, .int .i64 k] w fun e w' => e = .returned (.int .i64 (k + 7 * xs.length : Nat)) ∧ RowAt w' g (flatC cnC (marksC k xs.length)) ∧ w.grownBy w' (some g) := by
  have HR := Lib.hid hr
  clear hr
  go_enter Tryz.func71, Tryz.ntmps71
  go_wp2
  go_loopw [1, 5] (fun m i wr => ∃ (j q : Nat), j ≤ xs.length ∧ i = .int .i64 j ∧ m = .int .i64 q ∧ q = k + 7 * j ∧ RowAt wr g (flatC cnC ((marksC k xs.length).take j ++ xs.drop j)) ∧ w.grownBy wr (some g)) (fun _ i _ => xs.length - (intOf i).toNat)
  case atStart => exact ⟨0, k, Nat.zero_le _, rfl, rfl, rfl, by simpa using HR.out, World.grownBy.refl _ _⟩
  case round =>
    obtain ⟨j, q, hj, rfl, rfl, hq, hrow, hb⟩ := hrel
    have HQ := Lib.hid hq
    have hq1 : q ≤ 1000000000000000 := by omega
    have hq2 : 1 ≤ q := by omega
    have HB := Lib.hid hb
    have hgl : g < wr.heap.size := by have := hb.size; omega
    by_cases hlt : j < xs.length
    · have hl : ((marksC k xs.length).take j ++ xs.drop j).length = xs.length := by simp [marksC_len]; omega
      have HLL : Hid (((marksC k xs.length).take j ++ xs.drop j).length = xs.length) := hl
      obtain ⟨o, hp⟩ : ∃ p, p = ((marksC k xs.length).take j ++ xs.drop j)[j]'(by rw [hl]; exact hlt) := ⟨_, rfl⟩
      obtain ⟨⟨a0, a1, a2, a3, a4, a5, a6⟩, ⟨f0, f1, f2, f3, f4, f5, f6⟩⟩ := hrow.conn j (by rw [hl]; exact hlt) o hp
      have HRow := Lib.hid hrow
      have hk2 : (j : Int) ≤ (cap : Int) := by omega
      clear hrow hq hb hp hl
      go_wp2_with fail
      (go_at_call 84; rw [show ((q : Int) + 1 + 1 + 1 + 1) = ((q + 4 : Nat) : Int) from by omega]; refine (markText_any _ _ (by omega) (by omega)).mono ?_; rintro e w1 ⟨rfl, b1⟩)
      have RX : Hid (RowAt w1 g (cn4 j ((marksC k xs.length).take j ++ xs.drop j) (.int .i64 q) (.int .i64 ((q : Int) + 1)) (.int .i64 ((q : Int) + 1 + 1)) (.int .i64 ((q : Int) + 1 + 1 + 1)))) :=
        RowAt.below (HRow.out.cn4 (by rw [HLL.out]; exact hlt) _ _ _ _) b1 (by simpa using hgl)
      have BX : Hid (w.grownBy w1 (some g)) := grown_later (grown_setF (grown_setF (grown_setF (grown_setF HB.out _ _) _ _) _ _) _ _) b1
      have HX : Hid (∀ i, i < 7 → j * 7 + i < (cn4 j ((marksC k xs.length).take j ++ xs.drop j) (.int .i64 q) (.int .i64 ((q : Int) + 1)) (.int .i64 ((q : Int) + 1 + 1)) (.int .i64 ((q : Int) + 1 + 1 + 1))).length) := fun i hi => by rw [cn4_len, HLL.out]; omega
      have g1 : g < w1.heap.size := by have := b1.size; simp at this; omega
      obtain ⟨old4, m4⟩ : ∃ old, w1.cell? ⟨g, j * 7 + 4, none⟩ = some old := ⟨_, (RX.out _ (HX.out 4 (by decide))).1⟩
      have n4 := (RX.out _ (HX.out 4 (by decide))).2
      clear b1 a0 a1 a2 a3 a4 a5 a6 f0 f1 f2 f3 f4 f5 f6
      go_wp2_with fail
      (go_at_call 84; (first | rw [show ((q : Int) + 1 + 1 + 1 + 1 + 1) = ((q + 5 : Nat) : Int) from by omega] | rw [show (((q + 4 : Nat) : Int) + 1) = ((q + 5 : Nat) : Int) from by omega] | rw [show ((q : Int) + 4 + 1) = ((q + 5 : Nat) : Int) from by omega]); refine (markText_any _ _ (by omega) (by omega)).mono ?_; rintro e w2 ⟨rfl, b2⟩)
      have RY : Hid (RowAt w2 g ((cn4 j ((marksC k xs.length).take j ++ xs.drop j) (.int .i64 q) (.int .i64 ((q : Int) + 1)) (.int .i64 ((q : Int) + 1 + 1)) (.int .i64 ((q : Int) + 1 + 1 + 1))).set (j * 7 + 4) (.string ⟨(markL (q + 4)).toArray⟩))) :=
        RowAt.below (RX.out.set (HX.out 4 (by decide)) _) b2 (by simpa using g1)
      have BY : Hid (w.grownBy w2 (some g)) := grown_later (grown_setF BX.out _ _) b2
      have g2 : g < w2.heap.size := by have := b2.size; simp at this; omega
      obtain ⟨old5, m5⟩ : ∃ old, w2.cell? ⟨g, j * 7 + 5, none⟩ = some old := ⟨_, (RY.out (j * 7 + 5) (by simp only [List.length_set]; exact HX.out 5 (by decide))).1⟩
      have n5 := (RY.out (j * 7 + 5) (by simp only [List.length_set]; exact HX.out 5 (by decide))).2
      clear b2 m4 n4
      go_wp2_with fail
      (go_at_call 84; (first | rw [show ((q : Int) + 1 + 1 + 1 + 1 + 1 + 1) = ((q + 6 : Nat) : Int) from by omega] | rw [show (((q + 5 : Nat) : Int) + 1) = ((q + 6 : Nat) : Int) from by omega] | rw [show ((q : Int) + 5 + 1) = ((q + 6 : Nat) : Int) from by omega]); refine (markText_any _ _ (by omega) (by omega)).mono ?_; rintro e w3 ⟨rfl, b3⟩)
      have RZ : Hid (RowAt w3 g (((cn4 j ((marksC k xs.length).take j ++ xs.drop j) (.int .i64 q) (.int .i64 ((q : Int) + 1)) (.int .i64 ((q : Int) + 1 + 1)) (.int .i64 ((q : Int) + 1 + 1 + 1))).set (j * 7 + 4) (.string ⟨(markL (q + 4)).toArray⟩)).set (j * 7 + 5) (.string ⟨(markL (q + 5)).toArray⟩))) :=
        RowAt.below (RY.out.set (by simp only [List.length_set]; exact HX.out 5 (by decide)) _) b3 (by simpa using g2)
      have BZ : Hid (w.grownBy w3 (some g)) := grown_later (grown_setF BY.out _ _) b3
      obtain ⟨old6, m6⟩ : ∃ old, w3.cell? ⟨g, j * 7 + 6, none⟩ = some old := ⟨_, (RZ.out (j * 7 + 6) (by simp only [List.length_set]; exact HX.out 6 (by decide))).1⟩
      have n6 := (RZ.out (j * 7 + 6) (by simp only [List.length_set]; exact HX.out 6 (by decide))).2
      clear b3 m5 n5
      go_wp2_with fail
      go_roundw
      case rel =>
        obtain ⟨e1, e2⟩ := marksC_next (k := k) hlt
        have h := RZ.out.set (i := j * 7 + 6) (by simp only [List.length_set]; exact HX.out 6 (by decide)) (.string ⟨(markL (q + 6)).toArray⟩)
        rw [e1] at h
        have hA : ((marksC k xs.length).take j).length = j := by rw [List.length_take, marksC_len]; omega
        have h2 := cn7_all (A := (marksC k xs.length).take j) (C := xs.drop (j + 1)) (o := xs[j]) (p := ⟨(q : Nat), (q + 1 : Nat), (q + 2 : Nat), (q + 3 : Nat), mkT (q + 4), mkT (q + 5), mkT (q + 6)⟩) hA
        refine ⟨j + 1, q + 7, by omega, by go_num, by go_num, by have := HQ.out; omega, ?_, grown_setF BZ.out _ _⟩
        rw [e2, ← HQ.out, ← h2]
        exact h
      case measure => simp [intOf]; omega
    · have hjn : j = xs.length := by omega
      have HE : Hid (RowAt wr g (flatC cnC (marksC k xs.length))) := by
        rw [hjn, List.take_of_length_le (by rw [marksC_len]; omega), List.drop_of_length_le (by omega), List.append_nil] at hrow
        exact hrow
      have HQE : Hid ((q : Int) = ((k + 7 * xs.length : Nat) : Int)) := by show _ = _; rw [hq, hjn]
      clear hrow hq hjn HQ
      go_wp2
      go_ret
      exact ⟨ret_int HQE.out, HE.out, HB.out⟩

set_option maxRecDepth 100000 in
set_option maxHeartbeats 800000 in
theorem markConns_zero (k cap : Nat) (a : Option Addr) (w : World) :
    Calls Tryz.prog 71 #[.slice a 0 cap, .int .i64 k] w fun e w' => e = .returned (.int .i64 k) ∧ w = w' := by
  go_enter Tryz.func71, Tryz.ntmps71
  go_wp2
  go_loop [1, 5] (fun m i => m = .int .i64 k ∧ i = .int .i64 0) (fun _ _ => 0)
  case atStart => exact ⟨rfl, rfl⟩
  case round =>
    obtain ⟨rfl, rfl⟩ := hrel
    go_wp2
    go_ret
    exact ⟨rfl, rfl⟩

/-- A list that nobody else holds, marked: what it then holds, and that its row alone turned. -/
theorem markConns_own (k B : Nat) (v : Value) (xs : List Cn) (w : World) (h1 : 1 ≤ k) (hn : k + 7 * xs.length ≤ 1000000000000000) (ho : FrCn w B v xs) :
    Calls Tryz.prog 71 #[v, .int .i64 k] w fun e w' => e = .returned (.int .i64 (k + 7 * xs.length : Nat)) ∧ RdCn w' v (marksC k xs.length) ∧ ∃ row, w.grownBy w' row ∧ ∀ j, row = some j → v.ownBlock = some j ∧ B ≤ j ∧ j < w.heap.size ∧ 0 < xs.length := by
  by_cases hz : 0 < xs.length
  · obtain ⟨g, cap, cur, rfl, hc, hB, hg, _, hr⟩ := ho.block hz
    refine (markConns_any k g cap xs w h1 hn hc (hr (by decide) cnC_len) hg).mono ?_
    rintro e w' ⟨rfl, h1, h2⟩
    exact ⟨rfl, ⟨_, cap, by rw [marksC_len], by rw [marksC_len]; exact hc, fun _ => ⟨g, rfl, h1⟩⟩, some g, h2, fun j hj => by cases hj; exact ⟨rfl, hB, hg, hz⟩⟩
  · obtain ⟨a, cap, rfl, _⟩ := ho.form
    have h0 : xs.length = 0 := by omega
    rw [h0]
    refine (markConns_zero k cap a w).mono ?_
    rintro e w' ⟨rfl, rfl⟩
    exact ⟨rfl, ⟨a, cap, rfl, Nat.zero_le _, fun h => by simp [marksC] at h⟩, none, World.grownBy.refl _ _, fun j hj => by cases hj⟩

set_option maxRecDepth 100000 in
set_option maxHeartbeats 6400000 in
theorem heldConns_any (k : Nat) (v : Value) (n : Nat) (w : World) (h1 : 1 ≤ k) (hn : k + 7 * n ≤ 1000000000000000) (hr : RdCn w v (marksC k n)) :
    Calls Tryz.prog 74 #[v, .int .i64 k] w fun e w' => e = .returned (.int .i64 (k + 7 * n : Nat)) ∧ Below w.heap.size w w' := by
  obtain ⟨a, cap, rfl, hcap, hrow0⟩ := hr
  rw [marksC_len] at hcap hrow0 ⊢
  have HR0 := Lib.hid hrow0
  clear hrow0
  go_enter Tryz.func74, Tryz.ntmps74
  go_wp2
  go_loopw [1, 5] (fun m i wr => ∃ (j q : Nat), j ≤ n ∧ i = .int .i64 j ∧ m = .int .i64 q ∧ q = k + 7 * j ∧ Below w.heap.size w wr) (fun _ i _ => n - (intOf i).toNat)
  case atStart => exact ⟨0, k, Nat.zero_le _, rfl, rfl, rfl, Below.refl _ _⟩
  case round =>
    obtain ⟨j, q, hj, rfl, rfl, hq, hb⟩ := hrel
    have HQ := Lib.hid hq
    have hq1 : q ≤ 1000000000000000 := by omega
    have hq2 : 1 ≤ q := by omega
    have HB := Lib.hid hb
    by_cases hlt : j < n
    · obtain ⟨g, rfl, hrow⟩ := HR0.out (by omega)
      have hl : j < (marksC k n).length := by rw [marksC_len]; exact hlt
      have hgl : g < w.heap.size := hrow.lt (by rw [flatC_len cnC_len, marksC_len]; omega)
      obtain ⟨⟨a0, a1, a2, a3, a4, a5, a6⟩, _⟩ := (hrow.below hb hgl).conn j hl ⟨(q : Nat), (q + 1 : Nat), (q + 2 : Nat), (q + 3 : Nat), mkT (q + 4), mkT (q + 5), mkT (q + 6)⟩ (by rw [marksC_at, ← hq])
      simp only at a0 a1 a2 a3 a4 a5 a6
      rw [show ((q + 1 : Nat) : Int) = (q : Int) + 1 from by omega] at a1
      rw [show ((q + 2 : Nat) : Int) = (q : Int) + 1 + 1 from by omega] at a2
      rw [show ((q + 3 : Nat) : Int) = (q : Int) + 1 + 1 + 1 from by omega] at a3
      have hk2 : (j : Int) ≤ (cap : Int) := by omega
      have hgr : g < wr.heap.size := by have := hb.size; omega
      have cK : Hid (∀ w, Calls Tryz.prog 84 #[.int .i64 ((q : Int) + 1 + 1 + 1 + 1)] w fun e w' => e = .returned (.string (mkT (q + 4))) ∧ Below w.heap.size w w') := fun w => by
        rw [show ((q : Int) + 1 + 1 + 1 + 1) = ((q + 4 : Nat) : Int) from by omega]
        exact markText_any (q + 4) w (by omega) (by omega)
      have cH : Hid (∀ w, Calls Tryz.prog 84 #[.int .i64 ((q : Int) + 1 + 1 + 1 + 1 + 1)] w fun e w' => e = .returned (.string (mkT (q + 5))) ∧ Below w.heap.size w w') := fun w => by
        rw [show ((q : Int) + 1 + 1 + 1 + 1 + 1) = ((q + 5 : Nat) : Int) from by omega]
        exact markText_any (q + 5) w (by omega) (by omega)
      have cN : Hid (∀ w, Calls Tryz.prog 84 #[.int .i64 ((q : Int) + 1 + 1 + 1 + 1 + 1 + 1)] w fun e w' => e = .returned (.string (mkT (q + 6))) ∧ Below w.heap.size w w') := fun w => by
        rw [show ((q : Int) + 1 + 1 + 1 + 1 + 1 + 1) = ((q + 6 : Nat) : Int) from by omega]
        exact markText_any (q + 6) w (by omega) (by omega)
      obtain ⟨TK, hTK⟩ : ∃ T : ByteArray, T = mkT (q + 4) := ⟨_, rfl⟩
      obtain ⟨TH, hTH⟩ : ∃ T : ByteArray, T = mkT (q + 5) := ⟨_, rfl⟩
      obtain ⟨TN, hTN⟩ : ∃ T : ByteArray, T = mkT (q + 6) := ⟨_, rfl⟩
      rw [← hTK] at a4 cK
      rw [← hTH] at a5 cH
      rw [← hTN] at a6 cN
      have hsz := hb.size
      have mk4 : Hid (∀ w', Below wr.heap.size wr w' → Below wr.heap.size wr w' ∧ w'.cell? ⟨g, j * 7 + 4, none⟩ = some (.string TK)) := fun w' hb => ⟨hb, by rw [hb.cell (p := ⟨g, j * 7 + 4, none⟩) hgr]; exact a4⟩
      have mk5 : Hid (∀ w', Below wr.heap.size wr w' → Below wr.heap.size wr w' ∧ w'.cell? ⟨g, j * 7 + 5, none⟩ = some (.string TH)) := fun w' hb => ⟨hb, by rw [hb.cell (p := ⟨g, j * 7 + 5, none⟩) hgr]; exact a5⟩
      have mk6 : Hid (∀ w', Below wr.heap.size wr w' → Below wr.heap.size wr w' ∧ w'.cell? ⟨g, j * 7 + 6, none⟩ = some (.string TN)) := fun w' hb => ⟨hb, by rw [hb.cell (p := ⟨g, j * 7 + 6, none⟩) hgr]; exact a6⟩
      clear hrow hq hb hl HR0 hTK hTH hTN
      go_wp2_with fail
      clear a0 a1 a2 a3 a4 a5 a6
      go_region_held3 (fun w' => Below wr.heap.size wr w' ∧ w'.cell? ⟨g, j * 7 + 4, none⟩ = some (.string TK))
        (first | exact mk4.out _ (Below.refl _ _).drew | exact mk4.out _ cc)
        ((go_at_call 84; have hS := (by assumption : Below wr.heap.size wr _ ∧ _); refine (cK.out _).mono ?_; rintro e wN ⟨rfl, bN⟩; have cc : Below wr.heap.size wr wN := hS.1.trans (bN.mono hS.1.size)))
      all_goals
        have C1 := Lib.hid cc
        clear cc
        go_wp2_with fail
        go_region_held3 (fun w' => Below wr.heap.size wr w' ∧ w'.cell? ⟨g, j * 7 + 5, none⟩ = some (.string TH))
          (first | exact mk5.out _ C1.out.drew | exact mk5.out _ cc)
          ((go_at_call 84; have hS := (by assumption : Below wr.heap.size wr _ ∧ _); refine (cH.out _).mono ?_; rintro e wM ⟨rfl, bN⟩; have cc : Below wr.heap.size wr wM := hS.1.trans (bN.mono hS.1.size)))
        all_goals
          have C2 := Lib.hid cc
          clear cc
          go_wp2_with fail
          go_region_held3 (fun w' => Below wr.heap.size wr w' ∧ w'.cell? ⟨g, j * 7 + 6, none⟩ = some (.string TN))
            (first | exact mk6.out _ C2.out.drew | exact mk6.out _ cc)
            ((go_at_call 84; have hS := (by assumption : Below wr.heap.size wr _ ∧ _); refine (cN.out _).mono ?_; rintro e wL ⟨rfl, bN⟩; have cc : Below wr.heap.size wr wL := hS.1.trans (bN.mono hS.1.size)))
          all_goals
            go_wp2_with fail
            go_roundw
            case rel => exact ⟨j + 1, q + 7, by omega, by go_num, by go_num, by have := HQ.out; omega, HB.out.trans (cc.mono hsz)⟩
            case measure => simp [intOf]; omega
    · have hjn : j = n := by omega
      have HQE : Hid ((q : Int) = ((k + 7 * n : Nat) : Int)) := by show _ = _; rw [hq, hjn]
      clear hq hjn HQ
      go_wp2
      go_ret
      exact ⟨ret_int HQE.out, HB.out⟩

end Go.Proofs.YtglpijjkihpeeaaGreatDoor
