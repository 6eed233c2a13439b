/- How the law compares lists of segments, marks them and finds the marks again. Conditions: at most 2^22 segments. -/
import Derived.Test.YtgoggndacichdaaSgMem
import Derived.Test.YtgoggndacichdaaSegLaw
import Derived.Test.YtgoggndacichdaaMark
import Derived.Deep.RegionWith
import Derived.Deep.RegionHeld3
namespace Go.Proofs.Ytgoggndacichdaa
open Go.RowKit Go.Sort

set_option maxRecDepth 100000 in
set_option maxHeartbeats 1600000 in
theorem eqSegs_same (v1 v2 : Value) (xs : List Sg) (w : World) (hn : xs.length ≤ 4194304) (h1 : RdSg w v1 xs) (h2 : RdSg w v2 xs) :
    Calls Try.prog 22 #[v1, v2] w fun e w' => e = .returned (.bool true) ∧ Below w.heap.size w w' := by
  obtain ⟨a1, cap1, rfl, hc1, r1⟩ := h1
  obtain ⟨a2, cap2, rfl, hc2, r2⟩ := h2
  have R1 := Lib.hid r1
  have R2 := Lib.hid r2
  clear r1 r2
  go_enter Try.func22, Try.ntmps22
  go_wp2
  go_loopw [5] (fun i wr => ∃ k : Nat, k ≤ xs.length ∧ i = .int .i64 k ∧ Below w.heap.size w wr) (fun i _ => xs.length - (intOf i).toNat)
  case atStart => exact ⟨0, Nat.zero_le _, rfl, Below.refl _ _⟩
  case round =>
    obtain ⟨k, hk, rfl, hb⟩ := hrel
    by_cases hlt : k < xs.length
    · obtain ⟨g1, rfl, q1⟩ := R1.out (by omega)
      obtain ⟨g2, rfl, q2⟩ := R2.out (by omega)
      have hl : 0 < (flatC sgC xs).length := by rw [flatC_len sgC_len]; omega
      obtain ⟨⟨sa, sp, da, dp, sq, ak, dl⟩, hp⟩ : ∃ p, p = xs[k] := ⟨_, rfl⟩
      obtain ⟨⟨p0, p1, p2, p3, p4, p5, p6⟩, _⟩ := (q1.below hb (q1.lt hl)).seven k hlt _ hp
      obtain ⟨⟨s0, s1, s2, s3, s4, s5, s6⟩, _⟩ := (q2.below hb (q2.lt hl)).seven k hlt _ hp
      simp only at p0 p1 p2 p3 p4 p5 p6 s0 s1 s2 s3 s4 s5 s6
      obtain ⟨d, hd⟩ : ∃ d : ByteArray, d = ⟨dl.toArray⟩ := ⟨_, rfl⟩
      rw [← hd] at p6 s6
      have HC : Hid (∀ w, Calls Try.prog 39 #[.agg #[.int .i64 sa, .int .i64 sp, .int .i64 da, .int .i64 dp, .int .i64 sq, .int .i64 ak, .string d], .agg #[.int .i64 sa, .int .i64 sp, .int .i64 da, .int .i64 dp, .int .i64 sq, .int .i64 ak, .string d]] w fun e w' => e = .returned (.bool true) ∧ Below w.heap.size w w') := fun w => eqSeg_same sa sp da dp sq ak d w
      have HB := Lib.hid hb
      have hsz := hb.size
      have hk2 : (k : Int) ≤ (cap1 : Int) := by omega
      have hk3 : (k : Int) ≤ (cap2 : Int) := by omega
      clear hp q1 q2 R1 R2 hb hd
      go_wp2_with fail
      go_region_with (go_at_call 39; refine (HC.out _).mono ?_; rintro e w1 ⟨rfl, b1⟩; have BB : Hid (Below w.heap.size w w1) := (by first | exact HB.out.trans ((((Below.refl _ _).drew).trans b1).mono hsz) | exact HB.out.trans (b1.mono hsz)); clear b1)
      all_goals
        go_wp2
        go_roundw
        case rel => exact ⟨k + 1, by omega, by go_num, BB.out⟩
        case measure => simp [intOf]; omega
    · go_wp2
      go_ret
      exact ⟨rfl, hb⟩

/-- n marks of segments, from k on. -/
def marksG (k n : Nat) : List Sg := (List.range n).map fun i => ⟨(k + 7 * i : Nat), (k + 7 * i + 1 : Nat), (k + 7 * i + 2 : Nat), (k + 7 * i + 3 : Nat), (k + 7 * i + 4 : Nat), (k + 7 * i + 5 : Nat), markL (k + 7 * i + 6)⟩
theorem marksG_len (k n : Nat) : (marksG k n).length = n := by simp [marksG]
theorem marksG_at (k n i : Nat) (h : i < (marksG k n).length) : (marksG k n)[i] = ⟨(k + 7 * i : Nat), (k + 7 * i + 1 : Nat), (k + 7 * i + 2 : Nat), (k + 7 * i + 3 : Nat), (k + 7 * i + 4 : Nat), (k + 7 * i + 5 : Nat), markL (k + 7 * i + 6)⟩ := by simp [marksG]
theorem set_rightG {α : Type} (X Y : List α) (i : Nat) (v : α) : (X ++ Y).set (X.length + i) v = X ++ Y.set i v := by
  rw [List.set_append_right _ _ (by omega)]; congr 2; omega
theorem flat_set7 (A C : List Sg) (o p : Sg) :
    ((((((((flatC sgC (A ++ o :: C)).set (A.length * 7) (.int .i64 p.sa)).set (A.length * 7 + 1) (.int .i64 p.sp)).set (A.length * 7 + 2) (.int .i64 p.da)).set (A.length * 7 + 3) (.int .i64 p.dp)).set (A.length * 7 + 4) (.int .i64 p.seq)).set (A.length * 7 + 5) (.int .i64 p.ack)).set (A.length * 7 + 6) (.string ⟨p.data.toArray⟩)) = flatC sgC (A ++ p :: C) := by
  have hX := flatC_len sgC_len A
  rw [flatC_app, flatC_app]
  obtain ⟨X, hx⟩ : ∃ X, X = flatC sgC A := ⟨_, rfl⟩
  rw [← hx] at hX ⊢
  rw [← hX]
  have h0 := set_rightG X (flatC sgC (o :: C)) 0 (.int .i64 p.sa)
  simp only [Nat.add_zero] at h0
  rw [h0, set_rightG, set_rightG, set_rightG, set_rightG, set_rightG, set_rightG]
  rfl
theorem marksG_next {k : Nat} {xs : List Sg} {j : Nat} (h : j < xs.length) :
    (marksG k xs.length).take j ++ xs.drop j = (marksG k xs.length).take j ++ xs[j] :: xs.drop (j + 1) ∧
    (marksG k xs.length).take (j + 1) ++ xs.drop (j + 1) = (marksG k xs.length).take j ++ ⟨(k + 7 * j : Nat), (k + 7 * j + 1 : Nat), (k + 7 * j + 2 : Nat), (k + 7 * j + 3 : Nat), (k + 7 * j + 4 : Nat), (k + 7 * j + 5 : Nat), markL (k + 7 * j + 6)⟩ :: xs.drop (j + 1) := by
  refine ⟨by rw [List.drop_eq_getElem_cons h], ?_⟩
  rw [List.take_succ_eq_append_getElem (by rw [marksG_len]; exact h), marksG_at]
  simp
/-- The first six stores into an element. -/
def six7 (j : Nat) (L : List Sg) (v0 v1 v2 v3 v4 v5 : Value) : List Value := (((((((flatC sgC L).set (j * 7) v0).set (j * 7 + 1) v1).set (j * 7 + 2) v2).set (j * 7 + 3) v3).set (j * 7 + 4) v4).set (j * 7 + 5) v5)
theorem six7_len (j : Nat) (L : List Sg) (v0 v1 v2 v3 v4 v5 : Value) : (six7 j L v0 v1 v2 v3 v4 v5).length = L.length * 7 := by simp [six7, flatC_len sgC_len]
theorem RowAt.six {w : World} {g j : Nat} {L : List Sg} (h : RowAt w g (flatC sgC L)) (hj : j < L.length) (v0 v1 v2 v3 v4 v5 : Value) :
    RowAt ((((((w.setCell ⟨g, j * 7, none⟩ v0).setCell ⟨g, j * 7 + 1, none⟩ v1).setCell ⟨g, j * 7 + 2, none⟩ v2).setCell ⟨g, j * 7 + 3, none⟩ v3).setCell ⟨g, j * 7 + 4, none⟩ v4).setCell ⟨g, j * 7 + 5, none⟩ v5) g (six7 j L v0 v1 v2 v3 v4 v5) := by
  have hl : (flatC sgC L).length = L.length * 7 := flatC_len sgC_len L
  exact (((((h.set (by omega) _).set (by simp only [List.length_set]; omega) _).set (by simp only [List.length_set]; omega) _).set (by simp only [List.length_set]; omega) _).set (by simp only [List.length_set]; omega) _).set (by simp only [List.length_set]; omega) _
theorem six7_all {A C : List Sg} {o p : Sg} {j : Nat} (hj : A.length = j) : (six7 j (A ++ o :: C) (.int .i64 p.sa) (.int .i64 p.sp) (.int .i64 p.da) (.int .i64 p.dp) (.int .i64 p.seq) (.int .i64 p.ack)).set (j * 7 + 6) (.string ⟨p.data.toArray⟩) = flatC sgC (A ++ p :: C) := by
  subst hj
  exact flat_set7 A C o p

set_option maxRecDepth 100000 in
set_option maxHeartbeats 6400000 in
theorem markSegs_any (k g cap B : Nat) (xs : List Sg) (w : World) (h1 : 1 ≤ k) (hn : k + 7 * xs.length ≤ 1000000000000000) (hcap : xs.length ≤ cap) (hr : RowAt w g (flatC sgC xs)) (hg : g < w.heap.size) (hB : B ≤ g) :
    Calls Try.prog 23 #[.slice (some ⟨g, 0, none⟩) xs.length cap, .int .i64 k] w fun e w' => e = .returned (.int .i64 (k + 7 * xs.length : Nat)) ∧ RowAt w' g (flatC sgC (marksG k xs.length)) ∧ Below B w w' := by
  have HR := Lib.hid hr
  clear hr
  go_enter Try.func23, Try.ntmps23
  go_wp2
  go_loopw [1, 5] (fun m i wr => ∃ (j q : Nat), j ≤ xs.length ∧ i = .int .i64 j ∧ m = .int .i64 q ∧ q = k + 7 * j ∧ RowAt wr g (flatC sgC ((marksG k xs.length).take j ++ xs.drop j)) ∧ Below B w wr) (fun _ i _ => xs.length - (intOf i).toNat)
  case atStart => exact ⟨0, k, Nat.zero_le _, rfl, rfl, rfl, by simpa using HR.out, Below.refl _ _⟩
  case round =>
    obtain ⟨j, q, hj, rfl, rfl, hq, hrow, hb⟩ := hrel
    have HQ := Lib.hid hq
    have hq1 : q ≤ 1000000000000000 := by omega
    have hq2 : 1 ≤ q := by omega
    have HB := Lib.hid hb
    have hgl : g < wr.heap.size := by have := hb.size; omega
    by_cases hlt : j < xs.length
    · have hl : ((marksG k xs.length).take j ++ xs.drop j).length = xs.length := by simp [marksG_len]; omega
      obtain ⟨o, hp⟩ : ∃ p, p = ((marksG k xs.length).take j ++ xs.drop j)[j]'(by rw [hl]; exact hlt) := ⟨_, rfl⟩
      obtain ⟨⟨a0, a1, a2, a3, a4, a5, a6⟩, ⟨f0, f1, f2, f3, f4, f5, f6⟩⟩ := hrow.seven j (by rw [hl]; exact hlt) o hp
      have HRow := Lib.hid hrow
      have hk2 : (j : Int) ≤ (cap : Int) := by omega
      clear hrow hq hb hp hl
      go_wp2_with fail
      (go_at_call 40; rw [show ((q : Int) + 1 + 1 + 1 + 1 + 1 + 1) = ((q + 6 : Nat) : Int) from by omega]; refine (markText_any _ _ (by omega) (by omega)).mono ?_; rintro e w1 ⟨rfl, b1⟩)
      have hll : ((marksG k xs.length).take j ++ xs.drop j).length = xs.length := by simp [marksG_len]; omega
      have RX : Hid (RowAt w1 g (six7 j ((marksG k xs.length).take j ++ xs.drop j) (.int .i64 q) (.int .i64 ((q : Int) + 1)) (.int .i64 ((q : Int) + 1 + 1)) (.int .i64 ((q : Int) + 1 + 1 + 1)) (.int .i64 ((q : Int) + 1 + 1 + 1 + 1)) (.int .i64 ((q : Int) + 1 + 1 + 1 + 1 + 1)))) :=
        RowAt.below (HRow.out.six (by rw [hll]; exact hlt) _ _ _ _ _ _) b1 (by simpa using hgl)
      have BX : Hid (RowKit.Below B w w1) := ((((((HB.out.setCell hB _).setCell hB _).setCell hB _).setCell hB _).setCell hB _).setCell hB _).trans (b1.mono (by have := HB.out.size; simp; omega))
      have h6l : j * 7 + 6 < (six7 j ((marksG k xs.length).take j ++ xs.drop j) (.int .i64 q) (.int .i64 ((q : Int) + 1)) (.int .i64 ((q : Int) + 1 + 1)) (.int .i64 ((q : Int) + 1 + 1 + 1)) (.int .i64 ((q : Int) + 1 + 1 + 1 + 1)) (.int .i64 ((q : Int) + 1 + 1 + 1 + 1 + 1))).length := by rw [six7_len, hll]; omega
      obtain ⟨old, m6⟩ : ∃ old, w1.cell? ⟨g, j * 7 + 6, none⟩ = some old := ⟨_, (RX.out _ h6l).1⟩
      have n6 := (RX.out _ h6l).2
      have H6 := Lib.hid h6l
      clear b1 a0 a1 a2 a3 a4 a5 a6 f0 f1 f2 f3 f4 f5 f6 h6l hll
      go_wp2_with fail
      go_roundw
      case rel =>
        obtain ⟨e1, e2⟩ := marksG_next (k := k) hlt
        have h := RX.out.set H6.out (.string ⟨(markL (q + 6)).toArray⟩)
        rw [e1] at h
        have hA : ((marksG k xs.length).take j).length = j := by rw [List.length_take, marksG_len]; omega
        have h2 := six7_all (A := (marksG k xs.length).take j) (C := xs.drop (j + 1)) (o := xs[j]) (p := ⟨(q : Nat), (q + 1 : Nat), (q + 2 : Nat), (q + 3 : Nat), (q + 4 : Nat), (q + 5 : Nat), markL (q + 6)⟩) hA
        refine ⟨j + 1, q + 7, by omega, by go_num, by go_num, by have := HQ.out; omega, ?_, BX.out.setCell hB _⟩
        rw [e2, ← HQ.out, ← h2]
        exact h
      case measure => simp [intOf]; omega
    · have hjn : j = xs.length := by omega
      have HE : Hid (RowAt wr g (flatC sgC (marksG k xs.length))) := by
        rw [hjn, List.take_of_length_le (by rw [marksG_len]; omega), List.drop_of_length_le (by omega), List.append_nil] at hrow
        exact hrow
      have HQE : Hid ((q : Int) = ((k + 7 * xs.length : Nat) : Int)) := by show _ = _; rw [hq, hjn]
      clear hrow hq hjn HQ
      go_wp2
      go_ret
      exact ⟨ret_int HQE.out, HE.out, HB.out⟩

set_option maxRecDepth 100000 in
set_option maxHeartbeats 800000 in
theorem markSegs_zero (k cap : Nat) (a : Option Addr) (w : World) :
    Calls Try.prog 23 #[.slice a 0 cap, .int .i64 k] w fun e w' => e = .returned (.int .i64 k) ∧ w = w' := by
  go_enter Try.func23, Try.ntmps23
  go_wp2
  go_loop [1, 5] (fun m i => m = .int .i64 k ∧ i = .int .i64 0) (fun _ _ => 0)
  case atStart => exact ⟨rfl, rfl⟩
  case round =>
    obtain ⟨rfl, rfl⟩ := hrel
    go_wp2
    go_ret
    exact ⟨rfl, rfl⟩

/-- A list of the call's own, marked: what it then holds, and that older blocks stay as they were. -/
theorem markSegs_own (k B : Nat) (v : Value) (xs : List Sg) (w : World) (h1 : 1 ≤ k) (hn : k + 7 * xs.length ≤ 1000000000000000) (ho : OwnSg w B v xs) :
    Calls Try.prog 23 #[v, .int .i64 k] w fun e w' => e = .returned (.int .i64 (k + 7 * xs.length : Nat)) ∧ RdSg w' v (marksG k xs.length) ∧ Below B w w' := by
  by_cases hz : 0 < xs.length
  · obtain ⟨g, cap, rfl, hc, hB, hg, hr⟩ := RowAt.of_own ho (by rw [flatC_len sgC_len]; omega)
    refine (markSegs_any k g cap B xs w h1 hn hc hr hg hB).mono ?_
    rintro e w' ⟨rfl, h1, h2⟩
    exact ⟨rfl, ⟨_, cap, by rw [marksG_len], by rw [marksG_len]; exact hc, fun _ => ⟨g, rfl, h1⟩⟩, h2⟩
  · obtain ⟨a, cap, rfl, hc, _⟩ := ho.rd
    have h0 : xs.length = 0 := by omega
    rw [h0]
    refine (markSegs_zero k cap a w).mono ?_
    rintro e w' ⟨rfl, rfl⟩
    exact ⟨rfl, ⟨a, cap, rfl, Nat.zero_le _, fun h => by simp [marksG] at h⟩, Below.refl _ _⟩

set_option maxRecDepth 100000 in
set_option maxHeartbeats 6400000 in
theorem heldSegs_any (k : Nat) (v : Value) (n : Nat) (w : World) (h1 : 1 ≤ k) (hn : k + 7 * n ≤ 1000000000000000) (hr : RdSg w v (marksG k n)) :
    Calls Try.prog 24 #[v, .int .i64 k] w fun e w' => e = .returned (.int .i64 (k + 7 * n : Nat)) ∧ Below w.heap.size w w' := by
  obtain ⟨a, cap, rfl, hcap, hrow0⟩ := hr
  rw [marksG_len] at hcap hrow0 ⊢
  have HR0 := Lib.hid hrow0
  clear hrow0
  go_enter Try.func24, Try.ntmps24
  go_wp2
  go_loopw [1, 5] (fun m i wr => ∃ (j q : Nat), j ≤ n ∧ i = .int .i64 j ∧ m = .int .i64 q ∧ q = k + 7 * j ∧ Below w.heap.size w wr) (fun _ i _ => n - (intOf i).toNat)
  case atStart => exact ⟨0, k, Nat.zero_le _, rfl, rfl, rfl, Below.refl _ _⟩
  case round =>
    obtain ⟨j, q, hj, rfl, rfl, hq, hb⟩ := hrel
    have HQ := Lib.hid hq
    have hq1 : q ≤ 1000000000000000 := by omega
    have hq2 : 1 ≤ q := by omega
    have HB := Lib.hid hb
    by_cases hlt : j < n
    · obtain ⟨g, rfl, hrow⟩ := HR0.out (by omega)
      have hl : j < (marksG k n).length := by rw [marksG_len]; exact hlt
      have hgl : g < w.heap.size := hrow.lt (by rw [flatC_len sgC_len, marksG_len]; omega)
      obtain ⟨⟨a0, a1, a2, a3, a4, a5, a6⟩, _⟩ := (hrow.below hb hgl).seven j hl ⟨(q : Nat), (q + 1 : Nat), (q + 2 : Nat), (q + 3 : Nat), (q + 4 : Nat), (q + 5 : Nat), markL (q + 6)⟩ (by rw [marksG_at, ← hq])
      simp only at a0 a1 a2 a3 a4 a5 a6
      rw [show ((q + 1 : Nat) : Int) = (q : Int) + 1 from by omega] at a1
      rw [show ((q + 2 : Nat) : Int) = (q : Int) + 1 + 1 from by omega] at a2
      rw [show ((q + 3 : Nat) : Int) = (q : Int) + 1 + 1 + 1 from by omega] at a3
      rw [show ((q + 4 : Nat) : Int) = (q : Int) + 1 + 1 + 1 + 1 from by omega] at a4
      rw [show ((q + 5 : Nat) : Int) = (q : Int) + 1 + 1 + 1 + 1 + 1 from by omega] at a5
      have hk2 : (j : Int) ≤ (cap : Int) := by omega
      have hgr : g < wr.heap.size := by have := hb.size; omega
      have cM : Hid (∀ w, Calls Try.prog 40 #[.int .i64 ((q : Int) + 1 + 1 + 1 + 1 + 1 + 1)] w fun e w' => e = .returned (.string ⟨(markL (q + 6)).toArray⟩) ∧ Below w.heap.size w w') := fun w => by
        rw [show ((q : Int) + 1 + 1 + 1 + 1 + 1 + 1) = ((q + 6 : Nat) : Int) from by omega]
        exact markText_any (q + 6) w (by omega) (by omega)
      obtain ⟨T, hT⟩ : ∃ T : ByteArray, T = ⟨(markL (q + 6)).toArray⟩ := ⟨_, rfl⟩
      rw [← hT] at a6 cM
      have hsz := hb.size
      have mk9 : Hid (∀ w', Below wr.heap.size wr w' → w'.cell? ⟨g, j * 7 + 6, none⟩ = some (.string T) ∧ Below wr.heap.size wr w') := fun w' hb => ⟨by rw [hb.cell (p := ⟨g, j * 7 + 6, none⟩) hgr]; exact a6, hb⟩
      clear hrow hq hb hl HR0 hT
      go_wp2_with fail
      clear a0 a1 a2 a3 a4 a5
      go_region_held3 (fun w' => w'.cell? ⟨g, j * 7 + 6, none⟩ = some (.string T) ∧ Below wr.heap.size wr w')
        (first | exact mk9.out _ (Below.refl _ _).drew | exact mk9.out _ cc)
        ((go_at_call 40; have hS := (by assumption : _ ∧ Below wr.heap.size wr _); refine (cM.out _).mono ?_; rintro e wN ⟨rfl, bN⟩; have cc : Below wr.heap.size wr wN := hS.2.trans (bN.mono hS.2.size)))
      all_goals
        go_wp2_with fail
        go_roundw
        case rel => exact ⟨j + 1, q + 7, by omega, by go_num, by go_num, by have := HQ.out; omega, HB.out.trans (cc.mono hsz)⟩
        case measure => simp [intOf]; omega
    · have hjn : j = n := by omega
      have HQE : Hid ((q : Int) = ((k + 7 * n : Nat) : Int)) := by show _ = _; rw [hq, hjn]
      clear hq hjn HQ
      go_wp2
      go_ret
      exact ⟨ret_int HQE.out, HB.out⟩

end Go.Proofs.Ytgoggndacichdaa
