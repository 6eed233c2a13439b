/- The law that a rule is one only with ranges that are, and what one says of its own ends: at every code. Condition: the code lies in memory. -/
import Derived.Test.YtniffpanegeekaaDrawRulOk
import Derived.Test.YtniffpanegeekaaHaOk
import Derived.Test.YtniffpanegeekaaLawRulMay
namespace Go.Proofs.Ytniffpanegeekaa
open Go.RowKit

theorem ruleB_inTo {al : Bool} {i it o ot p pt : Int} (h : ruleB ⟨al, i, it, o, ot, p, pt⟩ = true) : ruleB ⟨al, it, i, o, ot, p, pt⟩ = (i == it) := by
  simp only [ruleB, rangeB, inB, Bool.and_eq_true, decide_eq_true_eq] at h
  rw [Bool.eq_iff_iff]
  simp only [ruleB, rangeB, inB, Bool.and_eq_true, decide_eq_true_eq, beq_iff_eq]
  omega
theorem ruleB_portTo {al : Bool} {i it o ot p pt : Int} (h : ruleB ⟨al, i, it, o, ot, p, pt⟩ = true) : ruleB ⟨al, i, it, o, ot, pt, p⟩ = (p == pt) := by
  simp only [ruleB, rangeB, inB, Bool.and_eq_true, decide_eq_true_eq] at h
  rw [Bool.eq_iff_iff]
  simp only [ruleB, rangeB, inB, Bool.and_eq_true, decide_eq_true_eq, beq_iff_eq]
  omega
theorem may_own {al : Bool} {i it o ot p pt : Int} (h : ruleB ⟨al, i, it, o, ot, p, pt⟩ = true) : mayB [⟨al, i, it, o, ot, p, pt⟩] i 5 ot pt = al := by
  have h2 := h
  simp only [ruleB, rangeB, inB, Bool.and_eq_true, decide_eq_true_eq] at h2
  have e1 : rulesB [⟨al, i, it, o, ot, p, pt⟩] = true := by simp [rulesB, h]
  have e2 : insB i 5 = true := by simp only [insB, inB, Bool.and_eq_true, decide_eq_true_eq]; omega
  have e3 : outB ot pt = true := by simp only [outB, inB, Bool.and_eq_true, decide_eq_true_eq]; omega
  have e4 : aboutB ⟨al, i, it, o, ot, p, pt⟩ i ot pt = true := by simp only [aboutB, inB, Bool.and_eq_true, decide_eq_true_eq]; omega
  simp [mayB, e1, e2, e3, mayL, e4]
theorem may_past {al : Bool} {i it o ot p pt : Int} (h : ruleB ⟨al, i, it, o, ot, p, pt⟩ = true) (hp : pt ≠ 999) : mayB [⟨al, i, it, o, ot, p, pt⟩] i 5 ot (pt + 1) = true := by
  have h2 := h
  simp only [ruleB, rangeB, inB, Bool.and_eq_true, decide_eq_true_eq] at h2
  have e1 : rulesB [⟨al, i, it, o, ot, p, pt⟩] = true := by simp [rulesB, h]
  have e2 : insB i 5 = true := by simp only [insB, inB, Bool.and_eq_true, decide_eq_true_eq]; omega
  have e3 : outB ot (pt + 1) = true := by simp only [outB, inB, Bool.and_eq_true, decide_eq_true_eq]; omega
  have e4 : aboutB ⟨al, i, it, o, ot, p, pt⟩ i ot (pt + 1) = false := by
    rw [Bool.eq_false_iff]; simp only [ne_eq, aboutB, inB, Bool.and_eq_true, decide_eq_true_eq]; omega
  simp [mayB, e1, e2, e3, mayL, e4]
/-- A list of one rule that was just laid. -/
theorem rd_one (w : World) (al : Bool) (i it o ot p pt : Int) (t : TypeId) : RdRl (w.alloc (.cells #[.bool al, .int .i64 i, .int .i64 it, .int .i64 o, .int .i64 ot, .int .i64 p, .int .i64 pt] t)) (.slice (some ⟨w.heap.size, 0, none⟩) 1 1) [⟨al, i, it, o, ot, p, pt⟩] := by
  refine ⟨_, 1, rfl, Nat.le_refl _, fun _ => ⟨_, 0, rfl, by simp, fun k hk j u hu => ?_⟩⟩
  obtain rfl : k = 0 := by simpa using hk
  have e := (cell_new w #[.bool al, .int .i64 i, .int .i64 it, .int .i64 o, .int .i64 ot, .int .i64 p, .int .i64 pt] t j).1
  rw [show 0 + (0 * 7 + j) = j by omega, e]
  simpa [rlC] using hu

set_option maxRecDepth 100000 in
set_option maxHeartbeats 3200000 in
theorem lwRulOk_any (ao : Option Addr) (n cap : Nat) (w : World) (h : BytesIn w ao n) (hn : n ≤ cap) :
    Calls Try.prog 5 #[.slice ao n cap] w fun e w' => e = .returned (.bool true) ∧ Below w.heap.size w w' := by
  have H := Lib.hid h
  clear h
  by_cases hn2 : 1048576 < n
  · go_enter Try.func5, Try.ntmps5
    go_wp2_with fail
    go_ret
    exact ⟨rfl, Below.refl _ _⟩
  · go_enter Try.func5, Try.ntmps5
    go_wp2_with fail
    (go_at_call 15; refine (drawRulOk_any ao n cap _ H.out hn).mono ?_; rintro e w1 ⟨al, i, it, o, ot, p, pt, rfl, b1⟩)
    have A1 : Hid (At7 (w1.alloc (.cells #[.bool al, .int .i64 i, .int .i64 it, .int .i64 o, .int .i64 ot, .int .i64 p, .int .i64 pt] 32)) w1.heap.size (.bool al) (.int .i64 i) (.int .i64 it) (.int .i64 o) (.int .i64 ot) (.int .i64 p) (.int .i64 pt)) := at7_new w1 _ _ _ _ _ _ _ _
    have B1 : Hid (Below w.heap.size w (w1.alloc (.cells #[.bool al, .int .i64 i, .int .i64 it, .int .i64 o, .int .i64 ot, .int .i64 p, .int .i64 pt] 32))) := b1.alloc b1.size _
    obtain ⟨b0, hb0⟩ : ∃ b0, b0 = w1.heap.size := ⟨_, rfl⟩
    have hwb : w.heap.size ≤ b0 := by rw [hb0]; exact b1.size
    rw [← hb0] at A1
    obtain ⟨q, hq⟩ : ∃ q, q = ruleB ⟨al, i, it, o, ot, p, pt⟩ := ⟨_, rfl⟩
    have HQ := Lib.hid hq
    have HM : Hid (∀ w, Calls Try.prog 14 #[.agg #[.bool al, .int .i64 i, .int .i64 it, .int .i64 o, .int .i64 ot, .int .i64 p, .int .i64 pt]] w fun e w' => e = .returned (.bool q) ∧ Below w.heap.size w w') := fun w => by rw [hq]; exact specRulOk_any al i it o ot p pt w
    have HI : Hid (∀ w, Calls Try.prog 16 #[.agg #[.bool al, .int .i64 i, .int .i64 it, .int .i64 o, .int .i64 ot, .int .i64 p, .int .i64 pt]] w fun e w' => e = .returned (.bool q) ∧ Below w.heap.size w w') := fun w => by rw [hq]; exact implRulOk_any al i it o ot p pt w
    clear b1 hq
    obtain ⟨W1, hW1⟩ : ∃ W1, W1 = w1.alloc (.cells #[.bool al, .int .i64 i, .int .i64 it, .int .i64 o, .int .i64 ot, .int .i64 p, .int .i64 pt] 32) := ⟨_, rfl⟩
    rw [← hW1] at A1 B1
    obtain ⟨uz, ⟨c0, c1, c2, c3, c4, c5, c6⟩, f0, f1, f2, f3, f4, f5, f6⟩ := A1.out
    rw [hW1] at c0 c1 c2 c3 c4 c5 c6 uz
    have HW1 := Lib.hid hW1
    clear hW1 f0 f1 f2 f3 f4 f5 f6
    go_wp2_with fail
    rw [← hb0]
    rw [← HW1.out]
    clear c0 c1 c2 c3 c4 c5 c6 uz hb0 HW1
    (go_at_call 16; refine (HI.out _).mono ?_; rintro e w2 ⟨rfl, b2⟩)
    have A2 := Lib.hid (A1.out.below b2)
    have B2 := Lib.hid (B1.out.trans (b2.mono B1.out.size))
    clear b2 A1 B1
    obtain ⟨uz, ⟨c0, c1, c2, c3, c4, c5, c6⟩, _⟩ := A2.out
    go_wp2_with fail
    (go_at_call 14; refine (HM.out _).mono ?_; rintro e w3 ⟨rfl, b3⟩)
    have A3 := Lib.hid (A2.out.below b3)
    have B3 := Lib.hid (B2.out.trans (b3.mono B2.out.size))
    clear b3 A2 B2 uz c0 c1 c2 c3 c4 c5 c6
    cases q
    · go_wp2_with fail
      (go_at_call 13; refine (haOk_any _).mono ?_; rintro e w7 ⟨rfl, rfl⟩)
      go_wp2_with fail
      go_ret
      exact ⟨rfl, B3.out⟩
    · have hr := HQ.out.symm
      have eX := ruleB_inTo hr
      have eY := ruleB_portTo hr
      have eA : Hid (mayB [⟨al, i, it, o, ot, p, pt⟩] i 5 ot pt = al) := may_own hr
      have eP : Hid (¬ pt = 999 → mayB [⟨al, i, it, o, ot, p, pt⟩] i 5 ot (pt + 1) = true) := fun hp => may_past hr hp
      have hwr : pt ≤ 999 ∧ 1 ≤ pt := by
        simp only [ruleB, rangeB, inB, Bool.and_eq_true, decide_eq_true_eq] at hr
        omega
      have hw : IntKind.i64.wrap (pt + 1) = pt + 1 := IntWalk.i64_in _ (by omega)
      clear hr HM HI HQ hwr
      obtain ⟨uz, ⟨c0, c1, c2, c3, c4, c5, c6⟩, f0, f1, f2, f3, f4, f5, f6⟩ := A3.out
      have hbs : ¬ b0 = w3.heap.size := by omega
      obtain ⟨bx, ex⟩ : ∃ bx, (i == it) = bx := ⟨_, rfl⟩
      obtain ⟨bz, ez⟩ : ∃ bz, (p == pt) = bz := ⟨_, rfl⟩
      rw [ex] at eX
      rw [ez] at eY
      go_upto_region 15 with fail
      have AX : Hid (At7 ((w3.alloc (.cells #[.bool al, .int .i64 it, .int .i64 i, .int .i64 o, .int .i64 ot, .int .i64 p, .int .i64 pt] 32)).alloc (.cells #[.bool al, .int .i64 i, .int .i64 it, .int .i64 o, .int .i64 ot, .int .i64 pt, .int .i64 p] 32)) w3.heap.size (.bool al) (.int .i64 it) (.int .i64 i) (.int .i64 o) (.int .i64 ot) (.int .i64 p) (.int .i64 pt)) := (at7_new w3 _ _ _ _ _ _ _ _).alloc _
      have AY : Hid (At7 ((w3.alloc (.cells #[.bool al, .int .i64 it, .int .i64 i, .int .i64 o, .int .i64 ot, .int .i64 p, .int .i64 pt] 32)).alloc (.cells #[.bool al, .int .i64 i, .int .i64 it, .int .i64 o, .int .i64 ot, .int .i64 pt, .int .i64 p] 32)) (w3.heap.size + 1) (.bool al) (.int .i64 i) (.int .i64 it) (.int .i64 o) (.int .i64 ot) (.int .i64 pt) (.int .i64 p)) := by
        have := at7_new (w3.alloc (.cells #[.bool al, .int .i64 it, .int .i64 i, .int .i64 o, .int .i64 ot, .int .i64 p, .int .i64 pt] 32)) (.bool al) (.int .i64 i) (.int .i64 it) (.int .i64 o) (.int .i64 ot) (.int .i64 pt) (.int .i64 p) 32
        rwa [World.size_alloc] at this
      have A4 : Hid (At7 ((w3.alloc (.cells #[.bool al, .int .i64 it, .int .i64 i, .int .i64 o, .int .i64 ot, .int .i64 p, .int .i64 pt] 32)).alloc (.cells #[.bool al, .int .i64 i, .int .i64 it, .int .i64 o, .int .i64 ot, .int .i64 pt, .int .i64 p] 32)) b0 (.bool al) (.int .i64 i) (.int .i64 it) (.int .i64 o) (.int .i64 ot) (.int .i64 p) (.int .i64 pt)) := (A3.out.alloc _).alloc _
      have B4 : Hid (Below w.heap.size w ((w3.alloc (.cells #[.bool al, .int .i64 it, .int .i64 i, .int .i64 o, .int .i64 ot, .int .i64 p, .int .i64 pt] 32)).alloc (.cells #[.bool al, .int .i64 i, .int .i64 it, .int .i64 o, .int .i64 ot, .int .i64 pt, .int .i64 p] 32))) := by
        have z := B3.out.size
        exact (B3.out.alloc z _).alloc (by simp; omega) _
      clear uz c0 c1 c2 c3 c4 c5 c6 f0 f1 f2 f3 f4 f5 f6 A3 B3 hbs
      revert AX AY A4 B4
      generalize (w3.alloc (.cells #[.bool al, .int .i64 it, .int .i64 i, .int .i64 o, .int .i64 ot, .int .i64 p, .int .i64 pt] 32)).alloc (.cells #[.bool al, .int .i64 i, .int .i64 it, .int .i64 o, .int .i64 ot, .int .i64 pt, .int .i64 p] 32) = w4
      intro AX AY A4 B4
      have mk : Hid (∀ w', Below w4.heap.size w4 w' → Below w4.heap.size w4 w' ∧ w'.cell? ⟨w3.heap.size, 0, none⟩ = some (.bool al) ∧ w'.cell? ⟨w3.heap.size, 1, none⟩ = some (.int .i64 it) ∧ w'.cell? ⟨w3.heap.size, 2, none⟩ = some (.int .i64 i) ∧ w'.cell? ⟨w3.heap.size, 3, none⟩ = some (.int .i64 o) ∧ w'.cell? ⟨w3.heap.size, 4, none⟩ = some (.int .i64 ot) ∧ w'.cell? ⟨w3.heap.size, 5, none⟩ = some (.int .i64 p) ∧ w'.cell? ⟨w3.heap.size, 6, none⟩ = some (.int .i64 pt) ∧ w'.cell? ⟨w3.heap.size + 1, 0, none⟩ = some (.bool al) ∧ w'.cell? ⟨w3.heap.size + 1, 1, none⟩ = some (.int .i64 i) ∧ w'.cell? ⟨w3.heap.size + 1, 2, none⟩ = some (.int .i64 it) ∧ w'.cell? ⟨w3.heap.size + 1, 3, none⟩ = some (.int .i64 o) ∧ w'.cell? ⟨w3.heap.size + 1, 4, none⟩ = some (.int .i64 ot) ∧ w'.cell? ⟨w3.heap.size + 1, 5, none⟩ = some (.int .i64 pt) ∧ w'.cell? ⟨w3.heap.size + 1, 6, none⟩ = some (.int .i64 p) ∧ w'.cell? ⟨b0, 1, none⟩ = some (.int .i64 i) ∧ w'.cell? ⟨b0, 2, none⟩ = some (.int .i64 it) ∧ w'.cell? ⟨b0, 5, none⟩ = some (.int .i64 p) ∧ w'.cell? ⟨b0, 6, none⟩ = some (.int .i64 pt)) := by
        intro w' hb
        obtain ⟨uz, ⟨c0, c1, c2, c3, c4, c5, c6⟩, _⟩ := AX.out
        obtain ⟨vz, ⟨d0, d1, d2, d3, d4, d5, d6⟩, _⟩ := AY.out
        obtain ⟨tz, ⟨t0, t1, t2, t3, t4, t5, t6⟩, _⟩ := A4.out
        exact ⟨hb, (hb.cell (by simpa using uz)).trans c0, (hb.cell (by simpa using uz)).trans c1, (hb.cell (by simpa using uz)).trans c2, (hb.cell (by simpa using uz)).trans c3, (hb.cell (by simpa using uz)).trans c4, (hb.cell (by simpa using uz)).trans c5, (hb.cell (by simpa using uz)).trans c6, (hb.cell (by simpa using vz)).trans d0, (hb.cell (by simpa using vz)).trans d1, (hb.cell (by simpa using vz)).trans d2, (hb.cell (by simpa using vz)).trans d3, (hb.cell (by simpa using vz)).trans d4, (hb.cell (by simpa using vz)).trans d5, (hb.cell (by simpa using vz)).trans d6, (hb.cell (by simpa using tz)).trans t1, (hb.cell (by simpa using tz)).trans t2, (hb.cell (by simpa using tz)).trans t5, (hb.cell (by simpa using tz)).trans t6⟩
      have hM := mk.out _ (Below.refl _ _)
      go_cut [54] (fun s54 wx => s54 = .bool false ∧ Below w4.heap.size w4 wx)
      case first =>
        cases bx <;> cases bz
        all_goals
          go_region_held3 (fun w' => Below w4.heap.size w4 w' ∧ w'.cell? ⟨w3.heap.size, 0, none⟩ = some (.bool al) ∧ w'.cell? ⟨w3.heap.size, 1, none⟩ = some (.int .i64 it) ∧ w'.cell? ⟨w3.heap.size, 2, none⟩ = some (.int .i64 i) ∧ w'.cell? ⟨w3.heap.size, 3, none⟩ = some (.int .i64 o) ∧ w'.cell? ⟨w3.heap.size, 4, none⟩ = some (.int .i64 ot) ∧ w'.cell? ⟨w3.heap.size, 5, none⟩ = some (.int .i64 p) ∧ w'.cell? ⟨w3.heap.size, 6, none⟩ = some (.int .i64 pt) ∧ w'.cell? ⟨w3.heap.size + 1, 0, none⟩ = some (.bool al) ∧ w'.cell? ⟨w3.heap.size + 1, 1, none⟩ = some (.int .i64 i) ∧ w'.cell? ⟨w3.heap.size + 1, 2, none⟩ = some (.int .i64 it) ∧ w'.cell? ⟨w3.heap.size + 1, 3, none⟩ = some (.int .i64 o) ∧ w'.cell? ⟨w3.heap.size + 1, 4, none⟩ = some (.int .i64 ot) ∧ w'.cell? ⟨w3.heap.size + 1, 5, none⟩ = some (.int .i64 pt) ∧ w'.cell? ⟨w3.heap.size + 1, 6, none⟩ = some (.int .i64 p) ∧ w'.cell? ⟨b0, 1, none⟩ = some (.int .i64 i) ∧ w'.cell? ⟨b0, 2, none⟩ = some (.int .i64 it) ∧ w'.cell? ⟨b0, 5, none⟩ = some (.int .i64 p) ∧ w'.cell? ⟨b0, 6, none⟩ = some (.int .i64 pt))
            (first
              | exact mk.out _ (Below.refl _ _).drew
              | exact mk.out _ cc
              | (refine mk.out _ ?_; with_reducible exact cc)
              | (trace_state; fail))
            ((go_at_call 16; have hS := (by assumption : Below w4.heap.size w4 _ ∧ _); refine (implRulOk_any _ _ _ _ _ _ _ _).mono ?_; rintro e wN ⟨he, bN⟩; have cc : Below w4.heap.size w4 wN := hS.1.trans (bN.mono hS.1.size); clear bN; (first | rw [eX] at he | rw [eY] at he); subst he))
        all_goals (go_wp2_with fail; go_meet)
        all_goals exact ⟨rfl, cc⟩
      case rest =>
        obtain ⟨rfl, c7⟩ := hcut
        have A7 := Lib.hid (A4.out.below c7)
        have B7 := Lib.hid (B4.out.trans (c7.mono B4.out.size))
        have zb : ¬ b0 = wc.heap.size := by have := A7.out.1; omega
        clear mk hM eX eY ex ez AX AY A4 B4 c7
        obtain ⟨uz, ⟨c0, c1, c2, c3, c4, c5, c6⟩, _⟩ := A7.out
        go_upto_region 19 with fail
        have A8 : Hid (At7 ((wc.alloc (.cells #[.int .i64 i, .int .i64 5] 25)).alloc (.cells #[.int .i64 ot, .int .i64 pt] 25)) b0 (.bool al) (.int .i64 i) (.int .i64 it) (.int .i64 o) (.int .i64 ot) (.int .i64 p) (.int .i64 pt)) := (A7.out.alloc _).alloc _
        have B8 : Hid (Below w.heap.size w ((wc.alloc (.cells #[.int .i64 i, .int .i64 5] 25)).alloc (.cells #[.int .i64 ot, .int .i64 pt] 25))) := by
          have z := B7.out.size
          exact (B7.out.alloc z _).alloc (by simp; omega) _
        have X8 : Hid (wc.heap.size < (((wc.alloc (.cells #[.int .i64 i, .int .i64 5] 25)).alloc (.cells #[.int .i64 ot, .int .i64 pt] 25))).heap.size ∧ (((wc.alloc (.cells #[.int .i64 i, .int .i64 5] 25)).alloc (.cells #[.int .i64 ot, .int .i64 pt] 25))).cell? ⟨wc.heap.size, 0, none⟩ = some (.int .i64 i) ∧ (((wc.alloc (.cells #[.int .i64 i, .int .i64 5] 25)).alloc (.cells #[.int .i64 ot, .int .i64 pt] 25))).cell? ⟨wc.heap.size, 1, none⟩ = some (.int .i64 5)) := ⟨by simp; omega, by simp, by simp⟩
        have Y8 : Hid (wc.heap.size + 1 < (((wc.alloc (.cells #[.int .i64 i, .int .i64 5] 25)).alloc (.cells #[.int .i64 ot, .int .i64 pt] 25))).heap.size ∧ (((wc.alloc (.cells #[.int .i64 i, .int .i64 5] 25)).alloc (.cells #[.int .i64 ot, .int .i64 pt] 25))).cell? ⟨wc.heap.size + 1, 0, none⟩ = some (.int .i64 ot) ∧ (((wc.alloc (.cells #[.int .i64 i, .int .i64 5] 25)).alloc (.cells #[.int .i64 ot, .int .i64 pt] 25))).cell? ⟨wc.heap.size + 1, 1, none⟩ = some (.int .i64 pt)) := ⟨by simp, by simp, by simp⟩
        clear uz c0 c1 c2 c3 c4 c5 c6 A7 B7 zb
        revert A8 B8 X8 Y8
        generalize (wc.alloc (.cells #[.int .i64 i, .int .i64 5] 25)).alloc (.cells #[.int .i64 ot, .int .i64 pt] 25) = w8
        intro A8 B8 X8 Y8
        have mk : Hid (∀ w', Below w8.heap.size w8 w' → Below w8.heap.size w8 w' ∧ w'.cell? ⟨b0, 0, none⟩ = some (.bool al) ∧ w'.cell? ⟨b0, 1, none⟩ = some (.int .i64 i) ∧ w'.cell? ⟨b0, 2, none⟩ = some (.int .i64 it) ∧ w'.cell? ⟨b0, 3, none⟩ = some (.int .i64 o) ∧ w'.cell? ⟨b0, 4, none⟩ = some (.int .i64 ot) ∧ w'.cell? ⟨b0, 5, none⟩ = some (.int .i64 p) ∧ w'.cell? ⟨b0, 6, none⟩ = some (.int .i64 pt) ∧ w'.cell? ⟨wc.heap.size, 0, none⟩ = some (.int .i64 i) ∧ w'.cell? ⟨wc.heap.size, 1, none⟩ = some (.int .i64 5) ∧ w'.cell? ⟨wc.heap.size + 1, 0, none⟩ = some (.int .i64 ot) ∧ w'.cell? ⟨wc.heap.size + 1, 1, none⟩ = some (.int .i64 pt)) := by
          intro w' hb
          obtain ⟨tz, ⟨t0, t1, t2, t3, t4, t5, t6⟩, _⟩ := A8.out
          obtain ⟨x0, x1, x2⟩ := X8.out
          obtain ⟨y0, y1, y2⟩ := Y8.out
          exact ⟨hb, (hb.cell (by simpa using tz)).trans t0, (hb.cell (by simpa using tz)).trans t1, (hb.cell (by simpa using tz)).trans t2, (hb.cell (by simpa using tz)).trans t3, (hb.cell (by simpa using tz)).trans t4, (hb.cell (by simpa using tz)).trans t5, (hb.cell (by simpa using tz)).trans t6, (hb.cell (by simpa using x0)).trans x1, (hb.cell (by simpa using x0)).trans x2, (hb.cell (by simpa using y0)).trans y1, (hb.cell (by simpa using y0)).trans y2⟩
        have hM := mk.out _ (Below.refl _ _)
        clear A8 X8 Y8
        by_cases hp : pt = 999
        · subst hp
          clear hw eP
          refine wp_region_held_drew (S := fun w' => Below w8.heap.size w8 w' ∧ w'.cell? ⟨b0, 0, none⟩ = some (.bool al) ∧ w'.cell? ⟨b0, 1, none⟩ = some (.int .i64 i) ∧ w'.cell? ⟨b0, 2, none⟩ = some (.int .i64 it) ∧ w'.cell? ⟨b0, 3, none⟩ = some (.int .i64 o) ∧ w'.cell? ⟨b0, 4, none⟩ = some (.int .i64 ot) ∧ w'.cell? ⟨b0, 5, none⟩ = some (.int .i64 p) ∧ w'.cell? ⟨b0, 6, none⟩ = some (.int .i64 999) ∧ w'.cell? ⟨wc.heap.size, 0, none⟩ = some (.int .i64 i) ∧ w'.cell? ⟨wc.heap.size, 1, none⟩ = some (.int .i64 5) ∧ w'.cell? ⟨wc.heap.size + 1, 0, none⟩ = some (.int .i64 ot) ∧ w'.cell? ⟨wc.heap.size + 1, 1, none⟩ = some (.int .i64 999)) (by kernel_rfl) (mk.out _ (Below.refl _ _).drew) (fun hHeld => ?_)
          refine wpAnyH_take (i := 0) (oi := { dst := some 63, op := Op.load 32 (Operand.tmp 3), type := 32, pos := "laws.go:2171", after := #[], guard := none }) (v := ?v0) rfl (by kernel_rfl) (by kernel_rfl) (by kernel_rfl) (fun _ _ _ h => h) (Or.inl ⟨by rfl, ?h0⟩) (by assumption) ?r0
          case h0 => (intro w hSw; (try dsimp only at hSw); go_simp) <;> with_reducible rfl
          case r0 =>
          try simp only [Act.put, List.setIfInBounds_toArray, List.set_cons_zero, List.set_cons_succ]
          refine wpAnyH_take (i := 2) (oi := { dst := some 65, op := Op.load 25 (Operand.tmp 7), type := 25, pos := "laws.go:2171", after := #[], guard := none }) (v := ?v2) rfl (by kernel_rfl) (by kernel_rfl) (by kernel_rfl) (fun _ _ _ h => h) (Or.inl ⟨by rfl, ?h2⟩) (by assumption) ?r2
          case h2 => (intro w hSw; (try dsimp only at hSw); go_simp) <;> with_reducible rfl
          case r2 =>
          try simp only [Act.put, List.setIfInBounds_toArray, List.set_cons_zero, List.set_cons_succ]
          refine wpAnyH_take (i := 3) (oi := { dst := some 66, op := Op.load 25 (Operand.tmp 8), type := 25, pos := "laws.go:2171", after := #[], guard := none }) (v := ?v3) rfl (by kernel_rfl) (by kernel_rfl) (by kernel_rfl) (fun _ _ _ h => h) (Or.inl ⟨by rfl, ?h3⟩) (by assumption) ?r3
          case h3 => (intro w hSw; (try dsimp only at hSw); go_simp) <;> with_reducible rfl
          case r3 =>
          try simp only [Act.put, List.setIfInBounds_toArray, List.set_cons_zero, List.set_cons_succ]
          refine wpAnyH_take (i := 5) (oi := { dst := some 68, op := Op.fieldAddr 32 (Operand.tmp 3) 0, type := 0, pos := "laws.go:2171", after := #[], guard := none }) (v := ?v5) rfl (by kernel_rfl) (by kernel_rfl) (by kernel_rfl) (fun _ _ _ h => h) (Or.inl ⟨by rfl, ?h5⟩) (by assumption) ?r5
          case h5 => (intro w hSw; (try dsimp only at hSw); go_simp) <;> with_reducible rfl
          case r5 =>
          try simp only [Act.put, List.setIfInBounds_toArray, List.set_cons_zero, List.set_cons_succ]
          refine wpAnyH_take (i := 6) (oi := { dst := some 69, op := Op.load 4 (Operand.tmp 68), type := 4, pos := "laws.go:2171", after := #[{ on := 5, ground := Ground.data }], guard := none }) (v := ?v6) rfl (by kernel_rfl) (by kernel_rfl) (by kernel_rfl) (fun _ _ _ h => h) (Or.inl ⟨by rfl, ?h6⟩) (by assumption) ?r6
          case h6 => (intro w hSw; (try dsimp only at hSw); go_simp) <;> with_reducible rfl
          case r6 =>
          try simp only [Act.put, List.setIfInBounds_toArray, List.set_cons_zero, List.set_cons_succ]
          refine wpAnyH_ready (rs := [1]) (by kernel_rfl) (by simp) ?_
          refine AllReadyH.cons (o := { dst := some 64, op := Op.buildSlice 23 1 #[(0, Operand.tmp 63)], type := 23, pos := "laws.go:2171", after := #[{ on := 0, ground := Ground.data }], guard := none }) rfl (fun K hK => ?_) AllReadyH.nil
          go_simp
          refine hK.out _ _ (mk.out _ (((Below.refl _ _).drew).alloc (Nat.le_refl _) _)) (fun hHeld2 => ?_)
          clear hK K hHeld
          have hHeld := hHeld2
          clear hHeld2
          try simp only [Act.put, List.setIfInBounds_toArray, List.set_cons_zero, List.set_cons_succ]
          refine wpAnyH_ready (rs := [4]) (by kernel_rfl) (by simp) ?_
          refine AllReadyH.cons (o := { dst := some 67, op := Op.call { callee := Callee.value (Operand.func 9), args := #[Operand.tmp 64, Operand.tmp 65, Operand.tmp 66], argTypes := #[23, 25, 25] }, type := 4, pos := "laws.go:2171", after := #[{ on := 1, ground := Ground.data }, { on := 2, ground := Ground.data }, { on := 3, ground := Ground.data }], guard := none }) rfl (fun K hK => ?_) AllReadyH.nil
          go_simp
          (go_at_call 9; refine (implMay_any _ [⟨al, i, it, o, ot, p, 999⟩] _ _ _ _ _ (by simp) (by first | exact rd_one _ al i it o ot p 999 _ | exact (rd_one _ al i it o ot p 999 _).below (Below.refl _ _).drew)).mono ?_; rintro e wN ⟨he, bN⟩; have cc : Below w8.heap.size w8 wN := hHeld.1.trans (bN.mono hHeld.1.size); clear bN; rw [eA.out] at he; subst he)
          refine hK.out _ _ (mk.out _ cc) (fun hHeld2 => ?_)
          clear hK K hHeld
          have hHeld := hHeld2
          clear hHeld2
          try simp only [Act.put, List.setIfInBounds_toArray, List.set_cons_zero, List.set_cons_succ]
          refine wpAnyH_take (i := 7) (oi := { dst := some 70, op := Op.binOp BinOp.eql 4 (Operand.tmp 67) (Operand.tmp 69) 4, type := 4, pos := "laws.go:2171", after := #[{ on := 4, ground := Ground.data }, { on := 6, ground := Ground.data }], guard := none }) (v := ?v7) rfl (by kernel_rfl) (by kernel_rfl) (by kernel_rfl) (fun _ _ _ h => h) (Or.inl ⟨by rfl, ?h7⟩) (by assumption) ?r7
          case h7 => (intro w hSw; (try dsimp only at hSw); go_simp) <;> with_reducible rfl
          case r7 =>
          try simp only [Act.put, List.setIfInBounds_toArray, List.set_cons_zero, List.set_cons_succ]
          refine wpAnyH_take (i := 8) (oi := { dst := some 71, op := Op.move (Operand.tmp 70), type := 4, pos := "laws.go:2171", after := #[{ on := 7, ground := Ground.data }, { on := 4, ground := Ground.chain }], guard := none }) (v := ?v8) rfl (by kernel_rfl) (by kernel_rfl) (by kernel_rfl) (fun _ _ _ h => h) (Or.inl ⟨by rfl, ?h8⟩) (by assumption) ?r8
          case h8 => (intro w hSw; (try dsimp only at hSw); go_simp) <;> with_reducible rfl
          case r8 =>
          try simp only [Act.put, List.setIfInBounds_toArray, List.set_cons_zero, List.set_cons_succ]
          refine wpAnyH_take (i := 9) (oi := { dst := some 72, op := Op.fieldAddr 32 (Operand.tmp 3) 6, type := 0, pos := "laws.go:2171", after := #[{ on := 8, ground := Ground.guard }], guard := some (8, true) }) (v := ?v9) rfl (by kernel_rfl) (by kernel_rfl) (by kernel_rfl) (fun _ _ _ h => h) (Or.inl ⟨by rfl, ?h9⟩) (by assumption) ?r9
          case h9 => (intro w hSw; (try dsimp only at hSw); go_simp) <;> with_reducible rfl
          case r9 =>
          try simp only [Act.put, List.setIfInBounds_toArray, List.set_cons_zero, List.set_cons_succ]
          refine wpAnyH_take (i := 10) (oi := { dst := some 73, op := Op.load 3 (Operand.tmp 72), type := 3, pos := "laws.go:2171", after := #[{ on := 9, ground := Ground.data }, { on := 8, ground := Ground.guard }], guard := some (8, true) }) (v := ?v10) rfl (by kernel_rfl) (by kernel_rfl) (by kernel_rfl) (fun _ _ _ h => h) (Or.inl ⟨by rfl, ?h10⟩) (by assumption) ?r10
          case h10 => (intro w hSw; (try dsimp only at hSw); go_simp) <;> with_reducible rfl
          case r10 =>
          try simp only [Act.put, List.setIfInBounds_toArray, List.set_cons_zero, List.set_cons_succ]
          refine wpAnyH_take (i := 11) (oi := { dst := some 74, op := Op.binOp BinOp.eql 3 (Operand.tmp 73) (Operand.const (Value.int IntKind.i64 999)) 3, type := 4, pos := "laws.go:2171", after := #[{ on := 10, ground := Ground.data }, { on := 8, ground := Ground.guard }], guard := some (8, true) }) (v := ?v11) rfl (by kernel_rfl) (by kernel_rfl) (by kernel_rfl) (fun _ _ _ h => h) (Or.inl ⟨by rfl, ?h11⟩) (by assumption) ?r11
          case h11 => (intro w hSw; (try dsimp only at hSw); go_simp) <;> with_reducible rfl
          case r11 =>
          try simp only [Act.put, List.setIfInBounds_toArray, List.set_cons_zero, List.set_cons_succ]
          refine wpAnyH_take (i := 12) (oi := { dst := some 75, op := Op.move (Operand.tmp 74), type := 4, pos := "laws.go:2171", after := #[{ on := 11, ground := Ground.data }, { on := 8, ground := Ground.chain }, { on := 8, ground := Ground.guard }], guard := some (8, true) }) (v := ?v12) rfl (by kernel_rfl) (by kernel_rfl) (by kernel_rfl) (fun _ _ _ h => h) (Or.inl ⟨by rfl, ?h12⟩) (by assumption) ?r12
          case h12 => (intro w hSw; (try dsimp only at hSw); go_simp) <;> with_reducible rfl
          case r12 =>
          try simp only [Act.put, List.setIfInBounds_toArray, List.set_cons_zero, List.set_cons_succ]
          refine wpAnyH_take (i := 13) (oi := { dst := some 76, op := Op.load 32 (Operand.tmp 3), type := 32, pos := "laws.go:2171", after := #[{ on := 12, ground := Ground.guard }], guard := some (12, false) }) (v := undef) rfl (by kernel_rfl) (by kernel_rfl) (by kernel_rfl) (fun _ _ _ h => h) (Or.inr ⟨by rfl, rfl⟩) (by assumption) ?_
          try simp only [Act.put, List.setIfInBounds_toArray, List.set_cons_zero, List.set_cons_succ]
          refine wpAnyH_take (i := 14) (oi := { dst := some 77, op := Op.buildSlice 23 1 #[(0, Operand.tmp 76)], type := 23, pos := "laws.go:2171", after := #[{ on := 13, ground := Ground.data }, { on := 12, ground := Ground.guard }], guard := some (12, false) }) (v := undef) rfl (by kernel_rfl) (by kernel_rfl) (by kernel_rfl) (fun _ _ _ h => h) (Or.inr ⟨by rfl, rfl⟩) (by assumption) ?_
          try simp only [Act.put, List.setIfInBounds_toArray, List.set_cons_zero, List.set_cons_succ]
          refine wpAnyH_take (i := 15) (oi := { dst := some 78, op := Op.load 25 (Operand.tmp 7), type := 25, pos := "laws.go:2171", after := #[{ on := 12, ground := Ground.guard }], guard := some (12, false) }) (v := undef) rfl (by kernel_rfl) (by kernel_rfl) (by kernel_rfl) (fun _ _ _ h => h) (Or.inr ⟨by rfl, rfl⟩) (by assumption) ?_
          try simp only [Act.put, List.setIfInBounds_toArray, List.set_cons_zero, List.set_cons_succ]
          refine wpAnyH_take (i := 16) (oi := { dst := some 79, op := Op.fieldAddr 32 (Operand.tmp 3) 4, type := 0, pos := "laws.go:2171", after := #[{ on := 12, ground := Ground.guard }], guard := some (12, false) }) (v := undef) rfl (by kernel_rfl) (by kernel_rfl) (by kernel_rfl) (fun _ _ _ h => h) (Or.inr ⟨by rfl, rfl⟩) (by assumption) ?_
          try simp only [Act.put, List.setIfInBounds_toArray, List.set_cons_zero, List.set_cons_succ]
          refine wpAnyH_take (i := 17) (oi := { dst := some 80, op := Op.load 3 (Operand.tmp 79), type := 3, pos := "laws.go:2171", after := #[{ on := 16, ground := Ground.data }, { on := 12, ground := Ground.guard }], guard := some (12, false) }) (v := undef) rfl (by kernel_rfl) (by kernel_rfl) (by kernel_rfl) (fun _ _ _ h => h) (Or.inr ⟨by rfl, rfl⟩) (by assumption) ?_
          try simp only [Act.put, List.setIfInBounds_toArray, List.set_cons_zero, List.set_cons_succ]
          refine wpAnyH_take (i := 18) (oi := { dst := some 81, op := Op.fieldAddr 32 (Operand.tmp 3) 6, type := 0, pos := "laws.go:2171", after := #[{ on := 12, ground := Ground.guard }], guard := some (12, false) }) (v := undef) rfl (by kernel_rfl) (by kernel_rfl) (by kernel_rfl) (fun _ _ _ h => h) (Or.inr ⟨by rfl, rfl⟩) (by assumption) ?_
          try simp only [Act.put, List.setIfInBounds_toArray, List.set_cons_zero, List.set_cons_succ]
          refine wpAnyH_take (i := 19) (oi := { dst := some 82, op := Op.load 3 (Operand.tmp 81), type := 3, pos := "laws.go:2171", after := #[{ on := 18, ground := Ground.data }, { on := 12, ground := Ground.guard }], guard := some (12, false) }) (v := undef) rfl (by kernel_rfl) (by kernel_rfl) (by kernel_rfl) (fun _ _ _ h => h) (Or.inr ⟨by rfl, rfl⟩) (by assumption) ?_
          try simp only [Act.put, List.setIfInBounds_toArray, List.set_cons_zero, List.set_cons_succ]
          refine wpAnyH_take (i := 20) (oi := { dst := some 83, op := Op.binOp BinOp.add 3 (Operand.tmp 82) (Operand.const (Value.int IntKind.i64 1)) 3, type := 3, pos := "laws.go:2171", after := #[{ on := 19, ground := Ground.data }, { on := 12, ground := Ground.guard }], guard := some (12, false) }) (v := undef) rfl (by kernel_rfl) (by kernel_rfl) (by kernel_rfl) (fun _ _ _ h => h) (Or.inr ⟨by rfl, rfl⟩) (by assumption) ?_
          try simp only [Act.put, List.setIfInBounds_toArray, List.set_cons_zero, List.set_cons_succ]
          refine wpAnyH_take (i := 21) (oi := { dst := some 84, op := Op.build 25 #[(0, Operand.tmp 80), (1, Operand.tmp 83)], type := 25, pos := "laws.go:2171", after := #[{ on := 17, ground := Ground.data }, { on := 20, ground := Ground.data }, { on := 12, ground := Ground.guard }], guard := some (12, false) }) (v := undef) rfl (by kernel_rfl) (by kernel_rfl) (by kernel_rfl) (fun _ _ _ h => h) (Or.inr ⟨by rfl, rfl⟩) (by assumption) ?_
          try simp only [Act.put, List.setIfInBounds_toArray, List.set_cons_zero, List.set_cons_succ]
          refine wpAnyH_take (i := 22) (oi := { dst := some 85, op := Op.call { callee := Callee.value (Operand.func 9), args := #[Operand.tmp 77, Operand.tmp 78, Operand.tmp 84], argTypes := #[23, 25, 25] }, type := 4, pos := "laws.go:2171", after := #[{ on := 14, ground := Ground.data }, { on := 15, ground := Ground.data }, { on := 21, ground := Ground.data }, { on := 12, ground := Ground.chain }, { on := 12, ground := Ground.guard }], guard := some (12, false) }) (v := undef) rfl (by kernel_rfl) (by kernel_rfl) (by kernel_rfl) (fun _ _ _ h => h) (Or.inr ⟨by rfl, rfl⟩) (by assumption) ?_
          try simp only [Act.put, List.setIfInBounds_toArray, List.set_cons_zero, List.set_cons_succ]
          refine wpAnyH_take (i := 23) (oi := { dst := some 86, op := Op.pick (Operand.tmp 75) (Operand.const (Value.bool true)) (Operand.tmp 85), type := 4, pos := "laws.go:2171", after := #[{ on := 12, ground := Ground.data }, { on := 22, ground := Ground.data }, { on := 8, ground := Ground.guard }], guard := some (8, true) }) (v := ?v23) rfl (by kernel_rfl) (by kernel_rfl) (by kernel_rfl) (fun _ _ _ h => h) (Or.inl ⟨by rfl, ?h23⟩) (by assumption) ?r23
          case h23 => (intro w hSw; (try dsimp only at hSw); go_simp) <;> with_reducible rfl
          case r23 =>
          try simp only [Act.put, List.setIfInBounds_toArray, List.set_cons_zero, List.set_cons_succ]
          refine wpAnyH_take (i := 24) (oi := { dst := some 87, op := Op.pick (Operand.tmp 71) (Operand.tmp 86) (Operand.const (Value.bool false)), type := 4, pos := "laws.go:2171", after := #[{ on := 8, ground := Ground.data }, { on := 23, ground := Ground.data }], guard := none }) (v := ?v24) rfl (by kernel_rfl) (by kernel_rfl) (by kernel_rfl) (fun _ _ _ h => h) (Or.inl ⟨by rfl, ?h24⟩) (by assumption) ?r24
          case h24 => (intro w hSw; (try dsimp only at hSw); go_simp) <;> with_reducible rfl
          case r24 =>
          try simp only [Act.put, List.setIfInBounds_toArray, List.set_cons_zero, List.set_cons_succ]
          refine wpAnyH_ready (rs := [25]) (by kernel_rfl) (by simp) ?_
          refine AllReadyH.cons rfl (fun K hK => ?_) AllReadyH.nil
          go_simp
          refine hK.out _ _ (mk.out _ cc) (fun hHeld2 => ?_)
          clear hK K hHeld
          have hHeld := hHeld2
          clear hHeld2
          try simp only [Act.put, List.setIfInBounds_toArray, List.set_cons_zero, List.set_cons_succ]
          refine wpAnyH_done (by kernel_rfl) ?_ _
          go_wp2_with fail
          go_ret
          exact ⟨rfl, B8.out.trans (cc.mono B8.out.size)⟩
        · have e9 : (pt == (999 : Int)) = false := by rw [beq_eq_false_iff_ne]; exact hp
          have eP2 := eP.out hp
          clear hp eP
          go_region_held3 (fun w' => Below w8.heap.size w8 w' ∧ w'.cell? ⟨b0, 0, none⟩ = some (.bool al) ∧ w'.cell? ⟨b0, 1, none⟩ = some (.int .i64 i) ∧ w'.cell? ⟨b0, 2, none⟩ = some (.int .i64 it) ∧ w'.cell? ⟨b0, 3, none⟩ = some (.int .i64 o) ∧ w'.cell? ⟨b0, 4, none⟩ = some (.int .i64 ot) ∧ w'.cell? ⟨b0, 5, none⟩ = some (.int .i64 p) ∧ w'.cell? ⟨b0, 6, none⟩ = some (.int .i64 pt) ∧ w'.cell? ⟨wc.heap.size, 0, none⟩ = some (.int .i64 i) ∧ w'.cell? ⟨wc.heap.size, 1, none⟩ = some (.int .i64 5) ∧ w'.cell? ⟨wc.heap.size + 1, 0, none⟩ = some (.int .i64 ot) ∧ w'.cell? ⟨wc.heap.size + 1, 1, none⟩ = some (.int .i64 pt))
            (first
              | exact mk.out _ (Below.refl _ _).drew
              | exact mk.out _ cc
              | exact mk.out _ (((Below.refl _ _).drew).alloc (Nat.le_refl _) _)
              | exact mk.out _ ((Below.refl _ _).alloc (Nat.le_refl _) _)
              | exact mk.out _ (cc.alloc cc.size _)
              | exact mk.out _ ((by assumption : Below w8.heap.size w8 _ ∧ _).1.alloc (by assumption : Below w8.heap.size w8 _ ∧ _).1.size _)
              | (trace_state; fail))
            ((go_at_call 9; have hS := (by assumption : Below w8.heap.size w8 _ ∧ _); refine (implMay_any _ [⟨al, i, it, o, ot, p, pt⟩] _ _ _ _ _ (by simp) (by first | exact rd_one _ al i it o ot p pt _ | exact (rd_one _ al i it o ot p pt _).below (Below.refl _ _).drew)).mono ?_; rintro e wN ⟨he, bN⟩; have cc : Below w8.heap.size w8 wN := hS.1.trans (bN.mono hS.1.size); clear bN; (first | rw [eA.out] at he | rw [eP2] at he); subst he))
          all_goals
            go_wp2_with fail
            go_ret
            exact ⟨rfl, B8.out.trans (cc.mono B8.out.size)⟩

end Go.Proofs.Ytniffpanegeekaa
