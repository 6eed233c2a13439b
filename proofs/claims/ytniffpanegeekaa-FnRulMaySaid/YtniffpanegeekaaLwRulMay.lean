/- The law on what rules say of two ends: at every code. Condition: the code lies in memory. -/
import Derived.Test.YtniffpanegeekaaDrawRulMay
import Derived.Test.YtniffpanegeekaaHaOk
import Derived.Test.YtniffpanegeekaaRulApp
import Derived.Test.YtniffpanegeekaaAt7b
import Derived.Deep.RegionHeld3
namespace Go.Proofs.Ytniffpanegeekaa
open Go.RowKit

set_option maxRecDepth 100000 in
set_option maxHeartbeats 3200000 in
theorem lwRulMay_any (ao : Option Addr) (n cap : Nat) (w : World) (h : BytesIn w ao n) (hn : n ≤ cap) :
    Calls Try.prog 3 #[.slice ao n cap] w fun e w' => e = .returned (.bool true) ∧ Below w.heap.size w w' := by
  have H := Lib.hid h
  clear h
  by_cases hn2 : 1048576 < n
  · go_enter Try.func3, Try.ntmps3
    go_wp2_with fail
    go_ret
    exact ⟨rfl, Below.refl _ _⟩
  · go_enter Try.func3, Try.ntmps3
    go_wp2_with fail
    (go_at_call 8; refine (drawRulMay_any ao n cap _ H.out hn).mono ?_; rintro e w1 ⟨g, c, l, ia, ip, oa, op, rfl, ho, hl, b1⟩)
    obtain ⟨w2, hw2⟩ : ∃ w2, w2 = (w1.alloc (.cells #[.int .i64 ia, .int .i64 ip] 25)).alloc (.cells #[.int .i64 oa, .int .i64 op] 25) := ⟨_, rfl⟩
    have hb2 : Below w.heap.size w w2 := by rw [hw2]; exact (b1.alloc b1.size _).alloc (by have := b1.size; simp; omega) _
    have B2 := Lib.hid hb2
    have HC : Hid (∀ w', Below w2.heap.size w2 w' → w'.cell? ⟨w1.heap.size, 0, none⟩ = some (.int .i64 ia) ∧ w'.cell? ⟨w1.heap.size, 1, none⟩ = some (.int .i64 ip) ∧ w'.cell? ⟨w1.heap.size + 1, 0, none⟩ = some (.int .i64 oa) ∧ w'.cell? ⟨w1.heap.size + 1, 1, none⟩ = some (.int .i64 op)) := by
      intro w' hb
      have zz : w2.heap.size = w1.heap.size + 2 := by rw [hw2]; simp
      refine ⟨?_, ?_, ?_, ?_⟩
      · rw [hb.cell (by simp; omega), hw2]; simp
      · rw [hb.cell (by simp; omega), hw2]; simp
      · rw [hb.cell (by simp; omega), hw2]; simp
      · rw [hb.cell (by simp; omega), hw2]; simp
    have HL : Hid (∀ w', Below w2.heap.size w2 w' → RdRl w' (.slice (some g) l.length c) l) := by
      intro w' hb
      have h2 : RdRl w2 (.slice (some g) l.length c) l := by rw [hw2]; exact (ho.rd.below ((Below.refl _ _).alloc (Nat.le_refl _) _)).below ((Below.refl _ _).alloc (Nat.le_refl _) _)
      exact h2.below hb
    obtain ⟨q, hq⟩ : ∃ q, q = mayB l ia ip oa op := ⟨_, rfl⟩
    have HQ := Lib.hid hq
    have HI : Hid (∀ w, RdRl w (.slice (some g) l.length c) l → Calls Try.prog 9 #[.slice (some g) l.length c, .agg #[.int .i64 ia, .int .i64 ip], .agg #[.int .i64 oa, .int .i64 op]] w fun e w' => e = .returned (.bool q) ∧ Below w.heap.size w w') := fun w hv => by rw [hq]; exact implMay_any _ l ia ip oa op w (by omega) hv
    have HM : Hid (∀ w, RdRl w (.slice (some g) l.length c) l → Calls Try.prog 10 #[.slice (some g) l.length c, .agg #[.int .i64 ia, .int .i64 ip], .agg #[.int .i64 oa, .int .i64 op]] w fun e w' => e = .returned (.bool q) ∧ Below w.heap.size w w') := fun w hv => by rw [hq]; exact specMay_any _ l ia ip oa op w (by omega) hv
    have hs2 : w1.heap.size + 1 < w2.heap.size := by rw [hw2]; simp
    have HN : Hid (∀ w', Below w2.heap.size w2 w' → ∀ j u, (flatC rlC l)[j]? = some u → w'.cell? (g.add j) = some u) := by
      intro w' hb
      have b12 : Below w1.heap.size w1 w2 := by rw [hw2]; exact ((Below.refl _ _).alloc (Nat.le_refl _) _).alloc (by simp) _
      exact own_news ho (b12.trans (hb.mono b12.size))
    clear hb2 hq ho
    go_wp2_with fail
    rw [← hw2]
    clear hw2 b1
    (go_at_call 9; refine (HI.out _ (HL.out _ (Below.refl _ _))).mono ?_; rintro e w3 ⟨rfl, b3⟩)
    have C3 := Lib.hid b3
    obtain ⟨x0, x1, y0, y1⟩ := HC.out _ b3
    clear b3
    go_wp2_with fail
    (go_at_call 10; refine (HM.out _ (HL.out _ C3.out)).mono ?_; rintro e w4 ⟨rfl, b4⟩)
    have C4 := Lib.hid (C3.out.trans (b4.mono C3.out.size))
    clear b4 C3 x0 x1 y0 y1
    obtain ⟨x0, x1, y0, y1⟩ := HC.out _ C4.out
    go_wp2_with fail
    (go_at_call 11; refine (specInside_any ia ip _).mono ?_; rintro e w5 ⟨rfl, b5⟩)
    have C5 := Lib.hid (C4.out.trans (b5.mono C4.out.size))
    clear b5 C4 x0 x1 y0 y1
    obtain ⟨x0, x1, y0, y1⟩ := HC.out _ C5.out
    cases hA : insB ia ip
    · have hF : q = false := by rw [HQ.out]; unfold mayB; rw [hA]; simp
      subst hF
      clear hA HQ
      go_wp2_with fail
      (go_at_call 13; refine (haOk_any _).mono ?_; rintro e w7 ⟨rfl, rfl⟩)
      go_wp2_with fail
      go_ret
      exact ⟨rfl, B2.out.trans (C5.out.mono B2.out.size)⟩
    have HA1 := Lib.hid hA
    clear hA
    go_wp2_with fail
    (go_at_call 12; refine (specOutside_any oa op _).mono ?_; rintro e w6 ⟨rfl, b6⟩)
    have C6 := Lib.hid (C5.out.trans (b6.mono C5.out.size))
    clear b6 C5 x0 x1 y0 y1
    obtain ⟨x0, x1, y0, y1⟩ := HC.out _ C6.out
    cases hO : outB oa op
    · have hF : q = false := by rw [HQ.out]; unfold mayB; rw [hO]; simp
      subst hF
      clear hO HQ
      go_wp2_with fail
      (go_at_call 13; refine (haOk_any _).mono ?_; rintro e w7 ⟨rfl, rfl⟩)
      go_wp2_with fail
      go_ret
      exact ⟨rfl, B2.out.trans (C6.out.mono B2.out.size)⟩
    have HO1 := Lib.hid hO
    clear hO
    have aa0 : ∀ ob, (w6.alloc ob).cell? ⟨w1.heap.size, 0, none⟩ = some (.int .i64 ia) := fun ob => (HC.out _ (C6.out.alloc C6.out.size ob)).1
    have aa1 : ∀ ob, (w6.alloc ob).cell? ⟨w1.heap.size, 1, none⟩ = some (.int .i64 ip) := fun ob => (HC.out _ (C6.out.alloc C6.out.size ob)).2.1
    have aa2 : ∀ ob, (w6.alloc ob).cell? ⟨w1.heap.size + 1, 0, none⟩ = some (.int .i64 oa) := fun ob => (HC.out _ (C6.out.alloc C6.out.size ob)).2.2.1
    have aa3 : ∀ ob, (w6.alloc ob).cell? ⟨w1.heap.size + 1, 1, none⟩ = some (.int .i64 op) := fun ob => (HC.out _ (C6.out.alloc C6.out.size ob)).2.2.2
    have zx6 : ¬ w1.heap.size = w6.heap.size := by have := C6.out.size; omega
    have zy6 : ¬ w1.heap.size + 1 = w6.heap.size := by have := C6.out.size; omega
    have HN : Hid (∀ v w, RdRl w v [] → Calls Try.prog 9 #[v, .agg #[.int .i64 ia, .int .i64 ip], .agg #[.int .i64 oa, .int .i64 op]] w fun e w' => e = .returned (.bool true) ∧ Below w.heap.size w w') := fun v w hv => by
      have := implMay_any v [] ia ip oa op w (by simp) hv
      rwa [show mayB [] ia ip oa op = true by simp [mayB, rulesB, mayL, HA1.out, HO1.out]] at this
    go_wp2_with fail
    (go_at_call 9; refine (HN.out _ _ ⟨_, 0, rfl, Nat.le_refl _, fun h => absurd h (by simp)⟩).mono ?_; rintro e w7 ⟨rfl, b7⟩)
    have C7 : Hid (Below w2.heap.size w2 w7) := (C6.out.alloc C6.out.size _).trans (b7.mono (by have := C6.out.size; simp; omega))
    clear b7 C6 x0 x1 y0 y1 HN aa0 aa1 aa2 aa3 zx6 zy6
    obtain ⟨x0, x1, y0, y1⟩ := HC.out _ C7.out
    have z7 := C7.out.size
    by_cases h5 : 5 ≤ l.length
    · have h5i : (5 : Int) ≤ (l.length : Int) := by omega
      go_wp2_with fail
      go_ret
      exact ⟨rfl, (B2.out.trans (C7.out.mono B2.out.size)).alloc (by have := B2.out.size; omega) _⟩
    have h5i : ¬ (5 : Int) ≤ (l.length : Int) := by omega
    go_wp2_with fail
    obtain ⟨w8, hw8⟩ : ∃ w8, w8 = w7.alloc (.cells #[.bool false, .int .i64 ia, .int .i64 ia, .int .i64 oa, .int .i64 oa, .int .i64 op, .int .i64 op] 32) := ⟨_, rfl⟩
    have A8 : Hid (At7 w8 w7.heap.size (.bool false) (.int .i64 ia) (.int .i64 ia) (.int .i64 oa) (.int .i64 oa) (.int .i64 op) (.int .i64 op)) := by rw [hw8]; exact at7_new w7 _ _ _ _ _ _ _ _
    have C8 : Hid (Below w2.heap.size w2 w8) := by rw [hw8]; exact C7.out.alloc C7.out.size _
    have z8 : w7.heap.size < w8.heap.size := by rw [hw8]; simp
    rw [← hw8]
    clear hw8 C7 x0 x1 y0 y1
    go_loopw [8] (fun i wr => ∃ k : Nat, k ≤ l.length ∧ i = .int .i64 k ∧ Hid (∀ r ∈ l.take k, ruleB r = true) ∧ Below w8.heap.size w8 wr) (fun i _ => l.length - (intOf i).toNat)
    case atStart => exact ⟨0, Nat.zero_le _, rfl, fun r hr => by simp at hr, Below.refl _ _⟩
    case round =>
      obtain ⟨k, hk, rfl, HD, hb⟩ := hrel
      by_cases hlt : k < l.length
      · obtain ⟨av, cv, hsl, hcv, hrv⟩ := HL.out _ C8.out
        simp only [Value.slice.injEq] at hsl
        obtain ⟨rfl, _, rfl⟩ := hsl
        obtain ⟨g1, o1, hge, hg1, hr1⟩ := hrv (by omega)
        obtain rfl := Option.some.inj hge
        obtain ⟨⟨al, a, b, c', d, e, f⟩, hap⟩ : ∃ x, x = l[k] := ⟨_, rfl⟩
        obtain ⟨p0, p1, p2, p3, p4, p5, p6⟩ := rl_seven hr1 k hlt al a b c' d e f hap
        rw [← hb.cell (by exact hg1)] at p0 p1 p2 p3 p4 p5 p6
        have hk3 : (k : Int) < (l.length : Int) := by omega
        clear hrv
        cases ht : ruleB ⟨al, a, b, c', d, e, f⟩
        · have hF : q = false := by
            have h0 := rulesB_no hlt (by rw [← hap]; exact ht)
            rw [HQ.out]; unfold mayB; rw [h0]; rfl
          subst hF
          have HM : Hid (∀ w, Calls Try.prog 14 #[.agg #[.bool al, .int .i64 a, .int .i64 b, .int .i64 c', .int .i64 d, .int .i64 e, .int .i64 f]] w fun e w' => e = .returned (.bool false) ∧ Below w.heap.size w w') := fun w => by rw [← ht]; exact specRulOk_any al a b c' d e f w
          clear hr1 hap ht HQ
          go_wp2_with (go_at_call 14; refine (HM.out _).mono ?_; rintro e' w9 ⟨rfl, b9⟩)
          go_ret
          exact ⟨rfl, B2.out.trans ((C8.out.trans ((hb.trans (b9.mono hb.size)).mono C8.out.size)).mono B2.out.size)⟩
        · have HF : Hid (∀ r ∈ l.take (k + 1), ruleB r = true) := take_all_snoc hlt HD.out (by rw [← hap]; exact ht)
          have HM : Hid (∀ w, Calls Try.prog 14 #[.agg #[.bool al, .int .i64 a, .int .i64 b, .int .i64 c', .int .i64 d, .int .i64 e, .int .i64 f]] w fun e w' => e = .returned (.bool true) ∧ Below w.heap.size w w') := fun w => by rw [← ht]; exact specRulOk_any al a b c' d e f w
          clear hr1 hap ht
          go_wp2_with (go_at_call 14; refine (HM.out _).mono ?_; rintro e' w9 ⟨rfl, b9⟩)
          go_roundw
          case rel => exact ⟨k + 1, by omega, by go_num, HF, hb.trans (b9.mono hb.size)⟩
          case measure => simp [intOf]; omega
      · have hkn : k = l.length := by omega
        subst hkn
        have HR : Hid (∀ r ∈ l, ruleB r = true) := by have := HD.out; rwa [List.take_of_length_le (Nat.le_refl _)] at this
        have A9 := Lib.hid (A8.out.below hb)
        have zb : ¬ w7.heap.size = wr.heap.size := by have := hb.size; omega
        obtain ⟨uz, ⟨c0, c1, c2, c3, c4, c5, c6⟩, f0, f1, f2, f3, f4, f5, f6⟩ := A9.out
        go_upto_region 21 with fail
        obtain ⟨w9, hw9⟩ : ∃ w9, w9 = wr.alloc (.cells #[.bool true, .int .i64 ia, .int .i64 ia, .int .i64 oa, .int .i64 oa, .int .i64 op, .int .i64 op] 32) := ⟨_, rfl⟩
        have E9 : Hid (At7 w9 w7.heap.size (.bool false) (.int .i64 ia) (.int .i64 ia) (.int .i64 oa) (.int .i64 oa) (.int .i64 op) (.int .i64 op)) := by rw [hw9]; exact A9.out.alloc _
        have Y9 : Hid (At7 w9 wr.heap.size (.bool true) (.int .i64 ia) (.int .i64 ia) (.int .i64 oa) (.int .i64 oa) (.int .i64 op) (.int .i64 op)) := by rw [hw9]; exact at7_new wr _ _ _ _ _ _ _ _
        have C9 : Hid (Below w2.heap.size w2 w9) := by
          have hx := C8.out.trans (hb.mono C8.out.size)
          rw [hw9]; exact hx.alloc hx.size _
        rw [← hw9]
        clear hw9 A9 A8 C8 zb hb uz c0 c1 c2 c3 c4 c5 c6 f0 f1 f2 f3 f4 f5 f6
        have mk : Hid (∀ w', Below w9.heap.size w9 w' → Below w9.heap.size w9 w' ∧ w'.cell? ⟨w7.heap.size, 0, none⟩ = some (.bool false) ∧ w'.cell? ⟨w7.heap.size, 1, none⟩ = some (.int .i64 ia) ∧ w'.cell? ⟨w7.heap.size, 2, none⟩ = some (.int .i64 ia) ∧ w'.cell? ⟨w7.heap.size, 3, none⟩ = some (.int .i64 oa) ∧ w'.cell? ⟨w7.heap.size, 4, none⟩ = some (.int .i64 oa) ∧ w'.cell? ⟨w7.heap.size, 5, none⟩ = some (.int .i64 op) ∧ w'.cell? ⟨w7.heap.size, 6, none⟩ = some (.int .i64 op) ∧ w'.cell? ⟨wr.heap.size, 0, none⟩ = some (.bool true) ∧ w'.cell? ⟨wr.heap.size, 1, none⟩ = some (.int .i64 ia) ∧ w'.cell? ⟨wr.heap.size, 2, none⟩ = some (.int .i64 ia) ∧ w'.cell? ⟨wr.heap.size, 3, none⟩ = some (.int .i64 oa) ∧ w'.cell? ⟨wr.heap.size, 4, none⟩ = some (.int .i64 oa) ∧ w'.cell? ⟨wr.heap.size, 5, none⟩ = some (.int .i64 op) ∧ w'.cell? ⟨wr.heap.size, 6, none⟩ = some (.int .i64 op) ∧ w'.cell? ⟨w1.heap.size, 0, none⟩ = some (.int .i64 ia) ∧ w'.cell? ⟨w1.heap.size, 1, none⟩ = some (.int .i64 ip) ∧ w'.cell? ⟨w1.heap.size + 1, 0, none⟩ = some (.int .i64 oa) ∧ w'.cell? ⟨w1.heap.size + 1, 1, none⟩ = some (.int .i64 op)) := by
          intro w' hb
          obtain ⟨ez, ⟨e0, e1, e2, e3, e4, e5, e6⟩, _⟩ := E9.out
          obtain ⟨yz, ⟨y0, y1, y2, y3, y4, y5, y6⟩, _⟩ := Y9.out
          exact ⟨hb, (hb.cell (by simpa using ez)).trans e0, (hb.cell (by simpa using ez)).trans e1, (hb.cell (by simpa using ez)).trans e2, (hb.cell (by simpa using ez)).trans e3, (hb.cell (by simpa using ez)).trans e4, (hb.cell (by simpa using ez)).trans e5, (hb.cell (by simpa using ez)).trans e6, (hb.cell (by simpa using yz)).trans y0, (hb.cell (by simpa using yz)).trans y1, (hb.cell (by simpa using yz)).trans y2, (hb.cell (by simpa using yz)).trans y3, (hb.cell (by simpa using yz)).trans y4, (hb.cell (by simpa using yz)).trans y5, (hb.cell (by simpa using yz)).trans y6, (HC.out _ (C9.out.trans (hb.mono C9.out.size))).1, (HC.out _ (C9.out.trans (hb.mono C9.out.size))).2.1, (HC.out _ (C9.out.trans (hb.mono C9.out.size))).2.2.1, (HC.out _ (C9.out.trans (hb.mono C9.out.size))).2.2.2⟩
        have hM := mk.out _ (Below.refl _ _)
        have zc : w9.heap.size ≤ w9.heap.size := Nat.le_refl _
        obtain ⟨i0, hi, hz0, hz1, hz2⟩ := info_parts infoRl
        clear E9 Y9
        go_region_held3 (fun w' => Below w9.heap.size w9 w' ∧ w'.cell? ⟨w7.heap.size, 0, none⟩ = some (.bool false) ∧ w'.cell? ⟨w7.heap.size, 1, none⟩ = some (.int .i64 ia) ∧ w'.cell? ⟨w7.heap.size, 2, none⟩ = some (.int .i64 ia) ∧ w'.cell? ⟨w7.heap.size, 3, none⟩ = some (.int .i64 oa) ∧ w'.cell? ⟨w7.heap.size, 4, none⟩ = some (.int .i64 oa) ∧ w'.cell? ⟨w7.heap.size, 5, none⟩ = some (.int .i64 op) ∧ w'.cell? ⟨w7.heap.size, 6, none⟩ = some (.int .i64 op) ∧ w'.cell? ⟨wr.heap.size, 0, none⟩ = some (.bool true) ∧ w'.cell? ⟨wr.heap.size, 1, none⟩ = some (.int .i64 ia) ∧ w'.cell? ⟨wr.heap.size, 2, none⟩ = some (.int .i64 ia) ∧ w'.cell? ⟨wr.heap.size, 3, none⟩ = some (.int .i64 oa) ∧ w'.cell? ⟨wr.heap.size, 4, none⟩ = some (.int .i64 oa) ∧ w'.cell? ⟨wr.heap.size, 5, none⟩ = some (.int .i64 op) ∧ w'.cell? ⟨wr.heap.size, 6, none⟩ = some (.int .i64 op) ∧ w'.cell? ⟨w1.heap.size, 0, none⟩ = some (.int .i64 ia) ∧ w'.cell? ⟨w1.heap.size, 1, none⟩ = some (.int .i64 ip) ∧ w'.cell? ⟨w1.heap.size + 1, 0, none⟩ = some (.int .i64 oa) ∧ w'.cell? ⟨w1.heap.size + 1, 1, none⟩ = some (.int .i64 op))
          (first
            | exact mk.out _ (Below.refl _ _).drew
            | exact mk.out _ cc
            | exact mk.out _ (((Below.refl _ _).drew).alloc (Nat.le_refl _) _)
            | exact mk.out _ ((Below.refl _ _).alloc (Nat.le_refl _) _)
            | exact mk.out _ (cc.alloc cc.size _)
            | exact mk.out _ ((by assumption : Below w9.heap.size w9 _ ∧ _).1.alloc (by assumption : Below w9.heap.size w9 _ ∧ _).1.size _)
            | (trace_state; fail))
          (first
            | (have hS := (by assumption : Below w9.heap.size w9 _ ∧ _); refine step_append_w _ (by rfl) (.tmp 80) (.tmp 81) 23 rfl w9.heap.size 32 i0 (.agg #[.bool false, .int .i64 0, .int .i64 0, .int .i64 0, .int .i64 0, .int .i64 0, .int .i64 0]) 7 56 Try.underlying23 hi hz0 hz1 hz2 rfl (by decide) (.slice (some ⟨_, 0, none⟩) 1 1) 1 (rlC (oneR false ia oa op)) (by rfl) (by first | exact own_lit _ _ (by first | exact Nat.le_refl _ | exact zc | (simp; omega)) (oneR false ia oa op) | exact (own_lit _ _ (by first | exact Nat.le_refl _ | exact zc | (simp; omega)) (oneR false ia oa op)).drew) g l.length c (flatC rlC l) (by rfl) (flatC_len rlC_len l) (HN.out _ (C9.out.trans (hS.1.mono C9.out.size))) (flat_oneR l) (by unfold maxLen; omega) (by omega) (by first | exact hS.1.size | (simp; omega)) ?_; intro vN wN hown hgrow; have cc : Below w9.heap.size w9 wN := hS.1.grown hgrow hS.1.size (fun k e => by simp [Value.ownBlock] at e; omega); have zc := cc.size; have RO := Lib.hid (own_front hown); have KC : Hid (∀ W, Below wN.heap.size wN W → Calls Try.prog 9 #[vN, .agg #[.int .i64 ia, .int .i64 ip], .agg #[.int .i64 oa, .int .i64 op]] W fun e w' => e = .returned (.bool false) ∧ Below W.heap.size W w') := (fun W hb => by have := implMay_any vN (oneR false ia oa op :: l) ia ip oa op W (by simp; omega) ((OwnRl.rd RO.out).below hb); rwa [may_front HA1.out HO1.out (by omega) HR.out] at this); clear hown hgrow)
            | (have hS := (by assumption : Below w9.heap.size w9 _ ∧ _); refine step_append_w _ (by rfl) (.tmp 89) (.tmp 90) 23 rfl w9.heap.size 32 i0 (.agg #[.bool false, .int .i64 0, .int .i64 0, .int .i64 0, .int .i64 0, .int .i64 0, .int .i64 0]) 7 56 Try.underlying23 hi hz0 hz1 hz2 rfl (by decide) (.slice (some ⟨_, 0, none⟩) 1 1) 1 (rlC (oneR true ia oa op)) (by rfl) (by first | exact own_lit _ _ (by first | exact Nat.le_refl _ | exact zc | (simp; omega)) (oneR true ia oa op) | exact (own_lit _ _ (by first | exact Nat.le_refl _ | exact zc | (simp; omega)) (oneR true ia oa op)).drew) g l.length c (flatC rlC l) (by rfl) (flatC_len rlC_len l) (HN.out _ (C9.out.trans (hS.1.mono C9.out.size))) (flat_oneR l) (by unfold maxLen; omega) (by omega) (by first | exact hS.1.size | (simp; omega)) ?_; intro vN wN hown hgrow; have cc : Below w9.heap.size w9 wN := hS.1.grown hgrow hS.1.size (fun k e => by simp [Value.ownBlock] at e; omega); have zc := cc.size; have RO := Lib.hid (own_front hown); have KC : Hid (∀ W, Below wN.heap.size wN W → Calls Try.prog 9 #[vN, .agg #[.int .i64 ia, .int .i64 ip], .agg #[.int .i64 oa, .int .i64 op]] W fun e w' => e = .returned (.bool true) ∧ Below W.heap.size W w') := (fun W hb => by have := implMay_any vN (oneR true ia oa op :: l) ia ip oa op W (by simp; omega) ((OwnRl.rd RO.out).below hb); rwa [may_front HA1.out HO1.out (by omega) HR.out] at this); clear hown hgrow)
            | (have hS := (by assumption : Below w9.heap.size w9 _ ∧ _); refine step_append_w _ (by rfl) (.tmp 99) (.tmp 101) 23 rfl w9.heap.size 32 i0 (.agg #[.bool false, .int .i64 0, .int .i64 0, .int .i64 0, .int .i64 0, .int .i64 0, .int .i64 0]) 7 56 Try.underlying23 hi hz0 hz1 hz2 rfl (by decide) vL l.length (flatC rlC l) (by rfl) (by first | exact RL.out | exact RL.out.belowB ((Below.refl _ _).alloc (Nat.le_refl _) _) | exact (RL.out.belowB ((Below.refl _ _).alloc (Nat.le_refl _) _)).drew) ⟨_, 0, none⟩ 1 1 (rlC (oneR true ia oa op)) (by rfl) rfl (by first | exact lit_news _ (oneR true ia oa op) _ | exact NY.out | (trace_state; fail)) (rlC_one _) (by unfold maxLen; omega) (by omega) (by first | exact hS.1.size | (simp; omega)) ?_; intro vN wN hown hgrow; have cc : Below w9.heap.size w9 wN := hS.1.grown hgrow hS.1.size (fun k e => RL.out.ge k e); have zc := cc.size; have RO := Lib.hid (own_back hown); have KC : Hid (∀ W, Below wN.heap.size wN W → Calls Try.prog 9 #[vN, .agg #[.int .i64 ia, .int .i64 ip], .agg #[.int .i64 oa, .int .i64 op]] W fun e w' => e = .returned (.bool q) ∧ Below W.heap.size W w') := (fun W hb => by have := implMay_any vN (l ++ [oneR true ia oa op]) ia ip oa op W (by simp; omega) ((OwnRl.rd RO.out).below hb); rwa [may_back HA1.out HO1.out (by omega) HR.out, ← HQ.out] at this); clear hown hgrow)
            | (go_at_call 9; have hS := (by assumption : Below w9.heap.size w9 _ ∧ _); refine (KC.out _ (by first | exact Below.refl _ _ | exact (Below.refl _ _).drew | (trace_state; fail))).mono ?_; rintro e wM ⟨rfl, bM⟩; have cc : Below w9.heap.size w9 wM := hS.1.trans (bM.mono hS.1.size); have zc := cc.size; clear bM)
            | (have hS := (by assumption : Below w9.heap.size w9 _ ∧ _); refine step_append_w _ (by rfl) (.tmp 97) (.tmp 98) 23 rfl w9.heap.size 32 i0 (.agg #[.bool false, .int .i64 0, .int .i64 0, .int .i64 0, .int .i64 0, .int .i64 0, .int .i64 0]) 7 56 Try.underlying23 hi hz0 hz1 hz2 rfl (by decide) (.slice (some ⟨_, 0, none⟩) 0 0) 0 ([]) (by rfl) (by first | exact own_none _ _ zc | exact own_noneE (wM.alloc _) _ (by simp; omega) (by simp) | exact OwnRl.belowB (l := []) (own_none wM _ zc) ((Below.refl _ _).alloc (Nat.le_refl _) _)) g l.length c (flatC rlC l) (by rfl) (flatC_len rlC_len l) (HN.out _ (C9.out.trans (hS.1.mono C9.out.size))) (flat_oneR l) (by unfold maxLen; omega) (by omega) (by first | exact hS.1.size | (simp; omega)) ?_; intro vL wL hown hgrow; have cc : Below w9.heap.size w9 wL := hS.1.grown hgrow hS.1.size (fun k e => by simp [Value.ownBlock] at e; omega); have zc := cc.size; (first | (have NY : Hid (∀ j u, (rlC (oneR true ia oa op))[j]? = some u → wL.cell? ((⟨wM.heap.size + 1, 0, none⟩ : Addr).add j) = some u) := kept_news hgrow (by simp) (lit_newsE (wM.alloc _) (oneR true ia oa op) _ (by simp))) | (have NY : Hid (∀ j u, (rlC (oneR true ia oa op))[j]? = some u → wL.cell? ((⟨wM.heap.size, 0, none⟩ : Addr).add j) = some u) := kept_news hgrow (by simp) (later_news _ (lit_newsE wM (oneR true ia oa op) _ rfl))) | skip); have RL : Hid (OwnRl wL w9.heap.size vL l) := (by show World.ownsRow _ _ _ _ _ _ _; simpa using hown); clear hown hgrow))
        all_goals
          go_wp2_with fail
          go_ret
          first
            | exact ⟨rfl, B2.out.trans ((C9.out.trans (cc.mono C9.out.size)).mono B2.out.size)⟩
            | (trace_state; fail)

end Go.Proofs.Ytniffpanegeekaa
