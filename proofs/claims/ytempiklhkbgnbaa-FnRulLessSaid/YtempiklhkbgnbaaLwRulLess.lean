/- The law on rules that are about others: at every code. Condition: the code lies in memory. -/
import Derived.Test.YtempiklhkbgnbaaDrawRulMay
import Derived.Test.YtempiklhkbgnbaaHaOk
import Derived.Test.YtempiklhkbgnbaaRulWo
import Derived.Test.YtempiklhkbgnbaaAt7b
import Derived.Deep.RegionHeld3
import Derived.Deep.RegionWith
namespace Go.Proofs.Ytempiklhkbgnbaa
open Go.RowKit

set_option maxRecDepth 100000 in
set_option maxHeartbeats 3200000 in
theorem lwRulLess_any (ao : Option Addr) (n cap : Nat) (w : World) (h : BytesIn w ao n) (hn : n ≤ cap) :
    Calls Try.prog 6 #[.slice ao n cap] w fun e w' => e = .returned (.bool true) ∧ Below w.heap.size w w' := by
  have H := Lib.hid h
  clear h
  by_cases hn2 : 1048576 < n
  · go_enter Try.func6, Try.ntmps6
    go_wp2_with fail
    go_ret
    exact ⟨rfl, Below.refl _ _⟩
  · go_enter Try.func6, Try.ntmps6
    go_wp2_with fail
    (go_at_call 17; refine (drawRulMay_any ao n cap _ H.out hn).mono ?_; rintro e w1 ⟨g, c, l, ia, ip, oa, op, rfl, ho, hl, b1⟩)
    obtain ⟨w2, hw2⟩ : ∃ w2, w2 = (w1.alloc (.cells #[.int .i64 ia, .int .i64 ip] 27)).alloc (.cells #[.int .i64 oa, .int .i64 op] 27) := ⟨_, rfl⟩
    have hb2 : Below w.heap.size w w2 := by rw [hw2]; exact (b1.alloc b1.size _).alloc (by have := b1.size; simp; omega) _
    have B2 := Lib.hid hb2
    have HC : Hid (∀ w', Below w2.heap.size w2 w' → w'.cell? ⟨w1.heap.size, 0, none⟩ = some (.int .i64 ia) ∧ w'.cell? ⟨w1.heap.size, 1, none⟩ = some (.int .i64 ip) ∧ w'.cell? ⟨w1.heap.size + 1, 0, none⟩ = some (.int .i64 oa) ∧ w'.cell? ⟨w1.heap.size + 1, 1, none⟩ = some (.int .i64 op)) := by
      intro w' hb
      have zz : w2.heap.size = w1.heap.size + 2 := by rw [hw2]; simp
      refine ⟨?_, ?_, ?_, ?_⟩
      · rw [hb.cell (by simp; omega), hw2]; simp
      · rw [hb.cell (by simp; omega), hw2]; simp
      · rw [hb.cell (by simp; omega), hw2]; simp
      · rw [hb.cell (by simp; omega), hw2]; simp
    have HL : Hid (∀ w', Below w2.heap.size w2 w' → RdRl w' (.slice (some g) l.length c) l) := by
      intro w' hb
      have h2 : RdRl w2 (.slice (some g) l.length c) l := by rw [hw2]; exact (ho.rd.below ((Below.refl _ _).alloc (Nat.le_refl _) _)).below ((Below.refl _ _).alloc (Nat.le_refl _) _)
      exact h2.below hb
    have HOu : Hid (∀ w, Calls Try.prog 22 #[.agg #[.int .i64 oa, .int .i64 op]] w fun e w' => e = .returned (.bool (outB oa op)) ∧ Below w.heap.size w w') := fun w => specOutside_any oa op w
    have HIn : Hid (∀ w, Calls Try.prog 21 #[.agg #[.int .i64 ia, .int .i64 ip]] w fun e w' => e = .returned (.bool (insB ia ip)) ∧ Below w.heap.size w w') := fun w => specInside_any ia ip w
    obtain ⟨q, hq⟩ : ∃ q, q = mayB l ia ip oa op := ⟨_, rfl⟩
    have HQ := Lib.hid hq
    have HI : Hid (∀ w, RdRl w (.slice (some g) l.length c) l → Calls Try.prog 18 #[.slice (some g) l.length c, .agg #[.int .i64 ia, .int .i64 ip], .agg #[.int .i64 oa, .int .i64 op]] w fun e w' => e = .returned (.bool q) ∧ Below w.heap.size w w') := fun w hv => by rw [hq]; exact implMay_any _ l ia ip oa op w (by omega) hv
    have HM : Hid (∀ w, RdRl w (.slice (some g) l.length c) l → Calls Try.prog 19 #[.slice (some g) l.length c, .agg #[.int .i64 ia, .int .i64 ip], .agg #[.int .i64 oa, .int .i64 op]] w fun e w' => e = .returned (.bool q) ∧ Below w.heap.size w w') := fun w hv => by rw [hq]; exact specMay_any _ l ia ip oa op w (by omega) hv
    have hs2 : w1.heap.size + 1 < w2.heap.size := by rw [hw2]; simp
    have HN : Hid (∀ w', Below w2.heap.size w2 w' → ∀ j u, (flatC rlC l)[j]? = some u → w'.cell? (g.add j) = some u) := by
      intro w' hb
      have b12 : Below w1.heap.size w1 w2 := by rw [hw2]; exact ((Below.refl _ _).alloc (Nat.le_refl _) _).alloc (by simp) _
      exact own_news ho (b12.trans (hb.mono b12.size))
    clear hb2 hq ho
    go_wp2_with fail
    rw [← hw2]
    clear hw2 b1
    (go_at_call 18; refine (HI.out _ (HL.out _ (Below.refl _ _))).mono ?_; rintro e w3 ⟨rfl, b3⟩)
    have C3 := Lib.hid b3
    obtain ⟨x0, x1, y0, y1⟩ := HC.out _ b3
    clear b3
    go_wp2_with fail
    (go_at_call 19; refine (HM.out _ (HL.out _ C3.out)).mono ?_; rintro e w4 ⟨rfl, b4⟩)
    have C4 := Lib.hid (C3.out.trans (b4.mono C3.out.size))
    clear b4 C3 x0 x1 y0 y1
    obtain ⟨x0, x1, y0, y1⟩ := HC.out _ C4.out
    go_wp2_with fail
    clear x0 x1 y0 y1
    go_loopw [7] (fun i wr => ∃ k : Nat, k ≤ l.length ∧ i = .int .i64 k ∧ Hid (∀ r ∈ l.take k, ruleB r = true) ∧ (k = 0 ∨ l.length ≤ 5) ∧ Below w4.heap.size w4 wr) (fun i _ => l.length - (intOf i).toNat)
    case atStart => exact ⟨0, Nat.zero_le _, rfl, fun r hr => by simp at hr, Or.inl rfl, Below.refl _ _⟩
    case round =>
      obtain ⟨k, hk, rfl, HD, h5, hb⟩ := hrel
      by_cases hlt : k < l.length
      · obtain ⟨av, cv, hsl, hcv, hrv⟩ := HL.out _ C4.out
        simp only [Value.slice.injEq] at hsl
        obtain ⟨rfl, _, rfl⟩ := hsl
        obtain ⟨g1, o1, hge, hg1, hr1⟩ := hrv (by omega)
        obtain rfl := Option.some.inj hge
        obtain ⟨⟨al, a, b, c', d, e, f⟩, hap⟩ : ∃ x, x = l[k] := ⟨_, rfl⟩
        obtain ⟨p0, p1, p2, p3, p4, p5, p6⟩ := rl_seven hr1 k hlt al a b c' d e f hap
        rw [← hb.cell (by exact hg1)] at p0 p1 p2 p3 p4 p5 p6
        have hk3 : (k : Int) < (l.length : Int) := by omega
        clear hrv
        cases ht : ruleB ⟨al, a, b, c', d, e, f⟩
        · have HM : Hid (∀ w, Calls Try.prog 20 #[.agg #[.bool al, .int .i64 a, .int .i64 b, .int .i64 c', .int .i64 d, .int .i64 e, .int .i64 f]] w fun e w' => e = .returned (.bool false) ∧ Below w.heap.size w w') := fun w => by rw [← ht]; exact specRulOk_any al a b c' d e f w
          clear hr1 hap ht
          go_wp2_with (first
            | (go_at_call 20; refine (HM.out _).mono ?_; rintro e' w9 ⟨rfl, b9⟩)
            | (go_at_call 15; refine (haOk_any _).mono ?_; rintro e w7 ⟨rfl, rfl⟩))
          go_ret
          exact ⟨rfl, B2.out.trans ((C4.out.trans ((hb.trans (b9.mono hb.size)).mono C4.out.size)).mono B2.out.size)⟩
        · have HF : Hid (∀ r ∈ l.take (k + 1), ruleB r = true) := take_all_snoc hlt HD.out (by rw [← hap]; exact ht)
          have HM : Hid (∀ w, Calls Try.prog 20 #[.agg #[.bool al, .int .i64 a, .int .i64 b, .int .i64 c', .int .i64 d, .int .i64 e, .int .i64 f]] w fun e w' => e = .returned (.bool true) ∧ Below w.heap.size w w') := fun w => by rw [← ht]; exact specRulOk_any al a b c' d e f w
          clear hr1 hap ht
          by_cases h6 : 5 < l.length
          · have h6i : (5 : Int) < (l.length : Int) := by omega
            go_wp2_with (first
              | (go_at_call 20; refine (HM.out _).mono ?_; rintro e' w9 ⟨rfl, b9⟩)
              | (go_at_call 15; refine (haOk_any _).mono ?_; rintro e w7 ⟨rfl, rfl⟩))
            go_ret
            exact ⟨rfl, B2.out.trans ((C4.out.trans ((hb.trans (b9.mono hb.size)).mono C4.out.size)).mono B2.out.size)⟩
          · have h6i : ¬ (5 : Int) < (l.length : Int) := by omega
            go_wp2_with (go_at_call 20; refine (HM.out _).mono ?_; rintro e' w9 ⟨rfl, b9⟩)
            go_roundw
            case rel => exact ⟨k + 1, by omega, by go_num, HF, Or.inr (by omega), hb.trans (b9.mono hb.size)⟩
            case measure => simp [intOf]; omega
      · have hkn : k = l.length := by omega
        subst hkn
        have HR : Hid (rulesB l = true) := by
          have h2 := HD.out
          rw [List.take_of_length_le (Nat.le_refl _)] at h2
          exact rulesB_yes (by rcases h5 with h5 | h5 <;> omega) h2
        have C5 := Lib.hid (C4.out.trans (hb.mono C4.out.size))
        clear HD h5 hb C4
        obtain ⟨x0, x1, y0, y1⟩ := HC.out _ C5.out
        cases hA : insB ia ip
        · rw [hA] at HIn
          clear hA HQ
          go_wp2_with (first
            | (go_at_call 21; refine (HIn.out _).mono ?_; rintro e w6 ⟨rfl, b6⟩)
            | (go_at_call 15; refine (haOk_any _).mono ?_; rintro e w7 ⟨rfl, rfl⟩))
          go_ret
          exact ⟨rfl, B2.out.trans ((C5.out.trans (b6.mono C5.out.size)).mono B2.out.size)⟩
        rw [hA] at HIn
        have HA1 := Lib.hid hA
        clear hA
        cases hO : outB oa op
        · rw [hO] at HOu
          clear hO HQ
          go_wp2_with fail
          (go_at_call 21; refine (HIn.out _).mono ?_; rintro e w6 ⟨rfl, b6⟩)
          have C6 := Lib.hid (C5.out.trans (b6.mono C5.out.size))
          clear b6 C5 x0 x1 y0 y1
          obtain ⟨x0, x1, y0, y1⟩ := HC.out _ C6.out
          go_wp2_with (first
            | (go_at_call 22; refine (HOu.out _).mono ?_; rintro e w7 ⟨rfl, b7⟩)
            | (go_at_call 15; refine (haOk_any _).mono ?_; rintro e w8 ⟨rfl, rfl⟩))
          go_ret
          exact ⟨rfl, B2.out.trans ((C6.out.trans (b7.mono C6.out.size)).mono B2.out.size)⟩
        rw [hO] at HOu
        have HO1 := Lib.hid hO
        clear hO
        go_wp2_with fail
        (go_at_call 21; refine (HIn.out _).mono ?_; rintro e w6 ⟨rfl, b6⟩)
        have C6 := Lib.hid (C5.out.trans (b6.mono C5.out.size))
        clear b6 C5 x0 x1 y0 y1
        obtain ⟨x0, x1, y0, y1⟩ := HC.out _ C6.out
        go_wp2_with fail
        (go_at_call 22; refine (HOu.out _).mono ?_; rintro e w7 ⟨rfl, b7⟩)
        have C7 := Lib.hid (C6.out.trans (b7.mono C6.out.size))
        clear b7 C6 x0 x1 y0 y1 HI HM HIn HOu
        have HQ2 : Hid (q = mayL l ia oa op) := by
          show q = _
          rw [HQ.out]
          unfold mayB
          rw [HR.out, HA1.out, HO1.out]
          rfl
        go_wp2_with fail
        go_loopw [8] (fun i wr => ∃ k : Nat, k ≤ l.length ∧ i = .int .i64 k ∧ Hid (∀ r ∈ l.take k, aboutB r ia oa op = false) ∧ Below w7.heap.size w7 wr) (fun i _ => l.length - (intOf i).toNat)
        case atStart => exact ⟨0, Nat.zero_le _, rfl, fun r hr => by simp at hr, Below.refl _ _⟩
        case round =>
        obtain ⟨k, hk, rfl, HD, hb⟩ := hrel
        by_cases hlt : k < l.length
        rotate_left
        · have hkn : k = l.length := by omega
          subst hkn
          have hqt : q = true := by
            rw [HQ2.out]
            have := HD.out
            rw [List.take_of_length_le (Nat.le_refl _)] at this
            exact may_none this
          subst hqt
          clear HD HQ2 HQ
          go_wp2
          go_ret
          exact ⟨rfl, B2.out.trans ((C7.out.trans (hb.mono C7.out.size)).mono B2.out.size)⟩
        obtain ⟨av, cv, hsl, hcv, hrv⟩ := HL.out _ C7.out
        simp only [Value.slice.injEq] at hsl
        obtain ⟨rfl, _, rfl⟩ := hsl
        obtain ⟨g1, o1, hge, hg1, hr1⟩ := hrv (by omega)
        obtain rfl := Option.some.inj hge
        obtain ⟨⟨al, a, b, c', d, e, f⟩, hap⟩ : ∃ x, x = l[k] := ⟨_, rfl⟩
        obtain ⟨p0, p1, p2, p3, p4, p5, p6⟩ := rl_seven hr1 k hlt al a b c' d e f hap
        rw [← hb.cell (by exact hg1)] at p0 p1 p2 p3 p4 p5 p6
        have hk3 : (k : Int) < (l.length : Int) := by omega
        have HAP := Lib.hid hap
        have C8 := Lib.hid (C7.out.trans (hb.mono C7.out.size))
        have zr : w1.heap.size + 1 < wr.heap.size := by have := C8.out.size; omega
        clear hrv hr1 hap
        go_upto_region 18 with fail
        obtain ⟨W8, hW8⟩ : ∃ W, W = wr.alloc (.cells #[.bool al, .int .i64 a, .int .i64 b, .int .i64 c', .int .i64 d, .int .i64 e, .int .i64 f] 44) := ⟨_, rfl⟩
        have C9 : Hid (Below w2.heap.size w2 W8) := by show Below _ _ W8; rw [hW8]; exact C8.out.alloc C8.out.size _
        have A9 : At7 W8 wr.heap.size (.bool al) (.int .i64 a) (.int .i64 b) (.int .i64 c') (.int .i64 d) (.int .i64 e) (.int .i64 f) := by rw [hW8]; exact at7_new wr _ _ _ _ _ _ _ _
        have AA := Lib.hid A9
        have E8 : Hid (Below w7.heap.size w7 W8) := by show Below _ _ W8; rw [hW8]; exact hb.alloc hb.size _
        rw [← hW8]
        obtain ⟨uz, ⟨r0, r1, r2, r3, r4, r5, r6⟩, -⟩ := A9
        obtain ⟨x0, x1, y0, y1⟩ := HC.out _ C9.out
        clear p0 p1 p2 p3 p4 p5 p6 hW8 hb uz
        go_cut [10] (fun s10 wx => s10 = .bool (aboutB ⟨al, a, b, c', d, e, f⟩ ia oa op) ∧ wx = W8)
        case first =>
            by_cases h1 : a ≤ ia
            rotate_left
            · go_wp2_with fail
              go_meet
              exact ⟨by simp [aboutB, inB]; intros; omega, rfl⟩
            by_cases h2 : ia ≤ b
            rotate_left
            · go_wp2_with fail
              go_meet
              exact ⟨by simp [aboutB, inB]; intros; omega, rfl⟩
            by_cases h3 : c' ≤ oa
            rotate_left
            · go_wp2_with fail
              go_meet
              exact ⟨by simp [aboutB, inB]; intros; omega, rfl⟩
            by_cases h4 : oa ≤ d
            rotate_left
            · go_wp2_with fail
              go_meet
              exact ⟨by simp [aboutB, inB]; intros; omega, rfl⟩
            by_cases h5 : e ≤ op
            rotate_left
            · go_wp2_with fail
              go_meet
              exact ⟨by simp [aboutB, inB]; intros; omega, rfl⟩
            by_cases h6 : op ≤ f
            rotate_left
            · go_wp2_with fail
              go_meet
              exact ⟨by simp [aboutB, inB]; intros; omega, rfl⟩
            go_wp2_with fail
            go_meet
            exact ⟨by simp [aboutB, inB, h1, h2, h3, h4, h5, h6], rfl⟩
        case rest =>
          obtain ⟨rfl, hwx⟩ := hcut
          rw [hwx]
          clear hwx
          obtain ⟨k1, hk1⟩ : ∃ n : Nat, n = k + 1 := ⟨_, rfl⟩
          have hll : ((l.take k).length : Nat) = k := by rw [List.length_take]; omega
          have HT : Hid ((flatC rlC (l.take k)).length = k * 7) := by show _ = _; rw [flatC_len rlC_len, hll]
          have HDp : Hid ((flatC rlC (l.drop k1)).length = (l.length - k1) * 7) := by show _ = _; rw [flatC_len rlC_len, List.length_drop]
          have NW : Hid (∀ w', Below W8.heap.size W8 w' → (∀ j u, (flatC rlC (l.take k))[j]? = some u → w'.cell? ((⟨g1, o1, none⟩ : Addr).add j) = some u) ∧ (∀ j u, (flatC rlC (l.drop k1))[j]? = some u → w'.cell? ((⟨g1, o1 + k1 * 7, none⟩ : Addr).add j) = some u)) := fun w' h => by
            have hn := HN.out w' (C9.out.trans (h.mono C9.out.size))
            refine ⟨news_take k hn, ?_⟩
            have h2 := news_drop (k := k1) (by omega) hn
            rwa [show (⟨g1, o1, none⟩ : Addr).add (k1 * 7) = ⟨g1, o1 + k1 * 7, none⟩ from by unfold Addr.add; rw [if_neg (by omega)]] at h2
          have mk : Hid (∀ w', Below W8.heap.size W8 w' → Below W8.heap.size W8 w' ∧ w'.cell? ⟨w1.heap.size, 0, none⟩ = some (.int .i64 ia)) := fun w' h => ⟨h, (HC.out _ (C9.out.trans (h.mono C9.out.size))).1⟩
          have hM := mk.out _ (Below.refl _ _)
          have zc : W8.heap.size ≤ W8.heap.size := Nat.le_refl _
          obtain ⟨i0, hi, hz0, hz1, hz2⟩ := info_parts infoRl
          have hc1 : (k : Int) ≤ (c : Int) := by omega
          have hc2 : (k1 : Int) ≤ (l.length : Int) := by omega
          have hc3 : (l.length : Int) ≤ (c : Int) := by omega
          have hw : IntKind.wrap .i64 ((k : Int) + 1) = (k1 : Int) := by rw [show (k1 : Int) = (k : Int) + 1 by omega]; exact IntWalk.i64_in _ (by omega)
          have HK1 := Lib.hid hk1
          have HLE : Hid ((l.take k ++ l.drop k1).length = l.length - 1) := by show _ = _; rw [hk1]; exact wo_len hlt
          have HSUM : Hid (k + (l.length - k1) = l.length - 1) := by show _ = _; omega
          have hlk : l.length - k1 ≤ 20 := by omega
          clear hll r0 r1 r2 r3 r4 r5 r6 x0 x1 y0 y1 hk1
          go_upto_region 19 with fail
          go_cut [11] (fun s11 wx => ∃ gl cl, s11 = .slice gl (l.length - 1) cl ∧ Hid (OwnRl wx W8.heap.size (.slice gl (l.length - 1) cl) (l.take k ++ l.drop k1)) ∧ Below W8.heap.size W8 wx)
          case first =>
            by_cases hck : k1 = c
            · subst hck
              have hl0 : l.length - k1 = 0 := by omega
              have NB : Hid (∀ w', Below W8.heap.size W8 w' → ∀ j u, (flatC rlC (l.drop k1))[j]? = some u → w'.cell? ((⟨g1, o1, none⟩ : Addr).add j) = some u) := fun w' _ j u hj => by
                have := (List.getElem?_eq_some_iff.1 hj).1
                rw [HDp.out, hl0] at this
                omega
              have HD0 : Hid ((flatC rlC (l.drop k1)).length = 0 * 7) := by show _ = _; rw [HDp.out, hl0]
              have HS0 : Hid (k + 0 = l.length - 1) := by show _ = _; have := HSUM.out; omega
              clear hl0
              go_region_held3 (fun w' => Below W8.heap.size W8 w' ∧ w'.cell? ⟨w1.heap.size, 0, none⟩ = some (.int .i64 ia))
                (first
                  | exact mk.out _ (Below.refl _ _).drew
                  | exact mk.out _ cc
                  | exact mk.out _ (((Below.refl _ _).drew).alloc (Nat.le_refl _) _)
                  | exact mk.out _ ((Below.refl _ _).alloc (Nat.le_refl _) _)
                  | exact mk.out _ (cc.alloc cc.size _)
                  | (trace_state; fail))
                (first
                  | (have hS := (by assumption : Below W8.heap.size W8 _ ∧ _); refine step_append_w _ (by rfl) (.tmp 108) (.tmp 111) 38 rfl W8.heap.size 44 i0 (.agg #[.bool false, .int .i64 0, .int .i64 0, .int .i64 0, .int .i64 0, .int .i64 0, .int .i64 0]) 7 56 Try.underlying38 hi hz0 hz1 hz2 rfl (by decide) (.slice (some ⟨_, 0, none⟩) 0 0) 0 ([]) (by rfl) (by first | exact own_none _ _ zc | exact (own_none _ _ zc).drew | exact own_noneE _ _ (by simp; omega) (by simp)) ⟨g1, o1, none⟩ k k1 (flatC rlC (l.take k)) (by rfl) HT.out (NW.out _ hS.1).1 (flat_oneR _) (by unfold maxLen; omega) (by omega) (by first | exact hS.1.size | (simp; omega)) ?_; intro vL wL hown hgrow; have cc : Below W8.heap.size W8 wL := hS.1.grown hgrow hS.1.size (fun k e => by simp [Value.ownBlock] at e; omega); have zc := cc.size; have RL : Hid (wL.ownsRow W8.heap.size 44 7 vL k (flatC rlC (l.take k))) := (by show World.ownsRow _ _ _ _ _ _ _; simpa using hown); clear hown hgrow)
                  | (have hS := (by assumption : Below W8.heap.size W8 _ ∧ _); refine step_append_w _ (by rfl) (.tmp 112) (.tmp 116) 38 rfl W8.heap.size 44 i0 (.agg #[.bool false, .int .i64 0, .int .i64 0, .int .i64 0, .int .i64 0, .int .i64 0, .int .i64 0]) 7 56 Try.underlying38 hi hz0 hz1 hz2 rfl (by decide) vL k (flatC rlC (l.take k)) (by rfl) (by first | exact RL.out | exact RL.out.drew | (trace_state; fail)) ⟨g1, _, none⟩ 0 0 (flatC rlC (l.drop k1)) (by rfl) HD0.out (NB.out _ hS.1) (flat_oneR _) (by unfold maxLen; omega) (by omega) (by first | exact hS.1.size | (simp; omega)) ?_; intro vN wN hown hgrow; have cc : Below W8.heap.size W8 wN := hS.1.grown hgrow hS.1.size (fun b e => own_ge RL.out b e); have zc := cc.size; have RN := Lib.hid hown; clear hown hgrow))
              all_goals
                go_wp2_with fail
                go_meet
                exact own_two RN.out HS0.out HLE.out cc
            · have hck2 : ¬ c = k1 := fun e => hck e.symm
              have NB : Hid (∀ w', Below W8.heap.size W8 w' → ∀ j u, (flatC rlC (l.drop k1))[j]? = some u → w'.cell? ((⟨g1, o1 + k1 * 7, none⟩ : Addr).add j) = some u) := fun w' h => (NW.out w' h).2
              go_region_held3 (fun w' => Below W8.heap.size W8 w' ∧ w'.cell? ⟨w1.heap.size, 0, none⟩ = some (.int .i64 ia))
                (first
                  | exact mk.out _ (Below.refl _ _).drew
                  | exact mk.out _ cc
                  | exact mk.out _ (((Below.refl _ _).drew).alloc (Nat.le_refl _) _)
                  | exact mk.out _ ((Below.refl _ _).alloc (Nat.le_refl _) _)
                  | exact mk.out _ (cc.alloc cc.size _)
                  | (trace_state; fail))
                (first
                  | (have hS := (by assumption : Below W8.heap.size W8 _ ∧ _); refine step_append_w _ (by rfl) (.tmp 108) (.tmp 111) 38 rfl W8.heap.size 44 i0 (.agg #[.bool false, .int .i64 0, .int .i64 0, .int .i64 0, .int .i64 0, .int .i64 0, .int .i64 0]) 7 56 Try.underlying38 hi hz0 hz1 hz2 rfl (by decide) (.slice (some ⟨_, 0, none⟩) 0 0) 0 ([]) (by rfl) (by first | exact own_none _ _ zc | exact (own_none _ _ zc).drew | exact own_noneE _ _ (by simp; omega) (by simp)) ⟨g1, o1, none⟩ k c (flatC rlC (l.take k)) (by rfl) HT.out (NW.out _ hS.1).1 (flat_oneR _) (by unfold maxLen; omega) (by omega) (by first | exact hS.1.size | (simp; omega)) ?_; intro vL wL hown hgrow; have cc : Below W8.heap.size W8 wL := hS.1.grown hgrow hS.1.size (fun k e => by simp [Value.ownBlock] at e; omega); have zc := cc.size; have RL : Hid (wL.ownsRow W8.heap.size 44 7 vL k (flatC rlC (l.take k))) := (by show World.ownsRow _ _ _ _ _ _ _; simpa using hown); clear hown hgrow)
                  | (have hS := (by assumption : Below W8.heap.size W8 _ ∧ _); refine step_append_w _ (by rfl) (.tmp 112) (.tmp 116) 38 rfl W8.heap.size 44 i0 (.agg #[.bool false, .int .i64 0, .int .i64 0, .int .i64 0, .int .i64 0, .int .i64 0, .int .i64 0]) 7 56 Try.underlying38 hi hz0 hz1 hz2 rfl (by decide) vL k (flatC rlC (l.take k)) (by rfl) (by first | exact RL.out | exact RL.out.drew | (trace_state; fail)) ⟨g1, _, none⟩ (l.length - k1) (c - k1) (flatC rlC (l.drop k1)) (by rfl) HDp.out (NB.out _ hS.1) (flat_oneR _) (by unfold maxLen; omega) (by omega) (by first | exact hS.1.size | (simp; omega)) ?_; intro vN wN hown hgrow; have cc : Below W8.heap.size W8 wN := hS.1.grown hgrow hS.1.size (fun b e => own_ge RL.out b e); have zc := cc.size; have RN := Lib.hid hown; clear hown hgrow))
              all_goals
                go_wp2_with fail
                go_meet
                exact own_two RN.out HSUM.out HLE.out cc
          case rest =>
            obtain ⟨gl, cl, rfl, OL, cL⟩ := hcut
            have CL := Lib.hid cL
            clear cL
            have D1 := Lib.hid (C9.out.trans (CL.out.mono C9.out.size))
            obtain ⟨x0, x1, y0, y1⟩ := HC.out _ D1.out
            have A10 := Lib.hid (AA.out.below CL.out)
            obtain ⟨uz, ⟨r0, r1, r2, r3, r4, r5, r6⟩, -⟩ := A10.out
            have RLs := Lib.hid OL.out.rd
            have RL0 := Lib.hid (HL.out _ D1.out)
            clear uz OL hM mk NW HT HDp HLE HSUM zc hlk i0 hi hz0 hz1 hz2
            cases hf : aboutB ⟨al, a, b, c', d, e, f⟩ ia oa op
            · have hF2 : aboutB l[k] ia oa op = false := by rw [← HAP.out]; exact hf
              have HL2 : Hid (mayB (l.take k ++ l.drop k1) ia ip oa op = q) := by
                show _ = _
                unfold mayB
                rw [rules_sub HR.out (by rw [HK1.out, wo_len hlt]; omega) (by rw [HK1.out]; exact wo_mem), HA1.out, HO1.out, HK1.out, may_wo hlt HD.out hF2, HQ2.out]
                rfl
              have HD2 : Hid (∀ r ∈ l.take (k + 1), aboutB r ia oa op = false) := fun r hr => by
                rw [List.take_succ_eq_append_getElem hlt] at hr
                rcases List.mem_append.1 hr with hr | hr
                · exact HD.out r hr
                · simp at hr; subst hr; exact hF2
              have KC : Hid (∀ W, RdRl W (.slice gl (l.length - 1) cl) (l.take k ++ l.drop k1) → Calls Try.prog 18 #[.slice gl (l.length - 1) cl, .agg #[.int .i64 ia, .int .i64 ip], .agg #[.int .i64 oa, .int .i64 op]] W fun e w' => e = .returned (.bool q) ∧ Below W.heap.size W w') := fun W hv => by
                have := implMay_any _ (l.take k ++ l.drop k1) ia ip oa op W (by rw [HK1.out, wo_len hlt]; omega) hv
                rwa [HL2.out] at this
              clear HD HAP hF2 HL2 hf HQ HQ2 hw
              go_wp2_with fail
              (go_at_call 18; refine (KC.out _ RLs.out).mono ?_; rintro e' w11 ⟨rfl, b11⟩)
              have E11 := Lib.hid ((E8.out.trans (CL.out.mono E8.out.size)).trans (b11.mono (Nat.le_trans E8.out.size CL.out.size)))
              clear b11
              go_wp2_with fail
              go_roundw
              case rel => exact ⟨k + 1, by omega, by go_num, HD2, E11.out⟩
              case measure => simp [intOf]; omega
            · have hF2 : aboutB l[k] ia oa op = true := by rw [← HAP.out]; exact hf
              obtain ⟨e1, e2⟩ := may_hit hlt HD.out hF2
              rw [← HAP.out] at e1 e2
              have hqa : q = al := HQ2.out.trans e1
              have HL2 : Hid (mayB (l.take k1) ia ip oa op = al) := by
                show _ = _
                unfold mayB
                rw [rules_sub HR.out (by rw [List.length_take]; omega) (fun _ => List.mem_of_mem_take), HA1.out, HO1.out, HK1.out, e2]
                rfl
              have KC : Hid (∀ W, RdRl W (.slice (some ⟨g1, o1, none⟩) l.length c) l → Calls Try.prog 18 #[.slice (some ⟨g1, o1, none⟩) k1 c, .agg #[.int .i64 ia, .int .i64 ip], .agg #[.int .i64 oa, .int .i64 op]] W fun e w' => e = .returned (.bool al) ∧ Below W.heap.size W w') := fun W hv => by
                have := implMay_any _ (l.take k1) ia ip oa op W (by rw [List.length_take]; omega) (hv.take (k := k1) (by rw [HK1.out]; omega))
                rwa [HL2.out] at this
              have A11 : Hid (∀ W, Below W8.heap.size W8 W → W.cell? ⟨wr.heap.size, 0, none⟩ = some (.bool al)) := fun W h => (AA.out.below h).2.1.1
              subst hqa
              clear HD HAP hF2 HL2 hf HQ HQ2 e1 e2
              have hc4 : (k1 : Int) ≤ (c : Int) := by omega
              cases q
              all_goals
                have cd := CL.out.drew
                have RLd := Lib.hid (HL.out _ (C9.out.trans (cd.mono C9.out.size)))
                have D1d := Lib.hid (C9.out.trans (cd.mono C9.out.size))
                go_wp2_with fail
                go_region_with (go_at_call 18; refine (KC.out _ (by first | exact RL0.out | exact RLd.out)).mono ?_; rintro e' w11 ⟨rfl, b11⟩; have q0 := A11.out _ (by first | exact CL.out.trans (b11.mono CL.out.size) | exact cd.trans (b11.mono cd.size)); have D11 : Hid (Below w2.heap.size w2 w11) := (by first | exact D1.out.trans (b11.mono D1.out.size) | exact D1d.out.trans (b11.mono D1d.out.size)); clear b11)
                all_goals
                  go_wp2_with fail
                  go_ret
                  exact ⟨rfl, B2.out.trans (D11.out.mono B2.out.size)⟩

end Go.Proofs.Ytempiklhkbgnbaa
