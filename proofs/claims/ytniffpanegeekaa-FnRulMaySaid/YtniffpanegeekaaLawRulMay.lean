/- RulMay of the program, at rules in memory and two ends; the law of RulMay. Condition: at most 2^22 rules. -/
import Derived.Test.YtniffpanegeekaaMayI
import Derived.Deep.DeepCutAuto
import Derived.Lib.SmallJoins
namespace Go.Proofs.Ytniffpanegeekaa
open Go.RowKit

set_option maxRecDepth 100000 in
set_option maxHeartbeats 3200000 in
theorem implMay_any (v : Value) (l : List Rl) (ia ip oa op : Int) (w : World) (hn : l.length ≤ 4194304) (hv : RdRl w v l) :
    Calls Try.prog 9 #[v, .agg #[.int .i64 ia, .int .i64 ip], .agg #[.int .i64 oa, .int .i64 op]] w fun e w' => e = .returned (.bool (mayB l ia ip oa op)) ∧ Below w.heap.size w w' := by
  have HV := Lib.hid hv
  have HS : Hid (mayB l ia ip oa op = (rulesB l && insB ia ip && outB oa op && mayL l ia oa op)) := rfl
  obtain ⟨q, hq⟩ : ∃ q, q = mayB l ia ip oa op := ⟨_, rfl⟩
  rw [← hq] at HS ⊢
  clear hq hv
  have H1 : Hid (∀ w, RdRl w v l → Calls Try.prog 30 #[v] w fun e w' => e = .returned (.bool (rulesB l)) ∧ Below w.heap.size w w') := fun w h => implRules_any v l w hn h
  have H3 : Hid (∀ w, RdRl w v l → Calls Try.prog 33 #[v] w fun e w' => ∃ u, e = .returned u ∧ JudgeAt w' l u ∧ Below w.heap.size w w') := fun w h => judgeOf_any l v w hn h
  have H4 : Hid ((l = [] → ∀ W u, JudgeAt W l u → u = .func (.func 44) #[] #[] ∧ ∀ W', Calls Try.prog 44 #[.agg #[.int .i64 ia, .int .i64 ip], .agg #[.int .i64 oa, .int .i64 op]] W' fun e w' => e = .returned (.bool (mayL l ia oa op)) ∧ Below W'.heap.size W' w') ∧
      (l ≠ [] → ∀ W u, JudgeAt W l u → ∃ br bn, u = .func (.func 49) #[] #[.pointer (some ⟨br, 0, none⟩), .pointer (some ⟨bn, 0, none⟩)] ∧ ∀ W', Below W.heap.size W W' → Calls Try.prog 49 #[.agg #[.int .i64 ia, .int .i64 ip], .agg #[.int .i64 oa, .int .i64 op], .pointer (some ⟨br, 0, none⟩), .pointer (some ⟨bn, 0, none⟩)] W' fun e w' => e = .returned (.bool (mayL l ia oa op)) ∧ Below W'.heap.size W' w')) := by
    refine ⟨fun h0 W u hu => ?_, fun h0 W u hu => ?_⟩
    · subst h0; exact ⟨hu, fun W' => judgeNil_any ia ip oa op W'⟩
    · match l, h0, hu with
      | r :: rs, _, ⟨br, bn, u', e, hb, hn2, hj⟩ =>
        exact ⟨br, bn, e, fun W' h => judgeCons_any rs r br bn u' ia ip oa op W' (hb.below h (World.block_lt_of_cell? _ _ hb.1)) ((h.cell (World.block_lt_of_cell? _ _ hn2)).trans hn2) (JudgeAt.below h _ _ hj)⟩
  obtain ⟨q1, e1⟩ : ∃ q, q = rulesB l := ⟨_, rfl⟩
  obtain ⟨q4, e4⟩ : ∃ q, q = mayL l ia oa op := ⟨_, rfl⟩
  rw [← e1] at H1 HS
  rw [← e4] at H4 HS
  clear e1 e4
  have A0 : Hid (Below w.heap.size w ((w.alloc (.cells #[.int .i64 ia, .int .i64 ip] 25)).alloc (.cells #[.int .i64 oa, .int .i64 op] 25))) := ((Below.refl _ _).alloc (Nat.le_refl _) _).alloc (by simp) _
  obtain ⟨av, cv, rfl, _⟩ := HV.out
  have go : ∀ b : Bool, Hid ((l = []) ↔ b = true) → Calls Try.prog 9 #[.slice av l.length cv, .agg #[.int .i64 ia, .int .i64 ip], .agg #[.int .i64 oa, .int .i64 op]] w fun e w' => e = .returned (.bool q) ∧ Below w.heap.size w w' := by
    intro b hb
    cases q1
    · have hq : q = false := by (have := HS.out; simpa using this)
      subst hq
      clear HS
      go_enter Try.func9, Try.ntmps9
      go_wp2_with (go_at_call 30; refine (H1.out _ (HV.out.below A0.out)).mono ?_; rintro e w1 ⟨rfl, b1⟩)
      go_ret
      exact ⟨rfl, A0.out.trans (b1.mono (by simp; omega))⟩
    · cases h2 : insB ia ip
      · have hq : q = false := by (have := HS.out; rw [h2] at this; simpa using this)
        subst hq
        clear HS
        go_enter Try.func9, Try.ntmps9
        go_wp2_with fail
        (go_at_call 30; refine (H1.out _ (HV.out.below A0.out)).mono ?_; rintro e w1 ⟨rfl, b1⟩; obtain ⟨c1, f1⟩ := bcell b1; have s1 : w.heap.size + 1 < w1.heap.size := by (have := b1.size; simp at this; omega))
        have B1 : Hid (Below w.heap.size w w1) := A0.out.trans (b1.mono (by simp; omega))
        have i0 : w1.cell? ⟨w.heap.size, 0, none⟩ = some (.int .i64 ia) := by rw [c1 _ _ (by simp; omega), cell_alloc_lt (by simp)]; exact (cell_new w _ _ 0).1
        have i1 : w1.cell? ⟨w.heap.size, 1, none⟩ = some (.int .i64 ip) := by rw [c1 _ _ (by simp; omega), cell_alloc_lt (by simp)]; exact (cell_new w _ _ 1).1
        clear c1 f1 b1 A0
        go_wp2_with (go_at_call 31; refine (implInside_any _ _ _).mono ?_; rintro e w2 ⟨rfl, b2⟩)
        go_ret
        exact ⟨rfl, B1.out.trans (b2.mono (by omega))⟩
      · cases h3 : outB oa op
        · have hq : q = false := by (have := HS.out; rw [h2, h3] at this; simpa using this)
          subst hq
          clear HS
          go_enter Try.func9, Try.ntmps9
          go_wp2_with fail
          (go_at_call 30; refine (H1.out _ (HV.out.below A0.out)).mono ?_; rintro e w1 ⟨rfl, b1⟩; obtain ⟨c1, f1⟩ := bcell b1; have s1 : w.heap.size + 1 < w1.heap.size := by (have := b1.size; simp at this; omega))
          have B1 : Hid (Below w.heap.size w w1) := A0.out.trans (b1.mono (by simp; omega))
          have i0 : w1.cell? ⟨w.heap.size, 0, none⟩ = some (.int .i64 ia) := by rw [c1 _ _ (by simp; omega), cell_alloc_lt (by simp)]; exact (cell_new w _ _ 0).1
          have i1 : w1.cell? ⟨w.heap.size, 1, none⟩ = some (.int .i64 ip) := by rw [c1 _ _ (by simp; omega), cell_alloc_lt (by simp)]; exact (cell_new w _ _ 1).1
          have t0 : w1.cell? ⟨w.heap.size + 1, 0, none⟩ = some (.int .i64 oa) := by rw [c1 _ _ (by simp)]; simp
          have t1 : w1.cell? ⟨w.heap.size + 1, 1, none⟩ = some (.int .i64 op) := by rw [c1 _ _ (by simp)]; simp
          clear c1 f1 b1 A0
          go_wp2_with (first
            | (go_at_call 31; refine (implInside_any _ _ _).mono ?_; rintro e w2 ⟨rfl, b2⟩; have s2 : w.heap.size + 1 < w2.heap.size := (by (have := b2.size; omega)); rw [← b2.cell (by simp <;> omega)] at i0 i1 t0 t1; have B2 : Hid (Below w.heap.size w w2) := B1.out.trans (b2.mono (by omega)); clear b2)
            | (go_at_call 32; refine (implOutside_any _ _ _).mono ?_; rintro e w3 ⟨rfl, b3⟩))
          go_ret
          exact ⟨rfl, B2.out.trans (b3.mono (by omega))⟩
        · have hq : q = q4 := by (have := HS.out; rw [h2, h3] at this; simpa using this)
          subst hq
          clear HS
          cases b
          all_goals
            go_enter Try.func9, Try.ntmps9
            go_wp2_with fail
            (go_at_call 30; refine (H1.out _ (HV.out.below A0.out)).mono ?_; rintro e w1 ⟨rfl, b1⟩; obtain ⟨c1, f1⟩ := bcell b1; have s1 : w.heap.size + 1 < w1.heap.size := by (have := b1.size; simp at this; omega))
            have B1 : Hid (Below w.heap.size w w1) := A0.out.trans (b1.mono (by simp; omega))
            have i0 : w1.cell? ⟨w.heap.size, 0, none⟩ = some (.int .i64 ia) := by rw [c1 _ _ (by simp; omega), cell_alloc_lt (by simp)]; exact (cell_new w _ _ 0).1
            have i1 : w1.cell? ⟨w.heap.size, 1, none⟩ = some (.int .i64 ip) := by rw [c1 _ _ (by simp; omega), cell_alloc_lt (by simp)]; exact (cell_new w _ _ 1).1
            have t0 : w1.cell? ⟨w.heap.size + 1, 0, none⟩ = some (.int .i64 oa) := by rw [c1 _ _ (by simp)]; simp
            have t1 : w1.cell? ⟨w.heap.size + 1, 1, none⟩ = some (.int .i64 op) := by rw [c1 _ _ (by simp)]; simp
            clear c1 f1 b1 A0
            go_wp2_with fail
            (go_at_call 31; refine (implInside_any _ _ _).mono ?_; rintro e w2 ⟨rfl, b2⟩; have s2 : w.heap.size + 1 < w2.heap.size := (by (have := b2.size; omega)); rw [← b2.cell (by simp <;> omega)] at i0 i1 t0 t1; have B2 : Hid (Below w.heap.size w w2) := B1.out.trans (b2.mono (by omega)); clear b2)
            go_wp2_with fail
            (go_at_call 32; refine (implOutside_any _ _ _).mono ?_; rintro e w3 ⟨rfl, b3⟩; have s3 : w.heap.size + 1 < w3.heap.size := (by (have := b3.size; omega)); rw [← b3.cell (by simp <;> omega)] at i0 i1 t0 t1; have B3 : Hid (Below w.heap.size w w3) := B2.out.trans (b3.mono (by omega)); clear b3)
            go_wp2_with fail
            (go_at_call 33; refine (H3.out _ (HV.out.below B3.out)).mono ?_; rintro e w4 ⟨u, rfl, hj, b4⟩; have s4 : w.heap.size + 1 < w4.heap.size := (by (have := b4.size; omega)); rw [← b4.cell (by simp <;> omega)] at i0 i1 t0 t1; have B4 : Hid (Below w.heap.size w w4) := B3.out.trans (b4.mono (by omega)); clear b4)
          · obtain ⟨br, bn, rfl, hcall⟩ := H4.out.2 (fun h => by have := hb.out.1 h; cases this) _ _ hj
            have HC := Lib.hid hcall
            clear hcall hj
            go_wp2_with (go_at_call 49; refine (HC.out _ (Below.refl _ _)).mono ?_; rintro e w5 ⟨rfl, b5⟩)
            go_ret
            exact ⟨rfl, B4.out.trans (b5.mono (by omega))⟩
          · obtain ⟨rfl, hcall⟩ := H4.out.1 (hb.out.2 (by simp)) _ _ hj
            have HC := Lib.hid hcall
            clear hcall hj
            go_wp2_with (go_at_call 44; refine (HC.out _).mono ?_; rintro e w5 ⟨rfl, b5⟩)
            go_ret
            exact ⟨rfl, B4.out.trans (b5.mono (by omega))⟩
  by_cases hl : l = []
  · exact go true ⟨fun _ => rfl, fun _ => hl⟩
  · exact go false ⟨fun h => absurd h hl, fun h => by cases h⟩

set_option maxRecDepth 100000 in
set_option maxHeartbeats 3200000 in
theorem lawRulMay_any (v : Value) (l : List Rl) (ia ip oa op : Int) (w : World) (ht : ArgRl w v l) (hL : l.length ≤ 9223372036854775807) (_ : (Lit.int .i64 ia).wf = true) (_ : (Lit.int .i64 ip).wf = true) (_ : (Lit.int .i64 oa).wf = true) (_ : (Lit.int .i64 op).wf = true) :
    Calls Try.prog 7 #[v, .agg #[.int .i64 ia, .int .i64 ip], .agg #[.int .i64 oa, .int .i64 op]] w fun e w' => e = .returned (.bool true) ∧ Below w.heap.size w w' := by
  have HT := Lib.hid ht
  obtain ⟨ad, cap, rfl, _, _⟩ := ht
  have A0 : Hid (Below w.heap.size w ((w.alloc (.cells #[.int .i64 ia, .int .i64 ip] 40)).alloc (.cells #[.int .i64 oa, .int .i64 op] 40))) := ((Below.refl _ _).alloc (Nat.le_refl _) _).alloc (by simp) _
  by_cases h : 1048576 < l.length
  · have HZ : Hid (∀ w, Calls Try.prog 18 #[.slice ad l.length cap, .int .i64 1048576] w fun e w' => e = .returned (.int .i64 (-1)) ∧ w = w') := fun w => by
      have := szRuls_any ad l.length cap 1048576 w hL (by decide) (by decide)
      rwa [if_pos (by omega)] at this
    go_enter Try.func7, Try.ntmps7
    go_wp2_with (go_at_call 18; refine (HZ.out _).mono ?_; rintro e w' ⟨rfl, rfl⟩)
    go_ret
    exact ⟨rfl, A0.out⟩
  · obtain ⟨q0, hq0⟩ : ∃ q0 : Int, q0 = 1048576 - l.length := ⟨_, rfl⟩
    have hq1 : ¬ q0 < 0 := by omega
    have HZ : Hid (∀ w, Calls Try.prog 18 #[.slice ad l.length cap, .int .i64 1048576] w fun e w' => e = .returned (.int .i64 q0) ∧ w = w') := fun w => by
      have := szRuls_any ad l.length cap 1048576 w hL (by decide) (by decide)
      rw [if_neg (by omega)] at this
      rwa [hq0]
    have HC : Hid (∀ W, Below w.heap.size w W → Calls Try.prog 19 #[.slice ad l.length cap] W fun e w' => ∃ g, e = .returned (.slice (some ⟨g, 0, none⟩) l.length l.length) ∧ RdRl w' (.slice (some ⟨g, 0, none⟩) l.length l.length) l ∧ Below W.heap.size W w') := fun W hW =>
      (toRulsArg _ l W (by omega) (HT.out.below hW)).mono fun e w' ⟨g, e1, e2, e3⟩ => ⟨g, e1, e2.rd, e3⟩
    obtain ⟨q, hq⟩ : ∃ q, q = mayB l ia ip oa op := ⟨_, rfl⟩
    have HM : Hid (∀ u W, RdRl W u l → Calls Try.prog 10 #[u, .agg #[.int .i64 ia, .int .i64 ip], .agg #[.int .i64 oa, .int .i64 op]] W fun e w' => e = .returned (.bool q) ∧ Below W.heap.size W w') := fun u W hu => by rw [hq]; exact specMay_any u l ia ip oa op W (by omega) hu
    have HI : Hid (∀ u W, RdRl W u l → Calls Try.prog 9 #[u, .agg #[.int .i64 ia, .int .i64 ip], .agg #[.int .i64 oa, .int .i64 op]] W fun e w' => e = .returned (.bool q) ∧ Below W.heap.size W w') := fun u W hu => by rw [hq]; exact implMay_any u l ia ip oa op W (by omega) hu
    have HE : Hid (∀ u v W, RdRl W u l → RdRl W v l → Calls Try.prog 21 #[u, v] W fun e w' => e = .returned (.bool true) ∧ Below W.heap.size W w') := fun u v W hu hv => eqRuls_same u v l W (by omega) hu hv
    clear hq hq0 hL
    all_goals
      go_enter Try.func7, Try.ntmps7
      go_wp2_with (go_at_call 18; refine (HZ.out _).mono ?_; rintro e w' ⟨rfl, rfl⟩)
      obtain ⟨W0, hW0⟩ : ∃ W0, W0 = (w.alloc (.cells #[.int .i64 ia, .int .i64 ip] 40)).alloc (.cells #[.int .i64 oa, .int .i64 op] 40) := ⟨_, rfl⟩
      have HB0 : Hid (Below w.heap.size w W0) := by rw [hW0]; exact A0
      have z0 : W0.heap.size = w.heap.size + 2 := by rw [hW0]; simp
      have i0 : W0.cell? ⟨w.heap.size, 0, none⟩ = some (.int .i64 ia) := by rw [hW0, cell_alloc_lt (by simp)]; exact (cell_new w _ _ 0).1
      have i1 : W0.cell? ⟨w.heap.size, 1, none⟩ = some (.int .i64 ip) := by rw [hW0, cell_alloc_lt (by simp)]; exact (cell_new w _ _ 1).1
      have t0 : W0.cell? ⟨w.heap.size + 1, 0, none⟩ = some (.int .i64 oa) := by rw [hW0]; simp
      have t1 : W0.cell? ⟨w.heap.size + 1, 1, none⟩ = some (.int .i64 op) := by rw [hW0]; simp
      rw [← hW0]
      clear hW0
      have mk : Hid (∀ w', Below W0.heap.size W0 w' → w'.cell? ⟨w.heap.size, 0, none⟩ = some (.int .i64 ia) ∧ w'.cell? ⟨w.heap.size, 1, none⟩ = some (.int .i64 ip) ∧ w'.cell? ⟨w.heap.size + 1, 0, none⟩ = some (.int .i64 oa) ∧ w'.cell? ⟨w.heap.size + 1, 1, none⟩ = some (.int .i64 op) ∧ Below W0.heap.size W0 w') :=
        fun w' hb => ⟨by rw [hb.cell (by simp; omega)]; exact i0, by rw [hb.cell (by simp; omega)]; exact i1, by rw [hb.cell (by simp; omega)]; exact t0, by rw [hb.cell (by simp; omega)]; exact t1, hb⟩
      clear i0 i1 t0 t1
      have zw : w.heap.size ≤ W0.heap.size := by omega
      go_cut [8] (fun s8 wx => s8 = .bool q ∧ Below W0.heap.size W0 wx)
      case first =>
        go_region_held3 (fun w' => w'.cell? ⟨w.heap.size, 0, none⟩ = some (.int .i64 ia) ∧ w'.cell? ⟨w.heap.size, 1, none⟩ = some (.int .i64 ip) ∧ w'.cell? ⟨w.heap.size + 1, 0, none⟩ = some (.int .i64 oa) ∧ w'.cell? ⟨w.heap.size + 1, 1, none⟩ = some (.int .i64 op) ∧ Below W0.heap.size W0 w')
          (first
            | exact mk.out _ (Below.refl _ _).drew
            | exact mk.out _ cc
            | (refine mk.out _ ?_; with_reducible exact cc)
            | (trace_state; fail))
          (first
            | (go_at_call 19; have hS := (by assumption : _ ∧ _ ∧ _ ∧ _ ∧ Below W0.heap.size W0 _); refine (HC.out _ (HB0.out.trans (hS.2.2.2.2.mono (by omega)))).mono ?_; rintro e wN ⟨ga, rfl, ra, bN⟩; have RA := Lib.hid ra; have cc : Below W0.heap.size W0 wN := hS.2.2.2.2.trans (bN.mono hS.2.2.2.2.size); have zc := cc.size)
            | (go_at_call 20; have hS := (by assumption : _ ∧ _ ∧ _ ∧ _ ∧ Below W0.heap.size W0 _); refine (toEnd_any _ _ _).mono ?_; rintro e wN ⟨rfl, bN⟩; have cc : Below W0.heap.size W0 wN := hS.2.2.2.2.trans (bN.mono hS.2.2.2.2.size); have zc := cc.size; have RA := Lib.hid (RA.out.below bN))
            | (go_at_call 10; have hS := (by assumption : _ ∧ _ ∧ _ ∧ _ ∧ Below W0.heap.size W0 _); refine (HM.out _ _ RA.out).mono ?_; rintro e wN ⟨rfl, bN⟩; have cc : Below W0.heap.size W0 wN := hS.2.2.2.2.trans (bN.mono hS.2.2.2.2.size); have zc := cc.size))
        all_goals (go_wp2_with fail; go_meet)
        all_goals exact ⟨rfl, cc⟩
      case rest =>
        obtain ⟨rfl, c1⟩ := hcut
        have zc1 := c1.size
        go_wp2_with fail
        (go_at_call 19; refine (HC.out _ (HB0.out.trans (c1.mono (by omega)))).mono ?_; rintro e w2 ⟨gx, rfl, rx, b2⟩)
        have RX := Lib.hid rx
        have c2 : Below W0.heap.size W0 w2 := c1.trans (b2.mono c1.size)
        have z2 := c2.size
        have mk2 : Hid (∀ w', Below w2.heap.size w2 w' → w'.cell? ⟨w.heap.size, 0, none⟩ = some (.int .i64 ia) ∧ w'.cell? ⟨w.heap.size, 1, none⟩ = some (.int .i64 ip) ∧ w'.cell? ⟨w.heap.size + 1, 0, none⟩ = some (.int .i64 oa) ∧ w'.cell? ⟨w.heap.size + 1, 1, none⟩ = some (.int .i64 op) ∧ Below w2.heap.size w2 w') := fun w' h => by
          obtain ⟨h1, h2, h3, h4, _⟩ := mk.out w' (c2.trans (h.mono z2))
          exact ⟨h1, h2, h3, h4, h⟩
        clear rx b2
        go_upto_region 7 with fail
        go_cut [10] (fun s10 wx => s10 = .bool q ∧ Below w2.heap.size w2 wx)
        case first =>
          go_region_held3 (fun w' => w'.cell? ⟨w.heap.size, 0, none⟩ = some (.int .i64 ia) ∧ w'.cell? ⟨w.heap.size, 1, none⟩ = some (.int .i64 ip) ∧ w'.cell? ⟨w.heap.size + 1, 0, none⟩ = some (.int .i64 oa) ∧ w'.cell? ⟨w.heap.size + 1, 1, none⟩ = some (.int .i64 op) ∧ Below w2.heap.size w2 w')
            (first
              | exact mk2.out _ (Below.refl _ _).drew
              | exact mk2.out _ cc
              | (refine mk2.out _ ?_; with_reducible exact cc)
              | (trace_state; fail))
            (first
              | (go_at_call 20; have hS := (by assumption : _ ∧ _ ∧ _ ∧ _ ∧ Below w2.heap.size w2 _); refine (toEnd_any _ _ _).mono ?_; rintro e wN ⟨rfl, bN⟩; have cc : Below w2.heap.size w2 wN := hS.2.2.2.2.trans (bN.mono hS.2.2.2.2.size); have zc := cc.size)
              | (go_at_call 9; have hS := (by assumption : _ ∧ _ ∧ _ ∧ _ ∧ Below w2.heap.size w2 _); refine (HI.out _ _ (RX.out.below hS.2.2.2.2)).mono ?_; rintro e wN ⟨rfl, bN⟩; have cc : Below w2.heap.size w2 wN := hS.2.2.2.2.trans (bN.mono hS.2.2.2.2.size); have zc := cc.size))
          all_goals (go_wp2_with fail; go_meet)
          all_goals exact ⟨rfl, cc⟩
        case rest =>
          obtain ⟨rfl, c3⟩ := hcut
          have zc3 := c3.size
          go_wp2_with fail
          (go_at_call 19; refine (HC.out _ (HB0.out.trans ((c2.trans (c3.mono z2)).mono (by omega)))).mono ?_; rintro e w4 ⟨gy, rfl, ry, b4⟩; have c4 : Below w2.heap.size w2 w4 := c3.trans (b4.mono zc3); have z4 := c4.size)
          go_wp2_with fail
          (go_at_call 21; refine (HE.out _ _ _ (RX.out.below c4) ry).mono ?_; rintro e w5 ⟨rfl, b5⟩)
          go_wp2_with fail
          go_ret
          exact ⟨rfl, HB0.out.trans ((c2.trans ((c4.trans (b5.mono z4)).mono z2)).mono (by omega))⟩

end Go.Proofs.Ytniffpanegeekaa
