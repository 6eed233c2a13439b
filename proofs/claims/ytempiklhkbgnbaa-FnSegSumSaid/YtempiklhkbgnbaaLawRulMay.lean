/- RulMay of the program, at rules in memory and two ends; the law of RulMay. Condition: at most 2^22 rules. -/
import Derived.Test.YtempiklhkbgnbaaMayI
import Derived.Deep.DeepCutAuto
import Derived.Lib.SmallJoins
namespace Go.Proofs.Ytempiklhkbgnbaa
open Go.RowKit

set_option maxRecDepth 100000 in
set_option maxHeartbeats 3200000 in
theorem implMay_any (v : Value) (l : List Rl) (ia ip oa op : Int) (w : World) (hn : l.length ≤ 4194304) (hv : RdRl w v l) :
    Calls Try.prog 18 #[v, .agg #[.int .i64 ia, .int .i64 ip], .agg #[.int .i64 oa, .int .i64 op]] w fun e w' => e = .returned (.bool (mayB l ia ip oa op)) ∧ Below w.heap.size w w' := by
  have HV := Lib.hid hv
  have HS : Hid (mayB l ia ip oa op = (rulesB l && insB ia ip && outB oa op && mayL l ia oa op)) := rfl
  obtain ⟨q, hq⟩ : ∃ q, q = mayB l ia ip oa op := ⟨_, rfl⟩
  rw [← hq] at HS ⊢
  clear hq hv
  have H1 : Hid (∀ w, RdRl w v l → Calls Try.prog 42 #[v] w fun e w' => e = .returned (.bool (rulesB l)) ∧ Below w.heap.size w w') := fun w h => implRules_any v l w hn h
  have H3 : Hid (∀ w, RdRl w v l → Calls Try.prog 45 #[v] w fun e w' => ∃ u, e = .returned u ∧ JudgeAt w' l u ∧ Below w.heap.size w w') := fun w h => judgeOf_any l v w hn h
  have H4 : Hid ((l = [] → ∀ W u, JudgeAt W l u → u = .func (.func 61) #[] #[] ∧ ∀ W', Calls Try.prog 61 #[.agg #[.int .i64 ia, .int .i64 ip], .agg #[.int .i64 oa, .int .i64 op]] W' fun e w' => e = .returned (.bool (mayL l ia oa op)) ∧ Below W'.heap.size W' w') ∧
      (l ≠ [] → ∀ W u, JudgeAt W l u → ∃ br bn, u = .func (.func 70) #[] #[.pointer (some ⟨br, 0, none⟩), .pointer (some ⟨bn, 0, none⟩)] ∧ ∀ W', Below W.heap.size W W' → Calls Try.prog 70 #[.agg #[.int .i64 ia, .int .i64 ip], .agg #[.int .i64 oa, .int .i64 op], .pointer (some ⟨br, 0, none⟩), .pointer (some ⟨bn, 0, none⟩)] W' fun e w' => e = .returned (.bool (mayL l ia oa op)) ∧ Below W'.heap.size W' w')) := by
    refine ⟨fun h0 W u hu => ?_, fun h0 W u hu => ?_⟩
    · subst h0; exact ⟨hu, fun W' => judgeNil_any ia ip oa op W'⟩
    · match l, h0, hu with
      | r :: rs, _, ⟨br, bn, u', e, hb, hn2, hj⟩ =>
        exact ⟨br, bn, e, fun W' h => judgeCons_any rs r br bn u' ia ip oa op W' (hb.below h (World.block_lt_of_cell? _ _ hb.1)) ((h.cell (World.block_lt_of_cell? _ _ hn2)).trans hn2) (JudgeAt.below h _ _ hj)⟩
  obtain ⟨q1, e1⟩ : ∃ q, q = rulesB l := ⟨_, rfl⟩
  obtain ⟨q4, e4⟩ : ∃ q, q = mayL l ia oa op := ⟨_, rfl⟩
  rw [← e1] at H1 HS
  rw [← e4] at H4 HS
  clear e1 e4
  have A0 : Hid (Below w.heap.size w ((w.alloc (.cells #[.int .i64 ia, .int .i64 ip] 27)).alloc (.cells #[.int .i64 oa, .int .i64 op] 27))) := ((Below.refl _ _).alloc (Nat.le_refl _) _).alloc (by simp) _
  obtain ⟨av, cv, rfl, _⟩ := HV.out
  have go : ∀ b : Bool, Hid ((l = []) ↔ b = true) → Calls Try.prog 18 #[.slice av l.length cv, .agg #[.int .i64 ia, .int .i64 ip], .agg #[.int .i64 oa, .int .i64 op]] w fun e w' => e = .returned (.bool q) ∧ Below w.heap.size w w' := by
    intro b hb
    cases q1
    · have hq : q = false := by (have := HS.out; simpa using this)
      subst hq
      clear HS
      go_enter Try.func18, Try.ntmps18
      go_wp2_with (go_at_call 42; refine (H1.out _ (HV.out.below A0.out)).mono ?_; rintro e w1 ⟨rfl, b1⟩)
      go_ret
      exact ⟨rfl, A0.out.trans (b1.mono (by simp; omega))⟩
    · cases h2 : insB ia ip
      · have hq : q = false := by (have := HS.out; rw [h2] at this; simpa using this)
        subst hq
        clear HS
        go_enter Try.func18, Try.ntmps18
        go_wp2_with fail
        (go_at_call 42; refine (H1.out _ (HV.out.below A0.out)).mono ?_; rintro e w1 ⟨rfl, b1⟩; obtain ⟨c1, f1⟩ := bcell b1; have s1 : w.heap.size + 1 < w1.heap.size := by (have := b1.size; simp at this; omega))
        have B1 : Hid (Below w.heap.size w w1) := A0.out.trans (b1.mono (by simp; omega))
        have i0 : w1.cell? ⟨w.heap.size, 0, none⟩ = some (.int .i64 ia) := by rw [c1 _ _ (by simp; omega), cell_alloc_lt (by simp)]; exact (cell_new w _ _ 0).1
        have i1 : w1.cell? ⟨w.heap.size, 1, none⟩ = some (.int .i64 ip) := by rw [c1 _ _ (by simp; omega), cell_alloc_lt (by simp)]; exact (cell_new w _ _ 1).1
        clear c1 f1 b1 A0
        go_wp2_with (go_at_call 43; refine (implInside_any _ _ _).mono ?_; rintro e w2 ⟨rfl, b2⟩)
        go_ret
        exact ⟨rfl, B1.out.trans (b2.mono (by omega))⟩
      · cases h3 : outB oa op
        · have hq : q = false := by (have := HS.out; rw [h2, h3] at this; simpa using this)
          subst hq
          clear HS
          go_enter Try.func18, Try.ntmps18
          go_wp2_with fail
          (go_at_call 42; refine (H1.out _ (HV.out.below A0.out)).mono ?_; rintro e w1 ⟨rfl, b1⟩; obtain ⟨c1, f1⟩ := bcell b1; have s1 : w.heap.size + 1 < w1.heap.size := by (have := b1.size; simp at this; omega))
          have B1 : Hid (Below w.heap.size w w1) := A0.out.trans (b1.mono (by simp; omega))
          have i0 : w1.cell? ⟨w.heap.size, 0, none⟩ = some (.int .i64 ia) := by rw [c1 _ _ (by simp; omega), cell_alloc_lt (by simp)]; exact (cell_new w _ _ 0).1
          have i1 : w1.cell? ⟨w.heap.size, 1, none⟩ = some (.int .i64 ip) := by rw [c1 _ _ (by simp; omega), cell_alloc_lt (by simp)]; exact (cell_new w _ _ 1).1
          have t0 : w1.cell? ⟨w.heap.size + 1, 0, none⟩ = some (.int .i64 oa) := by rw [c1 _ _ (by simp)]; simp
          have t1 : w1.cell? ⟨w.heap.size + 1, 1, none⟩ = some (.int .i64 op) := by rw [c1 _ _ (by simp)]; simp
          clear c1 f1 b1 A0
          go_wp2_with (first
            | (go_at_call 43; refine (implInside_any _ _ _).mono ?_; rintro e w2 ⟨rfl, b2⟩; have s2 : w.heap.size + 1 < w2.heap.size := (by (have := b2.size; omega)); rw [← b2.cell (by simp <;> omega)] at i0 i1 t0 t1; have B2 : Hid (Below w.heap.size w w2) := B1.out.trans (b2.mono (by omega)); clear b2)
            | (go_at_call 44; refine (implOutside_any _ _ _).mono ?_; rintro e w3 ⟨rfl, b3⟩))
          go_ret
          exact ⟨rfl, B2.out.trans (b3.mono (by omega))⟩
        · have hq : q = q4 := by (have := HS.out; rw [h2, h3] at this; simpa using this)
          subst hq
          clear HS
          cases b
          all_goals
            go_enter Try.func18, Try.ntmps18
            go_wp2_with fail
            (go_at_call 42; refine (H1.out _ (HV.out.below A0.out)).mono ?_; rintro e w1 ⟨rfl, b1⟩; obtain ⟨c1, f1⟩ := bcell b1; have s1 : w.heap.size + 1 < w1.heap.size := by (have := b1.size; simp at this; omega))
            have B1 : Hid (Below w.heap.size w w1) := A0.out.trans (b1.mono (by simp; omega))
            have i0 : w1.cell? ⟨w.heap.size, 0, none⟩ = some (.int .i64 ia) := by rw [c1 _ _ (by simp; omega), cell_alloc_lt (by simp)]; exact (cell_new w _ _ 0).1
            have i1 : w1.cell? ⟨w.heap.size, 1, none⟩ = some (.int .i64 ip) := by rw [c1 _ _ (by simp; omega), cell_alloc_lt (by simp)]; exact (cell_new w _ _ 1).1
            have t0 : w1.cell? ⟨w.heap.size + 1, 0, none⟩ = some (.int .i64 oa) := by rw [c1 _ _ (by simp)]; simp
            have t1 : w1.cell? ⟨w.heap.size + 1, 1, none⟩ = some (.int .i64 op) := by rw [c1 _ _ (by simp)]; simp
            clear c1 f1 b1 A0
            go_wp2_with fail
            (go_at_call 43; refine (implInside_any _ _ _).mono ?_; rintro e w2 ⟨rfl, b2⟩; have s2 : w.heap.size + 1 < w2.heap.size := (by (have := b2.size; omega)); rw [← b2.cell (by simp <;> omega)] at i0 i1 t0 t1; have B2 : Hid (Below w.heap.size w w2) := B1.out.trans (b2.mono (by omega)); clear b2)
            go_wp2_with fail
            (go_at_call 44; refine (implOutside_any _ _ _).mono ?_; rintro e w3 ⟨rfl, b3⟩; have s3 : w.heap.size + 1 < w3.heap.size := (by (have := b3.size; omega)); rw [← b3.cell (by simp <;> omega)] at i0 i1 t0 t1; have B3 : Hid (Below w.heap.size w w3) := B2.out.trans (b3.mono (by omega)); clear b3)
            go_wp2_with fail
            (go_at_call 45; refine (H3.out _ (HV.out.below B3.out)).mono ?_; rintro e w4 ⟨u, rfl, hj, b4⟩; have s4 : w.heap.size + 1 < w4.heap.size := (by (have := b4.size; omega)); rw [← b4.cell (by simp <;> omega)] at i0 i1 t0 t1; have B4 : Hid (Below w.heap.size w w4) := B3.out.trans (b4.mono (by omega)); clear b4)
          · obtain ⟨br, bn, rfl, hcall⟩ := H4.out.2 (fun h => by have := hb.out.1 h; cases this) _ _ hj
            have HC := Lib.hid hcall
            clear hcall hj
            go_wp2_with (go_at_call 70; refine (HC.out _ (Below.refl _ _)).mono ?_; rintro e w5 ⟨rfl, b5⟩)
            go_ret
            exact ⟨rfl, B4.out.trans (b5.mono (by omega))⟩
          · obtain ⟨rfl, hcall⟩ := H4.out.1 (hb.out.2 (by simp)) _ _ hj
            have HC := Lib.hid hcall
            clear hcall hj
            go_wp2_with (go_at_call 61; refine (HC.out _).mono ?_; rintro e w5 ⟨rfl, b5⟩)
            go_ret
            exact ⟨rfl, B4.out.trans (b5.mono (by omega))⟩
  by_cases hl : l = []
  · exact go true ⟨fun _ => rfl, fun _ => hl⟩
  · exact go false ⟨fun h => absurd h hl, fun h => by cases h⟩

end Go.Proofs.Ytempiklhkbgnbaa
