/- RulMay of the specification, at rules in memory and two ends. Condition: at most 2^22 rules. -/
import Derived.Test.YtempiklhkbgnbaaRulLaw
import Derived.Test.YtempiklhkbgnbaaEnd
import Derived.Deep.RegionWith
namespace Go.Proofs.Ytempiklhkbgnbaa
open Go.RowKit

theorem rulesB_no {l : List Rl} {k : Nat} (hk : k < l.length) (h : ruleB l[k] = false) : rulesB l = false := by
  unfold rulesB
  rw [show l.all ruleB = false from List.all_eq_false.2 ⟨l[k], List.getElem_mem _, by simp [h]⟩]; simp
theorem rulesB_yes {l : List Rl} (h5 : l.length ≤ 5) (h : ∀ r ∈ l, ruleB r = true) : rulesB l = true := by
  unfold rulesB
  rw [List.all_eq_true.2 h, decide_eq_true h5]; rfl
theorem take_all_snoc {l : List Rl} {k : Nat} (hk : k < l.length) (h : ∀ r ∈ l.take k, ruleB r = true) (h2 : ruleB l[k] = true) : ∀ r ∈ l.take (k + 1), ruleB r = true := by
  intro r hr
  rw [List.take_succ_eq_append_getElem hk] at hr
  rcases List.mem_append.1 hr with hr | hr
  · exact h r hr
  · simp at hr; subst hr; exact h2
theorem may_step {l : List Rl} {k : Nat} (hk : k < l.length) (ia oa op : Int) : mayL (l.drop k) ia oa op = if aboutB l[k] ia oa op = true then l[k].al else mayL (l.drop (k + 1)) ia oa op := by
  rw [List.drop_eq_getElem_cons hk]; rfl

set_option maxRecDepth 100000 in
set_option maxHeartbeats 1600000 in
theorem specRules_any (v : Value) (l : List Rl) (w : World) (hn : l.length ≤ 4194304) (hv : RdRl w v l) :
    Calls Try.prog 46 #[v] w fun e w' => e = .returned (.bool (rulesB l)) ∧ Below w.heap.size w w' := by
  obtain ⟨av, cv, rfl, hcv, hrv⟩ := hv
  have HV := Lib.hid hrv
  clear hrv
  by_cases h5 : l.length ≤ 5
  · obtain ⟨q, hq⟩ : ∃ q, q = rulesB l := ⟨_, rfl⟩
    have HQ := Lib.hid hq
    rw [← hq]
    clear hq
    go_enter Try.func46, Try.ntmps46
    go_wp2
    go_loopw [3] (fun i wr => ∃ k : Nat, k ≤ l.length ∧ i = .int .i64 k ∧ Hid (∀ r ∈ l.take k, ruleB r = true) ∧ Below w.heap.size w wr) (fun i _ => l.length - (intOf i).toNat)
    case atStart => exact ⟨0, Nat.zero_le _, rfl, fun r hr => by simp at hr, Below.refl _ _⟩
    case round =>
      obtain ⟨k, hk, rfl, HD, hb⟩ := hrel
      by_cases hlt : k < l.length
      · obtain ⟨g1, o1, rfl, hg1, hr1⟩ := HV.out (by omega)
        obtain ⟨⟨al, a, b, c, d, e, f⟩, hap⟩ : ∃ x, x = l[k] := ⟨_, rfl⟩
        obtain ⟨p0, p1, p2, p3, p4, p5, p6⟩ := rl_seven hr1 k hlt al a b c d e f hap
        rw [← hb.cell (by exact hg1)] at p0 p1 p2 p3 p4 p5 p6
        have hk1 : (k : Int) ≤ (cv : Int) := by omega
        have hk3 : (k : Int) < (l.length : Int) := by omega
        cases ht : ruleB ⟨al, a, b, c, d, e, f⟩
        · have HF : Hid (q = false) := HQ.out.trans (rulesB_no hlt (by rw [← hap]; exact ht))
          have HM : Hid (∀ w, Calls Try.prog 20 #[.agg #[.bool al, .int .i64 a, .int .i64 b, .int .i64 c, .int .i64 d, .int .i64 e, .int .i64 f]] w fun e w' => e = .returned (.bool false) ∧ Below w.heap.size w w') := fun w => by rw [← ht]; exact specRulOk_any al a b c d e f w
          clear hr1 hap ht
          go_wp2_with (go_at_call 20; refine (HM.out _).mono ?_; rintro e' w2 ⟨rfl, b2⟩)
          go_ret
          exact ⟨ret_bool HF.out.symm, hb.trans (b2.mono hb.size)⟩
        · have HF : Hid (∀ r ∈ l.take (k + 1), ruleB r = true) := take_all_snoc hlt HD.out (by rw [← hap]; exact ht)
          have HM : Hid (∀ w, Calls Try.prog 20 #[.agg #[.bool al, .int .i64 a, .int .i64 b, .int .i64 c, .int .i64 d, .int .i64 e, .int .i64 f]] w fun e w' => e = .returned (.bool true) ∧ Below w.heap.size w w') := fun w => by rw [← ht]; exact specRulOk_any al a b c d e f w
          clear hr1 hap ht
          go_wp2_with (go_at_call 20; refine (HM.out _).mono ?_; rintro e' w2 ⟨rfl, b2⟩)
          go_roundw
          case rel => exact ⟨k + 1, by omega, by go_num, HF, hb.trans (b2.mono hb.size)⟩
          case measure => simp [intOf]; omega
      · have hkn : k = l.length := by omega
        subst hkn
        have HF : Hid (q = true) := HQ.out.trans (rulesB_yes h5 (by have := HD.out; rwa [List.take_of_length_le (Nat.le_refl _)] at this))
        go_wp2
        go_ret
        exact ⟨ret_bool HF.out.symm, hb⟩
  · have HF : Hid (rulesB l = false) := by show _ = _; unfold rulesB; rw [decide_eq_false h5]; rfl
    go_enter Try.func46, Try.ntmps46
    go_wp2
    go_ret
    exact ⟨ret_bool HF.out.symm, Below.refl _ _⟩

set_option maxRecDepth 100000 in
set_option maxHeartbeats 800000 in
theorem specFits_any (al : Bool) (i it o ot p pt ia ip oa op : Int) (w : World) :
    Calls Try.prog 63 #[.agg #[.bool al, .int .i64 i, .int .i64 it, .int .i64 o, .int .i64 ot, .int .i64 p, .int .i64 pt], .agg #[.int .i64 ia, .int .i64 ip], .agg #[.int .i64 oa, .int .i64 op]] w fun e w' => e = .returned (.bool (aboutB ⟨al, i, it, o, ot, p, pt⟩ ia oa op)) ∧ Below w.heap.size w w' := by
  have HS : Hid (aboutB ⟨al, i, it, o, ot, p, pt⟩ ia oa op = (inB ia i it && inB oa o ot && inB op p pt)) := rfl
  obtain ⟨q, hq⟩ : ∃ q, q = aboutB ⟨al, i, it, o, ot, p, pt⟩ ia oa op := ⟨_, rfl⟩
  rw [← hq] at HS ⊢
  clear hq
  cases h1 : inB ia i it
  rotate_left
  cases h2 : inB oa o ot
  rotate_left
  cases h3 : inB op p pt
  rotate_left
  all_goals
    try rw [h1] at HS
    try rw [h2] at HS
    try rw [h3] at HS
    first
    | (have hq : q = true := by (have := HS.out; simpa using this)
       subst hq)
    | (have hq : q = false := by (have := HS.out; simpa using this)
       subst hq)
    clear HS
    go_enter Try.func63, Try.ntmps63
    go_wp2_with (go_at_call 32; refine (specIn_any _ _ _ _).mono ?_; rintro e w' ⟨rfl, rfl⟩)
    go_ret
    exact ⟨rfl, (((Below.refl _ _).alloc (Nat.le_refl _) _).alloc (by simp) _).alloc (by simp; omega) _⟩

set_option maxRecDepth 100000 in
set_option maxHeartbeats 1600000 in
theorem specMayL_any (v : Value) (l : List Rl) (ia ip oa op : Int) (w : World) (hn : l.length ≤ 4194304) (hv : RdRl w v l) :
    Calls Try.prog 47 #[v, .agg #[.int .i64 ia, .int .i64 ip], .agg #[.int .i64 oa, .int .i64 op]] w fun e w' => e = .returned (.bool (mayL l ia oa op)) ∧ Below w.heap.size w w' := by
  obtain ⟨av, cv, rfl, hcv, hrv⟩ := hv
  have HV := Lib.hid hrv
  clear hrv
  obtain ⟨q, hq⟩ : ∃ q, q = mayL l ia oa op := ⟨_, rfl⟩
  have HQ := Lib.hid hq
  rw [← hq]
  clear hq
  go_enter Try.func47, Try.ntmps47
  have C0 : Hid (∀ W0 : World, W0 = (w.alloc (.cells #[.int .i64 ia, .int .i64 ip] 27)).alloc (.cells #[.int .i64 oa, .int .i64 op] 27) → (W0.cell? ⟨w.heap.size, 0, none⟩ = some (.int .i64 ia) ∧ W0.cell? ⟨w.heap.size, 1, none⟩ = some (.int .i64 ip) ∧ W0.cell? ⟨w.heap.size + 1, 0, none⟩ = some (.int .i64 oa) ∧ W0.cell? ⟨w.heap.size + 1, 1, none⟩ = some (.int .i64 op)) ∧ Below w.heap.size w W0 ∧ W0.heap.size = w.heap.size + 2) := fun W0 h => by
    subst h
    refine ⟨⟨?_, ?_, ?_, ?_⟩, ((Below.refl _ _).alloc (Nat.le_refl _) _).alloc (by simp) _, by simp⟩
    · rw [cell_alloc_lt (by simp)]; exact (cell_new w _ _ 0).1
    · rw [cell_alloc_lt (by simp)]; exact (cell_new w _ _ 1).1
    · simp
    · simp
  obtain ⟨W0, hW0⟩ : ∃ W0, W0 = (w.alloc (.cells #[.int .i64 ia, .int .i64 ip] 27)).alloc (.cells #[.int .i64 oa, .int .i64 op] 27) := ⟨_, rfl⟩
  obtain ⟨⟨i0, i1, t0, t1⟩, B0, z0⟩ := C0.out W0 hW0
  have HB0 := Lib.hid B0
  go_wp2
  rw [← hW0]
  clear hW0 C0 B0
  go_loopw [7] (fun i wr => ∃ k : Nat, k ≤ l.length ∧ i = .int .i64 k ∧ Hid (mayL (l.drop k) ia oa op = q) ∧ Below W0.heap.size W0 wr) (fun i _ => l.length - (intOf i).toNat)
  case atStart => exact ⟨0, Nat.zero_le _, rfl, HQ.out.symm, Below.refl _ _⟩
  case round =>
    obtain ⟨k, hk, rfl, HD, hb⟩ := hrel
    have hbs := hb.size
    have hsz : w.heap.size + 2 ≤ wr.heap.size := by omega
    have HBW : Hid (Below w.heap.size w wr) := HB0.out.trans (hb.mono (by omega))
    have HB := Lib.hid hb
    rw [← hb.cell (by simp; omega)] at i0 i1 t0 t1
    by_cases hlt : k < l.length
    · obtain ⟨g1, o1, rfl, hg1, hr1⟩ := HV.out (by omega)
      obtain ⟨⟨al, a, b, c, d, e, f⟩, hap⟩ : ∃ x, x = l[k] := ⟨_, rfl⟩
      obtain ⟨p0, p1, p2, p3, p4, p5, p6⟩ := rl_seven hr1 k hlt al a b c d e f hap
      rw [← HBW.out.cell (by exact hg1)] at p0 p1 p2 p3 p4 p5 p6
      have hgw : g1 < wr.heap.size := by omega
      have hk1 : (k : Int) ≤ (cv : Int) := by omega
      have hk3 : (k : Int) < (l.length : Int) := by omega
      have hst := may_step hlt ia oa op
      rw [← hap, HD.out] at hst
      cases ht : aboutB ⟨al, a, b, c, d, e, f⟩ ia oa op
      · have HF : Hid (mayL (l.drop (k + 1)) ia oa op = q) := by rw [ht] at hst; exact hst.symm
        have HM : Hid (∀ w, Calls Try.prog 63 #[.agg #[.bool al, .int .i64 a, .int .i64 b, .int .i64 c, .int .i64 d, .int .i64 e, .int .i64 f], .agg #[.int .i64 ia, .int .i64 ip], .agg #[.int .i64 oa, .int .i64 op]] w fun e w' => e = .returned (.bool false) ∧ Below w.heap.size w w') := fun w => by rw [← ht]; exact specFits_any al a b c d e f ia ip oa op w
        clear hr1 hap ht hst HV HQ HD
        go_wp2_with fail
        go_region_with (go_at_call 63; refine (HM.out _).mono ?_; rintro e' w2 ⟨rfl, b2⟩; have BB : Hid (Below W0.heap.size W0 w2) := (by first | exact HB.out.trans ((((Below.refl _ _).drew).trans b2).mono hbs) | exact HB.out.trans (b2.mono hbs)); clear b2)
        all_goals
          go_wp2
          go_roundw
          case rel => exact ⟨k + 1, by omega, by go_num, HF, BB.out⟩
          case measure => simp [intOf]; omega
      · have HF : Hid (q = al) := by rw [ht] at hst; exact hst
        have HM : Hid (∀ w, Calls Try.prog 63 #[.agg #[.bool al, .int .i64 a, .int .i64 b, .int .i64 c, .int .i64 d, .int .i64 e, .int .i64 f], .agg #[.int .i64 ia, .int .i64 ip], .agg #[.int .i64 oa, .int .i64 op]] w fun e w' => e = .returned (.bool true) ∧ Below w.heap.size w w') := fun w => by rw [← ht]; exact specFits_any al a b c d e f ia ip oa op w
        have H0 : Hid (∀ w2, Below W0.heap.size W0 w2 → w2.cell? ⟨g1, o1 + k * 7, none⟩ = some (.bool al)) := fun w2 h2 => by
          have := (rl_seven hr1 k hlt al a b c d e f hap).1
          rw [← (HB0.out.trans (h2.mono (by omega))).cell (by exact hg1)] at this; exact this
        clear hr1 hap ht hst HV HQ HD
        go_wp2_with fail
        go_region_with (go_at_call 63; refine (HM.out _).mono ?_; rintro e' w2 ⟨rfl, b2⟩; have BB : Hid (Below W0.heap.size W0 w2) := (by first | exact HB.out.trans ((((Below.refl _ _).drew).trans b2).mono hbs) | exact HB.out.trans (b2.mono hbs)); have r0 := H0.out _ BB.out; clear b2)
        all_goals
          go_wp2
          go_ret
          exact ⟨ret_bool HF.out.symm, HB0.out.trans (BB.out.mono (by omega))⟩
    · have hkn : k = l.length := by omega
      subst hkn
      have HF : Hid (q = true) := by
        have := HD.out
        rw [List.drop_of_length_le (Nat.le_refl _)] at this
        exact this.symm
      go_wp2
      go_ret
      exact ⟨ret_bool HF.out.symm, HBW.out⟩

set_option maxRecDepth 100000 in
set_option maxHeartbeats 1600000 in
theorem specMay_any (v : Value) (l : List Rl) (ia ip oa op : Int) (w : World) (hn : l.length ≤ 4194304) (hv : RdRl w v l) :
    Calls Try.prog 19 #[v, .agg #[.int .i64 ia, .int .i64 ip], .agg #[.int .i64 oa, .int .i64 op]] w fun e w' => e = .returned (.bool (mayB l ia ip oa op)) ∧ Below w.heap.size w w' := by
  have HV := Lib.hid hv
  have HS : Hid (mayB l ia ip oa op = (rulesB l && insB ia ip && outB oa op && mayL l ia oa op)) := rfl
  obtain ⟨q, hq⟩ : ∃ q, q = mayB l ia ip oa op := ⟨_, rfl⟩
  rw [← hq] at HS ⊢
  clear hq hv
  have H1 : Hid (∀ w, RdRl w v l → Calls Try.prog 46 #[v] w fun e w' => e = .returned (.bool (rulesB l)) ∧ Below w.heap.size w w') := fun w h => specRules_any v l w hn h
  have H4 : Hid (∀ w, RdRl w v l → Calls Try.prog 47 #[v, .agg #[.int .i64 ia, .int .i64 ip], .agg #[.int .i64 oa, .int .i64 op]] w fun e w' => e = .returned (.bool (mayL l ia oa op)) ∧ Below w.heap.size w w') := fun w h => specMayL_any v l ia ip oa op w hn h
  obtain ⟨q1, e1⟩ : ∃ q, q = rulesB l := ⟨_, rfl⟩
  obtain ⟨q4, e4⟩ : ∃ q, q = mayL l ia oa op := ⟨_, rfl⟩
  rw [← e1] at H1 HS
  rw [← e4] at H4 HS
  clear e1 e4
  obtain ⟨av, cv, rfl, _⟩ := HV.out
  cases q1
  rotate_left
  cases h2 : insB ia ip
  rotate_left
  cases h3 : outB oa op
  rotate_left
  cases q4
  rotate_left
  all_goals
    try rw [h2] at HS
    try rw [h3] at HS
    first
    | (have hq : q = true := by (have := HS.out; simpa using this)
       subst hq)
    | (have hq : q = false := by (have := HS.out; simpa using this)
       subst hq)
    clear HS
    go_enter Try.func19, Try.ntmps19
    have A0 : Hid (Below w.heap.size w ((w.alloc (.cells #[.int .i64 ia, .int .i64 ip] 27)).alloc (.cells #[.int .i64 oa, .int .i64 op] 27))) := ((Below.refl _ _).alloc (Nat.le_refl _) _).alloc (by simp) _
    go_wp2_with fail
    (go_at_call 46; refine (H1.out _ (HV.out.below A0.out)).mono ?_; rintro e w1 ⟨rfl, b1⟩; obtain ⟨c1, f1⟩ := bcell b1; have s1 : w.heap.size + 1 < w1.heap.size := by (have := b1.size; simp at this; omega))
    have B1 : Hid (Below w.heap.size w w1) := A0.out.trans (b1.mono (by simp; omega))
    have i0 : w1.cell? ⟨w.heap.size, 0, none⟩ = some (.int .i64 ia) := by rw [c1 _ _ (by simp; omega), cell_alloc_lt (by simp)]; exact (cell_new w _ _ 0).1
    have i1 : w1.cell? ⟨w.heap.size, 1, none⟩ = some (.int .i64 ip) := by rw [c1 _ _ (by simp; omega), cell_alloc_lt (by simp)]; exact (cell_new w _ _ 1).1
    have t0 : w1.cell? ⟨w.heap.size + 1, 0, none⟩ = some (.int .i64 oa) := by rw [c1 _ _ (by simp)]; simp
    have t1 : w1.cell? ⟨w.heap.size + 1, 1, none⟩ = some (.int .i64 op) := by rw [c1 _ _ (by simp)]; simp
    clear c1 f1 b1 A0
    go_wp2_with (first
      | (go_at_call 21; refine (specInside_any _ _ _).mono ?_; rintro e w2 ⟨rfl, b2⟩; have s2 : w.heap.size + 1 < w2.heap.size := (by (have := b2.size; omega)); rw [← b2.cell (by simp <;> omega)] at i0 i1 t0 t1; have B2 : Hid (Below w.heap.size w w2) := B1.out.trans (b2.mono (by omega)); clear b2)
      | (go_at_call 22; refine (specOutside_any _ _ _).mono ?_; rintro e w3 ⟨rfl, b3⟩; have s3 : w.heap.size + 1 < w3.heap.size := (by (have := b3.size; omega)); rw [← b3.cell (by simp <;> omega)] at i0 i1 t0 t1; have B3 : Hid (Below w.heap.size w w3) := B2.out.trans (b3.mono (by omega)); clear b3)
      | (go_at_call 47; refine (H4.out _ (HV.out.below B3.out)).mono ?_; rintro e w4 ⟨rfl, b4⟩; have B4 : Hid (Below w.heap.size w w4) := B3.out.trans (b4.mono (by omega)); clear b4))
    go_ret
    first
      | exact ⟨rfl, B4.out⟩
      | exact ⟨rfl, B3.out⟩
      | exact ⟨rfl, B2.out⟩
      | exact ⟨rfl, B1.out⟩

end Go.Proofs.Ytempiklhkbgnbaa
