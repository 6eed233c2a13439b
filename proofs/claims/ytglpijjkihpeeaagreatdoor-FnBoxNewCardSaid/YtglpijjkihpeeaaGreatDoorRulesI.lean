/- The rules of the program, whether they are ok, at rules in memory. Condition: at most 2^22 rules. -/
import Derived.Test.YtglpijjkihpeeaaGreatDoorMayS
import Derived.Deep.RegionHeld3
namespace Go.Proofs.YtglpijjkihpeeaaGreatDoor
open Go.RowKit

set_option maxRecDepth 100000 in
set_option maxHeartbeats 800000 in
theorem notOk_any (al : Bool) (i it o ot p pt : Int) (w : World) :
    Calls Tryz.prog 94 #[.agg #[.bool al, .int .i64 i, .int .i64 it, .int .i64 o, .int .i64 ot, .int .i64 p, .int .i64 pt]] w fun e w' => e = .returned (.bool (!ruleB ⟨al, i, it, o, ot, p, pt⟩)) ∧ Below w.heap.size w w' := by
  have HM : Hid (∀ w, Calls Tryz.prog 95 #[.agg #[.bool al, .int .i64 i, .int .i64 it, .int .i64 o, .int .i64 ot, .int .i64 p, .int .i64 pt]] w fun e w' => e = .returned (.bool (ruleB ⟨al, i, it, o, ot, p, pt⟩)) ∧ Below w.heap.size w w') := fun w => implRulOk_any al i it o ot p pt w
  obtain ⟨q, hq⟩ : ∃ q, q = ruleB ⟨al, i, it, o, ot, p, pt⟩ := ⟨_, rfl⟩
  rw [← hq] at HM ⊢
  clear hq
  cases q
  all_goals
    go_enter Tryz.func94, Tryz.ntmps94
    go_wp2_with (go_at_call 95; refine (HM.out _).mono ?_; rintro e w1 ⟨rfl, b1⟩)
    go_ret
    exact ⟨rfl, below_box b1⟩

set_option maxRecDepth 100000 in
set_option maxHeartbeats 1600000 in
theorem idxRules_any (v : Value) (l : List Rl) (w : World) (hn : l.length ≤ 4194304) (hv : RdRl w v l) :
    Calls Tryz.prog 134 #[v, .func (.func 94) #[] #[]] w fun e w' => ∃ z : Int, e = .returned (.int .i64 z) ∧ decide (0 ≤ z) = !l.all ruleB ∧ Below w.heap.size w w' := by
  obtain ⟨av, cv, rfl, hcv, hrv⟩ := hv
  have HV := Lib.hid hrv
  clear hrv
  go_enter Tryz.func134, Tryz.ntmps134
  go_wp2
  go_loopw [5, 8] (fun _ i wr => ∃ k : Nat, k ≤ l.length ∧ i = .int .i64 k ∧ Hid (∀ r ∈ l.take k, ruleB r = true) ∧ Below w.heap.size w wr) (fun _ i _ => l.length - (intOf i).toNat)
  case atStart => exact ⟨0, Nat.zero_le _, rfl, fun r hr => by simp at hr, Below.refl _ _⟩
  case round =>
    obtain ⟨k, hk, rfl, HD, hb⟩ := hrel
    by_cases hlt : k < l.length
    · obtain ⟨g1, o1, rfl, hg1, hr1⟩ := HV.out (by omega)
      obtain ⟨⟨al, a, b, c, d, e, f⟩, hap⟩ : ∃ x, x = l[k] := ⟨_, rfl⟩
      obtain ⟨p0, p1, p2, p3, p4, p5, p6⟩ := rl_seven hr1 k hlt al a b c d e f hap
      rw [← hb.cell (by exact hg1)] at p0 p1 p2 p3 p4 p5 p6
      have hk1 : (k : Int) ≤ (cv : Int) := by omega
      have hk3 : (k : Int) < (l.length : Int) := by omega
      cases ht : ruleB ⟨al, a, b, c, d, e, f⟩
      · have HF : Hid (decide (0 ≤ (k : Int)) = !l.all ruleB) := by
          show _ = _
          rw [show l.all ruleB = false from List.all_eq_false.2 ⟨l[k], List.getElem_mem _, by rw [← hap, ht]; simp⟩, decide_eq_true (by omega)]; rfl
        have HM : Hid (∀ w, Calls Tryz.prog 94 #[.agg #[.bool al, .int .i64 a, .int .i64 b, .int .i64 c, .int .i64 d, .int .i64 e, .int .i64 f]] w fun e w' => e = .returned (.bool true) ∧ Below w.heap.size w w') := fun w => by have := notOk_any al a b c d e f w; rwa [ht] at this
        clear hr1 hap ht
        go_wp2_with (go_at_call 94; refine (HM.out _).mono ?_; rintro e' w2 ⟨rfl, b2⟩)
        go_ret
        exact ⟨_, rfl, HF.out, hb.trans (b2.mono hb.size)⟩
      · have HF : Hid (∀ r ∈ l.take (k + 1), ruleB r = true) := take_all_snoc hlt HD.out (by rw [← hap]; exact ht)
        have HM : Hid (∀ w, Calls Tryz.prog 94 #[.agg #[.bool al, .int .i64 a, .int .i64 b, .int .i64 c, .int .i64 d, .int .i64 e, .int .i64 f]] w fun e w' => e = .returned (.bool false) ∧ Below w.heap.size w w') := fun w => by have := notOk_any al a b c d e f w; rwa [ht] at this
        clear hr1 hap ht
        go_wp2_with (go_at_call 94; refine (HM.out _).mono ?_; rintro e' w2 ⟨rfl, b2⟩)
        go_roundw
        case rel => exact ⟨k + 1, by omega, by go_num, HF, hb.trans (b2.mono hb.size)⟩
        case measure => simp [intOf]; omega
    · have hkn : k = l.length := by omega
      subst hkn
      have HF : Hid (decide (0 ≤ (-1 : Int)) = !l.all ruleB) := by
        have := HD.out
        rw [List.take_of_length_le (Nat.le_refl _)] at this
        show _ = _
        rw [List.all_eq_true.2 this]; rfl
      go_wp2
      go_ret
      exact ⟨_, rfl, HF.out, hb⟩

set_option maxRecDepth 100000 in
set_option maxHeartbeats 800000 in
theorem hasRule_any (v : Value) (l : List Rl) (w : World) (hn : l.length ≤ 4194304) (hv : RdRl w v l) :
    Calls Tryz.prog 93 #[v, .func (.func 94) #[] #[]] w fun e w' => e = .returned (.bool (!l.all ruleB)) ∧ Below w.heap.size w w' := by
  have HC : Hid (Calls Tryz.prog 134 #[v, .func (.func 94) #[] #[]] w fun e w' => ∃ z : Int, e = .returned (.int .i64 z) ∧ decide (0 ≤ z) = !l.all ruleB ∧ Below w.heap.size w w') := idxRules_any v l w hn hv
  obtain ⟨av, cv, rfl, _⟩ := hv
  obtain ⟨q, hq⟩ : ∃ q, q = !l.all ruleB := ⟨_, rfl⟩
  rw [← hq] at HC ⊢
  clear hq
  go_enter Tryz.func93, Tryz.ntmps93
  go_wp2_with (go_at_call 134; refine (HC.out).mono ?_; rintro e w1 ⟨z, rfl, hz, b1⟩)
  go_ret
  first
    | exact ⟨rfl, b1⟩
    | exact ⟨ret_bool hz, b1⟩

set_option maxRecDepth 100000 in
set_option maxHeartbeats 800000 in
theorem implRules_any (v : Value) (l : List Rl) (w : World) (hn : l.length ≤ 4194304) (hv : RdRl w v l) :
    Calls Tryz.prog 40 #[v] w fun e w' => e = .returned (.bool (rulesB l)) ∧ Below w.heap.size w w' := by
  have HC : Hid (Calls Tryz.prog 93 #[v, .func (.func 94) #[] #[]] w fun e w' => e = .returned (.bool (!l.all ruleB)) ∧ Below w.heap.size w w') := hasRule_any v l w hn hv
  obtain ⟨av, cv, rfl, _⟩ := hv
  have HS : Hid (rulesB l = (decide (l.length ≤ 5) && l.all ruleB)) := rfl
  obtain ⟨q, hq⟩ : ∃ q, q = rulesB l := ⟨_, rfl⟩
  obtain ⟨q1, hq1⟩ : ∃ q, q = l.all ruleB := ⟨_, rfl⟩
  rw [← hq] at HS ⊢
  rw [← hq1] at HS HC
  clear hq hq1
  by_cases h5 : l.length ≤ 5 <;> cases q1
  all_goals
    try rw [decide_eq_true h5] at HS
    try rw [decide_eq_false h5] at HS
    first
    | (have hq : q = true := by (have := HS.out; simpa using this)
       subst hq)
    | (have hq : q = false := by (have := HS.out; simpa using this)
       subst hq)
    clear HS
    go_enter Tryz.func40, Tryz.ntmps40
    go_wp2_with (go_at_call 93; refine (HC.out).mono ?_; rintro e w1 ⟨rfl, b1⟩)
    go_ret
    first
      | exact ⟨rfl, b1⟩
      | exact ⟨rfl, Below.refl _ _⟩

end Go.Proofs.YtglpijjkihpeeaaGreatDoor
