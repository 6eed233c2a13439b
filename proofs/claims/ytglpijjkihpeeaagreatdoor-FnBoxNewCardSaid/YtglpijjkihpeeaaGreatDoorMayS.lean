/- RulMay of the specification, at rules in memory and two ends. Condition: at most 2^22 rules. -/
import Derived.Test.YtglpijjkihpeeaaGreatDoorRulLaw
import Derived.Test.YtglpijjkihpeeaaGreatDoorEnd
import Derived.Deep.RegionWith
namespace Go.Proofs.YtglpijjkihpeeaaGreatDoor
open Go.RowKit

theorem rulesB_no {l : List Rl} {k : Nat} (hk : k < l.length) (h : ruleB l[k] = false) : rulesB l = false := by
  unfold rulesB
  rw [show l.all ruleB = false from List.all_eq_false.2 ⟨l[k], List.getElem_mem _, by simp [h]⟩]; simp
theorem rulesB_yes {l : List Rl} (h5 : l.length ≤ 5) (h : ∀ r ∈ l, ruleB r = true) : rulesB l = true := by
  unfold rulesB
  rw [List.all_eq_true.2 h, decide_eq_true h5]; rfl
theorem take_all_snoc {l : List Rl} {k : Nat} (hk : k < l.length) (h : ∀ r ∈ l.take k, ruleB r = true) (h2 : ruleB l[k] = true) : ∀ r ∈ l.take (k + 1), ruleB r = true := by
  intro r hr
  rw [List.take_succ_eq_append_getElem hk] at hr
  rcases List.mem_append.1 hr with hr | hr
  · exact h r hr
  · simp at hr; subst hr; exact h2
theorem may_step {l : List Rl} {k : Nat} (hk : k < l.length) (ia oa op : Int) : mayL (l.drop k) ia oa op = if aboutB l[k] ia oa op = true then l[k].al else mayL (l.drop (k + 1)) ia oa op := by
  rw [List.drop_eq_getElem_cons hk]; rfl

set_option maxRecDepth 100000 in
set_option maxHeartbeats 1600000 in
theorem specRules_any (v : Value) (l : List Rl) (w : World) (hn : l.length ≤ 4194304) (hv : RdRl w v l) :
    Calls Tryz.prog 43 #[v] w fun e w' => e = .returned (.bool (rulesB l)) ∧ Below w.heap.size w w' := by
  obtain ⟨av, cv, rfl, hcv, hrv⟩ := hv
  have HV := Lib.hid hrv
  clear hrv
  by_cases h5 : l.length ≤ 5
  · obtain ⟨q, hq⟩ : ∃ q, q = rulesB l := ⟨_, rfl⟩
    have HQ := Lib.hid hq
    rw [← hq]
    clear hq
    go_enter Tryz.func43, Tryz.ntmps43
    go_wp2
    go_loopw [3] (fun i wr => ∃ k : Nat, k ≤ l.length ∧ i = .int .i64 k ∧ Hid (∀ r ∈ l.take k, ruleB r = true) ∧ Below w.heap.size w wr) (fun i _ => l.length - (intOf i).toNat)
    case atStart => exact ⟨0, Nat.zero_le _, rfl, fun r hr => by simp at hr, Below.refl _ _⟩
    case round =>
      obtain ⟨k, hk, rfl, HD, hb⟩ := hrel
      by_cases hlt : k < l.length
      · obtain ⟨g1, o1, rfl, hg1, hr1⟩ := HV.out (by omega)
        obtain ⟨⟨al, a, b, c, d, e, f⟩, hap⟩ : ∃ x, x = l[k] := ⟨_, rfl⟩
        obtain ⟨p0, p1, p2, p3, p4, p5, p6⟩ := rl_seven hr1 k hlt al a b c d e f hap
        rw [← hb.cell (by exact hg1)] at p0 p1 p2 p3 p4 p5 p6
        have hk1 : (k : Int) ≤ (cv : Int) := by omega
        have hk3 : (k : Int) < (l.length : Int) := by omega
        cases ht : ruleB ⟨al, a, b, c, d, e, f⟩
        · have HF : Hid (q = false) := HQ.out.trans (rulesB_no hlt (by rw [← hap]; exact ht))
          have HM : Hid (∀ w, Calls Tryz.prog 10 #[.agg #[.bool al, .int .i64 a, .int .i64 b, .int .i64 c, .int .i64 d, .int .i64 e, .int .i64 f]] w fun e w' => e = .returned (.bool false) ∧ Below w.heap.size w w') := fun w => by rw [← ht]; exact specRulOk_any al a b c d e f w
          clear hr1 hap ht
          go_wp2_with (go_at_call 10; refine (HM.out _).mono ?_; rintro e' w2 ⟨rfl, b2⟩)
          go_ret
          exact ⟨ret_bool HF.out.symm, hb.trans (b2.mono hb.size)⟩
        · have HF : Hid (∀ r ∈ l.take (k + 1), ruleB r = true) := take_all_snoc hlt HD.out (by rw [← hap]; exact ht)
          have HM : Hid (∀ w, Calls Tryz.prog 10 #[.agg #[.bool al, .int .i64 a, .int .i64 b, .int .i64 c, .int .i64 d, .int .i64 e, .int .i64 f]] w fun e w' => e = .returned (.bool true) ∧ Below w.heap.size w w') := fun w => by rw [← ht]; exact specRulOk_any al a b c d e f w
          clear hr1 hap ht
          go_wp2_with (go_at_call 10; refine (HM.out _).mono ?_; rintro e' w2 ⟨rfl, b2⟩)
          go_roundw
          case rel => exact ⟨k + 1, by omega, by go_num, HF, hb.trans (b2.mono hb.size)⟩
          case measure => simp [intOf]; omega
      · have hkn : k = l.length := by omega
        subst hkn
        have HF : Hid (q = true) := HQ.out.trans (rulesB_yes h5 (by have := HD.out; rwa [List.take_of_length_le (Nat.le_refl _)] at this))
        go_wp2
        go_ret
        exact ⟨ret_bool HF.out.symm, hb⟩
  · have HF : Hid (rulesB l = false) := by show _ = _; unfold rulesB; rw [decide_eq_false h5]; rfl
    go_enter Tryz.func43, Tryz.ntmps43
    go_wp2
    go_ret
    exact ⟨ret_bool HF.out.symm, Below.refl _ _⟩

end Go.Proofs.YtglpijjkihpeeaaGreatDoor
