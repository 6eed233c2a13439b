/- BoxOk of the program answers as BoxOk of the specification, at every argument; the argument stays as it was. The card: the variables that are read are tied to the program's text. No condition beside what the law sets aside and the card says. (Several texts, joined: RulesI, IBoxOk, LawBoxOk, Leave, HoldBoxOk.) -/
import Derived.Test.YtoimjpkgkcomnaaGreatDoorTBoxOkc
import Derived.Deep.RegionHeld3
import Derived.Test.YtoimjpkgkcomnaaGreatDoorTBoxOkh
import Derived.Test.YtoimjpkgkcomnaaGreatDoorTBoxOkf
import Derived.Deep.RegionWith
import Derived.Conc.Holds
import Derived.Handed
import Derived.Leaving
import Derived.SevenTiedAt
import Derived.Test.YtoimjpkgkcomnaaGreatDoorCards
import Derived.Test.YtoimjpkgkcomnaaGreatDoorTie
import Derived.ProofKit
import Derived.ChangeSame
import Derived.JoinedOf
import Derived.JoinedAt
import Derived.RowKit3
import Derived.RowKitTokens
import Derived.LaidMore
import Derived.Stop.LaidErr
import Derived.Stop.Joined
import Derived.OpenShut
import Derived.ShutString
import Derived.ChangeOld
import Derived.Lib.SmallJoins
import Derived.Below
import Derived.Carry

/- The rules of the program, whether they are ok, at rules in memory. Condition: at most 2^22 rules. -/
namespace Go.Proofs.YtoimjpkgkcomnaaGreatDoor
open Go.RowKit

set_option maxRecDepth 100000 in
set_option maxHeartbeats 800000 in
theorem notOk_any (al : Bool) (i it o ot p pt : Int) (w : World) :
    Calls Tryz.prog 94 #[.agg #[.bool al, .int .i64 i, .int .i64 it, .int .i64 o, .int .i64 ot, .int .i64 p, .int .i64 pt]] w fun e w' => e = .returned (.bool (!ruleB ⟨al, i, it, o, ot, p, pt⟩)) ∧ Below w.heap.size w w' := by
  have HM : Hid (∀ w, Calls Tryz.prog 95 #[.agg #[.bool al, .int .i64 i, .int .i64 it, .int .i64 o, .int .i64 ot, .int .i64 p, .int .i64 pt]] w fun e w' => e = .returned (.bool (ruleB ⟨al, i, it, o, ot, p, pt⟩)) ∧ Below w.heap.size w w') := fun w => implRulOk_any al i it o ot p pt w
  obtain ⟨q, hq⟩ : ∃ q, q = ruleB ⟨al, i, it, o, ot, p, pt⟩ := ⟨_, rfl⟩
  rw [← hq] at HM ⊢
  clear hq
  cases q
  all_goals
    go_enter Tryz.func94, Tryz.ntmps94
    go_wp2_with (go_at_call 95; refine (HM.out _).mono ?_; rintro e w1 ⟨rfl, b1⟩)
    go_ret
    exact ⟨rfl, below_box b1⟩

set_option maxRecDepth 100000 in
set_option maxHeartbeats 1600000 in
theorem idxRules_any (v : Value) (l : List Rl) (w : World) (hn : l.length ≤ 4194304) (hv : RdRl w v l) :
    Calls Tryz.prog 155 #[v, .func (.func 94) #[] #[]] w fun e w' => ∃ z : Int, e = .returned (.int .i64 z) ∧ decide (0 ≤ z) = !l.all ruleB ∧ Below w.heap.size w w' := by
  obtain ⟨av, cv, rfl, hcv, hrv⟩ := hv
  have HV := Lib.hid hrv
  clear hrv
  go_enter Tryz.func155, Tryz.ntmps155
  go_wp2
  go_loopw [5, 8] (fun _ i wr => ∃ k : Nat, k ≤ l.length ∧ i = .int .i64 k ∧ Hid (∀ r ∈ l.take k, ruleB r = true) ∧ Below w.heap.size w wr) (fun _ i _ => l.length - (intOf i).toNat)
  case atStart => exact ⟨0, Nat.zero_le _, rfl, fun r hr => by simp at hr, Below.refl _ _⟩
  case round =>
    obtain ⟨k, hk, rfl, HD, hb⟩ := hrel
    by_cases hlt : k < l.length
    · obtain ⟨g1, o1, rfl, hg1, hr1⟩ := HV.out (by omega)
      obtain ⟨⟨al, a, b, c, d, e, f⟩, hap⟩ : ∃ x, x = l[k] := ⟨_, rfl⟩
      obtain ⟨p0, p1, p2, p3, p4, p5, p6⟩ := rl_seven hr1 k hlt al a b c d e f hap
      rw [← hb.cell (by exact hg1)] at p0 p1 p2 p3 p4 p5 p6
      have hk1 : (k : Int) ≤ (cv : Int) := by omega
      have hk3 : (k : Int) < (l.length : Int) := by omega
      cases ht : ruleB ⟨al, a, b, c, d, e, f⟩
      · have HF : Hid (decide (0 ≤ (k : Int)) = !l.all ruleB) := by
          show _ = _
          rw [show l.all ruleB = false from List.all_eq_false.2 ⟨l[k], List.getElem_mem _, by rw [← hap, ht]; simp⟩, decide_eq_true (by omega)]; rfl
        have HM : Hid (∀ w, Calls Tryz.prog 94 #[.agg #[.bool al, .int .i64 a, .int .i64 b, .int .i64 c, .int .i64 d, .int .i64 e, .int .i64 f]] w fun e w' => e = .returned (.bool true) ∧ Below w.heap.size w w') := fun w => by have := notOk_any al a b c d e f w; rwa [ht] at this
        clear hr1 hap ht
        go_wp2_with (go_at_call 94; refine (HM.out _).mono ?_; rintro e' w2 ⟨rfl, b2⟩)
        go_ret
        exact ⟨_, rfl, HF.out, hb.trans (b2.mono hb.size)⟩
      · have HF : Hid (∀ r ∈ l.take (k + 1), ruleB r = true) := take_all_snoc hlt HD.out (by rw [← hap]; exact ht)
        have HM : Hid (∀ w, Calls Tryz.prog 94 #[.agg #[.bool al, .int .i64 a, .int .i64 b, .int .i64 c, .int .i64 d, .int .i64 e, .int .i64 f]] w fun e w' => e = .returned (.bool false) ∧ Below w.heap.size w w') := fun w => by have := notOk_any al a b c d e f w; rwa [ht] at this
        clear hr1 hap ht
        go_wp2_with (go_at_call 94; refine (HM.out _).mono ?_; rintro e' w2 ⟨rfl, b2⟩)
        go_roundw
        case rel => exact ⟨k + 1, by omega, by go_num, HF, hb.trans (b2.mono hb.size)⟩
        case measure => simp [intOf]; omega
    · have hkn : k = l.length := by omega
      subst hkn
      have HF : Hid (decide (0 ≤ (-1 : Int)) = !l.all ruleB) := by
        have := HD.out
        rw [List.take_of_length_le (Nat.le_refl _)] at this
        show _ = _
        rw [List.all_eq_true.2 this]; rfl
      go_wp2
      go_ret
      exact ⟨_, rfl, HF.out, hb⟩

set_option maxRecDepth 100000 in
set_option maxHeartbeats 800000 in
theorem hasRule_any (v : Value) (l : List Rl) (w : World) (hn : l.length ≤ 4194304) (hv : RdRl w v l) :
    Calls Tryz.prog 93 #[v, .func (.func 94) #[] #[]] w fun e w' => e = .returned (.bool (!l.all ruleB)) ∧ Below w.heap.size w w' := by
  have HC : Hid (Calls Tryz.prog 155 #[v, .func (.func 94) #[] #[]] w fun e w' => ∃ z : Int, e = .returned (.int .i64 z) ∧ decide (0 ≤ z) = !l.all ruleB ∧ Below w.heap.size w w') := idxRules_any v l w hn hv
  obtain ⟨av, cv, rfl, _⟩ := hv
  obtain ⟨q, hq⟩ : ∃ q, q = !l.all ruleB := ⟨_, rfl⟩
  rw [← hq] at HC ⊢
  clear hq
  go_enter Tryz.func93, Tryz.ntmps93
  go_wp2_with (go_at_call 155; refine (HC.out).mono ?_; rintro e w1 ⟨z, rfl, hz, b1⟩)
  go_ret
  first
    | exact ⟨rfl, b1⟩
    | exact ⟨ret_bool hz, b1⟩

set_option maxRecDepth 100000 in
set_option maxHeartbeats 800000 in
theorem implRules_any (v : Value) (l : List Rl) (w : World) (hn : l.length ≤ 4194304) (hv : RdRl w v l) :
    Calls Tryz.prog 35 #[v] w fun e w' => e = .returned (.bool (rulesB l)) ∧ Below w.heap.size w w' := by
  have HC : Hid (Calls Tryz.prog 93 #[v, .func (.func 94) #[] #[]] w fun e w' => e = .returned (.bool (!l.all ruleB)) ∧ Below w.heap.size w w') := hasRule_any v l w hn hv
  obtain ⟨av, cv, rfl, _⟩ := hv
  have HS : Hid (rulesB l = (decide (l.length ≤ 5) && l.all ruleB)) := rfl
  obtain ⟨q, hq⟩ : ∃ q, q = rulesB l := ⟨_, rfl⟩
  obtain ⟨q1, hq1⟩ : ∃ q, q = l.all ruleB := ⟨_, rfl⟩
  rw [← hq] at HS ⊢
  rw [← hq1] at HS HC
  clear hq hq1
  by_cases h5 : l.length ≤ 5 <;> cases q1
  all_goals
    try rw [decide_eq_true h5] at HS
    try rw [decide_eq_false h5] at HS
    first
    | (have hq : q = true := by (have := HS.out; simpa using this)
       subst hq)
    | (have hq : q = false := by (have := HS.out; simpa using this)
       subst hq)
    clear HS
    go_enter Tryz.func35, Tryz.ntmps35
    go_wp2_with (go_at_call 93; refine (HC.out).mono ?_; rintro e w1 ⟨rfl, b1⟩)
    go_ret
    first
      | exact ⟨rfl, b1⟩
      | exact ⟨rfl, Below.refl _ _⟩

end Go.Proofs.YtoimjpkgkcomnaaGreatDoor

/- Whether a box is ok, as the program asks. Condition: lists and texts of at most 2^20. -/
namespace Go.Proofs.YtoimjpkgkcomnaaGreatDoor
open Go.RowKit Go.Sort

set_option maxRecDepth 100000 in
set_option maxHeartbeats 3200000 in
theorem implBoxOk_any (B : Nat) (v : Value) (b : Bx) (w : World) (hs : bxSz b) (hwf : wfE b.es) (hcw : cnWf b.cs) (ho : OwnBx w B v b) (hv : VarsOk w) (htb : TabOk w) :
    Calls Tryz.prog 17 #[v] w fun e w' => e = .returned (.bool (boxOkB b)) ∧ Below w.heap.size w w' := by
  obtain ⟨g1, g2, c2, g3, rfl, o1, o2, o3⟩ := ho
  obtain ⟨m1, m2, m3, m4⟩ := hs
  obtain ⟨W0, hW0⟩ : ∃ W, W = w.alloc (.cells #[.slice (some ⟨g1, 0, none⟩) b.rs.length b.rs.length, .slice (some ⟨g2, 0, none⟩) b.es.length c2, .slice (some ⟨g3, 0, none⟩) b.cs.length b.cs.length] 31) := ⟨_, rfl⟩
  have hA : Below w.heap.size w W0 := by rw [hW0]; exact (Below.refl _ _).alloc (Nat.le_refl _) _
  have K1 : Blk W0 w.heap.size 31 [.slice (some ⟨g1, 0, none⟩) b.rs.length b.rs.length, .slice (some ⟨g2, 0, none⟩) b.es.length c2, .slice (some ⟨g3, 0, none⟩) b.cs.length b.cs.length] := by rw [hW0]; exact three_new w _ _ _ _
  have KK : Hid (∀ w', Below W0.heap.size W0 w' → w'.cell? ⟨w.heap.size, 0, none⟩ = some (.slice (some ⟨g1, 0, none⟩) b.rs.length b.rs.length) ∧ w'.cell? ⟨w.heap.size, 1, none⟩ = some (.slice (some ⟨g2, 0, none⟩) b.es.length c2) ∧ w'.cell? ⟨w.heap.size, 2, none⟩ = some (.slice (some ⟨g3, 0, none⟩) b.cs.length b.cs.length)) := fun w' h => (three_all (K1.below h)).1
  have HA : Hid (∀ w', Below W0.heap.size W0 w' → Below w.heap.size w w') := fun w' h => hA.trans (h.mono hA.size)
  have HM : Hid (∀ w', Below w.heap.size w w' → Calls Tryz.prog 51 #[.agg #[.slice (some ⟨g2, 0, none⟩) b.es.length c2]] w' fun e w'' => e = .returned (.bool (mapB b.es)) ∧ Below w'.heap.size w' w'') := fun w' h => implMapOk_any _ b.es w' (by omega) hwf (OwnTab.tab (own_later o2 h))
  have HR : Hid (∀ w', Below w.heap.size w w' → Calls Tryz.prog 35 #[.slice (some ⟨g1, 0, none⟩) b.rs.length b.rs.length] w' fun e w'' => e = .returned (.bool (rulesB b.rs)) ∧ Below w'.heap.size w' w'') := fun w' h => implRules_any _ b.rs w' (by omega) (o1.rd.below h)
  have HC : Hid (mapB b.es = true → ∀ k (hk : k < b.cs.length) (c : Cn), c = b.cs[k] → ∀ w', Below w.heap.size w w' → Calls Tryz.prog 53 #[.agg #[.slice (some ⟨g2, 0, none⟩) b.es.length c2], .agg #[.int .i64 c.ia, .int .i64 c.ip, .int .i64 c.oa, .int .i64 c.op, .string c.kn, .string c.he, .string c.ne]] w' fun e w'' => e = .returned (.bool (conI b.es c)) ∧ Below w'.heap.size w' w'') := fun hm k hk c hc w' h => by
    have hmem : c ∈ b.cs := by rw [hc]; exact List.getElem_mem _
    obtain ⟨y1, y2, y3⟩ := m4 c hmem
    obtain ⟨⟨v1, v2⟩, -⟩ := hcw c hmem
    exact implConn_any _ b.es c.ia c.ip c.oa c.op c.kn c.he c.ne w' hm (by omega) (by omega) (by omega) v1 v2 (OwnTab.tab (own_later o2 h)) (hv.below h) (htb.below h (Nat.le_refl _))
  have HF : Hid (∀ (c : Cn) w', Below w.heap.size w w' → Calls Tryz.prog 52 #[.slice (some ⟨g3, 0, none⟩) b.cs.length b.cs.length, .agg #[.int .i64 c.ia, .int .i64 c.ip], .agg #[.int .i64 c.oa, .int .i64 c.op]] w' fun e w'' => e = .returned (.int .i64 (findCn b.cs c.ia c.ip c.oa c.op)) ∧ Below w'.heap.size w' w'') := fun c w' h => implFindCn_any _ b.cs c.ia c.ip c.oa c.op w' (by omega) (o3.rd.below h)
  have HRow : Hid (∀ k (hk : k < b.cs.length) (c : Cn), c = b.cs[k] → ∀ w', Below w.heap.size w w' → w'.cell? ⟨g3, k * 7, none⟩ = some (.int .i64 c.ia) ∧ w'.cell? ⟨g3, k * 7 + 1, none⟩ = some (.int .i64 c.ip) ∧ w'.cell? ⟨g3, k * 7 + 2, none⟩ = some (.int .i64 c.oa) ∧ w'.cell? ⟨g3, k * 7 + 3, none⟩ = some (.int .i64 c.op) ∧ w'.cell? ⟨g3, k * 7 + 4, none⟩ = some (.string c.kn) ∧ w'.cell? ⟨g3, k * 7 + 5, none⟩ = some (.string c.he) ∧ w'.cell? ⟨g3, k * 7 + 6, none⟩ = some (.string c.ne)) := fun k hk c hc w' h => by
    obtain ⟨ax, cx, ex, -, hrow⟩ := o3.rd.below h
    simp at ex
    obtain ⟨rfl, rfl⟩ := ex
    obtain ⟨g, e, hr⟩ := hrow (by omega)
    simp at e
    subst e
    exact (RowAt.conn hr k hk c hc).1
  have HCI : Hid (mapB b.es = true → ∀ k (hk : k < b.cs.length) (c : Cn), c = b.cs[k] → connB b.es b.cs k = (decide (findCn b.cs c.ia c.ip c.oa c.op = (k : Int)) && conI b.es c)) := fun hm k hk c hc => connB_I hm hk c hc
  have HQ : Hid (boxOkB b = (mapB b.es && rulesB b.rs && decide (b.cs.length ≤ 3) && (List.range b.cs.length).all (connB b.es b.cs))) := rfl
  obtain ⟨Q, hQ⟩ : ∃ Q, Q = boxOkB b := ⟨_, rfl⟩
  obtain ⟨q1, e1⟩ : ∃ q, q = mapB b.es := ⟨_, rfl⟩
  obtain ⟨q2, e2⟩ : ∃ q, q = rulesB b.rs := ⟨_, rfl⟩
  obtain ⟨P, hP⟩ : ∃ P, P = connB b.es b.cs := ⟨_, rfl⟩
  obtain ⟨n1, hn1⟩ : ∃ n, n = b.rs.length := ⟨_, rfl⟩
  obtain ⟨n2, hn2⟩ : ∃ n, n = b.es.length := ⟨_, rfl⟩
  obtain ⟨n3, hn3⟩ : ∃ n, n = b.cs.length := ⟨_, rfl⟩
  rw [← hQ] at HQ ⊢
  rw [← e1] at HM HC HCI HQ
  rw [← e2] at HR HQ
  rw [← hP] at HCI HQ
  rw [← hn1] at KK HR hW0 ⊢
  rw [← hn2] at KK HM HC hW0 ⊢
  have HL := Lib.hid hn3
  rw [← hn3] at KK HF HQ hW0 m3 ⊢
  have BB : Hid (Below W0.heap.size W0 W0) := Below.refl _ _
  clear hQ e1 e2 hP hn1 hn2 hn3 o1 o2 o3 m1 m2 m4 K1 hA hv htb hwf hcw
  subst hW0
  cases q2
  · have hq : Q = false := by have := HQ.out; simpa using this
    subst hq
    clear HQ HC HCI HF HRow
    go_enter Tryz.func17, Tryz.ntmps17
    go_wp2_with fail
    (go_at_call 35; refine (HR.out _ (HA.out _ BB.out)).mono ?_; rintro e w1 ⟨rfl, b1⟩)
    go_wp2_with fail
    go_ret
    exact ⟨rfl, HA.out _ b1⟩
  cases q1
  · have hq : Q = false := by have := HQ.out; simpa using this
    subst hq
    clear HQ HC HCI HF HRow
    go_enter Tryz.func17, Tryz.ntmps17
    go_wp2_with fail
    (go_at_call 35; refine (HR.out _ (HA.out _ BB.out)).mono ?_; rintro e w1 ⟨rfl, b1⟩)
    obtain ⟨k0, k1, k2⟩ := KK.out _ b1
    have B1 := Lib.hid b1
    clear b1
    go_wp2_with fail
    (go_at_call 51; refine (HM.out _ (HA.out _ B1.out)).mono ?_; rintro e w2 ⟨rfl, b2⟩)
    go_wp2_with fail
    go_ret
    exact ⟨rfl, HA.out _ (B1.out.trans (b2.mono B1.out.size))⟩
  have HC2 := Lib.hid (HC.out rfl)
  have HCI2 := Lib.hid (HCI.out rfl)
  clear HC HCI
  by_cases h3 : 3 < n3
  · have hq : Q = false := by have := HQ.out; simpa [show ¬ n3 ≤ 3 by omega] using this
    subst hq
    clear HQ HC2 HCI2 HF HRow
    go_enter Tryz.func17, Tryz.ntmps17
    go_wp2_with fail
    (go_at_call 35; refine (HR.out _ (HA.out _ BB.out)).mono ?_; rintro e w1 ⟨rfl, b1⟩)
    obtain ⟨k0, k1, k2⟩ := KK.out _ b1
    have B1 := Lib.hid b1
    clear b1
    go_wp2_with fail
    (go_at_call 51; refine (HM.out _ (HA.out _ B1.out)).mono ?_; rintro e w2 ⟨rfl, b2⟩)
    have B2 := Lib.hid (B1.out.trans (b2.mono B1.out.size))
    obtain ⟨k0', k1', k2'⟩ := KK.out _ B2.out
    clear b2
    go_wp2_with fail
    go_ret
    exact ⟨rfl, HA.out _ B2.out⟩
  have HQ2 : Hid (Q = (List.range n3).all P) := by
    show Q = _
    have := HQ.out
    rw [decide_eq_true (by omega : n3 ≤ 3)] at this
    simpa using this
  clear HQ
  go_enter Tryz.func17, Tryz.ntmps17
  go_wp2_with fail
  (go_at_call 35; refine (HR.out _ (HA.out _ BB.out)).mono ?_; rintro e w1 ⟨rfl, b1⟩)
  obtain ⟨k0, k1, k2⟩ := KK.out _ b1
  have B1 := Lib.hid b1
  clear b1
  go_wp2_with fail
  (go_at_call 51; refine (HM.out _ (HA.out _ B1.out)).mono ?_; rintro e w2 ⟨rfl, b2⟩)
  have B2 := Lib.hid (B1.out.trans (b2.mono B1.out.size))
  obtain ⟨k0', k1', k2'⟩ := KK.out _ B2.out
  clear b2 k0 k1 k2
  go_wp2_with fail
  clear k0' k1' k2'
  go_loopw [3, 24] (fun _ i wr => ∃ k : Nat, k ≤ n3 ∧ i = .int .i64 k ∧ Hid (∀ j, j < k → P j = true) ∧ Hid (Below (w.alloc (.cells #[.slice (some ⟨g1, 0, none⟩) n1 n1, .slice (some ⟨g2, 0, none⟩) n2 c2, .slice (some ⟨g3, 0, none⟩) n3 n3] 31)).heap.size (w.alloc (.cells #[.slice (some ⟨g1, 0, none⟩) n1 n1, .slice (some ⟨g2, 0, none⟩) n2 c2, .slice (some ⟨g3, 0, none⟩) n3 n3] 31)) wr)) (fun _ i _ => n3 - (intOf i).toNat)
  case atStart => exact ⟨0, Nat.zero_le _, rfl, fun j hj => by omega, B2⟩
  case round =>
    obtain ⟨k, hk, rfl, HD, HB⟩ := hrel
    obtain ⟨k0, k1, k2⟩ := KK.out _ HB.out
    by_cases hlt : k < n3
    · have hlt2 : k < b.cs.length := by have := HL.out; omega
      obtain ⟨⟨ia, ip, oa, op, kn, he, ne⟩, hc⟩ : ∃ c, c = b.cs[k] := ⟨_, rfl⟩
      have CC : Hid (∀ w', Below w.heap.size w w' → Calls Tryz.prog 53 #[.agg #[.slice (some ⟨g2, 0, none⟩) n2 c2], .agg #[.int .i64 ia, .int .i64 ip, .int .i64 oa, .int .i64 op, .string kn, .string he, .string ne]] w' fun e w'' => e = .returned (.bool (conI b.es ⟨ia, ip, oa, op, kn, he, ne⟩)) ∧ Below w'.heap.size w' w'') := HC2.out k hlt2 _ hc
      have CF : Hid (∀ w', Below w.heap.size w w' → Calls Tryz.prog 52 #[.slice (some ⟨g3, 0, none⟩) n3 n3, .agg #[.int .i64 ia, .int .i64 ip], .agg #[.int .i64 oa, .int .i64 op]] w' fun e w'' => e = .returned (.int .i64 (findCn b.cs ia ip oa op)) ∧ Below w'.heap.size w' w'') := HF.out ⟨ia, ip, oa, op, kn, he, ne⟩
      have CI : Hid (P k = (decide (findCn b.cs ia ip oa op = (k : Int)) && conI b.es ⟨ia, ip, oa, op, kn, he, ne⟩)) := HCI2.out k hlt2 _ hc
      obtain ⟨y0, y1, y2, y3, y4, y5, y6⟩ := HRow.out k hlt2 _ hc wr (HA.out _ HB.out)
      simp only at y0 y1 y2 y3 y4 y5 y6
      obtain ⟨f, hf⟩ : ∃ z, z = findCn b.cs ia ip oa op := ⟨_, rfl⟩
      obtain ⟨q, hq⟩ : ∃ z, z = conI b.es ⟨ia, ip, oa, op, kn, he, ne⟩ := ⟨_, rfl⟩
      rw [← hf] at CF CI
      rw [← hq] at CC CI
      clear hc HC2 HF HCI2 hf hq HRow
      have hsw : w.heap.size < wr.heap.size := by have := HB.out.size; simp at this; omega
      have kA : ∀ o, (wr.alloc o).cell? ⟨w.heap.size, 2, none⟩ = some (.slice (some ⟨g3, 0, none⟩) n3 n3) := fun o => (cell_alloc_lt hsw).trans k2
      have kB : ∀ o, (wr.alloc o).cell? ⟨w.heap.size, 1, none⟩ = some (.slice (some ⟨g2, 0, none⟩) n2 c2) := fun o => (cell_alloc_lt hsw).trans k1
      have AA : Hid (∀ o, Below w.heap.size w (wr.alloc o)) := fun o => (HA.out _ HB.out).alloc (by omega) o
      have LL : Hid (∀ w', Below (wr.alloc (.cells #[.int .i64 ia, .int .i64 ip, .int .i64 oa, .int .i64 op, .string kn, .string he, .string ne] 90)).heap.size (wr.alloc (.cells #[.int .i64 ia, .int .i64 ip, .int .i64 oa, .int .i64 op, .string kn, .string he, .string ne] 90)) w' → (w'.cell? ⟨wr.heap.size, 0, none⟩ = some (.int .i64 ia) ∧ w'.cell? ⟨wr.heap.size, 1, none⟩ = some (.int .i64 ip) ∧ w'.cell? ⟨wr.heap.size, 2, none⟩ = some (.int .i64 oa) ∧ w'.cell? ⟨wr.heap.size, 3, none⟩ = some (.int .i64 op) ∧ w'.cell? ⟨wr.heap.size, 4, none⟩ = some (.string kn) ∧ w'.cell? ⟨wr.heap.size, 5, none⟩ = some (.string he) ∧ w'.cell? ⟨wr.heap.size, 6, none⟩ = some (.string ne)) ∧ w'.cell? ⟨w.heap.size, 1, none⟩ = some (.slice (some ⟨g2, 0, none⟩) n2 c2) ∧ Hid (Below (w.alloc (.cells #[.slice (some ⟨g1, 0, none⟩) n1 n1, .slice (some ⟨g2, 0, none⟩) n2 c2, .slice (some ⟨g3, 0, none⟩) n3 n3] 31)).heap.size (w.alloc (.cells #[.slice (some ⟨g1, 0, none⟩) n1 n1, .slice (some ⟨g2, 0, none⟩) n2 c2, .slice (some ⟨g3, 0, none⟩) n3 n3] 31)) w')) := fun w' h =>
        ⟨seven_cells ((show Blk (wr.alloc (.cells #[.int .i64 ia, .int .i64 ip, .int .i64 oa, .int .i64 op, .string kn, .string he, .string ne] 90)) wr.heap.size _ _ from heap_last3 wr _).below h), (h.cell (p := ⟨w.heap.size, 1, none⟩) (by simp; omega)).trans (kB _), (HB.out.alloc HB.out.size _).trans (h.mono (HB.out.alloc HB.out.size _).size)⟩
      by_cases hfk : f = (k : Int)
      rotate_left
      · have HF0 : Hid (Q = false) := HQ2.out.trans (all_no hlt (CI.out.trans (by rw [decide_eq_false hfk]; rfl)))
        clear CI HQ2 HD
        go_wp2_with fail
        (go_at_call 52; refine (CF.out _ (AA.out _)).mono ?_; rintro e w3 ⟨rfl, b3⟩)
        obtain ⟨⟨z0, z1, z2, z3, z4, z5, z6⟩, x1, HB3⟩ := LL.out _ b3
        clear b3 y0 y1 y2 y3 y4 y5 y6
        go_wp2_with fail
        go_ret
        exact ⟨ret_bool HF0.out.symm, HA.out _ HB3.out⟩
      subst hfk
      cases q
      · have HF0 : Hid (Q = false) := HQ2.out.trans (all_no hlt (CI.out.trans (by simp)))
        clear CI HQ2 HD
        go_wp2_with fail
        (go_at_call 52; refine (CF.out _ (AA.out _)).mono ?_; rintro e w3 ⟨rfl, b3⟩)
        obtain ⟨⟨z0, z1, z2, z3, z4, z5, z6⟩, x1, HB3⟩ := LL.out _ b3
        clear b3 y0 y1 y2 y3 y4 y5 y6
        go_wp2_with fail
        (go_at_call 53; refine (CC.out _ (HA.out _ HB3.out)).mono ?_; rintro e w4 ⟨rfl, b4⟩)
        have HB4 := Lib.hid (HB3.out.trans (b4.mono HB3.out.size))
        clear b4
        go_wp2_with fail
        go_ret
        exact ⟨ret_bool HF0.out.symm, HA.out _ HB4.out⟩
      · have HN : Hid (∀ j, j < k + 1 → P j = true) := fun j hj => by
          by_cases e : j = k
          · subst e; exact CI.out.trans (by simp)
          · exact HD.out j (by omega)
        clear CI HQ2 HD
        go_wp2_with fail
        (go_at_call 52; refine (CF.out _ (AA.out _)).mono ?_; rintro e w3 ⟨rfl, b3⟩)
        obtain ⟨⟨z0, z1, z2, z3, z4, z5, z6⟩, x1, HB3⟩ := LL.out _ b3
        clear b3 y0 y1 y2 y3 y4 y5 y6
        go_wp2_with fail
        (go_at_call 53; refine (CC.out _ (HA.out _ HB3.out)).mono ?_; rintro e w4 ⟨rfl, b4⟩)
        have HB4 := Lib.hid (HB3.out.trans (b4.mono HB3.out.size))
        clear b4
        go_wp2_with fail
        go_roundw
        case rel => exact ⟨k + 1, by omega, by go_num, HN, HB4⟩
        case measure => simp [intOf]; omega
    · have HT : Hid (Q = true) := HQ2.out.trans (all_yes fun j hj => HD.out j (by omega))
      have hkn : k = n3 := by omega
      clear HQ2 HD
      go_wp2
      go_ret
      exact ⟨ret_bool HT.out.symm, HA.out _ HB.out⟩

end Go.Proofs.YtoimjpkgkcomnaaGreatDoor

/- The law of BoxOk. Conditions: the argument's lists lie in the machine's memory, at any address; the variables that are read hold what they are laid with. -/
namespace Go.Proofs.YtoimjpkgkcomnaaGreatDoor
open Go.RowKit Go.Sort

theorem ArgBx.form {w : World} {v : Value} {b : Bx} (h : ArgBx w v b) : ∃ a1 k1 a2 k2 a3 k3, v = .agg #[.slice a1 b.rs.length k1, .slice a2 b.es.length k2, .slice a3 b.cs.length k3] := by
  obtain ⟨r, t, c, rfl, ⟨a1, k1, rfl, -⟩, ⟨a2, k2, rfl, -⟩, ⟨a3, k3, rfl, -⟩⟩ := h
  exact ⟨a1, k1, a2, k2, a3, k3, rfl⟩
/-- A box becomes the program's, in blocks of its own. -/
theorem toBox_form (v : Value) (b : Bx) (w : World) (hs : bxSz b) (hv : ArgBx w v b) :
    Calls Tryz.prog 16 #[v] w fun e w' => ∃ g1 g2 c2 g3, e = .returned (.agg #[.slice (some ⟨g1, 0, none⟩) b.rs.length b.rs.length, .slice (some ⟨g2, 0, none⟩) b.es.length c2, .slice (some ⟨g3, 0, none⟩) b.cs.length b.cs.length]) ∧ OwnBx w' w.heap.size (.agg #[.slice (some ⟨g1, 0, none⟩) b.rs.length b.rs.length, .slice (some ⟨g2, 0, none⟩) b.es.length c2, .slice (some ⟨g3, 0, none⟩) b.cs.length b.cs.length]) b ∧ Below w.heap.size w w' := by
  refine (toBox_any v b w hs hv).mono ?_
  rintro e w' ⟨u, rfl, ho, hb⟩
  obtain ⟨g1, g2, c2, g3, rfl, -⟩ := id ho
  exact ⟨g1, g2, c2, g3, rfl, ho, hb⟩

set_option maxRecDepth 100000 in
set_option maxHeartbeats 3200000 in
theorem lawBoxOk_any (v : Value) (b : Bx) (w : World) (hv : ArgBx w v b) (hm : bxMax b) (hvars : VarsOk w) (htb : TabOk w) :
    Calls Tryz.prog 4 #[v] w fun e w' => e = .returned (.bool true) ∧ Below w.heap.size w w' := by
  obtain ⟨a1, k1, a2, k2, a3, k3, rfl⟩ := hv.form
  obtain ⟨v0, hv0⟩ : ∃ v : Value, v = .agg #[.slice a1 b.rs.length k1, .slice a2 b.es.length k2, .slice a3 b.cs.length k3] := ⟨_, rfl⟩
  obtain ⟨W0, hW0⟩ : ∃ W, W = w.alloc (.cells #[.slice a1 b.rs.length k1, .slice a2 b.es.length k2, .slice a3 b.cs.length k3] 47) := ⟨_, rfl⟩
  have hA : Below w.heap.size w W0 := by rw [hW0]; exact (Below.refl _ _).alloc (Nat.le_refl _) _
  have hz : w.heap.size < W0.heap.size := by rw [hW0]; simp
  have K1 : Blk W0 w.heap.size 47 [.slice a1 b.rs.length k1, .slice a2 b.es.length k2, .slice a3 b.cs.length k3] := by rw [hW0]; exact three_new w _ _ _ _
  have KK : Hid (∀ w', Below W0.heap.size W0 w' → (w'.cell? ⟨w.heap.size, 0, none⟩ = some (.slice a1 b.rs.length k1) ∧ w'.cell? ⟨w.heap.size, 1, none⟩ = some (.slice a2 b.es.length k2) ∧ w'.cell? ⟨w.heap.size, 2, none⟩ = some (.slice a3 b.cs.length k3)) ∧ ArgBx w' (.agg #[.slice a1 b.rs.length k1, .slice a2 b.es.length k2, .slice a3 b.cs.length k3]) b ∧ Below w.heap.size w w' ∧ VarsOk w' ∧ TabOk w') := fun w' h =>
    have hb := hA.trans (h.mono hA.size)
    ⟨(three_all (K1.below h)).1, hv.below hb, hb, hvars.below hb, htb.below hb (Nat.le_refl _)⟩
  have HZ : Hid (∀ w', ArgBx w' (.agg #[.slice a1 b.rs.length k1, .slice a2 b.es.length k2, .slice a3 b.cs.length k3]) b → Calls Tryz.prog 14 #[.agg #[.slice a1 b.rs.length k1, .slice a2 b.es.length k2, .slice a3 b.cs.length k3], .int .i64 1048576] w' fun e w'' => ∃ z : Int, e = .returned (.int .i64 z) ∧ (z = -1 ∨ (0 ≤ z ∧ z ≤ 1048576 ∧ bxSz b)) ∧ Below w'.heap.size w' w'') := fun w' h => szBox_any _ b w' h hm
  have hwf : Hid (wfE b.es ∧ cnWf b.cs) := ⟨hm.2.2.2.2.1, hm.2.2.2.2.2⟩
  have BB : Hid (Below W0.heap.size W0 W0) := Below.refl _ _
  clear hv0 hA K1 hvars htb hv hm
  subst hW0
  go_enter Tryz.func4, Tryz.ntmps4
  go_wp2_with fail
  (go_at_call 14; refine (HZ.out _ (KK.out _ BB.out).2.1).mono ?_; rintro e w1 ⟨z, rfl, hz1, b1⟩)
  have C1 := Lib.hid b1
  clear b1 BB HZ
  obtain ⟨⟨x0, x1, x2⟩, -, bw1, -⟩ := KK.out _ C1.out
  rcases hz1 with rfl | ⟨hz1, -, hs⟩
  · go_wp2_with fail
    go_ret
    exact ⟨rfl, bw1⟩
  have hz2 : ¬ z < 0 := by omega
  have S := Lib.hid hs
  obtain ⟨q, hq⟩ : ∃ q, q = boxOkB b := ⟨_, rfl⟩
  have HT : Hid (∀ w', ArgBx w' (.agg #[.slice a1 b.rs.length k1, .slice a2 b.es.length k2, .slice a3 b.cs.length k3]) b → Calls Tryz.prog 16 #[.agg #[.slice a1 b.rs.length k1, .slice a2 b.es.length k2, .slice a3 b.cs.length k3]] w' fun e w'' => ∃ g1 g2 c2 g3, e = .returned (.agg #[.slice (some ⟨g1, 0, none⟩) b.rs.length b.rs.length, .slice (some ⟨g2, 0, none⟩) b.es.length c2, .slice (some ⟨g3, 0, none⟩) b.cs.length b.cs.length]) ∧ OwnBx w'' w'.heap.size (.agg #[.slice (some ⟨g1, 0, none⟩) b.rs.length b.rs.length, .slice (some ⟨g2, 0, none⟩) b.es.length c2, .slice (some ⟨g3, 0, none⟩) b.cs.length b.cs.length]) b ∧ Below w'.heap.size w' w'') := fun w' h => toBox_form _ b w' hs h
  have HM : Hid (∀ B u w', B ≤ w'.heap.size → OwnBx w' B u b → Calls Tryz.prog 15 #[u] w' fun e w'' => e = .returned (.bool q) ∧ Below w'.heap.size w' w'') := fun B u w' hB h => by rw [hq]; exact specBoxOk_any B u b w' hs hB h
  have HI : Hid (∀ B u w', OwnBx w' B u b → VarsOk w' → TabOk w' → Calls Tryz.prog 17 #[u] w' fun e w'' => e = .returned (.bool q) ∧ Below w'.heap.size w' w'') := fun B u w' h h1 h2 => by rw [hq]; exact implBoxOk_any B u b w' hs hwf.out.1 hwf.out.2 h h1 h2
  have HE : Hid (∀ u1 u2 w', RdBx w' u1 b → RdBx w' u2 b → Calls Tryz.prog 18 #[u1, u2] w' fun e w'' => e = .returned (.bool true) ∧ Below w'.heap.size w' w'') := fun u1 u2 w' h1 h2 => eqBox_same u1 u2 b w' (by have := hs.1; omega) (by have := hs.2.1; omega) (by have := hs.2.2.1; omega) h1 h2
  clear hq hs hwf hz1
  go_wp2_with fail
  clear x0 x1 x2
  (go_at_call 16; refine (HT.out _ (KK.out _ C1.out).2.1).mono ?_; rintro e w2 ⟨g1, g2, c2, g3, rfl, o2, b2⟩)
  have C2 := Lib.hid (C1.out.trans (b2.mono C1.out.size))
  have z12 := b2.size
  have O2 := Lib.hid o2
  obtain ⟨⟨x0, x1, x2⟩, -⟩ := KK.out _ C2.out
  clear b2 o2
  go_wp2_with fail
  clear x0 x1 x2
  (go_at_call 15; refine (HM.out _ _ _ z12 O2.out).mono ?_; rintro e w3 ⟨rfl, b3⟩)
  have C3 := Lib.hid (C2.out.trans (b3.mono C2.out.size))
  obtain ⟨⟨x0, x1, x2⟩, -⟩ := KK.out _ C3.out
  clear b3 O2
  go_wp2_with fail
  clear x0 x1 x2
  (go_at_call 16; refine (HT.out _ (KK.out _ C3.out).2.1).mono ?_; rintro e w4 ⟨h1, h2, d2, h3, rfl, o4, b4⟩)
  have C4 := Lib.hid (C3.out.trans (b4.mono C3.out.size))
  have O4 := Lib.hid o4
  obtain ⟨⟨x0, x1, x2⟩, -⟩ := KK.out _ C4.out
  clear b4 o4
  have D4 : Hid (Below w4.heap.size w4 (w4.alloc (.cells #[.slice (some ⟨h1, 0, none⟩) b.rs.length b.rs.length, .slice (some ⟨h2, 0, none⟩) b.es.length d2, .slice (some ⟨h3, 0, none⟩) b.cs.length b.cs.length] 31))) := (Below.refl _ _).alloc (Nat.le_refl _) _
  have E4 := Lib.hid (C4.out.trans (D4.out.mono C4.out.size))
  have P4 := Lib.hid (O4.out.later D4.out)
  have L4 : Hid (∀ w', Below (w4.alloc (.cells #[.slice (some ⟨h1, 0, none⟩) b.rs.length b.rs.length, .slice (some ⟨h2, 0, none⟩) b.es.length d2, .slice (some ⟨h3, 0, none⟩) b.cs.length b.cs.length] 31)).heap.size (w4.alloc (.cells #[.slice (some ⟨h1, 0, none⟩) b.rs.length b.rs.length, .slice (some ⟨h2, 0, none⟩) b.es.length d2, .slice (some ⟨h3, 0, none⟩) b.cs.length b.cs.length] 31)) w' → (w'.cell? ⟨w4.heap.size, 0, none⟩ = some (.slice (some ⟨h1, 0, none⟩) b.rs.length b.rs.length) ∧ w'.cell? ⟨w4.heap.size, 1, none⟩ = some (.slice (some ⟨h2, 0, none⟩) b.es.length d2) ∧ w'.cell? ⟨w4.heap.size, 2, none⟩ = some (.slice (some ⟨h3, 0, none⟩) b.cs.length b.cs.length)) ∧ RdBx w' (.agg #[.slice (some ⟨h1, 0, none⟩) b.rs.length b.rs.length, .slice (some ⟨h2, 0, none⟩) b.es.length d2, .slice (some ⟨h3, 0, none⟩) b.cs.length b.cs.length]) b) := fun w' h =>
    ⟨(three_all ((three_new w4 _ _ _ _).below h)).1, P4.out.rd.below h⟩
  go_wp2_with fail
  clear x0 x1 x2
  (go_at_call 17; refine (HI.out _ _ _ P4.out (KK.out _ E4.out).2.2.2.1 (KK.out _ E4.out).2.2.2.2).mono ?_; rintro e w5 ⟨rfl, b5⟩)
  have C5 := Lib.hid (E4.out.trans (b5.mono E4.out.size))
  have F5 : Hid (∀ w', Below w5.heap.size w5 w' → (w'.cell? ⟨w4.heap.size, 0, none⟩ = some (.slice (some ⟨h1, 0, none⟩) b.rs.length b.rs.length) ∧ w'.cell? ⟨w4.heap.size, 1, none⟩ = some (.slice (some ⟨h2, 0, none⟩) b.es.length d2) ∧ w'.cell? ⟨w4.heap.size, 2, none⟩ = some (.slice (some ⟨h3, 0, none⟩) b.cs.length b.cs.length)) ∧ RdBx w' (.agg #[.slice (some ⟨h1, 0, none⟩) b.rs.length b.rs.length, .slice (some ⟨h2, 0, none⟩) b.es.length d2, .slice (some ⟨h3, 0, none⟩) b.cs.length b.cs.length]) b) := fun w' h => L4.out w' (b5.trans (h.mono b5.size))
  have G5 : Hid (∀ w', Below w5.heap.size w5 w' → (w'.cell? ⟨w.heap.size, 0, none⟩ = some (.slice a1 b.rs.length k1) ∧ w'.cell? ⟨w.heap.size, 1, none⟩ = some (.slice a2 b.es.length k2) ∧ w'.cell? ⟨w.heap.size, 2, none⟩ = some (.slice a3 b.cs.length k3)) ∧ ArgBx w' (.agg #[.slice a1 b.rs.length k1, .slice a2 b.es.length k2, .slice a3 b.cs.length k3]) b ∧ Below w.heap.size w w') := fun w' h =>
    have k := KK.out w' (C5.out.trans (h.mono C5.out.size))
    ⟨k.1, k.2.1, k.2.2.1⟩
  have Z5 : Hid (Below w5.heap.size w5 w5) := Below.refl _ _
  obtain ⟨⟨x0, x1, x2⟩, -⟩ := G5.out _ Z5.out
  obtain ⟨⟨y0, y1, y2⟩, -⟩ := F5.out _ Z5.out
  clear b5 L4 E4 C4 C3 C2 C1 P4 D4 O4 KK HM HI C5
  go_wp2_with fail
  go_region_with (first
    | (go_at_call 16; refine (HT.out _ (G5.out _ ((Below.refl _ _).drew)).2.1).mono ?_; rintro e w6 ⟨i1, i2, j2, i3, rfl, o6, b6⟩; have R6 := Lib.hid o6.rd; have d6 : Below w5.heap.size w5 w6 := ((Below.refl _ _).drew).trans b6; obtain ⟨⟨p0, p1, p2⟩, -, bw6⟩ := G5.out _ d6; obtain ⟨⟨q0, q1, q2⟩, S6⟩ := F5.out _ d6; have S6 := Lib.hid S6; clear o6 b6)
    | (go_at_call 18; refine (HE.out _ _ _ S6.out R6.out).mono ?_; rintro e w7 ⟨rfl, b7⟩; have bw7 := (G5.out _ (d6.trans (b7.mono d6.size))).2.2))
  all_goals
    go_wp2
    go_ret
    exact ⟨rfl, bw7⟩

end Go.Proofs.YtoimjpkgkcomnaaGreatDoor

/- A call that starts no goroutine, in a program that has some: from its row of one goroutine to the row that says 'leaving', and the tied card of such a row. No condition. -/
namespace Go.Proofs.YtoimjpkgkcomnaaGreatDoor
open Go

theorem leaving_of_handed {a : Assume} {C : Checked} {os : Os} {f : FuncId} {r : Reach} {Pre : World → Array Value → Prop} {Post : World → Array Value → Value → World → Prop} (h : ReturnsInHanded a C os f r Pre Post) : ReturnsInLeavingWide a C os f r Pre Post := fun enter => by
  obtain ⟨h0, h1, h2, h3, h4⟩ := h enter
  refine ⟨h0, h1, h2, h3, fun w tape i hf => ?_⟩
  obtain ⟨n, v, w', hn, hc, hr, hp, ⟨j, last, hj, hs, hq, hh, he⟩, ha⟩ := h4 w tape i hf
  exact ⟨n, v, w', hn, hc, hr, hp, ⟨j, last, hj, hs, hh, onlyLeaving_of_quiet hq, he⟩, ha⟩

theorem card_goes {p : Pinned} {s : OpenSpec} {c : OpenClaim} (kinds : List LaidKind) (har : Bool × String) (lk : Bool) (hc : c.holds p s) (hw : c.wfByText s = true) (htie : c.laidByTextAt .later p kinds true) (hst : c.start = .entering) (hnb : c.noBlocks = false ∧ c.again = false)
    (hm : p.checked.prog.mainIs = some (har.1, har.2.toList)) (hn : (!har.1 && har.2.isEmpty && !lk) = false)
    (hl : ∀ f fn, p.checked.prog.funcNamed c.func = some f → p.checked.prog.funcs[f]? = some fn → lk = p.checked.prog.looks [] ∧ ∀ (j : Nat) t, fn.params[j]? = some t → p.checked.prog.wantsStandIn t = false) (hg : true = c.goesBy p.checked.prog) :
    Claim7.holds p (.plain s) { stood := { row := c, standIns := [], harness := har, looks := lk }, kinds := [], alts := [], goes := true, laidByText := true, laidKinds := kinds, laidTests := true, laidLooks := .later } := by
  have h6 : Claim7.isSixth { stood := { row := c, standIns := [], harness := har, looks := lk }, kinds := [] } = false := by simpa [Claim7.isSixth] using hn
  exact ⟨Claim7.tied_new_at .later kinds true (Claim7.new_of_sixth hc har lk hst hnb hm h6 hl) hw, fun D hD => (by cases hD), htie, (fun h => by cases h), hg⟩

end Go.Proofs.YtoimjpkgkcomnaaGreatDoor

/- BoxOk of the program answers as BoxOk of the specification, at every argument; the argument stays as it was. The card: the variables that are read are tied to the program's text. No condition beside what the law sets aside and the card says. -/
namespace Go.Proofs.YtoimjpkgkcomnaaGreatDoor
open Go.ChangeShapes Go.WideShapes Go.ChangeAt Go.RowKit Go.Joins Go.WideMaps Go.WideElems
open Go.ChangeMaps (open_string shut_string)

theorem laidOutBoxOk : laidOutB Tryz.prog = true := by kernel_rfl

theorem ownBoxOk : ownKnob Tryz.prog.godebug = none := by kernel_rfl
theorem starErr : "*errors.errorString" = "*" ++ "errors.errorString" := by decide
theorem rowErr (u : TypeId) (h : Tryz.prog.typeName? 3 u = some "*errors.errorString") : u = 251 :=
  typeName_ptr_named (nm := "errors.errorString") (by rw [← starErr]; kernel_rfl) (by kernel_rfl) (by decide) u (by rw [← starErr]; exact h)

/-- What the row's list gives a walk. -/
theorem vars_of_laid {W : World} (h : laidMetH Tryz.prog Rows.fnExactBoxOkRow.laid W) :
    VarsOk W ∧ (∃ t a, W.var? Tryz.prog "loop.example/hatchway/impl.errNoEnd" = some #[.iface t (.pointer (some a))]) ∧ (∃ t a, W.var? Tryz.prog "loop.example/hatchway/impl.errNoNumber" = some #[.iface t (.pointer (some a))]) := by
  rw [MakeChecks.laidMetH_plain _ _ _ (by kernel_rfl)] at h
  have h3 := laidMet.tail (laidMet.tail h)
  have ht : laidMet Tryz.prog (("internal/strconv.uint64pow10", Lib.tabData .u64 Lib.pow10Tab) :: _) W := h3
  have tab : TabOk W := Lib.tabIs_of_head (g := 0) (t := 224) (e := 213) (n := 20) (by kernel_rfl) (by kernel_rfl) Tryz.underlying224 Tryz.underlying213 (by kernel_rfl) (by kernel_rfl) ht
  have h4 := laidMet.tail h3
  obtain ⟨a1, _, v1, _⟩ := laid_sentinel (g := 7) (tp := 251) (te := 253) (ts := 9) h4 (by kernel_rfl) (by kernel_rfl) Tryz.underlying181 rowErr Tryz.underlying251 Tryz.underlying253 rfl rfl Tryz.underlying9 (by kernel_rfl) (by kernel_rfl)
  have h5 := laidMet.tail h4
  obtain ⟨a2, _, v2, _⟩ := laid_sentinel (g := 6) (tp := 251) (te := 253) (ts := 9) h5 (by kernel_rfl) (by kernel_rfl) Tryz.underlying181 rowErr Tryz.underlying251 Tryz.underlying253 rfl rfl Tryz.underlying9 (by kernel_rfl) (by kernel_rfl)
  have h6 := laidMet.tail h5
  obtain ⟨a3, _, v3, _⟩ := laid_sentinel (g := 5) (tp := 251) (te := 253) (ts := 9) h6 (by kernel_rfl) (by kernel_rfl) Tryz.underlying181 rowErr Tryz.underlying251 Tryz.underlying253 rfl rfl Tryz.underlying9 (by kernel_rfl) (by kernel_rfl)
  have h7 := laidMet.tail h6
  obtain ⟨a4, _, v4, _⟩ := laid_sentinel (g := 2) (tp := 251) (te := 253) (ts := 9) h7 (by kernel_rfl) (by kernel_rfl) Tryz.underlying181 rowErr Tryz.underlying251 Tryz.underlying253 rfl rfl Tryz.underlying9 (by kernel_rfl) (by kernel_rfl)
  have c3 := World.var?_cell (g := 5) (by kernel_rfl) v3 0
  have c4 := World.var?_cell (g := 2) (by kernel_rfl) v4 0
  exact ⟨⟨tab, ⟨_, _, v2⟩, ⟨_, _, v1⟩, ⟨_, _, by simpa using c3⟩, ⟨_, _, by simpa using c4⟩⟩, ⟨_, _, v4⟩, ⟨_, _, v3⟩⟩

/-- The two variables of the program's, read as tokens. -/
theorem vars_read {H : Type} (enc : TypeId × Value → H) {W : World} {x0 x1 : Value} (h0 : W.var? Tryz.prog "loop.example/hatchway/impl.errNoEnd" = some #[x0]) (h1 : W.var? Tryz.prog "loop.example/hatchway/impl.errNoNumber" = some #[x1]) (i0 : IsIface x0) (i1 : IsIface x1) (sp : Nat → Bool) :
    DataW.TrodVars enc Tryz.prog W sp ["loop.example/hatchway/impl.errNoEnd", "loop.example/hatchway/impl.errNoNumber"] [tok enc x0, tok enc x1] [.cell 2 0, .cell 5 0] :=
  vars_read2 enc (g0 := 2) (g1 := 5) (by kernel_rfl) (by kernel_rfl) Tryz.underlying181 h0 i0 (by kernel_rfl) (by kernel_rfl) Tryz.underlying181 h1 i1 sp

/-- The heap that the variables' own initialisers leave meets the condition. -/
theorem doorBoxOk (os : Os) (args : Array Value) : laidMetH Tryz.prog Rows.fnExactBoxOkRow.laid ((World.doorLaid Tryz.prog 400 os).forCall (fun _ _ => 0) ⟨#[], args, []⟩).memory :=
  laidMetH_of_parts3 (fuel := 8) (laidMet_of_run' 8 (by kernel_rfl) (by kernel_rfl)) (by kernel_rfl) (by kernel_rfl)

set_option maxRecDepth 100000 in
theorem liftedBoxOk (os : Os) (started : os.Started) (H : Type) (enc : TypeId × Value → H) :
    ReturnsInHanded {} Tryz.checked os 4 .any (fun w args => (Rows.fnExactBoxOkSpec.pre enc Tryz.prog Tryz.f4 [] false w args ∧ laidMetH Tryz.prog Rows.fnExactBoxOkRow.laid w) ∧ sizedMet enc Tryz.prog Tryz.f4 (OpenSpec.ofChange Rows.fnExactBoxOkSpec) false w args)
      (Rows.fnExactBoxOkSpec.post enc Tryz.prog Tryz.f4 false true false false) := by
  refine returnsInHanded_of_change_and (C := Tryz.checked) (X := fun w _ => laidMetH Tryz.prog Rows.fnExactBoxOkRow.laid w) (fun _ _ _ hh h => h.of_heap hh) ownBoxOk started (by kernel_rfl) Tryz.func4
    (ChangeSpec.witness_shaped (enc := enc) (C := Tryz.checked) (os := os) (X := fun w _ => laidMetH Tryz.prog Rows.fnExactBoxOkRow.laid w) false (World.doorLaid Tryz.prog 400 os) #[.agg #[.slice none 0 0, .slice none 0 0, .slice none 0 0]] 8 rfl (World.shaped_of_RefB (by kernel_rfl) (by kernel_rfl)) (by kernel_rfl) (by kernel_rfl) (by kernel_rfl) (doorBoxOk os _)) ?_
  intro W base args ds gs before hval0 hW _ _ hL _
  have hval : ∀ (j : Nat) t v, Tryz.f4.params[j]? = some t → args[j]? = some v → Value.okWide Tryz.prog W .any base t v := hval0
  have hW' := hW
  obtain ⟨p, q, hA0, hV0, rfl, _, _⟩ := hW
  have hA : DataW.TrodAll enc Tryz.prog W 0 (fun _ => true) true Tryz.f4.params.toList args.toList ds p := hA0
  have hV : DataW.TrodVars enc Tryz.prog W (fun _ => true) ["loop.example/hatchway/impl.errNoEnd", "loop.example/hatchway/impl.errNoNumber"] gs q := hV0
  rw [Tryz.params4] at hA hval
  obtain ⟨v0, vs0, d0, ds0, p0, q0, hargs, rfl, rfl, h0, r0⟩ := trodAll_cons hA
  obtain ⟨rfl, rfl, rfl⟩ := trodAll_nil r0
  obtain rfl : args = #[v0] := by cases args; simp_all
  have k0 := h0
  have lt0 : ∀ x ∈ p0, x.block < W.heap.size := by obtain ⟨m, hm⟩ := k0; exact DataW.trod_lt m _ _ _ hm
  obtain ⟨bx, hb0, hm0⟩ := box_in (hval 0 47 v0 rfl rfl) h0
  obtain ⟨hok, ⟨t4, a4, hv4⟩, ⟨t3, a3, hv3⟩⟩ := vars_of_laid hL
  obtain ⟨rfl, rfl⟩ := hV.unique (vars_read enc hv4 hv3 trivial trivial _)
  clear hA0 hV0 hval0
  have key := lawBoxOk_any v0 bx W hb0 hm0 hok hok.1
  refine key.mono fun e W' ⟨he, bel⟩ => ?_
  subst he
  exact ⟨_, rfl, _, _, _, [], _, [.cell 2 0, .cell 5 0], hW', trodAll_mk1 (shut_bool Tryz.underlying4 true), (trodAll_cons_mk (Below.trod laidOutBoxOk (by kernel_rfl) (of_decide_eq_true (by kernel_rfl)) k0 bel lt0) trodAll_mk0),
    vars_read enc (var_stays (g := 2) (by kernel_rfl) hv4 bel (Nat.le_refl _)) (var_stays (g := 5) (by kernel_rfl) hv3 bel (Nat.le_refl _)) trivial trivial _, bel.frame _, fun h => by cases h⟩

theorem fnExactBoxOk_row : Rows.FnExactBoxOkSaid :=
  OpenClaim.holds_of_wide_leaving 4 Tryz.f4 rfl rfl rfl rfl rfl rfl rfl ⟨rfl, rfl, rfl, rfl, rfl⟩ rfl rfl rfl rfl rfl (by kernel_rfl) Tryz.func4 (by kernel_rfl)
    (of_decide_eq_true (by kernel_rfl)) (by unfold Func.isWrapper; rw [if_neg (of_decide_eq_false (by kernel_rfl))]; exact ⟨rfl, rfl⟩)
    (fun os started H enc _ => leaving_of_handed (liftedBoxOk os started H enc))

theorem fnExactBoxOk_holds : Rows.FnExactBoxOkCardSaid :=
  card_goes Rows.fnExactBoxOkCard.laidKinds Rows.fnExactBoxOkCard.stood.harness true
    fnExactBoxOk_row (by kernel_rfl) fnExactBoxOk_row_tie rfl ⟨rfl, rfl⟩ (by kernel_rfl) rfl
    (fun f fn hf hfn => by
      obtain rfl : f = 4 := Option.some.inj ((show Tryz.prog.funcNamed "loop.example/hatchway/laws.FnExactBoxOk" = some 4 by kernel_rfl).symm.trans hf) |>.symm
      obtain rfl : fn = Tryz.f4 := (Option.some.inj (Tryz.func4.symm.trans hfn)).symm
      exact ⟨by kernel_rfl, fun j t ht => by
        rw [Tryz.params4] at ht
        have hm : t ∈ [47] := by
          have := Array.mem_of_getElem? ht
          simpa using this
        have hall : ([47].all fun u => !Tryz.prog.wantsStandIn u) = true := by kernel_rfl
        exact (show Tryz.prog.wantsStandIn t = false by simpa using List.all_eq_true.1 hall t hm)⟩)
    (by kernel_rfl)

end Go.Proofs.YtoimjpkgkcomnaaGreatDoor
