/- A box in memory of its own, as the specification copies it. Condition: at most 2^20 rules, ends and streams each. (Several texts, joined: ConnI, RulesI, IBoxOk, IMapPut, BxNew, Clones, CopyB, PutSend, TurnI, STurnN, Tag, CopyS.) -/
import Derived.Test.YtgfkiljkpkfapaaGreatDoorTPlb
import Derived.Test.YtgfkiljkpkfapaaGreatDoorEqEnd
import Derived.Deep.RegionHeld3
import Derived.Test.YtgfkiljkpkfapaaGreatDoorTPlc
import Derived.Test.YtgfkiljkpkfapaaGreatDoorTPlf
import Derived.Test.YtgfkiljkpkfapaaGreatDoorTPle
import Derived.Test.YtgfkiljkpkfapaaGreatDoorTPla
import Derived.Test.YtgfkiljkpkfapaaGreatDoorBoxThree
import Derived.Test.YtgfkiljkpkfapaaGreatDoorMarkRl
import Derived.Laws.AppendOwnNone
import Derived.Deep.AppendLies
import Derived.Maps.AppendAt
import Derived.Test.YtgfkiljkpkfapaaGreatDoorBoxMk
import Derived.Test.YtgfkiljkpkfapaaGreatDoorOwnEnds

/- Where streams stand, as the program looks for them. Condition: at most 2^22 streams. -/
namespace Go.Proofs.YtgfkiljkpkfapaaGreatDoor
open Go.RowKit

/-- An end lies in a block. -/
def EndIn (w : World) (g : Nat) (a p : Int) : Prop := w.cell? ⟨g, 0, none⟩ = some (.int .i64 a) ∧ w.cell? ⟨g, 1, none⟩ = some (.int .i64 p) ∧ g < w.heap.size
theorem EndIn.below {w w' : World} {g : Nat} {a p : Int} (h : EndIn w g a p) (hb : Below w.heap.size w w') : EndIn w' g a p :=
  ⟨(hb.cell (p := ⟨g, 0, none⟩) h.2.2).trans h.1, (hb.cell (p := ⟨g, 1, none⟩) h.2.2).trans h.2.1, Nat.lt_of_lt_of_le h.2.2 hb.size⟩

set_option maxRecDepth 100000 in
set_option maxHeartbeats 1600000 in
theorem sameI_any (bi bo : Nat) (ia ip oa op : Int) (a p o q : Int) (kn he ne : ByteArray) (w : World) (hi : EndIn w bi ia ip) (ho : EndIn w bo oa op) :
    Calls Tryz.prog 99 #[.agg #[.int .i64 a, .int .i64 p, .int .i64 o, .int .i64 q, .string kn, .string he, .string ne], .pointer (some ⟨bi, 0, none⟩), .pointer (some ⟨bo, 0, none⟩)] w fun e w' => e = .returned (.bool (sameCn ⟨a, p, o, q, kn, he, ne⟩ ia ip oa op)) ∧ Below w.heap.size w w' := by
  have HX : Hid (sameCn ⟨a, p, o, q, kn, he, ne⟩ ia ip oa op = (decide (a = ia) && decide (p = ip) && (decide (o = oa) && decide (q = op)))) := rfl
  obtain ⟨Q, hQ⟩ : ∃ Q, Q = sameCn ⟨a, p, o, q, kn, he, ne⟩ ia ip oa op := ⟨_, rfl⟩
  rw [← hQ] at HX ⊢
  clear hQ
  have A0 := fun x => (hi.below ((Below.refl w.heap.size w).alloc (Nat.le_refl _) x)).1
  have A1 := fun x => (hi.below ((Below.refl w.heap.size w).alloc (Nat.le_refl _) x)).2.1
  have C0 := fun x => (ho.below ((Below.refl w.heap.size w).alloc (Nat.le_refl _) x)).1
  have C1 := fun x => (ho.below ((Below.refl w.heap.size w).alloc (Nat.le_refl _) x)).2.1
  have g1 := eqEnds1
  have g2 := eqEnds2
  clear hi ho
  by_cases h1 : a = ia
  rotate_left
  · have hq : Q = false := by have := HX.out; simpa [h1] using this
    subst hq
    clear HX
    go_enter Tryz.func99, Tryz.ntmps99
    go_wp2
    go_ret
    exact ⟨rfl, (Below.refl _ _).alloc (Nat.le_refl _) _⟩
  subst h1
  by_cases h2 : p = ip
  rotate_left
  · have hq : Q = false := by have := HX.out; simpa [h2] using this
    subst hq
    clear HX
    go_enter Tryz.func99, Tryz.ntmps99
    go_wp2
    go_ret
    exact ⟨rfl, (Below.refl _ _).alloc (Nat.le_refl _) _⟩
  subst h2
  by_cases h3 : o = oa
  rotate_left
  · have hq : Q = false := by have := HX.out; simpa [h3] using this
    subst hq
    clear HX
    go_enter Tryz.func99, Tryz.ntmps99
    go_wp2
    go_ret
    exact ⟨rfl, (Below.refl _ _).alloc (Nat.le_refl _) _⟩
  subst h3
  by_cases h4 : q = op
  rotate_left
  · have hq : Q = false := by have := HX.out; simpa [h4] using this
    subst hq
    clear HX
    go_enter Tryz.func99, Tryz.ntmps99
    go_wp2
    go_ret
    exact ⟨rfl, (Below.refl _ _).alloc (Nat.le_refl _) _⟩
  subst h4
  have hq : Q = true := by have := HX.out; simpa using this
  subst hq
  clear HX
  go_enter Tryz.func99, Tryz.ntmps99
  go_wp2
  go_ret
  exact ⟨rfl, (Below.refl _ _).alloc (Nat.le_refl _) _⟩

set_option maxRecDepth 100000 in
set_option maxHeartbeats 3200000 in
theorem idxConns_any (v : Value) (cs : List Cn) (bi bo : Nat) (ia ip oa op : Int) (w : World) (hn : cs.length ≤ 4194304) (hv : RdCn w v cs) (hi : EndIn w bi ia ip) (ho : EndIn w bo oa op) :
    Calls Tryz.prog 98 #[v, .func (.func 99) #[] #[.pointer (some ⟨bi, 0, none⟩), .pointer (some ⟨bo, 0, none⟩)]] w fun e w' => e = .returned (.int .i64 (findCn cs ia ip oa op)) ∧ Below w.heap.size w w' := by
  obtain ⟨av, cv, rfl, hcv, hrv⟩ := hv
  have HV := Lib.hid hrv
  have HI := Lib.hid hi
  have HO := Lib.hid ho
  clear hrv hi ho
  go_enter Tryz.func98, Tryz.ntmps98
  go_wp2
  go_loopw [5, 8] (fun _ i wr => ∃ k : Nat, k ≤ cs.length ∧ i = .int .i64 k ∧ Hid (∀ j (hj : j < k) (hl : j < cs.length), sameCn cs[j] ia ip oa op = false) ∧ Below w.heap.size w wr) (fun _ i _ => cs.length - (intOf i).toNat)
  case atStart => exact ⟨0, Nat.zero_le _, rfl, fun j hj => by omega, Below.refl _ _⟩
  case round =>
    obtain ⟨k, hk, rfl, HD, hb⟩ := hrel
    by_cases hlt : k < cs.length
    · obtain ⟨g, rfl, hrow⟩ := HV.out (by omega)
      have hl : 0 < (flatC cnC cs).length := by rw [flatC_len cnC_len]; omega
      obtain ⟨⟨a, p, o, q, kn, he, ne⟩, hp⟩ : ∃ p, p = cs[k] := ⟨_, rfl⟩
      obtain ⟨⟨p0, p1, p2, p3, p4, p5, p6⟩, _⟩ := (hrow.below hb (hrow.lt hl)).conn k hlt _ hp
      simp only at p0 p1 p2 p3 p4 p5 p6
      have hk1 : (k : Int) ≤ (cv : Int) := by omega
      have hk3 : (k : Int) < (cs.length : Int) := by omega
      have HM : Hid (Calls Tryz.prog 99 #[.agg #[.int .i64 a, .int .i64 p, .int .i64 o, .int .i64 q, .string kn, .string he, .string ne], .pointer (some ⟨bi, 0, none⟩), .pointer (some ⟨bo, 0, none⟩)] wr fun e w' => e = .returned (.bool (sameCn ⟨a, p, o, q, kn, he, ne⟩ ia ip oa op)) ∧ Below wr.heap.size wr w') := sameI_any bi bo ia ip oa op a p o q kn he ne wr (HI.out.below hb) (HO.out.below hb)
      have HP := Lib.hid hp
      cases ht : sameCn ⟨a, p, o, q, kn, he, ne⟩ ia ip oa op
      · rw [ht] at HM
        have HN : Hid (∀ j (hj : j < k + 1) (hl : j < cs.length), sameCn cs[j] ia ip oa op = false) := fun j hj hl => by
          by_cases e : j = k
          · subst e; rw [← HP.out]; exact ht
          · exact HD.out j (by omega) hl
        clear hrow hp HP ht HD
        go_wp2_with (go_at_call 99; refine HM.out.mono ?_; rintro e' w2 ⟨rfl, b2⟩)
        go_roundw
        case rel => exact ⟨k + 1, by omega, by go_num, HN, hb.trans (b2.mono hb.size)⟩
        case measure => simp [intOf]; omega
      · rw [ht] at HM
        have HT : Hid (findCn cs ia ip oa op = k) := findCn_hit hlt (by rw [← HP.out]; exact ht) fun j hj => HD.out j hj (by omega)
        clear hrow hp HP ht HD
        go_wp2_with (go_at_call 99; refine HM.out.mono ?_; rintro e' w2 ⟨rfl, b2⟩)
        go_ret
        exact ⟨ret_int HT.out.symm, hb.trans (b2.mono hb.size)⟩
    · have HT : Hid (findCn cs ia ip oa op = -1) := findCn_miss fun j hj => HD.out j (by omega) hj
      clear HD
      go_wp2
      go_ret
      exact ⟨ret_int HT.out.symm, hb⟩

set_option maxRecDepth 100000 in
set_option maxHeartbeats 1600000 in
theorem implFindCn_any (v : Value) (cs : List Cn) (ia ip oa op : Int) (w : World) (hn : cs.length ≤ 4194304) (hv : RdCn w v cs) :
    Calls Tryz.prog 54 #[v, .agg #[.int .i64 ia, .int .i64 ip], .agg #[.int .i64 oa, .int .i64 op]] w fun e w' => e = .returned (.int .i64 (findCn cs ia ip oa op)) ∧ Below w.heap.size w w' := by
  obtain ⟨W0, hW0⟩ : ∃ W, W = (w.alloc (.cells #[.int .i64 ia, .int .i64 ip] 31)).alloc (.cells #[.int .i64 oa, .int .i64 op] 31) := ⟨_, rfl⟩
  have hB : Below w.heap.size w W0 := by rw [hW0]; exact ((Below.refl _ _).alloc (Nat.le_refl _) _).alloc (by simp) _
  have hs : W0.heap.size = w.heap.size + 2 := by rw [hW0]; simp
  have h1 : EndIn W0 w.heap.size ia ip := by rw [hW0]; exact ⟨by simp, by simp, by simp; omega⟩
  have h2 : EndIn W0 (w.heap.size + 1) oa op := by rw [hW0]; exact ⟨by simp, by simp, by simp⟩
  have HC : Hid (Calls Tryz.prog 98 #[v, .func (.func 99) #[] #[.pointer (some ⟨w.heap.size, 0, none⟩), .pointer (some ⟨w.heap.size + 1, 0, none⟩)]] W0 fun e w' => e = .returned (.int .i64 (findCn cs ia ip oa op)) ∧ Below W0.heap.size W0 w') := idxConns_any v cs _ _ ia ip oa op W0 hn (hv.below hB) h1 h2
  have BB := Lib.hid hB
  obtain ⟨av, cv, rfl, _⟩ := hv
  clear hB h1 h2 hs
  subst hW0
  go_enter Tryz.func54, Tryz.ntmps54
  go_wp2_with (go_at_call 98; refine HC.out.mono ?_; rintro e w1 ⟨rfl, b1⟩)
  go_ret
  exact ⟨rfl, BB.out.trans (b1.mono BB.out.size)⟩

end Go.Proofs.YtgfkiljkpkfapaaGreatDoor

/- The rules of the program, whether they are ok, at rules in memory. Condition: at most 2^22 rules. -/
namespace Go.Proofs.YtgfkiljkpkfapaaGreatDoor
open Go.RowKit

set_option maxRecDepth 100000 in
set_option maxHeartbeats 800000 in
theorem notOk_any (al : Bool) (i it o ot p pt : Int) (w : World) :
    Calls Tryz.prog 94 #[.agg #[.bool al, .int .i64 i, .int .i64 it, .int .i64 o, .int .i64 ot, .int .i64 p, .int .i64 pt]] w fun e w' => e = .returned (.bool (!ruleB ⟨al, i, it, o, ot, p, pt⟩)) ∧ Below w.heap.size w w' := by
  have HM : Hid (∀ w, Calls Tryz.prog 95 #[.agg #[.bool al, .int .i64 i, .int .i64 it, .int .i64 o, .int .i64 ot, .int .i64 p, .int .i64 pt]] w fun e w' => e = .returned (.bool (ruleB ⟨al, i, it, o, ot, p, pt⟩)) ∧ Below w.heap.size w w') := fun w => implRulOk_any al i it o ot p pt w
  obtain ⟨q, hq⟩ : ∃ q, q = ruleB ⟨al, i, it, o, ot, p, pt⟩ := ⟨_, rfl⟩
  rw [← hq] at HM ⊢
  clear hq
  cases q
  all_goals
    go_enter Tryz.func94, Tryz.ntmps94
    go_wp2_with (go_at_call 95; refine (HM.out _).mono ?_; rintro e w1 ⟨rfl, b1⟩)
    go_ret
    exact ⟨rfl, below_box b1⟩

set_option maxRecDepth 100000 in
set_option maxHeartbeats 1600000 in
theorem idxRules_any (v : Value) (l : List Rl) (w : World) (hn : l.length ≤ 4194304) (hv : RdRl w v l) :
    Calls Tryz.prog 126 #[v, .func (.func 94) #[] #[]] w fun e w' => ∃ z : Int, e = .returned (.int .i64 z) ∧ decide (0 ≤ z) = !l.all ruleB ∧ Below w.heap.size w w' := by
  obtain ⟨av, cv, rfl, hcv, hrv⟩ := hv
  have HV := Lib.hid hrv
  clear hrv
  go_enter Tryz.func126, Tryz.ntmps126
  go_wp2
  go_loopw [5, 8] (fun _ i wr => ∃ k : Nat, k ≤ l.length ∧ i = .int .i64 k ∧ Hid (∀ r ∈ l.take k, ruleB r = true) ∧ Below w.heap.size w wr) (fun _ i _ => l.length - (intOf i).toNat)
  case atStart => exact ⟨0, Nat.zero_le _, rfl, fun r hr => by simp at hr, Below.refl _ _⟩
  case round =>
    obtain ⟨k, hk, rfl, HD, hb⟩ := hrel
    by_cases hlt : k < l.length
    · obtain ⟨g1, o1, rfl, hg1, hr1⟩ := HV.out (by omega)
      obtain ⟨⟨al, a, b, c, d, e, f⟩, hap⟩ : ∃ x, x = l[k] := ⟨_, rfl⟩
      obtain ⟨p0, p1, p2, p3, p4, p5, p6⟩ := rl_seven hr1 k hlt al a b c d e f hap
      rw [← hb.cell (by exact hg1)] at p0 p1 p2 p3 p4 p5 p6
      have hk1 : (k : Int) ≤ (cv : Int) := by omega
      have hk3 : (k : Int) < (l.length : Int) := by omega
      cases ht : ruleB ⟨al, a, b, c, d, e, f⟩
      · have HF : Hid (decide (0 ≤ (k : Int)) = !l.all ruleB) := by
          show _ = _
          rw [show l.all ruleB = false from List.all_eq_false.2 ⟨l[k], List.getElem_mem _, by rw [← hap, ht]; simp⟩, decide_eq_true (by omega)]; rfl
        have HM : Hid (∀ w, Calls Tryz.prog 94 #[.agg #[.bool al, .int .i64 a, .int .i64 b, .int .i64 c, .int .i64 d, .int .i64 e, .int .i64 f]] w fun e w' => e = .returned (.bool true) ∧ Below w.heap.size w w') := fun w => by have := notOk_any al a b c d e f w; rwa [ht] at this
        clear hr1 hap ht
        go_wp2_with (go_at_call 94; refine (HM.out _).mono ?_; rintro e' w2 ⟨rfl, b2⟩)
        go_ret
        exact ⟨_, rfl, HF.out, hb.trans (b2.mono hb.size)⟩
      · have HF : Hid (∀ r ∈ l.take (k + 1), ruleB r = true) := take_all_snoc hlt HD.out (by rw [← hap]; exact ht)
        have HM : Hid (∀ w, Calls Tryz.prog 94 #[.agg #[.bool al, .int .i64 a, .int .i64 b, .int .i64 c, .int .i64 d, .int .i64 e, .int .i64 f]] w fun e w' => e = .returned (.bool false) ∧ Below w.heap.size w w') := fun w => by have := notOk_any al a b c d e f w; rwa [ht] at this
        clear hr1 hap ht
        go_wp2_with (go_at_call 94; refine (HM.out _).mono ?_; rintro e' w2 ⟨rfl, b2⟩)
        go_roundw
        case rel => exact ⟨k + 1, by omega, by go_num, HF, hb.trans (b2.mono hb.size)⟩
        case measure => simp [intOf]; omega
    · have hkn : k = l.length := by omega
      subst hkn
      have HF : Hid (decide (0 ≤ (-1 : Int)) = !l.all ruleB) := by
        have := HD.out
        rw [List.take_of_length_le (Nat.le_refl _)] at this
        show _ = _
        rw [List.all_eq_true.2 this]; rfl
      go_wp2
      go_ret
      exact ⟨_, rfl, HF.out, hb⟩

set_option maxRecDepth 100000 in
set_option maxHeartbeats 800000 in
theorem hasRule_any (v : Value) (l : List Rl) (w : World) (hn : l.length ≤ 4194304) (hv : RdRl w v l) :
    Calls Tryz.prog 93 #[v, .func (.func 94) #[] #[]] w fun e w' => e = .returned (.bool (!l.all ruleB)) ∧ Below w.heap.size w w' := by
  have HC : Hid (Calls Tryz.prog 126 #[v, .func (.func 94) #[] #[]] w fun e w' => ∃ z : Int, e = .returned (.int .i64 z) ∧ decide (0 ≤ z) = !l.all ruleB ∧ Below w.heap.size w w') := idxRules_any v l w hn hv
  obtain ⟨av, cv, rfl, _⟩ := hv
  obtain ⟨q, hq⟩ : ∃ q, q = !l.all ruleB := ⟨_, rfl⟩
  rw [← hq] at HC ⊢
  clear hq
  go_enter Tryz.func93, Tryz.ntmps93
  go_wp2_with (go_at_call 126; refine (HC.out).mono ?_; rintro e w1 ⟨z, rfl, hz, b1⟩)
  go_ret
  first
    | exact ⟨rfl, b1⟩
    | exact ⟨ret_bool hz, b1⟩

set_option maxRecDepth 100000 in
set_option maxHeartbeats 800000 in
theorem implRules_any (v : Value) (l : List Rl) (w : World) (hn : l.length ≤ 4194304) (hv : RdRl w v l) :
    Calls Tryz.prog 52 #[v] w fun e w' => e = .returned (.bool (rulesB l)) ∧ Below w.heap.size w w' := by
  have HC : Hid (Calls Tryz.prog 93 #[v, .func (.func 94) #[] #[]] w fun e w' => e = .returned (.bool (!l.all ruleB)) ∧ Below w.heap.size w w') := hasRule_any v l w hn hv
  obtain ⟨av, cv, rfl, _⟩ := hv
  have HS : Hid (rulesB l = (decide (l.length ≤ 5) && l.all ruleB)) := rfl
  obtain ⟨q, hq⟩ : ∃ q, q = rulesB l := ⟨_, rfl⟩
  obtain ⟨q1, hq1⟩ : ∃ q, q = l.all ruleB := ⟨_, rfl⟩
  rw [← hq] at HS ⊢
  rw [← hq1] at HS HC
  clear hq hq1
  by_cases h5 : l.length ≤ 5 <;> cases q1
  all_goals
    try rw [decide_eq_true h5] at HS
    try rw [decide_eq_false h5] at HS
    first
    | (have hq : q = true := by (have := HS.out; simpa using this)
       subst hq)
    | (have hq : q = false := by (have := HS.out; simpa using this)
       subst hq)
    clear HS
    go_enter Tryz.func52, Tryz.ntmps52
    go_wp2_with (go_at_call 93; refine (HC.out).mono ?_; rintro e w1 ⟨rfl, b1⟩)
    go_ret
    first
      | exact ⟨rfl, b1⟩
      | exact ⟨rfl, Below.refl _ _⟩

end Go.Proofs.YtgfkiljkpkfapaaGreatDoor

/- Whether a box is ok, as the program asks. Condition: lists and texts of at most 2^20. -/
namespace Go.Proofs.YtgfkiljkpkfapaaGreatDoor
open Go.RowKit Go.Sort

end Go.Proofs.YtgfkiljkpkfapaaGreatDoor

/- MapPut of the program and of the specification, in one form. Conditions: at most 2^22 ends; all numbers are ints. -/
namespace Go.Proofs.YtgfkiljkpkfapaaGreatDoor
open Go.RowKit Go.Sort

/-- What MapPut answers: a table, and a port. -/
def putA (es : List (Int × Int)) (e : Int × Int) : List (Int × Int) × Int := if (mapB es && insB e.1 e.2) = true then putE es e else ([], 0)
set_option maxRecDepth 100000 in
set_option maxHeartbeats 1600000 in
theorem implMapPut_ok (v : Value) (es : List (Int × Int)) (a p : Int) (w : World) (hn : es.length ≤ 4194304) (ht : TabAt w v es) (hm : mapB es = true) (hi : insB a p = true) :
    Calls Tryz.prog 80 #[.agg #[v], .agg #[.int .i64 a, .int .i64 p]] w fun e w' => ∃ g c, e = .returned (.tuple #[.agg #[.slice g (putE es (a, p)).1.length c], .int .i64 (putE es (a, p)).2]) ∧ OwnTab w' w.heap.size (.slice g (putE es (a, p)).1.length c) (putE es (a, p)).1 ∧ Below w.heap.size w w' := by
  have HT := Lib.hid ht
  have hwf := mapB_wf hm
  obtain ⟨ad, cap, rfl, hcap, hr⟩ := ht
  have hM : Hid (∀ w, TabAt w (.slice ad es.length cap) es → Calls Tryz.prog 53 #[.agg #[.slice ad es.length cap]] w fun e w' => e = .returned (.bool true) ∧ Below w.heap.size w w') := fun w h => by rw [← hm]; exact implMapOk_any _ es w hn hwf h
  have HP : Hid (∀ w, TabAt w (.slice ad es.length cap) es → Calls Tryz.prog 46 #[.agg #[.slice ad es.length cap]] w fun e w' => ∃ g1 g2, e = .returned (.agg #[.map (some g1), .map (some g2)]) ∧ w.heap.size ≤ g1 ∧ w.heap.size ≤ g2 ∧ Both w' g1 g2 es ∧ Below w.heap.size w w') := fun w h => portsOf_any _ es w hn hwf h
  obtain ⟨us, hus⟩ : ∃ us, us = (putE es (a, p)).1 := ⟨_, rfl⟩
  obtain ⟨q, hq⟩ : ∃ q, q = (putE es (a, p)).2 := ⟨_, rfl⟩
  have HG : Hid (∀ g1 g2 w, Both w g1 g2 es → Calls Tryz.prog 121 #[.agg #[.map (some g1), .map (some g2)], .agg #[.int .i64 a, .int .i64 p]] w fun e w' => e = .returned (.int .i64 q) ∧ Both w' g1 g2 us ∧ Two g1 g2 w w') := fun g1 g2 w h => by rw [hus, hq]; exact givePort_any g1 g2 es a p w h hm hi
  have hmu : mapB us = true := by rw [hus]; exact putE_ok hm hi
  have HO : Hid (∀ g1 g2 w, Both w g1 g2 us → Calls Tryz.prog 122 #[.agg #[.map (some g1), .map (some g2)]] w fun e w' => ∃ a c, e = .returned (.agg #[.slice a us.length c]) ∧ OwnTab w' w.heap.size (.slice a us.length c) us ∧ Below w.heap.size w w') := fun g1 g2 w h => tableOf_any g1 g2 us w h (valsL_ok hmu) (by have := mapB_le hmu; omega)
  rw [← hus, ← hq]
  clear hr hm hus hq hmu hwf hcap hn
  go_enter Tryz.func80, Tryz.ntmps80
  go_wp2_with fail
  (go_at_call 53; refine (hM.out _ (HT.out.below ((((Below.refl _ _).alloc (Nat.le_refl _) _).alloc (by simp) _).alloc (by simp; omega) _))).mono ?_; rintro e w1 ⟨rfl, b1⟩; obtain ⟨cA, cB, cC, b01, z1⟩ := cell_three b1; have t0 := (cA 0).1; have e0 := (cB 0).1; have e1 := (cB 1).1; have r0 := (cC 0).1; have g0 := (cC 0).2; simp at t0 e0 e1 r0; clear cA cB cC b1)
  go_wp2_with fail
  (go_at_call 32; refine (implInside_any a p _).mono ?_; rintro e w2 ⟨rfl, b2⟩; have t2 : w2.cell? ⟨w.heap.size, 0, none⟩ = some (.slice ad es.length cap) := (by rw [b2.cell (by simp; omega)]; exact t0); have e20 : w2.cell? ⟨w.heap.size + 1, 0, none⟩ = some (.int .i64 a) := (by rw [b2.cell (by simp; omega)]; exact e0); have e21 : w2.cell? ⟨w.heap.size + 1, 1, none⟩ = some (.int .i64 p) := (by rw [b2.cell (by simp; omega)]; exact e1); have r2 : w2.cell? ⟨w.heap.size + 1 + 1, 0, none⟩ = some (.slice none 0 0) := (by rw [b2.cell (by simp; omega)]; exact r0); have g02 : w2.frozen? ⟨w.heap.size + 1 + 1, 0, none⟩ = false := (by rw [b2.frozen (by simp; omega)]; exact g0))
  have b02 : Hid (Below w.heap.size w w2) := b01.trans (b2.mono (by omega))
  have z2 : w.heap.size + 3 ≤ w2.heap.size := Nat.le_trans z1 b2.size
  clear b2 b01 t0 e0 e1 r0 g0 z1
  go_wp2_with fail
  (go_at_call 46; refine (HP.out _ (HT.out.below b02.out)).mono ?_; rintro e w3 ⟨g1, g2, rfl, l1, l2, hb, b3⟩; have z3 := b3.size; have m1 := hb.lt.1; have m2 := hb.lt.2; have HB : Hid (∀ o, Both (w3.alloc o) g1 g2 es) := (fun o => hb.later ((Below.refl _ _).alloc (Nat.le_refl _) o)); have B3 : Hid (Below w.heap.size w w3) := b02.out.trans (b3.mono (by omega)); have e30 : ∀ o, (w3.alloc o).cell? ⟨w.heap.size + 1, 0, none⟩ = some (.int .i64 a) := (fun o => by rw [cell_alloc_lt (by omega), b3.cell (by simp; omega)]; exact e20); have e31 : ∀ o, (w3.alloc o).cell? ⟨w.heap.size + 1, 1, none⟩ = some (.int .i64 p) := (fun o => by rw [cell_alloc_lt (by omega), b3.cell (by simp; omega)]; exact e21); have r3 : ∀ o, (w3.alloc o).cell? ⟨w.heap.size + 1 + 1, 0, none⟩ = some (.slice none 0 0) := (fun o => by rw [cell_alloc_lt (by omega), b3.cell (by simp; omega)]; exact r2); have g03 : ∀ o, (w3.alloc o).frozen? ⟨w.heap.size + 1 + 1, 0, none⟩ = false := (fun o => by rw [frozen_alloc_lt (by omega), b3.frozen (by simp; omega)]; exact g02); clear hb b3)
  go_wp2_with fail
  (go_at_call 121; refine (HG.out g1 g2 _ (HB.out _)).mono ?_; rintro e w4 ⟨rfl, hb4, t4⟩; have HB4 := Lib.hid hb4; have z4 : w3.heap.size + 1 ≤ w4.heap.size := (by have := t4.size; simpa using this); have p0 : w4.cell? ⟨w3.heap.size, 0, none⟩ = some (.map (some g1)) := (by rw [t4.cell (by simp) (by omega) (by omega)]; simp); have p1 : w4.cell? ⟨w3.heap.size, 1, none⟩ = some (.map (some g2)) := (by rw [t4.cell (by simp) (by omega) (by omega)]; simp); have r4 : w4.cell? ⟨w.heap.size + 1 + 1, 0, none⟩ = some (.slice none 0 0) := (by rw [t4.cell (by simp; omega) (by omega) (by omega)]; exact r3 _); have g04 : w4.frozen? ⟨w.heap.size + 1 + 1, 0, none⟩ = false := (by rw [t4.frozen (by simp; omega) (by omega) (by omega)]; exact g03 _); have B4 : Hid (Below w.heap.size w w4) := (B3.out.alloc B3.out.size _).trans (t4.below (by simp; omega) (by omega) (by omega)); clear hb4 t4)
  go_wp2_with fail
  (go_at_call 122; refine (HO.out g1 g2 _ HB4.out).mono ?_; rintro e w5 ⟨g5, c5, rfl, o5, b5⟩; have O5 := Lib.hid o5; have r5 : w5.cell? ⟨w.heap.size + 1 + 1, 0, none⟩ = some (.slice none 0 0) := (by rw [b5.cell (by simp; omega)]; exact r4); have g05 : w5.frozen? ⟨w.heap.size + 1 + 1, 0, none⟩ = false := (by rw [b5.frozen (by simp; omega)]; exact g04); have B5 : Hid (Below w.heap.size w w5) := B4.out.trans (b5.mono (by omega)); clear o5 b5)
  go_wp2_with fail
  refine bodyPost_ret (v := .tuple #[.agg #[.slice g5 us.length c5], .int .i64 q]) (by simp [results, Tryz.results80, go_sem, World.cell?_setCell_same _ _ _ r5]) rfl ⟨_, _, rfl, ?_, B5.out.setCell (by simp; omega) _⟩
  exact OwnTab.mono (B := w4.heap.size) (ownsRow_setCell_below (a := ⟨w.heap.size + 1 + 1, 0, none⟩) O5.out (by simp; omega) _) (by omega)

end Go.Proofs.YtgfkiljkpkfapaaGreatDoor

/- slices.Clone of rules; BoxNew of both sides, at rules in memory. Condition: at most 2^22 rules. -/
namespace Go.Proofs.YtgfkiljkpkfapaaGreatDoor
open Go.RowKit

theorem own_someR {w : World} {base : Nat} {e : TypeId} {size : Nat} {v : Value} {n : Nat} {xs : List Value} (h : w.ownsRow base e size v n xs) (hne : v ≠ .slice none 0 0) : ∃ g cap, v = .slice (some ⟨g, 0, none⟩) n cap ∧ base ≤ g := by
  rcases h.2 with ⟨h0, _⟩ | ⟨g, cap, _, hv, hb, _⟩
  · exact absurd h0 hne
  · exact ⟨g, cap, hv, hb⟩
theorem lit_empty (w : World) (t : TypeId) (k : Nat) : (w.alloc (.cells #[] t)).ownsRow w.heap.size t k (.slice (some ⟨w.heap.size, 0, none⟩) 0 0) 0 [] := by
  have := World.ownsRow_made (base := w.heap.size) (e := t) (size := k) w #[] 0 (Nat.le_refl _) (Nat.zero_le _) (by simp)
  simpa using this
/-- The cells of rules that are read, one behind the other. -/
theorem rul_news {w : World} {x : Addr} {cap : Nat} {l : List Rl} (h : RdRl w (.slice (some x) l.length cap) l) : ∀ (j : Nat) (u : Value), (flatC rlC l)[j]? = some u → w.cell? (x.add j) = some u := by
  intro j u hj
  have hlt : j < (flatC rlC l).length := (List.getElem?_eq_some_iff.1 hj).1
  rw [flatC_len rlC_len] at hlt
  obtain ⟨a, c, e, _, hr⟩ := h
  obtain ⟨g, off, ea, _, hrow⟩ := hr (by omega)
  simp at e
  rw [ea] at e
  have hx : x = ⟨g, off, none⟩ := by simpa using e.1
  subst hx
  have h1 : j / 7 < l.length := by omega
  have h2 := flatC_at rlC_len l (j / 7) h1 (j % 7) (Nat.mod_lt _ (by decide))
  rw [show j / 7 * 7 + j % 7 = j by omega, hj] at h2
  have := hrow (j / 7) h1 (j % 7) u h2.symm
  rw [show j / 7 * 7 + j % 7 = j by omega] at this
  rw [show (⟨g, off, none⟩ : Addr).add j = ⟨g, off + j, none⟩ from by unfold Addr.add; split <;> simp_all]
  exact this

set_option maxRecDepth 100000 in
set_option maxHeartbeats 1600000 in
theorem cloneRuls_any (x : Addr) (cap : Nat) (l : List Rl) (w : World) (hn : l.length ≤ 4194304) (hv : RdRl w (.slice (some x) l.length cap) l) :
    Calls Tryz.prog 73 #[.slice (some x) l.length cap] w fun e w' => ∃ g c, e = .returned (.slice (some g) l.length c) ∧ OwnRl w' w.heap.size (.slice (some g) l.length c) l ∧ Below w.heap.size w w' := by
  obtain ⟨i0, hi, hz0, hz1, hz2⟩ := info_parts infoRl
  have HW := Lib.hid (rul_news hv)
  have HL : Hid (∀ (j : Nat) (u : Value), (flatC rlC l)[j]? = some u → (x.add j).block < w.heap.size) := fun j u hj => World.block_lt_of_cell? w _ (HW.out j u hj)
  have HO := Lib.hid (lit_empty w 115 7)
  have he : ∀ w : World, (binOp .eql 23 (.slice (some x) l.length cap) (.slice none 0 0)).run Tryz.prog w = .ok (.bool false) w := fun _ => rfl
  clear hv
  go_enter Tryz.func73, Tryz.ntmps73
  go_wp2_with (at_builtin; refine wpList_append_own _ rfl (.tmp 5) (.tmp 6) 23 rfl w.heap.size 115 i0 (.agg #[.bool false, .int .i64 0, .int .i64 0, .int .i64 0, .int .i64 0, .int .i64 0, .int .i64 0]) 7 56 Tryz.underlying23 hi hz0 hz1 hz2 rfl (by decide) (.slice (some ⟨w.heap.size, 0, none⟩) 0 0) 0 [] rfl HO.out x l.length cap (flatC rlC l) rfl ?c1 ?c2 ?c3 ?c4 ?c5 ?c6 ?_)
  case c1 => exact flatC_len rlC_len l
  case c2 =>
    intro j u hj
    rw [World.cell?_alloc_old _ _ _ (Nat.ne_of_lt (HL.out j u hj))]
    exact HW.out j u hj
  case c3 => exact flatC_one rlC_one l
  case c4 => unfold maxLen; omega
  case c5 => omega
  case c6 => simp
  · intro v' w' hown hgrow hnil
    have hbw : Below w.heap.size w w' := ((Below.refl _ _).alloc (Nat.le_refl _) _).grown hgrow (by simp) (fun k hk => by simp [Value.ownBlock] at hk; omega)
    obtain ⟨a1, cap1, rfl⟩ : ∃ g c, v' = .slice (some g) l.length c := by
      obtain ⟨g, c, e, _⟩ := own_someR hown hnil
      exact ⟨_, c, by simpa using e⟩
    have HG : Hid (OwnRl w' w.heap.size (.slice (some a1) l.length cap1) l) := by
      show w'.ownsRow _ _ _ _ _ _
      have h := hown
      simpa using h
    clear hown hgrow hnil
    go_wp2
    go_ret
    exact ⟨_, _, rfl, HG.out, hbw⟩

/-- The rules of a box that begins. -/
def newR (l : List Rl) : List Rl := if rulesB l = true then l else []
theorem newR_no {l : List Rl} (h : rulesB l = false) : newR l = [] := by unfold newR; rw [h]; rfl
theorem newR_yes {l : List Rl} (h : rulesB l = true) : newR l = l := by unfold newR; rw [h]; rfl

set_option maxRecDepth 100000 in
set_option maxHeartbeats 1600000 in
theorem specBoxNew_any (x : Addr) (cap : Nat) (l : List Rl) (w : World) (hn : l.length ≤ 4194304) (hv : RdRl w (.slice (some x) l.length cap) l) :
    Calls Tryz.prog 111 #[.slice (some x) l.length cap] w fun e w' => ∃ v, e = .returned (.agg #[v, .slice none 0 0, .slice none 0 0]) ∧ FrRl w' w.heap.size v (newR l) ∧ Below w.heap.size w w' := by
  obtain ⟨i0, hi, hz0, hz1, hz2⟩ := info_parts infoRl
  have HV := Lib.hid hv
  clear hv
  have C0 : Hid (Below w.heap.size w (w.alloc (.cells #[.slice none 0 0, .slice none 0 0, .slice none 0 0] 29))) := (Below.refl _ _).alloc (Nat.le_refl _) _
  have K0 : Hid (Blk (w.alloc (.cells #[.slice none 0 0, .slice none 0 0, .slice none 0 0] 29)) w.heap.size 29 [.slice none 0 0, .slice none 0 0, .slice none 0 0]) := three_new w _ _ _ _
  have H1 : Hid (∀ w, RdRl w (.slice (some x) l.length cap) l → Calls Tryz.prog 43 #[.slice (some x) l.length cap] w fun e w' => e = .returned (.bool (rulesB l)) ∧ Below w.heap.size w w') := fun w h => specRules_any _ l w hn h
  cases hq : rulesB l
  · have HN := Lib.hid (newR_no hq)
    rw [hq] at H1
    clear hq
    go_enter Tryz.func111, Tryz.ntmps111
    go_wp2_with fail
    (go_at_call 43; refine (H1.out _ (HV.out.below C0.out)).mono ?_; rintro e w1 ⟨rfl, b1⟩)
    have B1 : Hid (Below w.heap.size w w1) := C0.out.trans (b1.mono (by simp))
    have K1 := Lib.hid (K0.out.below b1)
    clear b1
    obtain ⟨⟨k0, k1, k2⟩, ⟨f0, f1, f2⟩⟩ := three_all K1.out
    go_wp2_with fail
    obtain ⟨⟨q0, q1, q2⟩, _⟩ := three_all (three_set K1.out (.slice none 0 0) (.slice none 0 0) (.slice none 0 0))
    refine bodyPost_ret (v := .agg #[.slice none 0 0, .slice none 0 0, .slice none 0 0]) (by simp [results, Tryz.results111, go_sem, q0, q1, q2]) rfl ⟨_, rfl, ?_, ((B1.out.setCell (by simp) _).setCell (by simp) _).setCell (by simp) _⟩
    rw [HN.out]
    exact FrL.nil _ _ _ _ (fun _ => rfl)
  · have HN := Lib.hid (newR_yes hq)
    rw [hq] at H1
    clear hq
    go_enter Tryz.func111, Tryz.ntmps111
    go_wp2_with fail
    (go_at_call 43; refine (H1.out _ (HV.out.below C0.out)).mono ?_; rintro e w1 ⟨rfl, b1⟩)
    have B1 : Hid (Below w.heap.size w w1) := C0.out.trans (b1.mono (by simp))
    have K1 := Lib.hid (K0.out.below b1)
    have V1 := Lib.hid (HV.out.below B1.out)
    have s1 : w.heap.size < w1.heap.size := by have := b1.size; simp at this; omega
    clear b1
    have HW := Lib.hid (rul_news V1.out)
    have HL : Hid (∀ (j : Nat) (u : Value), (flatC rlC l)[j]? = some u → (x.add j).block < w1.heap.size) := fun j u hj => World.block_lt_of_cell? w1 _ (HW.out j u hj)
    have HO := Lib.hid (lit_empty w1 115 7)
    go_wp2_with (at_builtin; refine wpList_append_own _ rfl (.tmp 7) (.tmp 8) 23 rfl w1.heap.size 115 i0 (.agg #[.bool false, .int .i64 0, .int .i64 0, .int .i64 0, .int .i64 0, .int .i64 0, .int .i64 0]) 7 56 Tryz.underlying23 hi hz0 hz1 hz2 rfl (by decide) (.slice (some ⟨w1.heap.size, 0, none⟩) 0 0) 0 [] rfl HO.out x l.length cap (flatC rlC l) rfl ?c1 ?c2 ?c3 ?c4 ?c5 ?c6 ?_)
    case c1 => exact flatC_len rlC_len l
    case c2 =>
      intro j u hj
      rw [World.cell?_alloc_old _ _ _ (Nat.ne_of_lt (HL.out j u hj))]
      exact HW.out j u hj
    case c3 => exact flatC_one rlC_one l
    case c4 => unfold maxLen; omega
    case c5 => omega
    case c6 => simp
    · intro v' w2 hown hgrow hnil
      have C2 : Hid (Below w1.heap.size w1 w2) := ((Below.refl _ _).alloc (Nat.le_refl _) _).grown hgrow (by simp) (fun k hk => by simp [Value.ownBlock] at hk; omega)
      have B2 : Hid (Below w.heap.size w w2) := B1.out.trans (C2.out.mono (by omega))
      have K2 := Lib.hid (K1.out.below C2.out)
      have HG : Hid (OwnRl w2 w1.heap.size v' l) := by
        show w2.ownsRow _ _ _ _ _ _
        have h := hown
        simpa using h
      obtain ⟨a1, cap1, rfl⟩ : ∃ g c, v' = .slice (some g) l.length c := by
        obtain ⟨g, c, e, _⟩ := own_someR hown hnil
        exact ⟨_, c, by simpa using e⟩
      clear hown hgrow hnil
      obtain ⟨⟨k0, k1, k2⟩, ⟨f0, f1, f2⟩⟩ := three_all K2.out
      go_wp2
      obtain ⟨⟨q0, q1, q2⟩, _⟩ := three_all (three_set K2.out (.slice (some a1) l.length cap1) (.slice none 0 0) (.slice none 0 0))
      refine bodyPost_ret (v := .agg #[.slice (some a1) l.length cap1, .slice none 0 0, .slice none 0 0]) (by simp [results, Tryz.results111, go_sem, q0, q1, q2]) rfl ⟨_, rfl, ?_, ((B2.out.setCell (by simp) _).setCell (by simp) _).setCell (by simp) _⟩
      rw [HN.out]
      refine FrL.own (own_lower (B := w1.heap.size) ?_ (by omega))
      exact ownsRow_setCell_below (ownsRow_setCell_below (ownsRow_setCell_below HG.out (by show w.heap.size < _; omega) _) (by show w.heap.size < _; omega) _) (by show w.heap.size < _; omega) _

end Go.Proofs.YtgfkiljkpkfapaaGreatDoor

/- slices.Clone of ends and of streams; a list that is read, cell by cell. Condition: at most 2^22 elements. -/
namespace Go.Proofs.YtgfkiljkpkfapaaGreatDoor
open Go.RowKit

/-- An end's two cells. -/
def enC (e : Int × Int) : List Value := [.int .i64 e.1, .int .i64 e.2]
theorem enC_two (e : Int × Int) : (enC e).length = 2 := rfl
theorem enC_one (e : Int × Int) : ∀ u ∈ enC e, u.oneCell' = true := by
  intro u hu
  simp only [enC, List.mem_cons, List.not_mem_nil, or_false] at hu
  rcases hu with rfl | rfl <;> rfl
theorem rdc_news {α : Type} {c : α → List Value} {k : Nat} (hk : ∀ x, (c x).length = k) {w : World} {x : Addr} {n cap : Nat} {l : List α} (h : RdC c w (.slice (some x) n cap) l) : ∀ (j : Nat) (u : Value), (flatC c l)[j]? = some u → w.cell? (x.add j) = some u := by
  intro j u hj
  obtain ⟨hlt, hu⟩ := List.getElem?_eq_some_iff.1 hj
  have hl : 0 < l.length := by
    rw [flatC_len hk] at hlt
    exact Nat.pos_of_ne_zero fun e => by simp [e] at hlt
  obtain ⟨a, c', e, _, hr⟩ := h
  obtain ⟨g, ea, hrow⟩ := hr hl
  simp at e
  rw [ea] at e
  have hx : x = ⟨g, 0, none⟩ := by simpa using e.1
  subst hx
  have := (hrow j hlt).1
  rw [show (⟨g, 0, none⟩ : Addr).add j = ⟨g, j, none⟩ from by unfold Addr.add; split <;> simp_all, this, hu]

set_option maxRecDepth 100000 in
set_option maxHeartbeats 1600000 in
theorem cloneEnds_any (x : Addr) (cap : Nat) (l : List (Int × Int)) (w : World) (hn : l.length ≤ 4194304) (hv : RdC enC w (.slice (some x) l.length cap) l) :
    Calls Tryz.prog 74 #[.slice (some x) l.length cap] w fun e w' => ∃ g c, e = .returned (.slice (some g) l.length c) ∧ w'.ownsRow w.heap.size 31 2 (.slice (some g) l.length c) l.length (flatC enC l) ∧ Below w.heap.size w w' := by
  obtain ⟨i0, hi, hz0, hz1, hz2⟩ := info_parts infoEnd
  have HW := Lib.hid (rdc_news enC_two hv)
  have HL : Hid (∀ (j : Nat) (u : Value), (flatC enC l)[j]? = some u → (x.add j).block < w.heap.size) := fun j u hj => World.block_lt_of_cell? w _ (HW.out j u hj)
  have HO := Lib.hid (lit_empty w 31 2)
  have he : ∀ w : World, (binOp .eql 24 (.slice (some x) l.length cap) (.slice none 0 0)).run Tryz.prog w = .ok (.bool false) w := fun _ => rfl
  clear hv
  go_enter Tryz.func74, Tryz.ntmps74
  go_wp2_with (at_builtin; refine wpList_append_own _ rfl (.tmp 5) (.tmp 6) 24 rfl w.heap.size 31 i0 (.agg #[.int .i64 0, .int .i64 0]) 2 16 Tryz.underlying24 hi hz0 hz1 hz2 rfl (by decide) (.slice (some ⟨w.heap.size, 0, none⟩) 0 0) 0 [] rfl HO.out x l.length cap (flatC enC l) rfl ?c1 ?c2 ?c3 ?c4 ?c5 ?c6 ?_)
  case c1 => exact flatC_len enC_two l
  case c2 =>
    intro j u hj
    rw [World.cell?_alloc_old _ _ _ (Nat.ne_of_lt (HL.out j u hj))]
    exact HW.out j u hj
  case c3 => exact flatC_one enC_one l
  case c4 => unfold maxLen; omega
  case c5 => omega
  case c6 => simp
  · intro v' w' hown hgrow hnil
    have hbw : Below w.heap.size w w' := ((Below.refl _ _).alloc (Nat.le_refl _) _).grown hgrow (by simp) (fun k hk => by simp [Value.ownBlock] at hk; omega)
    obtain ⟨a1, cap1, rfl⟩ : ∃ g c, v' = .slice (some g) l.length c := by
      obtain ⟨g, c, e, _⟩ := own_someR hown hnil
      exact ⟨_, c, by simpa using e⟩
    have HG : Hid (w'.ownsRow w.heap.size 31 2 (.slice (some a1) l.length cap1) l.length (flatC enC l)) := by
      show w'.ownsRow _ _ _ _ _ _
      have h := hown
      simpa using h
    clear hown hgrow hnil
    go_wp2
    go_ret
    exact ⟨_, _, rfl, HG.out, hbw⟩

set_option maxRecDepth 100000 in
set_option maxHeartbeats 1600000 in
theorem cloneConns_any (x : Addr) (cap : Nat) (l : List Cn) (w : World) (hn : l.length ≤ 4194304) (hv : RdC cnC w (.slice (some x) l.length cap) l) :
    Calls Tryz.prog 75 #[.slice (some x) l.length cap] w fun e w' => ∃ g c, e = .returned (.slice (some g) l.length c) ∧ w'.ownsRow w.heap.size 49 7 (.slice (some g) l.length c) l.length (flatC cnC l) ∧ Below w.heap.size w w' := by
  obtain ⟨i0, hi, hz0, hz1, hz2⟩ := info_parts infoCn
  have HW := Lib.hid (rdc_news cnC_len hv)
  have HL : Hid (∀ (j : Nat) (u : Value), (flatC cnC l)[j]? = some u → (x.add j).block < w.heap.size) := fun j u hj => World.block_lt_of_cell? w _ (HW.out j u hj)
  have HO := Lib.hid (lit_empty w 49 7)
  have he : ∀ w : World, (binOp .eql 27 (.slice (some x) l.length cap) (.slice none 0 0)).run Tryz.prog w = .ok (.bool false) w := fun _ => rfl
  clear hv
  go_enter Tryz.func75, Tryz.ntmps75
  go_wp2_with (at_builtin; refine wpList_append_own _ rfl (.tmp 5) (.tmp 6) 27 rfl w.heap.size 49 i0 (.agg #[.int .i64 0, .int .i64 0, .int .i64 0, .int .i64 0, .string ⟨#[]⟩, .string ⟨#[]⟩, .string ⟨#[]⟩]) 7 80 Tryz.underlying27 hi hz0 hz1 hz2 rfl (by decide) (.slice (some ⟨w.heap.size, 0, none⟩) 0 0) 0 [] rfl HO.out x l.length cap (flatC cnC l) rfl ?c1 ?c2 ?c3 ?c4 ?c5 ?c6 ?_)
  case c1 => exact flatC_len cnC_len l
  case c2 =>
    intro j u hj
    rw [World.cell?_alloc_old _ _ _ (Nat.ne_of_lt (HL.out j u hj))]
    exact HW.out j u hj
  case c3 => exact flatC_one cnC_one l
  case c4 => unfold maxLen; omega
  case c5 => omega
  case c6 => simp
  · intro v' w' hown hgrow hnil
    have hbw : Below w.heap.size w w' := ((Below.refl _ _).alloc (Nat.le_refl _) _).grown hgrow (by simp) (fun k hk => by simp [Value.ownBlock] at hk; omega)
    obtain ⟨a1, cap1, rfl⟩ : ∃ g c, v' = .slice (some g) l.length c := by
      obtain ⟨g, c, e, _⟩ := own_someR hown hnil
      exact ⟨_, c, by simpa using e⟩
    have HG : Hid (w'.ownsRow w.heap.size 49 7 (.slice (some a1) l.length cap1) l.length (flatC cnC l)) := by
      show w'.ownsRow _ _ _ _ _ _
      have h := hown
      simpa using h
    clear hown hgrow hnil
    go_wp2
    go_ret
    exact ⟨_, _, rfl, HG.out, hbw⟩

end Go.Proofs.YtgfkiljkpkfapaaGreatDoor

/- A box in memory of its own, as the program copies it. Condition: at most 2^20 rules, ends and streams each. -/
namespace Go.Proofs.YtgfkiljkpkfapaaGreatDoor
open Go.RowKit Go.Sort

/-- A box whose lists lie at some addresses, and nobody else holds them. -/
def OwB (w : World) (B : Nat) (v : Value) (b : Bx) : Prop := ∃ x1 c1 x2 c2 x3 c3, v = .agg #[.slice (some x1) b.rs.length c1, .slice (some x2) b.es.length c2, .slice (some x3) b.cs.length c3] ∧
  OwnRl w B (.slice (some x1) b.rs.length c1) b.rs ∧ w.ownsRow B 31 2 (.slice (some x2) b.es.length c2) b.es.length (flatC enC b.es) ∧ OwnCn w B (.slice (some x3) b.cs.length c3) b.cs
/-- A box whose lists lie at some addresses reads so. -/
def RdBo (w : World) (v : Value) (b : Bx) : Prop := ∃ x1 c1 x2 c2 x3 c3, v = .agg #[.slice (some x1) b.rs.length c1, .slice (some x2) b.es.length c2, .slice (some x3) b.cs.length c3] ∧
  RdRl w (.slice (some x1) b.rs.length c1) b.rs ∧ RdC enC w (.slice (some x2) b.es.length c2) b.es ∧ RdCn w (.slice (some x3) b.cs.length c3) b.cs
theorem own_ends {w : World} {B : Nat} {v : Value} {es : List (Int × Int)} (h : OwnTab w B v es) : w.ownsRow B 31 2 v es.length (flatC enC es) := by
  have := h
  unfold OwnTab at this
  rwa [flatE_flatC] at this
theorem ends_own {w : World} {B : Nat} {v : Value} {es : List (Int × Int)} (h : w.ownsRow B 31 2 v es.length (flatC enC es)) : OwnTab w B v es := by
  unfold OwnTab
  rw [flatE_flatC]
  exact h
theorem OwB.rd {w : World} {B : Nat} {v : Value} {b : Bx} (h : OwB w B v b) : RdBo w v b := by
  obtain ⟨x1, c1, x2, c2, x3, c3, rfl, h1, h2, h3⟩ := h
  exact ⟨_, _, _, _, _, _, rfl, h1.rd, RdC.of_own enC_two (by decide) h2, h3.rd⟩
theorem OwB.fr {w : World} {B : Nat} {v : Value} {b : Bx} (h : OwB w B v b) : FrBx w B v b := by
  obtain ⟨x1, c1, x2, c2, x3, c3, rfl, h1, h2, h3⟩ := h
  exact ⟨_, _, _, rfl, FrL.own h1, FrL.own h2, h3.fr⟩
theorem OwB.later {w w' : World} {B : Nat} {v : Value} {b : Bx} (h : OwB w B v b) (hb : Below w.heap.size w w') : OwB w' B v b := by
  obtain ⟨x1, c1, x2, c2, x3, c3, rfl, h1, h2, h3⟩ := h
  exact ⟨_, _, _, _, _, _, rfl, own_later h1 hb, own_later h2 hb, own_later h3 hb⟩
theorem OwB.base {w : World} {B B' : Nat} {v : Value} {b : Bx} (h : OwB w B v b) (hB : B' ≤ B) : OwB w B' v b := by
  obtain ⟨x1, c1, x2, c2, x3, c3, rfl, h1, h2, h3⟩ := h
  exact ⟨_, _, _, _, _, _, rfl, own_lower h1 hB, own_lower h2 hB, own_lower h3 hB⟩
theorem OwB.setCell {w : World} {B : Nat} {v : Value} {b : Bx} (h : OwB w B v b) {a : Addr} (ha : a.block < B) (u : Value) : OwB (w.setCell a u) B v b := by
  obtain ⟨x1, c1, x2, c2, x3, c3, rfl, h1, h2, h3⟩ := h
  exact ⟨_, _, _, _, _, _, rfl, ownsRow_setCell_below h1 ha u, ownsRow_setCell_below h2 ha u, ownsRow_setCell_below h3 ha u⟩

/-- The copy's walk: what was there is there, and the argument's own block holds its three lists. -/
def Cp (w : World) (a b c : Value) (w' : World) : Prop := Below w.heap.size w w' ∧ w.heap.size + 1 + 1 ≤ w'.heap.size ∧ w'.cell? ⟨w.heap.size, 0, none⟩ = some a ∧ w'.cell? ⟨w.heap.size, 1, none⟩ = some b ∧ w'.cell? ⟨w.heap.size, 2, none⟩ = some c
theorem Cp.drew {w w' : World} {a b c : Value} (h : Cp w a b c w') : Cp w a b c w'.drew := ⟨h.1.drew, h.2⟩
theorem Cp.call {w w' w'' : World} {a b c : Value} (h : Cp w a b c w') (k : Below w'.heap.size w' w'') : Cp w a b c w'' := by
  obtain ⟨l, g, y0, y1, y2⟩ := h
  have hl : w.heap.size < w'.heap.size := by omega
  exact ⟨l.trans (k.mono l.size), Nat.le_trans g k.size, (k.cell hl).trans y0, (k.cell hl).trans y1, (k.cell hl).trans y2⟩
theorem Cp.set {w w' : World} {a b c : Value} (h : Cp w a b c w') (o : Nat) (u : Value) : Cp w a b c (w'.setCell ⟨w.heap.size + 1, o, none⟩ u) := by
  obtain ⟨l, g, y0, y1, y2⟩ := h
  exact ⟨l.setCell (Nat.le_succ _) u, by simpa [World.setCell] using g, (World.cell?_setCell_far _ _ _ _ (by simp)).trans y0, (World.cell?_setCell_far _ _ _ _ (by simp)).trans y1, (World.cell?_setCell_far _ _ _ _ (by simp)).trans y2⟩

end Go.Proofs.YtgfkiljkpkfapaaGreatDoor

/- A sender is put into a box's table through a pointer. Conditions: the table is ok, the end is inside. -/
namespace Go.Proofs.YtgfkiljkpkfapaaGreatDoor
open Go.RowKit Go.Sort

def Ps (w : World) (g : Nat) (v a p : Value) (w' : World) : Prop := Below w.heap.size w w' ∧ w.heap.size + 1 ≤ w'.heap.size ∧ w'.cell? ⟨g, 1, none⟩ = some v ∧ w'.cell? ⟨w.heap.size, 0, none⟩ = some a ∧ w'.cell? ⟨w.heap.size, 1, none⟩ = some p
theorem Ps.drew {w w' : World} {g : Nat} {v a p : Value} (h : Ps w g v a p w') : Ps w g v a p w'.drew := ⟨h.1.drew, h.2⟩
theorem Ps.call {w w' w'' : World} {g : Nat} {v a p : Value} (h : Ps w g v a p w') (hg : g < w.heap.size) (k : Below w'.heap.size w' w'') : Ps w g v a p w'' := by
  obtain ⟨l, z, y0, y1, y2⟩ := h
  have hl : w.heap.size < w'.heap.size := by omega
  have hl' : g < w'.heap.size := by omega
  exact ⟨l.trans (k.mono l.size), Nat.le_trans z k.size, (k.cell hl').trans y0, (k.cell hl).trans y1, (k.cell hl).trans y2⟩
theorem Ps.alloc {w w' : World} {g : Nat} {v a p : Value} (h : Ps w g v a p w') (hg : g < w.heap.size) (o : Obj) : Ps w g v a p (w'.alloc o) := h.call hg ((Below.refl _ _).alloc (Nat.le_refl _) o)
theorem Ps.set {w w' : World} {g : Nat} {v a p : Value} (h : Ps w g v a p w') (hg : g < w.heap.size) {b : Nat} (hb : w.heap.size + 1 ≤ b) (o : Nat) (u : Value) : Ps w g v a p (w'.setCell ⟨b, o, none⟩ u) := by
  obtain ⟨l, z, y0, y1, y2⟩ := h
  exact ⟨l.setCell (by simp; omega) u, by simpa [World.setCell] using z, (World.cell?_setCell_far _ _ _ _ (by simp; omega)).trans y0, (World.cell?_setCell_far _ _ _ _ (by simp; omega)).trans y1, (World.cell?_setCell_far _ _ _ _ (by simp; omega)).trans y2⟩

theorem call_new {W w1 : World} {u : Value} {t : TypeId} (b : Below (W.alloc (.cells #[u] t)).drew.heap.size (W.alloc (.cells #[u] t)).drew w1) : w1.cell? ⟨W.heap.size, 0, none⟩ = some u ∧ w1.frozen? ⟨W.heap.size, 0, none⟩ = false := by
  have h : Blk (W.alloc (.cells #[u] t)).drew W.heap.size t [u] := heap_last3 W _
  have h2 := Blk.cell (h.below b) 0 u rfl
  exact h2

set_option maxRecDepth 100000 in
set_option maxHeartbeats 1600000 in
theorem implSend_any (g : Nat) (y1 v y3 : Value) (es : List (Int × Int)) (a p : Int) (w : World) (hb : Blk w g 29 [y1, v, y3]) (ht : TabAt w v es) (hm : mapB es = true) (hi : insB a p = true) :
    Calls Tryz.prog 34 #[.pointer (some ⟨g, 0, none⟩), .agg #[.int .i64 a, .int .i64 p]] w fun e w' => e = .returned (.int .i64 (putE es (a, p)).2) ∧
      ∃ g' c' w1, Below w.heap.size w w1 ∧ OwnTab w1 w.heap.size (.slice g' (putE es (a, p)).1.length c') (putE es (a, p)).1 ∧ w' = w1.setCell ⟨g, 1, none⟩ (.slice g' (putE es (a, p)).1.length c') := by
  have hl := hb.lt
  obtain ⟨us, hus⟩ : ∃ us, us = (putE es (a, p)).1 := ⟨_, rfl⟩
  obtain ⟨q, hq⟩ : ∃ q, q = (putE es (a, p)).2 := ⟨_, rfl⟩
  have hn : es.length ≤ 4194304 := by have := mapB_le hm; omega
  have HP : Hid (∀ w', Below w.heap.size w w' → Calls Tryz.prog 80 #[.agg #[v], .agg #[.int .i64 a, .int .i64 p]] w' fun e w'' => ∃ g c, e = .returned (.tuple #[.agg #[.slice g us.length c], .int .i64 q]) ∧ OwnTab w'' w'.heap.size (.slice g us.length c) us ∧ Below w'.heap.size w' w'') := fun w' h => by
    rw [hus, hq]; exact implMapPut_ok v es a p w' hn (ht.below h) hm hi
  rw [← hus, ← hq]
  clear hus hq ht hm hi hn
  obtain ⟨⟨r0, r1, r2⟩, f0, f1, f2⟩ := three_all hb
  have HB : Hid (Blk w g 29 [y1, v, y3]) := hb
  clear hb
  go_enter Tryz.func34, Tryz.ntmps34
  go_wp2_with fail
  have hl0 : g < w.heap.size := hl
  have S0 : Below w.heap.size w (w.alloc (.cells #[.int .i64 a, .int .i64 p] 31)) := (Below.refl _ _).alloc (Nat.le_refl _) _
  have T0 : Hid (Below w.heap.size w (w.alloc (.cells #[.int .i64 a, .int .i64 p] 31))) := S0
  obtain ⟨W, hW⟩ : ∃ W, W = w.alloc (.cells #[.int .i64 a, .int .i64 p] 31) := ⟨_, rfl⟩
  have M0 : Below w.heap.size w W ∧ w.heap.size + 1 ≤ W.heap.size ∧ W.cell? ⟨g, 1, none⟩ = some v ∧ W.cell? ⟨w.heap.size, 0, none⟩ = some (.int .i64 a) ∧ W.cell? ⟨w.heap.size, 1, none⟩ = some (.int .i64 p) := by
    rw [hW]
    exact ⟨S0, by simp, (S0.cell hl).trans r1, by simp, by simp⟩
  have MM := Lib.hid M0
  rw [← hW]
  clear hW S0 T0 r0 r1 r2 f0 f1 f2
  go_region_held3 (fun w' => Below w.heap.size w w' ∧ w.heap.size + 1 ≤ w'.heap.size ∧ w'.cell? ⟨g, 1, none⟩ = some v ∧ w'.cell? ⟨w.heap.size, 0, none⟩ = some (.int .i64 a) ∧ w'.cell? ⟨w.heap.size, 1, none⟩ = some (.int .i64 p))
    (first
      | (show Ps w g v (.int .i64 a) (.int .i64 p) _; repeat (first | exact MM.out | exact cc.out | refine Ps.drew ?_ | refine Ps.alloc ?_ hl0 _ | refine Ps.set ?_ hl0 (by first | exact zz | exact MM.out.2.1) _ _))
      | (trace_state; fail))
    (first | (go_at_call 80; have hS : Ps w g v (.int .i64 a) (.int .i64 p) _ := (by assumption : Below w.heap.size w _ ∧ _); refine (HP.out _ hS.1).mono ?_; rintro e w1 ⟨g1, c1, rfl, o1, b1⟩; have O1 := Lib.hid o1; have hz := hS.1.size;  have cc : Hid (Ps w g v (.int .i64 a) (.int .i64 p) w1) := hS.call hl0 b1; have zz : w.heap.size + 1 ≤ w1.heap.size := cc.out.2.1; obtain ⟨⟨r0, r1, r2⟩, f0, f1, f2⟩ := three_all (HB.out.below cc.out.1); have ff : ∀ o, (w1.alloc o).frozen? ⟨g, 1, none⟩ = false := (fun o => by rw [((Below.refl w1.heap.size w1).alloc (Nat.le_refl _) o).frozen (by simp; omega)]; exact f1); (try (have tt := call_new b1; obtain ⟨t0, h0⟩ := tt; clear b1)); clear o1))
  all_goals
    go_wp2_with fail
    refine bodyPost_ret (v := .int .i64 q) (by simp [results, Tryz.results34, go_sem]) rfl ⟨rfl, _, _, _, ?_, ?_, rfl⟩
    · first
        | exact (cc.out.1.alloc (by omega) _)
        | exact (cc.out.1.setCell (by simp; omega) _)
    · first
        | exact OwnTab.mono (OwnTab.below O1.out ((Below.refl _ _).alloc (Nat.le_refl _) _)) hz
        | exact OwnTab.mono (B := (W.alloc _).drew.heap.size) (ownsRow_setCell_below O1.out (by simp) _) hz

end Go.Proofs.YtgfkiljkpkfapaaGreatDoor

/- BoxTurn of the program. Conditions: at most 2^20 rules, ends and streams each; all numbers are ints. -/
namespace Go.Proofs.YtgfkiljkpkfapaaGreatDoor
open Go.RowKit Go.Sort

/-- The call's four variables: the box, the segment, and the two that it answers. -/
def Q4 (w : World) (lb ls lr lq : List Value) (w' : World) : Prop := Below w.heap.size w w' ∧ Blk w' w.heap.size 29 lb ∧ Blk w' (w.heap.size + 1) 33 ls ∧ Blk w' (w.heap.size + 1 + 1) 29 lr ∧ Blk w' (w.heap.size + 1 + 1 + 1) 33 lq
theorem Q4.call {w w' w'' : World} {lb ls lr lq : List Value} (h : Q4 w lb ls lr lq w') (k : Below w'.heap.size w' w'') : Q4 w lb ls lr lq w'' := by
  obtain ⟨h0, h1, h2, h3, h4⟩ := h
  exact ⟨h0.trans (k.mono h0.size), h1.below k, h2.below k, h3.below k, h4.below k⟩
theorem Q4.drew {w w' : World} {lb ls lr lq : List Value} (h : Q4 w lb ls lr lq w') : Q4 w lb ls lr lq w'.drew := ⟨h.1.drew, h.2⟩
theorem Q4.new (w : World) (lb ls lr lq : List Value) : Q4 w lb ls lr lq ((((w.alloc (.cells ⟨lb⟩ 29)).alloc (.cells ⟨ls⟩ 33)).alloc (.cells ⟨lr⟩ 29)).alloc (.cells ⟨lq⟩ 33)) := by
  have n : ∀ (W : World) (k : Nat) (l : List Value) (t : TypeId), k = W.heap.size → Blk (W.alloc (.cells ⟨l⟩ t)) k t l := fun W k l t e => by subst e; exact heap_last3 W _
  have later : ∀ {W : World} {k : Nat} {l : List Value} {t : TypeId} (o : Obj), Blk W k t l → Blk (W.alloc o) k t l := fun o h => h.below ((Below.refl _ _).alloc (Nat.le_refl _) _)
  refine ⟨(((Below.refl _ _).alloc (Nat.le_refl _) _).alloc (by simp) _).alloc (by simp; omega) _ |>.alloc (by simp; omega) _, ?_, ?_, ?_, ?_⟩
  · exact later _ (later _ (later _ (n _ _ _ _ rfl)))
  · exact later _ (later _ (n _ _ _ _ (by simp)))
  · exact later _ (n _ _ _ _ (by simp))
  · exact n _ _ _ _ (by simp)
theorem seven_froz {w : World} {b : Nat} {t : TypeId} {x0 x1 x2 x3 x4 x5 x6 : Value} (h : Blk w b t [x0, x1, x2, x3, x4, x5, x6]) :
    w.frozen? ⟨b, 0, none⟩ = false ∧ w.frozen? ⟨b, 1, none⟩ = false ∧ w.frozen? ⟨b, 2, none⟩ = false ∧ w.frozen? ⟨b, 3, none⟩ = false ∧ w.frozen? ⟨b, 4, none⟩ = false ∧ w.frozen? ⟨b, 5, none⟩ = false ∧ w.frozen? ⟨b, 6, none⟩ = false :=
  ⟨(h.cell 0 x0 rfl).2, (h.cell 1 x1 rfl).2, (h.cell 2 x2 rfl).2, (h.cell 3 x3 rfl).2, (h.cell 4 x4 rfl).2, (h.cell 5 x5 rfl).2, (h.cell 6 x6 rfl).2⟩
theorem seven_put {w : World} {b : Nat} {t : TypeId} {x0 x1 x2 x3 x4 x5 x6 : Value} (h : Blk w b t [x0, x1, x2, x3, x4, x5, x6]) (u0 u1 u2 u3 u4 u5 u6 : Value) :
    Blk (((((((w.setCell ⟨b, 0, none⟩ u0).setCell ⟨b, 1, none⟩ u1).setCell ⟨b, 2, none⟩ u2).setCell ⟨b, 3, none⟩ u3).setCell ⟨b, 4, none⟩ u4).setCell ⟨b, 5, none⟩ u5).setCell ⟨b, 6, none⟩ u6) b t [u0, u1, u2, u3, u4, u5, u6] :=
  ((((((h.set 0 u0).set 1 u1).set 2 u2).set 3 u3).set 4 u4).set 5 u5).set 6 u6
/-- The two answers are laid into their variables. -/
def put10 (w : World) (n : Nat) (u0 u1 u2 t0 t1 t2 t3 t4 t5 t6 : Value) : World :=
  (((((((((((w.setCell ⟨n + 1 + 1, 0, none⟩ u0).setCell ⟨n + 1 + 1, 1, none⟩ u1).setCell ⟨n + 1 + 1, 2, none⟩ u2).setCell ⟨n + 1 + 1 + 1, 0, none⟩ t0).setCell ⟨n + 1 + 1 + 1, 1, none⟩ t1).setCell ⟨n + 1 + 1 + 1, 2, none⟩ t2).setCell ⟨n + 1 + 1 + 1, 3, none⟩ t3).setCell ⟨n + 1 + 1 + 1, 4, none⟩ t4).setCell ⟨n + 1 + 1 + 1, 5, none⟩ t5).setCell ⟨n + 1 + 1 + 1, 6, none⟩ t6))
theorem put10_box {w : World} {n : Nat} {t : TypeId} {x0 x1 x2 : Value} (h : Blk w (n + 1 + 1) t [x0, x1, x2]) (u0 u1 u2 t0 t1 t2 t3 t4 t5 t6 : Value) : Blk (put10 w n u0 u1 u2 t0 t1 t2 t3 t4 t5 t6) (n + 1 + 1) t [u0, u1, u2] :=
  (((((((three_set h u0 u1 u2).far (by simp) _).far (by simp) _).far (by simp) _).far (by simp) _).far (by simp) _).far (by simp) _).far (by simp) _
theorem put10_seg {w : World} {n : Nat} {t : TypeId} {x0 x1 x2 x3 x4 x5 x6 : Value} (h : Blk w (n + 1 + 1 + 1) t [x0, x1, x2, x3, x4, x5, x6]) (u0 u1 u2 t0 t1 t2 t3 t4 t5 t6 : Value) : Blk (put10 w n u0 u1 u2 t0 t1 t2 t3 t4 t5 t6) (n + 1 + 1 + 1) t [t0, t1, t2, t3, t4, t5, t6] :=
  seven_put (((h.far (a := ⟨n + 1 + 1, 0, none⟩) (by simp) u0).far (a := ⟨n + 1 + 1, 1, none⟩) (by simp) u1).far (a := ⟨n + 1 + 1, 2, none⟩) (by simp) u2) t0 t1 t2 t3 t4 t5 t6
theorem put10_below {w w1 : World} {B n : Nat} (h : Below B w w1) (hn : B ≤ n) (u0 u1 u2 t0 t1 t2 t3 t4 t5 t6 : Value) : Below B w (put10 w1 n u0 u1 u2 t0 t1 t2 t3 t4 t5 t6) :=
  have h1 : B ≤ n + 1 + 1 := by omega
  have h2 : B ≤ n + 1 + 1 + 1 := by omega
  (((((((((h.setCell h1 _).setCell h1 _).setCell h1 _).setCell h2 _).setCell h2 _).setCell h2 _).setCell h2 _).setCell h2 _).setCell h2 _).setCell h2 _
theorem put10_own {w : World} {n B : Nat} {v : Value} {b : Bx} (h : OwB w B v b) (hB : n + 1 + 1 + 1 < B) (u0 u1 u2 t0 t1 t2 t3 t4 t5 t6 : Value) : OwB (put10 w n u0 u1 u2 t0 t1 t2 t3 t4 t5 t6) B v b :=
  have h1 : n + 1 + 1 < B := by omega
  (((((((((h.setCell (a := ⟨n + 1 + 1, 0, none⟩) h1 _).setCell (a := ⟨n + 1 + 1, 1, none⟩) h1 _).setCell (a := ⟨n + 1 + 1, 2, none⟩) h1 _).setCell (a := ⟨n + 1 + 1 + 1, 0, none⟩) hB _).setCell (a := ⟨n + 1 + 1 + 1, 1, none⟩) hB _).setCell (a := ⟨n + 1 + 1 + 1, 2, none⟩) hB _).setCell (a := ⟨n + 1 + 1 + 1, 3, none⟩) hB _).setCell (a := ⟨n + 1 + 1 + 1, 4, none⟩) hB _).setCell (a := ⟨n + 1 + 1 + 1, 5, none⟩) hB _).setCell (a := ⟨n + 1 + 1 + 1, 6, none⟩) hB _
def zeroSg : List Value := [.int .i64 0, .int .i64 0, .int .i64 0, .int .i64 0, .int .i64 0, .int .i64 0, .string ByteArray.empty]

end Go.Proofs.YtgfkiljkpkfapaaGreatDoor

/- BoxTurn of the specification at a box that is not ok. Conditions: at most 2^20 rules, ends and streams each; all numbers are ints. -/
namespace Go.Proofs.YtgfkiljkpkfapaaGreatDoor
open Go.RowKit Go.Sort

set_option maxRecDepth 100000 in
set_option maxHeartbeats 3200000 in
theorem specSame_not (v : Value) (w : World) (hv : ∃ a b c, v = .agg #[a, b, c]) (HO : Hid (∀ w', Below w.heap.size w w' → Calls Tryz.prog 10 #[v] w' fun e w'' => e = .returned (.bool false) ∧ Below w'.heap.size w' w'')) :
    Calls Tryz.prog 36 #[v] w fun e w' => e = .returned (.agg #[.slice none 0 0, .slice none 0 0, .slice none 0 0]) ∧ Below w.heap.size w w' := by
  obtain ⟨a, b, c, rfl⟩ := hv
  go_enter Tryz.func36, Tryz.ntmps36
  have BN : Hid (Below w.heap.size w ((w.alloc (.cells #[a, b, c] 29)).alloc (.cells #[.slice none 0 0, .slice none 0 0, .slice none 0 0] 29))) := ((Below.refl _ _).alloc (Nat.le_refl _) _).alloc (by simp) _
  have KN : Hid (Blk ((w.alloc (.cells #[a, b, c] 29)).alloc (.cells #[.slice none 0 0, .slice none 0 0, .slice none 0 0] 29)) (w.heap.size + 1) 29 [.slice none 0 0, .slice none 0 0, .slice none 0 0]) := by
    have h := three_new (w.alloc (.cells #[a, b, c] 29)) (.slice none 0 0) (.slice none 0 0) (.slice none 0 0) 29
    show Blk _ _ _ _
    simpa using h
  go_wp2_with (go_at_call 10; refine (HO.out _ BN.out).mono ?_; rintro e w1 ⟨rfl, b1⟩; have B1 : Hid (Below w.heap.size w w1) := BN.out.trans (b1.mono BN.out.size); have K1 := Lib.hid (KN.out.below b1); obtain ⟨⟨r0, r1, r2⟩, f0, f1, f2⟩ := three_all K1.out; clear b1)
  obtain ⟨⟨y0, y1, y2⟩, -⟩ := three_all (three_set K1.out (.slice none 0 0) (.slice none 0 0) (.slice none 0 0))
  refine bodyPost_ret (v := .agg #[.slice none 0 0, .slice none 0 0, .slice none 0 0]) (by simp [results, Tryz.results36, go_sem, y0, y1, y2]) rfl ⟨rfl, ((B1.out.setCell (by simp) _).setCell (by simp) _).setCell (by simp) _⟩

end Go.Proofs.YtgfkiljkpkfapaaGreatDoor

/- Blocks that hold structs of one type: a table's row lies in none of them. No condition. -/
namespace Go.Proofs.YtgfkiljkpkfapaaGreatDoor
open Go.RowKit

/-- A block of cells of this type. -/
def TagT (w : World) (b : Nat) (t : TypeId) : Prop := ∃ cs fz, w.heap[b]? = some (.cells cs t fz)
theorem TagT.later {w w' : World} {b : Nat} {t : TypeId} (h : TagT w b t) (hb : Below w.heap.size w w') : TagT w' b t := by
  obtain ⟨cs, fz, h⟩ := h
  exact ⟨cs, fz, (hb.block b (Array.getElem?_eq_some_iff.1 h).1).trans h⟩
theorem TagT.new (w : World) (cs : Array Value) (t : TypeId) : TagT (w.alloc (.cells cs t)) w.heap.size t := ⟨cs, _, heap_alloc_new w (.cells cs t)⟩
theorem TagT.setCell {w : World} {b : Nat} {t : TypeId} (h : TagT w b t) (a : Addr) (u : Value) : TagT (w.setCell a u) b t := by
  obtain ⟨cs, fz, h⟩ := h
  by_cases e : b = a.block
  · subst e
    refine ⟨if a.spot.isSome then cs else cs.setIfInBounds a.off u, fz, ?_⟩
    show (w.heap.modify a.block _)[a.block]? = _
    rw [Array.getElem?_modify]
    simp [h]
  · exact ⟨cs, fz, (Below.heap_setCell _ _ _ _ e).trans h⟩

end Go.Proofs.YtgfkiljkpkfapaaGreatDoor

/- A box in memory of its own, as the specification copies it. Condition: at most 2^20 rules, ends and streams each. -/
namespace Go.Proofs.YtgfkiljkpkfapaaGreatDoor
open Go.RowKit Go.Sort

theorem Blk.newE {w : World} {t : TypeId} {g : Nat} (hg : g = w.heap.size) : Blk (w.alloc (.cells #[] t)) g t [] := by
  subst hg
  exact heap_last w _
theorem Blk.new1 (w : World) (o : Obj) (t : TypeId) : Blk ((w.alloc o).alloc (.cells #[] t)) (w.heap.size + 1) t [] := Blk.newE (by simp)
theorem Blk.alloc {w : World} {g : Nat} {t : TypeId} {l : List Value} (h : Blk w g t l) (o : Obj) : Blk (w.alloc o) g t l := h.below ((Below.refl _ _).alloc (Nat.le_refl _) _)
theorem Blk.drew {w : World} {g : Nat} {t : TypeId} {l : List Value} (h : Blk w g t l) : Blk w.drew g t l := h
theorem Blk.grown {w w' : World} {g R : Nat} {t : TypeId} {l : List Value} (h : Blk w g t l) (hg : w.grownBy w' (some R)) (hne : g ≠ R) : Blk w' g t l := (hg.block g h.lt (fun e => hne (by injection e))).trans h
theorem Blk.empty {w : World} {B g k : Nat} {t : TypeId} (h : Blk w g t []) (hB : B ≤ g) : w.ownsRow B t k (.slice (some ⟨g, 0, .none⟩) 0 0) 0 [] :=
  ⟨by simp, .inr ⟨g, 0, #[], rfl, hB, h, Nat.le_refl _, Nat.zero_le _, by simp, by simp⟩⟩
/-- An own row outlives the growth of a block of another type. -/
theorem own_apart {w w' : World} {B k n R : Nat} {t tR : TypeId} {v : Value} {xs l : List Value} (h : w.ownsRow B t k v n xs) (hR : Blk w R tR l) (hg : w.grownBy w' (some R)) (hne : tR ≠ t) : w'.ownsRow B t k v n xs := by
  refine ⟨h.1, ?_⟩
  rcases h.2 with h2 | ⟨g, cap, cur, hv, hB, hgg, r⟩
  · exact .inl h2
  · refine .inr ⟨g, cap, cur, hv, hB, (hg.block g (Array.getElem?_eq_some_iff.1 hgg).1 (fun e => ?_)).trans hgg, r⟩
    have e : g = R := by injection e
    subst e
    rw [hR] at hgg
    injection hgg with h1
    injection h1 with _ h2 _
    exact hne h2
theorem Cp.alloc {w w' : World} {a b c : Value} (h : Cp w a b c w') (o : Obj) : Cp w a b c (w'.alloc o) := h.call ((Below.refl _ _).alloc (Nat.le_refl _) _)
theorem Cp.grown {w w' w'' : World} {a b c : Value} {R : Nat} (h : Cp w a b c w') (hg : w'.grownBy w'' (some R)) (hR : w.heap.size + 1 + 1 ≤ R) : Cp w a b c w'' := by
  obtain ⟨l, g, y0, y1, y2⟩ := h
  have hc : ∀ o, w''.cell? ⟨w.heap.size, o, none⟩ = w'.cell? ⟨w.heap.size, o, none⟩ := fun o => World.cell?_of_block (a := ⟨w.heap.size, o, .none⟩) (hg.block w.heap.size (by omega) (fun e => by injection e; omega))
  exact ⟨l.grown hg (by omega) (fun k hk => by injection hk; omega), Nat.le_trans g hg.size, (hc 0).trans y0, (hc 1).trans y1, (hc 2).trans y2⟩

end Go.Proofs.YtgfkiljkpkfapaaGreatDoor
