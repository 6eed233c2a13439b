/- The law of BoxOk. Conditions: the argument's lists lie in the machine's memory, at any address; the variables that are read hold what they are laid with. (Several texts, joined: ConnOkI, ConnI, RulesI, IBoxOk, LawBoxOk.) -/
import Derived.Test.YtfgkonphbmliaaaGreatDoorTBoxOkh
import Derived.Test.YtfgkonphbmliaaaGreatDoorBoxThree
import Derived.Test.YtfgkonphbmliaaaGreatDoorTBoxOkf
import Derived.Test.YtfgkonphbmliaaaGreatDoorTBoxOkc
import Derived.Test.YtfgkonphbmliaaaGreatDoorTBoxOkb
import Derived.Test.YtfgkonphbmliaaaGreatDoorEqEnd
import Derived.Deep.RegionHeld3
import Derived.Deep.RegionWith

/- Whether streams are ok, as the program asks. Conditions: a table that is ok; texts of at most 2^21 bytes. -/
namespace Go.Proofs.YtfgkonphbmliaaaGreatDoor
open Go.RowKit Go.Sort

theorem seven_cells {w : World} {b : Nat} {t : TypeId} {x0 x1 x2 x3 x4 x5 x6 : Value} (h : Blk w b t [x0, x1, x2, x3, x4, x5, x6]) :
    w.cell? ⟨b, 0, none⟩ = some x0 ∧ w.cell? ⟨b, 1, none⟩ = some x1 ∧ w.cell? ⟨b, 2, none⟩ = some x2 ∧ w.cell? ⟨b, 3, none⟩ = some x3 ∧ w.cell? ⟨b, 4, none⟩ = some x4 ∧ w.cell? ⟨b, 5, none⟩ = some x5 ∧ w.cell? ⟨b, 6, none⟩ = some x6 :=
  ⟨(h.cell 0 x0 rfl).1, (h.cell 1 x1 rfl).1, (h.cell 2 x2 rfl).1, (h.cell 3 x3 rfl).1, (h.cell 4 x4 rfl).1, (h.cell 5 x5 rfl).1, (h.cell 6 x6 rfl).1⟩

set_option maxRecDepth 100000 in
set_option maxHeartbeats 6400000 in
theorem implConn_any (v : Value) (es : List (Int × Int)) (ia ip oa op : Int) (kn he ne : ByteArray) (w : World) (hm : mapB es = true) (hk : kn.size ≤ 2097152) (hh : he.size ≤ 2097152) (hne : ne.size ≤ 2097152) (wa : (Lit.int .i64 ia).wf = true) (wp : (Lit.int .i64 ip).wf = true) (ht : TabAt w v es) (hv : VarsOk w) (htb : TabOk w) :
    Calls Tryz.prog 45 #[.agg #[v], .agg #[.int .i64 ia, .int .i64 ip, .int .i64 oa, .int .i64 op, .string kn, .string he, .string ne]] w fun e w' => e = .returned (.bool (conI es ⟨ia, ip, oa, op, kn, he, ne⟩)) ∧ Below w.heap.size w w' := by
  have h6 := mapB_le hm
  obtain ⟨W1, hW1⟩ : ∃ W, W = (w.alloc (.cells #[v] 34)).alloc (.cells #[.int .i64 ia, .int .i64 ip, .int .i64 oa, .int .i64 op, .string kn, .string he, .string ne] 83) := ⟨_, rfl⟩
  have hB1 : Below w.heap.size w W1 := by rw [hW1]; exact ((Below.refl _ _).alloc (Nat.le_refl _) _).alloc (by simp) _
  have hs1 : W1.heap.size = w.heap.size + 2 := by rw [hW1]; simp
  have HT := Lib.hid ht
  have HV := Lib.hid hv
  have HB := Lib.hid htb
  obtain ⟨ad, cap, rfl, _, _⟩ := ht
  have K2 : Blk W1 (w.heap.size + 1) 83 [.int .i64 ia, .int .i64 ip, .int .i64 oa, .int .i64 op, .string kn, .string he, .string ne] := by
    rw [hW1]
    have := heap_last3 (w.alloc (.cells #[.slice ad es.length cap] 34)) (.cells #[.int .i64 ia, .int .i64 ip, .int .i64 oa, .int .i64 op, .string kn, .string he, .string ne] 83)
    unfold Blk
    simpa using this
  have K0 : Blk W1 w.heap.size 34 [.slice ad es.length cap] := by
    rw [hW1]
    exact (show Blk (w.alloc (.cells #[.slice ad es.length cap] 34)) w.heap.size _ _ from heap_last3 w _).below ((Below.refl _ _).alloc (Nat.le_refl _) _)
  have HF : Hid (∀ w', Below W1.heap.size W1 w' → w'.cell? ⟨w.heap.size, 0, none⟩ = some (.slice ad es.length cap) ∧ (w'.cell? ⟨w.heap.size + 1, 0, none⟩ = some (.int .i64 ia) ∧ w'.cell? ⟨w.heap.size + 1, 1, none⟩ = some (.int .i64 ip) ∧ w'.cell? ⟨w.heap.size + 1, 2, none⟩ = some (.int .i64 oa) ∧ w'.cell? ⟨w.heap.size + 1, 3, none⟩ = some (.int .i64 op) ∧ w'.cell? ⟨w.heap.size + 1, 4, none⟩ = some (.string kn) ∧ w'.cell? ⟨w.heap.size + 1, 5, none⟩ = some (.string he) ∧ w'.cell? ⟨w.heap.size + 1, 6, none⟩ = some (.string ne))) := fun w' h =>
    ⟨((K0.below h).cell 0 _ rfl).1, seven_cells (K2.below h)⟩
  have HH : Hid (∀ w', Below W1.heap.size W1 w' → Below w.heap.size w w') := fun w' h => hB1.trans (h.mono hB1.size)
  have BB : Hid (Below W1.heap.size W1 W1) := Below.refl _ _
  have C1 : Hid (∀ w', Below W1.heap.size W1 w' → Calls Tryz.prog 108 #[.agg #[.slice ad es.length cap], .agg #[.int .i64 ia, .int .i64 ip]] w' fun e w'' => e = .returned (.int .i64 (portI es (ia, ip))) ∧ Below w'.heap.size w' w'') := fun w' h => implMapPort_any _ es ia ip w' (by omega) (mapB_wf hm) wa wp (HT.out.below (HH.out _ h))
  have C2 : Hid (∀ w', Below W1.heap.size W1 w' → Calls Tryz.prog 109 #[.agg #[.int .i64 oa, .int .i64 op]] w' fun e w'' => e = .returned (.bool (outB oa op && decide (op = 21))) ∧ Below w'.heap.size w' w'') := fun w' h => isCtl_any oa op w'
  have C3 : Hid (∀ w', Below W1.heap.size W1 w' → Calls Tryz.prog 110 #[.agg #[.slice ad es.length cap], .string kn] w' fun e w'' => e = .returned (.bool (strB kn.data.toList && knowB es kn.data.toList)) ∧ Below w'.heap.size w' w'') := fun w' h => implKnow_any _ es kn w' hm hk (HT.out.below (HH.out _ h)) (HV.out.below (HH.out _ h))
  have C4 : Hid (∀ w', Below W1.heap.size W1 w' → Calls Tryz.prog 111 #[.agg #[.slice ad es.length cap], .string he, .string ne] w' fun e w'' => e = .returned (.bool (strB he.data.toList && nearB es he.data.toList ne.data.toList)) ∧ Below w'.heap.size w' w'') := fun w' h => implNear_any _ es he ne w' hm hh hne (HT.out.below (HH.out _ h)) (HV.out.below (HH.out _ h)) (HB.out.below (HH.out _ h) (Nat.le_refl _))
  have HC : Hid (conI es ⟨ia, ip, oa, op, kn, he, ne⟩ = (decide (portI es (ia, ip) ≠ 0) && (outB oa op && decide (op = 21)) && (strB kn.data.toList && knowB es kn.data.toList) && (strB he.data.toList && nearB es he.data.toList ne.data.toList))) := by
    show conI es ⟨ia, ip, oa, op, kn, he, ne⟩ = _
    simp only [conI, Bool.and_assoc]
  obtain ⟨Q, hQ⟩ : ∃ Q, Q = conI es ⟨ia, ip, oa, op, kn, he, ne⟩ := ⟨_, rfl⟩
  obtain ⟨z1, e1⟩ : ∃ q, q = portI es (ia, ip) := ⟨_, rfl⟩
  obtain ⟨q2, e2⟩ : ∃ q, q = (outB oa op && decide (op = 21)) := ⟨_, rfl⟩
  obtain ⟨q3, e3⟩ : ∃ q, q = (strB kn.data.toList && knowB es kn.data.toList) := ⟨_, rfl⟩
  obtain ⟨q4, e4⟩ : ∃ q, q = (strB he.data.toList && nearB es he.data.toList ne.data.toList) := ⟨_, rfl⟩
  rw [← hQ] at HC ⊢
  rw [← e1] at C1 HC
  rw [← e2] at C2 HC
  rw [← e3] at C3 HC
  rw [← e4] at C4 HC
  clear hQ e1 e2 e3 e4 K0 K2 hB1 HT HV HB hv htb wa wp hk hh hne hm
  clear hs1
  subst hW1
  by_cases h1 : z1 = 0
  · have hq : Q = false := by have := HC.out; simpa [h1] using this
    subst hq h1
    clear HC
    go_enter Tryz.func45, Tryz.ntmps45
    go_wp2_with (first
      | (go_at_call 108; refine (C1.out _ BB.out).mono ?_; rintro e wn ⟨rfl, bn⟩; have BB := Lib.hid (BB.out.trans (bn.mono BB.out.size)); obtain ⟨x0, y0, y1, y2, y3, y4, y5, y6⟩ := HF.out _ BB.out; clear bn)
      | (go_at_call 109; refine (C2.out _ BB.out).mono ?_; rintro e wn ⟨rfl, bn⟩; have BB := Lib.hid (BB.out.trans (bn.mono BB.out.size)); obtain ⟨x0, y0, y1, y2, y3, y4, y5, y6⟩ := HF.out _ BB.out; clear bn)
      | (go_at_call 110; refine (C3.out _ BB.out).mono ?_; rintro e wn ⟨rfl, bn⟩; have BB := Lib.hid (BB.out.trans (bn.mono BB.out.size)); obtain ⟨x0, y0, y1, y2, y3, y4, y5, y6⟩ := HF.out _ BB.out; clear bn)
      | (go_at_call 111; refine (C4.out _ BB.out).mono ?_; rintro e wn ⟨rfl, bn⟩; have BB := Lib.hid (BB.out.trans (bn.mono BB.out.size)); obtain ⟨x0, y0, y1, y2, y3, y4, y5, y6⟩ := HF.out _ BB.out; clear bn))
    go_ret
    exact ⟨rfl, HH.out _ BB.out⟩
  cases q2
  · have hq : Q = false := by have := HC.out; simpa using this
    subst hq
    clear HC
    go_enter Tryz.func45, Tryz.ntmps45
    go_wp2_with (first
      | (go_at_call 108; refine (C1.out _ BB.out).mono ?_; rintro e wn ⟨rfl, bn⟩; have BB := Lib.hid (BB.out.trans (bn.mono BB.out.size)); obtain ⟨x0, y0, y1, y2, y3, y4, y5, y6⟩ := HF.out _ BB.out; clear bn)
      | (go_at_call 109; refine (C2.out _ BB.out).mono ?_; rintro e wn ⟨rfl, bn⟩; have BB := Lib.hid (BB.out.trans (bn.mono BB.out.size)); obtain ⟨x0, y0, y1, y2, y3, y4, y5, y6⟩ := HF.out _ BB.out; clear bn)
      | (go_at_call 110; refine (C3.out _ BB.out).mono ?_; rintro e wn ⟨rfl, bn⟩; have BB := Lib.hid (BB.out.trans (bn.mono BB.out.size)); obtain ⟨x0, y0, y1, y2, y3, y4, y5, y6⟩ := HF.out _ BB.out; clear bn)
      | (go_at_call 111; refine (C4.out _ BB.out).mono ?_; rintro e wn ⟨rfl, bn⟩; have BB := Lib.hid (BB.out.trans (bn.mono BB.out.size)); obtain ⟨x0, y0, y1, y2, y3, y4, y5, y6⟩ := HF.out _ BB.out; clear bn))
    go_ret
    exact ⟨rfl, HH.out _ BB.out⟩
  have HQ2 : Hid (Q = (q3 && q4)) := by
    show Q = _
    have := HC.out
    rw [decide_eq_true h1] at this
    simpa using this
  clear HC
  cases q3
  rotate_left
  cases q4
  all_goals
    first
    | (have hq : Q = true := by (have := HQ2.out; simpa using this)
       subst hq)
    | (have hq : Q = false := by (have := HQ2.out; simpa using this)
       subst hq)
    clear HQ2
    go_enter Tryz.func45, Tryz.ntmps45
    go_wp2_with (first
      | (go_at_call 108; refine (C1.out _ BB.out).mono ?_; rintro e wn ⟨rfl, bn⟩; have BB := Lib.hid (BB.out.trans (bn.mono BB.out.size)); obtain ⟨x0, y0, y1, y2, y3, y4, y5, y6⟩ := HF.out _ BB.out; clear bn)
      | (go_at_call 109; refine (C2.out _ BB.out).mono ?_; rintro e wn ⟨rfl, bn⟩; have BB := Lib.hid (BB.out.trans (bn.mono BB.out.size)); obtain ⟨x0, y0, y1, y2, y3, y4, y5, y6⟩ := HF.out _ BB.out; clear bn)
      | (go_at_call 110; refine (C3.out _ BB.out).mono ?_; rintro e wn ⟨rfl, bn⟩; have BB := Lib.hid (BB.out.trans (bn.mono BB.out.size)); obtain ⟨x0, y0, y1, y2, y3, y4, y5, y6⟩ := HF.out _ BB.out; clear bn)
      | (go_at_call 111; refine (C4.out _ BB.out).mono ?_; rintro e wn ⟨rfl, bn⟩; have BB := Lib.hid (BB.out.trans (bn.mono BB.out.size)); obtain ⟨x0, y0, y1, y2, y3, y4, y5, y6⟩ := HF.out _ BB.out; clear bn))
    go_ret
    first
      | exact ⟨rfl, HH.out _ BB.out⟩
      | exact ⟨ret_bool (by simpa using h1), HH.out _ BB.out⟩

end Go.Proofs.YtfgkonphbmliaaaGreatDoor

/- Where streams stand, as the program looks for them. Condition: at most 2^22 streams. -/
namespace Go.Proofs.YtfgkonphbmliaaaGreatDoor
open Go.RowKit

/-- An end lies in a block. -/
def EndIn (w : World) (g : Nat) (a p : Int) : Prop := w.cell? ⟨g, 0, none⟩ = some (.int .i64 a) ∧ w.cell? ⟨g, 1, none⟩ = some (.int .i64 p) ∧ g < w.heap.size
theorem EndIn.below {w w' : World} {g : Nat} {a p : Int} (h : EndIn w g a p) (hb : Below w.heap.size w w') : EndIn w' g a p :=
  ⟨(hb.cell (p := ⟨g, 0, none⟩) h.2.2).trans h.1, (hb.cell (p := ⟨g, 1, none⟩) h.2.2).trans h.2.1, Nat.lt_of_lt_of_le h.2.2 hb.size⟩

set_option maxRecDepth 100000 in
set_option maxHeartbeats 1600000 in
theorem sameI_any (bi bo : Nat) (ia ip oa op : Int) (a p o q : Int) (kn he ne : ByteArray) (w : World) (hi : EndIn w bi ia ip) (ho : EndIn w bo oa op) :
    Calls Tryz.prog 107 #[.agg #[.int .i64 a, .int .i64 p, .int .i64 o, .int .i64 q, .string kn, .string he, .string ne], .pointer (some ⟨bi, 0, none⟩), .pointer (some ⟨bo, 0, none⟩)] w fun e w' => e = .returned (.bool (sameCn ⟨a, p, o, q, kn, he, ne⟩ ia ip oa op)) ∧ Below w.heap.size w w' := by
  have HX : Hid (sameCn ⟨a, p, o, q, kn, he, ne⟩ ia ip oa op = (decide (a = ia) && decide (p = ip) && (decide (o = oa) && decide (q = op)))) := rfl
  obtain ⟨Q, hQ⟩ : ∃ Q, Q = sameCn ⟨a, p, o, q, kn, he, ne⟩ ia ip oa op := ⟨_, rfl⟩
  rw [← hQ] at HX ⊢
  clear hQ
  have A0 := fun x => (hi.below ((Below.refl w.heap.size w).alloc (Nat.le_refl _) x)).1
  have A1 := fun x => (hi.below ((Below.refl w.heap.size w).alloc (Nat.le_refl _) x)).2.1
  have C0 := fun x => (ho.below ((Below.refl w.heap.size w).alloc (Nat.le_refl _) x)).1
  have C1 := fun x => (ho.below ((Below.refl w.heap.size w).alloc (Nat.le_refl _) x)).2.1
  have g1 := eqEnds1
  have g2 := eqEnds2
  clear hi ho
  by_cases h1 : a = ia
  rotate_left
  · have hq : Q = false := by have := HX.out; simpa [h1] using this
    subst hq
    clear HX
    go_enter Tryz.func107, Tryz.ntmps107
    go_wp2
    go_ret
    exact ⟨rfl, (Below.refl _ _).alloc (Nat.le_refl _) _⟩
  subst h1
  by_cases h2 : p = ip
  rotate_left
  · have hq : Q = false := by have := HX.out; simpa [h2] using this
    subst hq
    clear HX
    go_enter Tryz.func107, Tryz.ntmps107
    go_wp2
    go_ret
    exact ⟨rfl, (Below.refl _ _).alloc (Nat.le_refl _) _⟩
  subst h2
  by_cases h3 : o = oa
  rotate_left
  · have hq : Q = false := by have := HX.out; simpa [h3] using this
    subst hq
    clear HX
    go_enter Tryz.func107, Tryz.ntmps107
    go_wp2
    go_ret
    exact ⟨rfl, (Below.refl _ _).alloc (Nat.le_refl _) _⟩
  subst h3
  by_cases h4 : q = op
  rotate_left
  · have hq : Q = false := by have := HX.out; simpa [h4] using this
    subst hq
    clear HX
    go_enter Tryz.func107, Tryz.ntmps107
    go_wp2
    go_ret
    exact ⟨rfl, (Below.refl _ _).alloc (Nat.le_refl _) _⟩
  subst h4
  have hq : Q = true := by have := HX.out; simpa using this
  subst hq
  clear HX
  go_enter Tryz.func107, Tryz.ntmps107
  go_wp2
  go_ret
  exact ⟨rfl, (Below.refl _ _).alloc (Nat.le_refl _) _⟩

set_option maxRecDepth 100000 in
set_option maxHeartbeats 3200000 in
theorem idxConns_any (v : Value) (cs : List Cn) (bi bo : Nat) (ia ip oa op : Int) (w : World) (hn : cs.length ≤ 4194304) (hv : RdCn w v cs) (hi : EndIn w bi ia ip) (ho : EndIn w bo oa op) :
    Calls Tryz.prog 106 #[v, .func (.func 107) #[] #[.pointer (some ⟨bi, 0, none⟩), .pointer (some ⟨bo, 0, none⟩)]] w fun e w' => e = .returned (.int .i64 (findCn cs ia ip oa op)) ∧ Below w.heap.size w w' := by
  obtain ⟨av, cv, rfl, hcv, hrv⟩ := hv
  have HV := Lib.hid hrv
  have HI := Lib.hid hi
  have HO := Lib.hid ho
  clear hrv hi ho
  go_enter Tryz.func106, Tryz.ntmps106
  go_wp2
  go_loopw [5, 8] (fun _ i wr => ∃ k : Nat, k ≤ cs.length ∧ i = .int .i64 k ∧ Hid (∀ j (hj : j < k) (hl : j < cs.length), sameCn cs[j] ia ip oa op = false) ∧ Below w.heap.size w wr) (fun _ i _ => cs.length - (intOf i).toNat)
  case atStart => exact ⟨0, Nat.zero_le _, rfl, fun j hj => by omega, Below.refl _ _⟩
  case round =>
    obtain ⟨k, hk, rfl, HD, hb⟩ := hrel
    by_cases hlt : k < cs.length
    · obtain ⟨g, rfl, hrow⟩ := HV.out (by omega)
      have hl : 0 < (flatC cnC cs).length := by rw [flatC_len cnC_len]; omega
      obtain ⟨⟨a, p, o, q, kn, he, ne⟩, hp⟩ : ∃ p, p = cs[k] := ⟨_, rfl⟩
      obtain ⟨⟨p0, p1, p2, p3, p4, p5, p6⟩, _⟩ := (hrow.below hb (hrow.lt hl)).conn k hlt _ hp
      simp only at p0 p1 p2 p3 p4 p5 p6
      have hk1 : (k : Int) ≤ (cv : Int) := by omega
      have hk3 : (k : Int) < (cs.length : Int) := by omega
      have HM : Hid (Calls Tryz.prog 107 #[.agg #[.int .i64 a, .int .i64 p, .int .i64 o, .int .i64 q, .string kn, .string he, .string ne], .pointer (some ⟨bi, 0, none⟩), .pointer (some ⟨bo, 0, none⟩)] wr fun e w' => e = .returned (.bool (sameCn ⟨a, p, o, q, kn, he, ne⟩ ia ip oa op)) ∧ Below wr.heap.size wr w') := sameI_any bi bo ia ip oa op a p o q kn he ne wr (HI.out.below hb) (HO.out.below hb)
      have HP := Lib.hid hp
      cases ht : sameCn ⟨a, p, o, q, kn, he, ne⟩ ia ip oa op
      · rw [ht] at HM
        have HN : Hid (∀ j (hj : j < k + 1) (hl : j < cs.length), sameCn cs[j] ia ip oa op = false) := fun j hj hl => by
          by_cases e : j = k
          · subst e; rw [← HP.out]; exact ht
          · exact HD.out j (by omega) hl
        clear hrow hp HP ht HD
        go_wp2_with (go_at_call 107; refine HM.out.mono ?_; rintro e' w2 ⟨rfl, b2⟩)
        go_roundw
        case rel => exact ⟨k + 1, by omega, by go_num, HN, hb.trans (b2.mono hb.size)⟩
        case measure => simp [intOf]; omega
      · rw [ht] at HM
        have HT : Hid (findCn cs ia ip oa op = k) := findCn_hit hlt (by rw [← HP.out]; exact ht) fun j hj => HD.out j hj (by omega)
        clear hrow hp HP ht HD
        go_wp2_with (go_at_call 107; refine HM.out.mono ?_; rintro e' w2 ⟨rfl, b2⟩)
        go_ret
        exact ⟨ret_int HT.out.symm, hb.trans (b2.mono hb.size)⟩
    · have HT : Hid (findCn cs ia ip oa op = -1) := findCn_miss fun j hj => HD.out j (by omega) hj
      clear HD
      go_wp2
      go_ret
      exact ⟨ret_int HT.out.symm, hb⟩

set_option maxRecDepth 100000 in
set_option maxHeartbeats 1600000 in
theorem implFindCn_any (v : Value) (cs : List Cn) (ia ip oa op : Int) (w : World) (hn : cs.length ≤ 4194304) (hv : RdCn w v cs) :
    Calls Tryz.prog 44 #[v, .agg #[.int .i64 ia, .int .i64 ip], .agg #[.int .i64 oa, .int .i64 op]] w fun e w' => e = .returned (.int .i64 (findCn cs ia ip oa op)) ∧ Below w.heap.size w w' := by
  obtain ⟨W0, hW0⟩ : ∃ W, W = (w.alloc (.cells #[.int .i64 ia, .int .i64 ip] 48)).alloc (.cells #[.int .i64 oa, .int .i64 op] 48) := ⟨_, rfl⟩
  have hB : Below w.heap.size w W0 := by rw [hW0]; exact ((Below.refl _ _).alloc (Nat.le_refl _) _).alloc (by simp) _
  have hs : W0.heap.size = w.heap.size + 2 := by rw [hW0]; simp
  have h1 : EndIn W0 w.heap.size ia ip := by rw [hW0]; exact ⟨by simp, by simp, by simp; omega⟩
  have h2 : EndIn W0 (w.heap.size + 1) oa op := by rw [hW0]; exact ⟨by simp, by simp, by simp⟩
  have HC : Hid (Calls Tryz.prog 106 #[v, .func (.func 107) #[] #[.pointer (some ⟨w.heap.size, 0, none⟩), .pointer (some ⟨w.heap.size + 1, 0, none⟩)]] W0 fun e w' => e = .returned (.int .i64 (findCn cs ia ip oa op)) ∧ Below W0.heap.size W0 w') := idxConns_any v cs _ _ ia ip oa op W0 hn (hv.below hB) h1 h2
  have BB := Lib.hid hB
  obtain ⟨av, cv, rfl, _⟩ := hv
  clear hB h1 h2 hs
  subst hW0
  go_enter Tryz.func44, Tryz.ntmps44
  go_wp2_with (go_at_call 106; refine HC.out.mono ?_; rintro e w1 ⟨rfl, b1⟩)
  go_ret
  exact ⟨rfl, BB.out.trans (b1.mono BB.out.size)⟩

end Go.Proofs.YtfgkonphbmliaaaGreatDoor

/- The rules of the program, whether they are ok, at rules in memory. Condition: at most 2^22 rules. -/
namespace Go.Proofs.YtfgkonphbmliaaaGreatDoor
open Go.RowKit

set_option maxRecDepth 100000 in
set_option maxHeartbeats 800000 in
theorem notOk_any (al : Bool) (i it o ot p pt : Int) (w : World) :
    Calls Tryz.prog 101 #[.agg #[.bool al, .int .i64 i, .int .i64 it, .int .i64 o, .int .i64 ot, .int .i64 p, .int .i64 pt]] w fun e w' => e = .returned (.bool (!ruleB ⟨al, i, it, o, ot, p, pt⟩)) ∧ Below w.heap.size w w' := by
  have HM : Hid (∀ w, Calls Tryz.prog 102 #[.agg #[.bool al, .int .i64 i, .int .i64 it, .int .i64 o, .int .i64 ot, .int .i64 p, .int .i64 pt]] w fun e w' => e = .returned (.bool (ruleB ⟨al, i, it, o, ot, p, pt⟩)) ∧ Below w.heap.size w w') := fun w => implRulOk_any al i it o ot p pt w
  obtain ⟨q, hq⟩ : ∃ q, q = ruleB ⟨al, i, it, o, ot, p, pt⟩ := ⟨_, rfl⟩
  rw [← hq] at HM ⊢
  clear hq
  cases q
  all_goals
    go_enter Tryz.func101, Tryz.ntmps101
    go_wp2_with (go_at_call 102; refine (HM.out _).mono ?_; rintro e w1 ⟨rfl, b1⟩)
    go_ret
    exact ⟨rfl, below_box b1⟩

set_option maxRecDepth 100000 in
set_option maxHeartbeats 1600000 in
theorem idxRules_any (v : Value) (l : List Rl) (w : World) (hn : l.length ≤ 4194304) (hv : RdRl w v l) :
    Calls Tryz.prog 137 #[v, .func (.func 101) #[] #[]] w fun e w' => ∃ z : Int, e = .returned (.int .i64 z) ∧ decide (0 ≤ z) = !l.all ruleB ∧ Below w.heap.size w w' := by
  obtain ⟨av, cv, rfl, hcv, hrv⟩ := hv
  have HV := Lib.hid hrv
  clear hrv
  go_enter Tryz.func137, Tryz.ntmps137
  go_wp2
  go_loopw [5, 8] (fun _ i wr => ∃ k : Nat, k ≤ l.length ∧ i = .int .i64 k ∧ Hid (∀ r ∈ l.take k, ruleB r = true) ∧ Below w.heap.size w wr) (fun _ i _ => l.length - (intOf i).toNat)
  case atStart => exact ⟨0, Nat.zero_le _, rfl, fun r hr => by simp at hr, Below.refl _ _⟩
  case round =>
    obtain ⟨k, hk, rfl, HD, hb⟩ := hrel
    by_cases hlt : k < l.length
    · obtain ⟨g1, o1, rfl, hg1, hr1⟩ := HV.out (by omega)
      obtain ⟨⟨al, a, b, c, d, e, f⟩, hap⟩ : ∃ x, x = l[k] := ⟨_, rfl⟩
      obtain ⟨p0, p1, p2, p3, p4, p5, p6⟩ := rl_seven hr1 k hlt al a b c d e f hap
      rw [← hb.cell (by exact hg1)] at p0 p1 p2 p3 p4 p5 p6
      have hk1 : (k : Int) ≤ (cv : Int) := by omega
      have hk3 : (k : Int) < (l.length : Int) := by omega
      cases ht : ruleB ⟨al, a, b, c, d, e, f⟩
      · have HF : Hid (decide (0 ≤ (k : Int)) = !l.all ruleB) := by
          show _ = _
          rw [show l.all ruleB = false from List.all_eq_false.2 ⟨l[k], List.getElem_mem _, by rw [← hap, ht]; simp⟩, decide_eq_true (by omega)]; rfl
        have HM : Hid (∀ w, Calls Tryz.prog 101 #[.agg #[.bool al, .int .i64 a, .int .i64 b, .int .i64 c, .int .i64 d, .int .i64 e, .int .i64 f]] w fun e w' => e = .returned (.bool true) ∧ Below w.heap.size w w') := fun w => by have := notOk_any al a b c d e f w; rwa [ht] at this
        clear hr1 hap ht
        go_wp2_with (go_at_call 101; refine (HM.out _).mono ?_; rintro e' w2 ⟨rfl, b2⟩)
        go_ret
        exact ⟨_, rfl, HF.out, hb.trans (b2.mono hb.size)⟩
      · have HF : Hid (∀ r ∈ l.take (k + 1), ruleB r = true) := take_all_snoc hlt HD.out (by rw [← hap]; exact ht)
        have HM : Hid (∀ w, Calls Tryz.prog 101 #[.agg #[.bool al, .int .i64 a, .int .i64 b, .int .i64 c, .int .i64 d, .int .i64 e, .int .i64 f]] w fun e w' => e = .returned (.bool false) ∧ Below w.heap.size w w') := fun w => by have := notOk_any al a b c d e f w; rwa [ht] at this
        clear hr1 hap ht
        go_wp2_with (go_at_call 101; refine (HM.out _).mono ?_; rintro e' w2 ⟨rfl, b2⟩)
        go_roundw
        case rel => exact ⟨k + 1, by omega, by go_num, HF, hb.trans (b2.mono hb.size)⟩
        case measure => simp [intOf]; omega
    · have hkn : k = l.length := by omega
      subst hkn
      have HF : Hid (decide (0 ≤ (-1 : Int)) = !l.all ruleB) := by
        have := HD.out
        rw [List.take_of_length_le (Nat.le_refl _)] at this
        show _ = _
        rw [List.all_eq_true.2 this]; rfl
      go_wp2
      go_ret
      exact ⟨_, rfl, HF.out, hb⟩

set_option maxRecDepth 100000 in
set_option maxHeartbeats 800000 in
theorem hasRule_any (v : Value) (l : List Rl) (w : World) (hn : l.length ≤ 4194304) (hv : RdRl w v l) :
    Calls Tryz.prog 100 #[v, .func (.func 101) #[] #[]] w fun e w' => e = .returned (.bool (!l.all ruleB)) ∧ Below w.heap.size w w' := by
  have HC : Hid (Calls Tryz.prog 137 #[v, .func (.func 101) #[] #[]] w fun e w' => ∃ z : Int, e = .returned (.int .i64 z) ∧ decide (0 ≤ z) = !l.all ruleB ∧ Below w.heap.size w w') := idxRules_any v l w hn hv
  obtain ⟨av, cv, rfl, _⟩ := hv
  obtain ⟨q, hq⟩ : ∃ q, q = !l.all ruleB := ⟨_, rfl⟩
  rw [← hq] at HC ⊢
  clear hq
  go_enter Tryz.func100, Tryz.ntmps100
  go_wp2_with (go_at_call 137; refine (HC.out).mono ?_; rintro e w1 ⟨z, rfl, hz, b1⟩)
  go_ret
  first
    | exact ⟨rfl, b1⟩
    | exact ⟨ret_bool hz, b1⟩

set_option maxRecDepth 100000 in
set_option maxHeartbeats 800000 in
theorem implRules_any (v : Value) (l : List Rl) (w : World) (hn : l.length ≤ 4194304) (hv : RdRl w v l) :
    Calls Tryz.prog 42 #[v] w fun e w' => e = .returned (.bool (rulesB l)) ∧ Below w.heap.size w w' := by
  have HC : Hid (Calls Tryz.prog 100 #[v, .func (.func 101) #[] #[]] w fun e w' => e = .returned (.bool (!l.all ruleB)) ∧ Below w.heap.size w w') := hasRule_any v l w hn hv
  obtain ⟨av, cv, rfl, _⟩ := hv
  have HS : Hid (rulesB l = (decide (l.length ≤ 5) && l.all ruleB)) := rfl
  obtain ⟨q, hq⟩ : ∃ q, q = rulesB l := ⟨_, rfl⟩
  obtain ⟨q1, hq1⟩ : ∃ q, q = l.all ruleB := ⟨_, rfl⟩
  rw [← hq] at HS ⊢
  rw [← hq1] at HS HC
  clear hq hq1
  by_cases h5 : l.length ≤ 5 <;> cases q1
  all_goals
    try rw [decide_eq_true h5] at HS
    try rw [decide_eq_false h5] at HS
    first
    | (have hq : q = true := by (have := HS.out; simpa using this)
       subst hq)
    | (have hq : q = false := by (have := HS.out; simpa using this)
       subst hq)
    clear HS
    go_enter Tryz.func42, Tryz.ntmps42
    go_wp2_with (go_at_call 100; refine (HC.out).mono ?_; rintro e w1 ⟨rfl, b1⟩)
    go_ret
    first
      | exact ⟨rfl, b1⟩
      | exact ⟨rfl, Below.refl _ _⟩

end Go.Proofs.YtfgkonphbmliaaaGreatDoor

/- Whether a box is ok, as the program asks. Condition: lists and texts of at most 2^20. -/
namespace Go.Proofs.YtfgkonphbmliaaaGreatDoor
open Go.RowKit Go.Sort

set_option maxRecDepth 100000 in
set_option maxHeartbeats 3200000 in
theorem implBoxOk_any (B : Nat) (v : Value) (b : Bx) (w : World) (hs : bxSz b) (hwf : wfE b.es) (hcw : cnWf b.cs) (ho : OwnBx w B v b) (hv : VarsOk w) (htb : TabOk w) :
    Calls Tryz.prog 10 #[v] w fun e w' => e = .returned (.bool (boxOkB b)) ∧ Below w.heap.size w w' := by
  obtain ⟨g1, g2, c2, g3, rfl, o1, o2, o3⟩ := ho
  obtain ⟨m1, m2, m3, m4⟩ := hs
  obtain ⟨W0, hW0⟩ : ∃ W, W = w.alloc (.cells #[.slice (some ⟨g1, 0, none⟩) b.rs.length b.rs.length, .slice (some ⟨g2, 0, none⟩) b.es.length c2, .slice (some ⟨g3, 0, none⟩) b.cs.length b.cs.length] 37) := ⟨_, rfl⟩
  have hA : Below w.heap.size w W0 := by rw [hW0]; exact (Below.refl _ _).alloc (Nat.le_refl _) _
  have K1 : Blk W0 w.heap.size 37 [.slice (some ⟨g1, 0, none⟩) b.rs.length b.rs.length, .slice (some ⟨g2, 0, none⟩) b.es.length c2, .slice (some ⟨g3, 0, none⟩) b.cs.length b.cs.length] := by rw [hW0]; exact three_new w _ _ _ _
  have KK : Hid (∀ w', Below W0.heap.size W0 w' → w'.cell? ⟨w.heap.size, 0, none⟩ = some (.slice (some ⟨g1, 0, none⟩) b.rs.length b.rs.length) ∧ w'.cell? ⟨w.heap.size, 1, none⟩ = some (.slice (some ⟨g2, 0, none⟩) b.es.length c2) ∧ w'.cell? ⟨w.heap.size, 2, none⟩ = some (.slice (some ⟨g3, 0, none⟩) b.cs.length b.cs.length)) := fun w' h => (three_all (K1.below h)).1
  have HA : Hid (∀ w', Below W0.heap.size W0 w' → Below w.heap.size w w') := fun w' h => hA.trans (h.mono hA.size)
  have HM : Hid (∀ w', Below w.heap.size w w' → Calls Tryz.prog 43 #[.agg #[.slice (some ⟨g2, 0, none⟩) b.es.length c2]] w' fun e w'' => e = .returned (.bool (mapB b.es)) ∧ Below w'.heap.size w' w'') := fun w' h => implMapOk_any _ b.es w' (by omega) hwf (OwnTab.tab (own_later o2 h))
  have HR : Hid (∀ w', Below w.heap.size w w' → Calls Tryz.prog 42 #[.slice (some ⟨g1, 0, none⟩) b.rs.length b.rs.length] w' fun e w'' => e = .returned (.bool (rulesB b.rs)) ∧ Below w'.heap.size w' w'') := fun w' h => implRules_any _ b.rs w' (by omega) (o1.rd.below h)
  have HC : Hid (mapB b.es = true → ∀ k (hk : k < b.cs.length) (c : Cn), c = b.cs[k] → ∀ w', Below w.heap.size w w' → Calls Tryz.prog 45 #[.agg #[.slice (some ⟨g2, 0, none⟩) b.es.length c2], .agg #[.int .i64 c.ia, .int .i64 c.ip, .int .i64 c.oa, .int .i64 c.op, .string c.kn, .string c.he, .string c.ne]] w' fun e w'' => e = .returned (.bool (conI b.es c)) ∧ Below w'.heap.size w' w'') := fun hm k hk c hc w' h => by
    have hmem : c ∈ b.cs := by rw [hc]; exact List.getElem_mem _
    obtain ⟨y1, y2, y3⟩ := m4 c hmem
    obtain ⟨⟨v1, v2⟩, -⟩ := hcw c hmem
    exact implConn_any _ b.es c.ia c.ip c.oa c.op c.kn c.he c.ne w' hm (by omega) (by omega) (by omega) v1 v2 (OwnTab.tab (own_later o2 h)) (hv.below h) (htb.below h (Nat.le_refl _))
  have HF : Hid (∀ (c : Cn) w', Below w.heap.size w w' → Calls Tryz.prog 44 #[.slice (some ⟨g3, 0, none⟩) b.cs.length b.cs.length, .agg #[.int .i64 c.ia, .int .i64 c.ip], .agg #[.int .i64 c.oa, .int .i64 c.op]] w' fun e w'' => e = .returned (.int .i64 (findCn b.cs c.ia c.ip c.oa c.op)) ∧ Below w'.heap.size w' w'') := fun c w' h => implFindCn_any _ b.cs c.ia c.ip c.oa c.op w' (by omega) (o3.rd.below h)
  have HRow : Hid (∀ k (hk : k < b.cs.length) (c : Cn), c = b.cs[k] → ∀ w', Below w.heap.size w w' → w'.cell? ⟨g3, k * 7, none⟩ = some (.int .i64 c.ia) ∧ w'.cell? ⟨g3, k * 7 + 1, none⟩ = some (.int .i64 c.ip) ∧ w'.cell? ⟨g3, k * 7 + 2, none⟩ = some (.int .i64 c.oa) ∧ w'.cell? ⟨g3, k * 7 + 3, none⟩ = some (.int .i64 c.op) ∧ w'.cell? ⟨g3, k * 7 + 4, none⟩ = some (.string c.kn) ∧ w'.cell? ⟨g3, k * 7 + 5, none⟩ = some (.string c.he) ∧ w'.cell? ⟨g3, k * 7 + 6, none⟩ = some (.string c.ne)) := fun k hk c hc w' h => by
    obtain ⟨ax, cx, ex, -, hrow⟩ := o3.rd.below h
    simp at ex
    obtain ⟨rfl, rfl⟩ := ex
    obtain ⟨g, e, hr⟩ := hrow (by omega)
    simp at e
    subst e
    exact (RowAt.conn hr k hk c hc).1
  have HCI : Hid (mapB b.es = true → ∀ k (hk : k < b.cs.length) (c : Cn), c = b.cs[k] → connB b.es b.cs k = (decide (findCn b.cs c.ia c.ip c.oa c.op = (k : Int)) && conI b.es c)) := fun hm k hk c hc => connB_I hm hk c hc
  have HQ : Hid (boxOkB b = (mapB b.es && rulesB b.rs && decide (b.cs.length ≤ 3) && (List.range b.cs.length).all (connB b.es b.cs))) := rfl
  obtain ⟨Q, hQ⟩ : ∃ Q, Q = boxOkB b := ⟨_, rfl⟩
  obtain ⟨q1, e1⟩ : ∃ q, q = mapB b.es := ⟨_, rfl⟩
  obtain ⟨q2, e2⟩ : ∃ q, q = rulesB b.rs := ⟨_, rfl⟩
  obtain ⟨P, hP⟩ : ∃ P, P = connB b.es b.cs := ⟨_, rfl⟩
  obtain ⟨n1, hn1⟩ : ∃ n, n = b.rs.length := ⟨_, rfl⟩
  obtain ⟨n2, hn2⟩ : ∃ n, n = b.es.length := ⟨_, rfl⟩
  obtain ⟨n3, hn3⟩ : ∃ n, n = b.cs.length := ⟨_, rfl⟩
  rw [← hQ] at HQ ⊢
  rw [← e1] at HM HC HCI HQ
  rw [← e2] at HR HQ
  rw [← hP] at HCI HQ
  rw [← hn1] at KK HR hW0 ⊢
  rw [← hn2] at KK HM HC hW0 ⊢
  have HL := Lib.hid hn3
  rw [← hn3] at KK HF HQ hW0 m3 ⊢
  have BB : Hid (Below W0.heap.size W0 W0) := Below.refl _ _
  clear hQ e1 e2 hP hn1 hn2 hn3 o1 o2 o3 m1 m2 m4 K1 hA hv htb hwf hcw
  subst hW0
  cases q2
  · have hq : Q = false := by have := HQ.out; simpa using this
    subst hq
    clear HQ HC HCI HF HRow
    go_enter Tryz.func10, Tryz.ntmps10
    go_wp2_with fail
    (go_at_call 42; refine (HR.out _ (HA.out _ BB.out)).mono ?_; rintro e w1 ⟨rfl, b1⟩)
    go_wp2_with fail
    go_ret
    exact ⟨rfl, HA.out _ b1⟩
  cases q1
  · have hq : Q = false := by have := HQ.out; simpa using this
    subst hq
    clear HQ HC HCI HF HRow
    go_enter Tryz.func10, Tryz.ntmps10
    go_wp2_with fail
    (go_at_call 42; refine (HR.out _ (HA.out _ BB.out)).mono ?_; rintro e w1 ⟨rfl, b1⟩)
    obtain ⟨k0, k1, k2⟩ := KK.out _ b1
    have B1 := Lib.hid b1
    clear b1
    go_wp2_with fail
    (go_at_call 43; refine (HM.out _ (HA.out _ B1.out)).mono ?_; rintro e w2 ⟨rfl, b2⟩)
    go_wp2_with fail
    go_ret
    exact ⟨rfl, HA.out _ (B1.out.trans (b2.mono B1.out.size))⟩
  have HC2 := Lib.hid (HC.out rfl)
  have HCI2 := Lib.hid (HCI.out rfl)
  clear HC HCI
  by_cases h3 : 3 < n3
  · have hq : Q = false := by have := HQ.out; simpa [show ¬ n3 ≤ 3 by omega] using this
    subst hq
    clear HQ HC2 HCI2 HF HRow
    go_enter Tryz.func10, Tryz.ntmps10
    go_wp2_with fail
    (go_at_call 42; refine (HR.out _ (HA.out _ BB.out)).mono ?_; rintro e w1 ⟨rfl, b1⟩)
    obtain ⟨k0, k1, k2⟩ := KK.out _ b1
    have B1 := Lib.hid b1
    clear b1
    go_wp2_with fail
    (go_at_call 43; refine (HM.out _ (HA.out _ B1.out)).mono ?_; rintro e w2 ⟨rfl, b2⟩)
    have B2 := Lib.hid (B1.out.trans (b2.mono B1.out.size))
    obtain ⟨k0', k1', k2'⟩ := KK.out _ B2.out
    clear b2
    go_wp2_with fail
    go_ret
    exact ⟨rfl, HA.out _ B2.out⟩
  have HQ2 : Hid (Q = (List.range n3).all P) := by
    show Q = _
    have := HQ.out
    rw [decide_eq_true (by omega : n3 ≤ 3)] at this
    simpa using this
  clear HQ
  go_enter Tryz.func10, Tryz.ntmps10
  go_wp2_with fail
  (go_at_call 42; refine (HR.out _ (HA.out _ BB.out)).mono ?_; rintro e w1 ⟨rfl, b1⟩)
  obtain ⟨k0, k1, k2⟩ := KK.out _ b1
  have B1 := Lib.hid b1
  clear b1
  go_wp2_with fail
  (go_at_call 43; refine (HM.out _ (HA.out _ B1.out)).mono ?_; rintro e w2 ⟨rfl, b2⟩)
  have B2 := Lib.hid (B1.out.trans (b2.mono B1.out.size))
  obtain ⟨k0', k1', k2'⟩ := KK.out _ B2.out
  clear b2 k0 k1 k2
  go_wp2_with fail
  clear k0' k1' k2'
  go_loopw [3, 24] (fun _ i wr => ∃ k : Nat, k ≤ n3 ∧ i = .int .i64 k ∧ Hid (∀ j, j < k → P j = true) ∧ Hid (Below (w.alloc (.cells #[.slice (some ⟨g1, 0, none⟩) n1 n1, .slice (some ⟨g2, 0, none⟩) n2 c2, .slice (some ⟨g3, 0, none⟩) n3 n3] 37)).heap.size (w.alloc (.cells #[.slice (some ⟨g1, 0, none⟩) n1 n1, .slice (some ⟨g2, 0, none⟩) n2 c2, .slice (some ⟨g3, 0, none⟩) n3 n3] 37)) wr)) (fun _ i _ => n3 - (intOf i).toNat)
  case atStart => exact ⟨0, Nat.zero_le _, rfl, fun j hj => by omega, B2⟩
  case round =>
    obtain ⟨k, hk, rfl, HD, HB⟩ := hrel
    obtain ⟨k0, k1, k2⟩ := KK.out _ HB.out
    by_cases hlt : k < n3
    · have hlt2 : k < b.cs.length := by have := HL.out; omega
      obtain ⟨⟨ia, ip, oa, op, kn, he, ne⟩, hc⟩ : ∃ c, c = b.cs[k] := ⟨_, rfl⟩
      have CC : Hid (∀ w', Below w.heap.size w w' → Calls Tryz.prog 45 #[.agg #[.slice (some ⟨g2, 0, none⟩) n2 c2], .agg #[.int .i64 ia, .int .i64 ip, .int .i64 oa, .int .i64 op, .string kn, .string he, .string ne]] w' fun e w'' => e = .returned (.bool (conI b.es ⟨ia, ip, oa, op, kn, he, ne⟩)) ∧ Below w'.heap.size w' w'') := HC2.out k hlt2 _ hc
      have CF : Hid (∀ w', Below w.heap.size w w' → Calls Tryz.prog 44 #[.slice (some ⟨g3, 0, none⟩) n3 n3, .agg #[.int .i64 ia, .int .i64 ip], .agg #[.int .i64 oa, .int .i64 op]] w' fun e w'' => e = .returned (.int .i64 (findCn b.cs ia ip oa op)) ∧ Below w'.heap.size w' w'') := HF.out ⟨ia, ip, oa, op, kn, he, ne⟩
      have CI : Hid (P k = (decide (findCn b.cs ia ip oa op = (k : Int)) && conI b.es ⟨ia, ip, oa, op, kn, he, ne⟩)) := HCI2.out k hlt2 _ hc
      obtain ⟨y0, y1, y2, y3, y4, y5, y6⟩ := HRow.out k hlt2 _ hc wr (HA.out _ HB.out)
      simp only at y0 y1 y2 y3 y4 y5 y6
      obtain ⟨f, hf⟩ : ∃ z, z = findCn b.cs ia ip oa op := ⟨_, rfl⟩
      obtain ⟨q, hq⟩ : ∃ z, z = conI b.es ⟨ia, ip, oa, op, kn, he, ne⟩ := ⟨_, rfl⟩
      rw [← hf] at CF CI
      rw [← hq] at CC CI
      clear hc HC2 HF HCI2 hf hq HRow
      have hsw : w.heap.size < wr.heap.size := by have := HB.out.size; simp at this; omega
      have kA : ∀ o, (wr.alloc o).cell? ⟨w.heap.size, 2, none⟩ = some (.slice (some ⟨g3, 0, none⟩) n3 n3) := fun o => (cell_alloc_lt hsw).trans k2
      have kB : ∀ o, (wr.alloc o).cell? ⟨w.heap.size, 1, none⟩ = some (.slice (some ⟨g2, 0, none⟩) n2 c2) := fun o => (cell_alloc_lt hsw).trans k1
      have AA : Hid (∀ o, Below w.heap.size w (wr.alloc o)) := fun o => (HA.out _ HB.out).alloc (by omega) o
      have LL : Hid (∀ w', Below (wr.alloc (.cells #[.int .i64 ia, .int .i64 ip, .int .i64 oa, .int .i64 op, .string kn, .string he, .string ne] 83)).heap.size (wr.alloc (.cells #[.int .i64 ia, .int .i64 ip, .int .i64 oa, .int .i64 op, .string kn, .string he, .string ne] 83)) w' → (w'.cell? ⟨wr.heap.size, 0, none⟩ = some (.int .i64 ia) ∧ w'.cell? ⟨wr.heap.size, 1, none⟩ = some (.int .i64 ip) ∧ w'.cell? ⟨wr.heap.size, 2, none⟩ = some (.int .i64 oa) ∧ w'.cell? ⟨wr.heap.size, 3, none⟩ = some (.int .i64 op) ∧ w'.cell? ⟨wr.heap.size, 4, none⟩ = some (.string kn) ∧ w'.cell? ⟨wr.heap.size, 5, none⟩ = some (.string he) ∧ w'.cell? ⟨wr.heap.size, 6, none⟩ = some (.string ne)) ∧ w'.cell? ⟨w.heap.size, 1, none⟩ = some (.slice (some ⟨g2, 0, none⟩) n2 c2) ∧ Hid (Below (w.alloc (.cells #[.slice (some ⟨g1, 0, none⟩) n1 n1, .slice (some ⟨g2, 0, none⟩) n2 c2, .slice (some ⟨g3, 0, none⟩) n3 n3] 37)).heap.size (w.alloc (.cells #[.slice (some ⟨g1, 0, none⟩) n1 n1, .slice (some ⟨g2, 0, none⟩) n2 c2, .slice (some ⟨g3, 0, none⟩) n3 n3] 37)) w')) := fun w' h =>
        ⟨seven_cells ((show Blk (wr.alloc (.cells #[.int .i64 ia, .int .i64 ip, .int .i64 oa, .int .i64 op, .string kn, .string he, .string ne] 83)) wr.heap.size _ _ from heap_last3 wr _).below h), (h.cell (p := ⟨w.heap.size, 1, none⟩) (by simp; omega)).trans (kB _), (HB.out.alloc HB.out.size _).trans (h.mono (HB.out.alloc HB.out.size _).size)⟩
      by_cases hfk : f = (k : Int)
      rotate_left
      · have HF0 : Hid (Q = false) := HQ2.out.trans (all_no hlt (CI.out.trans (by rw [decide_eq_false hfk]; rfl)))
        clear CI HQ2 HD
        go_wp2_with fail
        (go_at_call 44; refine (CF.out _ (AA.out _)).mono ?_; rintro e w3 ⟨rfl, b3⟩)
        obtain ⟨⟨z0, z1, z2, z3, z4, z5, z6⟩, x1, HB3⟩ := LL.out _ b3
        clear b3 y0 y1 y2 y3 y4 y5 y6
        go_wp2_with fail
        go_ret
        exact ⟨ret_bool HF0.out.symm, HA.out _ HB3.out⟩
      subst hfk
      cases q
      · have HF0 : Hid (Q = false) := HQ2.out.trans (all_no hlt (CI.out.trans (by simp)))
        clear CI HQ2 HD
        go_wp2_with fail
        (go_at_call 44; refine (CF.out _ (AA.out _)).mono ?_; rintro e w3 ⟨rfl, b3⟩)
        obtain ⟨⟨z0, z1, z2, z3, z4, z5, z6⟩, x1, HB3⟩ := LL.out _ b3
        clear b3 y0 y1 y2 y3 y4 y5 y6
        go_wp2_with fail
        (go_at_call 45; refine (CC.out _ (HA.out _ HB3.out)).mono ?_; rintro e w4 ⟨rfl, b4⟩)
        have HB4 := Lib.hid (HB3.out.trans (b4.mono HB3.out.size))
        clear b4
        go_wp2_with fail
        go_ret
        exact ⟨ret_bool HF0.out.symm, HA.out _ HB4.out⟩
      · have HN : Hid (∀ j, j < k + 1 → P j = true) := fun j hj => by
          by_cases e : j = k
          · subst e; exact CI.out.trans (by simp)
          · exact HD.out j (by omega)
        clear CI HQ2 HD
        go_wp2_with fail
        (go_at_call 44; refine (CF.out _ (AA.out _)).mono ?_; rintro e w3 ⟨rfl, b3⟩)
        obtain ⟨⟨z0, z1, z2, z3, z4, z5, z6⟩, x1, HB3⟩ := LL.out _ b3
        clear b3 y0 y1 y2 y3 y4 y5 y6
        go_wp2_with fail
        (go_at_call 45; refine (CC.out _ (HA.out _ HB3.out)).mono ?_; rintro e w4 ⟨rfl, b4⟩)
        have HB4 := Lib.hid (HB3.out.trans (b4.mono HB3.out.size))
        clear b4
        go_wp2_with fail
        go_roundw
        case rel => exact ⟨k + 1, by omega, by go_num, HN, HB4⟩
        case measure => simp [intOf]; omega
    · have HT : Hid (Q = true) := HQ2.out.trans (all_yes fun j hj => HD.out j (by omega))
      have hkn : k = n3 := by omega
      clear HQ2 HD
      go_wp2
      go_ret
      exact ⟨ret_bool HT.out.symm, HA.out _ HB.out⟩

end Go.Proofs.YtfgkonphbmliaaaGreatDoor

/- The law of BoxOk. Conditions: the argument's lists lie in the machine's memory, at any address; the variables that are read hold what they are laid with. -/
namespace Go.Proofs.YtfgkonphbmliaaaGreatDoor
open Go.RowKit Go.Sort

theorem ArgBx.form {w : World} {v : Value} {b : Bx} (h : ArgBx w v b) : ∃ a1 k1 a2 k2 a3 k3, v = .agg #[.slice a1 b.rs.length k1, .slice a2 b.es.length k2, .slice a3 b.cs.length k3] := by
  obtain ⟨r, t, c, rfl, ⟨a1, k1, rfl, -⟩, ⟨a2, k2, rfl, -⟩, ⟨a3, k3, rfl, -⟩⟩ := h
  exact ⟨a1, k1, a2, k2, a3, k3, rfl⟩
/-- A box becomes the program's, in blocks of its own. -/
theorem toBox_form (v : Value) (b : Bx) (w : World) (hs : bxSz b) (hv : ArgBx w v b) :
    Calls Tryz.prog 9 #[v] w fun e w' => ∃ g1 g2 c2 g3, e = .returned (.agg #[.slice (some ⟨g1, 0, none⟩) b.rs.length b.rs.length, .slice (some ⟨g2, 0, none⟩) b.es.length c2, .slice (some ⟨g3, 0, none⟩) b.cs.length b.cs.length]) ∧ OwnBx w' w.heap.size (.agg #[.slice (some ⟨g1, 0, none⟩) b.rs.length b.rs.length, .slice (some ⟨g2, 0, none⟩) b.es.length c2, .slice (some ⟨g3, 0, none⟩) b.cs.length b.cs.length]) b ∧ Below w.heap.size w w' := by
  refine (toBox_any v b w hs hv).mono ?_
  rintro e w' ⟨u, rfl, ho, hb⟩
  obtain ⟨g1, g2, c2, g3, rfl, -⟩ := id ho
  exact ⟨g1, g2, c2, g3, rfl, ho, hb⟩

set_option maxRecDepth 100000 in
set_option maxHeartbeats 3200000 in
theorem lawBoxOk_any (v : Value) (b : Bx) (w : World) (hv : ArgBx w v b) (hm : bxMax b) (hvars : VarsOk w) (htb : TabOk w) :
    Calls Tryz.prog 3 #[v] w fun e w' => e = .returned (.bool true) ∧ Below w.heap.size w w' := by
  obtain ⟨a1, k1, a2, k2, a3, k3, rfl⟩ := hv.form
  obtain ⟨v0, hv0⟩ : ∃ v : Value, v = .agg #[.slice a1 b.rs.length k1, .slice a2 b.es.length k2, .slice a3 b.cs.length k3] := ⟨_, rfl⟩
  obtain ⟨W0, hW0⟩ : ∃ W, W = w.alloc (.cells #[.slice a1 b.rs.length k1, .slice a2 b.es.length k2, .slice a3 b.cs.length k3] 28) := ⟨_, rfl⟩
  have hA : Below w.heap.size w W0 := by rw [hW0]; exact (Below.refl _ _).alloc (Nat.le_refl _) _
  have hz : w.heap.size < W0.heap.size := by rw [hW0]; simp
  have K1 : Blk W0 w.heap.size 28 [.slice a1 b.rs.length k1, .slice a2 b.es.length k2, .slice a3 b.cs.length k3] := by rw [hW0]; exact three_new w _ _ _ _
  have KK : Hid (∀ w', Below W0.heap.size W0 w' → (w'.cell? ⟨w.heap.size, 0, none⟩ = some (.slice a1 b.rs.length k1) ∧ w'.cell? ⟨w.heap.size, 1, none⟩ = some (.slice a2 b.es.length k2) ∧ w'.cell? ⟨w.heap.size, 2, none⟩ = some (.slice a3 b.cs.length k3)) ∧ ArgBx w' (.agg #[.slice a1 b.rs.length k1, .slice a2 b.es.length k2, .slice a3 b.cs.length k3]) b ∧ Below w.heap.size w w' ∧ VarsOk w' ∧ TabOk w') := fun w' h =>
    have hb := hA.trans (h.mono hA.size)
    ⟨(three_all (K1.below h)).1, hv.below hb, hb, hvars.below hb, htb.below hb (Nat.le_refl _)⟩
  have HZ : Hid (∀ w', ArgBx w' (.agg #[.slice a1 b.rs.length k1, .slice a2 b.es.length k2, .slice a3 b.cs.length k3]) b → Calls Tryz.prog 7 #[.agg #[.slice a1 b.rs.length k1, .slice a2 b.es.length k2, .slice a3 b.cs.length k3], .int .i64 1048576] w' fun e w'' => ∃ z : Int, e = .returned (.int .i64 z) ∧ (z = -1 ∨ (0 ≤ z ∧ z ≤ 1048576 ∧ bxSz b)) ∧ Below w'.heap.size w' w'') := fun w' h => szBox_any _ b w' h hm
  have hwf : Hid (wfE b.es ∧ cnWf b.cs) := ⟨hm.2.2.2.2.1, hm.2.2.2.2.2⟩
  have BB : Hid (Below W0.heap.size W0 W0) := Below.refl _ _
  clear hv0 hA K1 hvars htb hv hm
  subst hW0
  go_enter Tryz.func3, Tryz.ntmps3
  go_wp2_with fail
  (go_at_call 7; refine (HZ.out _ (KK.out _ BB.out).2.1).mono ?_; rintro e w1 ⟨z, rfl, hz1, b1⟩)
  have C1 := Lib.hid b1
  clear b1 BB HZ
  obtain ⟨⟨x0, x1, x2⟩, -, bw1, -⟩ := KK.out _ C1.out
  rcases hz1 with rfl | ⟨hz1, -, hs⟩
  · go_wp2_with fail
    go_ret
    exact ⟨rfl, bw1⟩
  have hz2 : ¬ z < 0 := by omega
  have S := Lib.hid hs
  obtain ⟨q, hq⟩ : ∃ q, q = boxOkB b := ⟨_, rfl⟩
  have HT : Hid (∀ w', ArgBx w' (.agg #[.slice a1 b.rs.length k1, .slice a2 b.es.length k2, .slice a3 b.cs.length k3]) b → Calls Tryz.prog 9 #[.agg #[.slice a1 b.rs.length k1, .slice a2 b.es.length k2, .slice a3 b.cs.length k3]] w' fun e w'' => ∃ g1 g2 c2 g3, e = .returned (.agg #[.slice (some ⟨g1, 0, none⟩) b.rs.length b.rs.length, .slice (some ⟨g2, 0, none⟩) b.es.length c2, .slice (some ⟨g3, 0, none⟩) b.cs.length b.cs.length]) ∧ OwnBx w'' w'.heap.size (.agg #[.slice (some ⟨g1, 0, none⟩) b.rs.length b.rs.length, .slice (some ⟨g2, 0, none⟩) b.es.length c2, .slice (some ⟨g3, 0, none⟩) b.cs.length b.cs.length]) b ∧ Below w'.heap.size w' w'') := fun w' h => toBox_form _ b w' hs h
  have HM : Hid (∀ B u w', B ≤ w'.heap.size → OwnBx w' B u b → Calls Tryz.prog 8 #[u] w' fun e w'' => e = .returned (.bool q) ∧ Below w'.heap.size w' w'') := fun B u w' hB h => by rw [hq]; exact specBoxOk_any B u b w' hs hB h
  have HI : Hid (∀ B u w', OwnBx w' B u b → VarsOk w' → TabOk w' → Calls Tryz.prog 10 #[u] w' fun e w'' => e = .returned (.bool q) ∧ Below w'.heap.size w' w'') := fun B u w' h h1 h2 => by rw [hq]; exact implBoxOk_any B u b w' hs hwf.out.1 hwf.out.2 h h1 h2
  have HE : Hid (∀ u1 u2 w', RdBx w' u1 b → RdBx w' u2 b → Calls Tryz.prog 11 #[u1, u2] w' fun e w'' => e = .returned (.bool true) ∧ Below w'.heap.size w' w'') := fun u1 u2 w' h1 h2 => eqBox_same u1 u2 b w' (by have := hs.1; omega) (by have := hs.2.1; omega) (by have := hs.2.2.1; omega) h1 h2
  clear hq hs hwf hz1
  go_wp2_with fail
  clear x0 x1 x2
  (go_at_call 9; refine (HT.out _ (KK.out _ C1.out).2.1).mono ?_; rintro e w2 ⟨g1, g2, c2, g3, rfl, o2, b2⟩)
  have C2 := Lib.hid (C1.out.trans (b2.mono C1.out.size))
  have z12 := b2.size
  have O2 := Lib.hid o2
  obtain ⟨⟨x0, x1, x2⟩, -⟩ := KK.out _ C2.out
  clear b2 o2
  go_wp2_with fail
  clear x0 x1 x2
  (go_at_call 8; refine (HM.out _ _ _ z12 O2.out).mono ?_; rintro e w3 ⟨rfl, b3⟩)
  have C3 := Lib.hid (C2.out.trans (b3.mono C2.out.size))
  obtain ⟨⟨x0, x1, x2⟩, -⟩ := KK.out _ C3.out
  clear b3 O2
  go_wp2_with fail
  clear x0 x1 x2
  (go_at_call 9; refine (HT.out _ (KK.out _ C3.out).2.1).mono ?_; rintro e w4 ⟨h1, h2, d2, h3, rfl, o4, b4⟩)
  have C4 := Lib.hid (C3.out.trans (b4.mono C3.out.size))
  have O4 := Lib.hid o4
  obtain ⟨⟨x0, x1, x2⟩, -⟩ := KK.out _ C4.out
  clear b4 o4
  have D4 : Hid (Below w4.heap.size w4 (w4.alloc (.cells #[.slice (some ⟨h1, 0, none⟩) b.rs.length b.rs.length, .slice (some ⟨h2, 0, none⟩) b.es.length d2, .slice (some ⟨h3, 0, none⟩) b.cs.length b.cs.length] 37))) := (Below.refl _ _).alloc (Nat.le_refl _) _
  have E4 := Lib.hid (C4.out.trans (D4.out.mono C4.out.size))
  have P4 := Lib.hid (O4.out.later D4.out)
  have L4 : Hid (∀ w', Below (w4.alloc (.cells #[.slice (some ⟨h1, 0, none⟩) b.rs.length b.rs.length, .slice (some ⟨h2, 0, none⟩) b.es.length d2, .slice (some ⟨h3, 0, none⟩) b.cs.length b.cs.length] 37)).heap.size (w4.alloc (.cells #[.slice (some ⟨h1, 0, none⟩) b.rs.length b.rs.length, .slice (some ⟨h2, 0, none⟩) b.es.length d2, .slice (some ⟨h3, 0, none⟩) b.cs.length b.cs.length] 37)) w' → (w'.cell? ⟨w4.heap.size, 0, none⟩ = some (.slice (some ⟨h1, 0, none⟩) b.rs.length b.rs.length) ∧ w'.cell? ⟨w4.heap.size, 1, none⟩ = some (.slice (some ⟨h2, 0, none⟩) b.es.length d2) ∧ w'.cell? ⟨w4.heap.size, 2, none⟩ = some (.slice (some ⟨h3, 0, none⟩) b.cs.length b.cs.length)) ∧ RdBx w' (.agg #[.slice (some ⟨h1, 0, none⟩) b.rs.length b.rs.length, .slice (some ⟨h2, 0, none⟩) b.es.length d2, .slice (some ⟨h3, 0, none⟩) b.cs.length b.cs.length]) b) := fun w' h =>
    ⟨(three_all ((three_new w4 _ _ _ _).below h)).1, P4.out.rd.below h⟩
  go_wp2_with fail
  clear x0 x1 x2
  (go_at_call 10; refine (HI.out _ _ _ P4.out (KK.out _ E4.out).2.2.2.1 (KK.out _ E4.out).2.2.2.2).mono ?_; rintro e w5 ⟨rfl, b5⟩)
  have C5 := Lib.hid (E4.out.trans (b5.mono E4.out.size))
  have F5 : Hid (∀ w', Below w5.heap.size w5 w' → (w'.cell? ⟨w4.heap.size, 0, none⟩ = some (.slice (some ⟨h1, 0, none⟩) b.rs.length b.rs.length) ∧ w'.cell? ⟨w4.heap.size, 1, none⟩ = some (.slice (some ⟨h2, 0, none⟩) b.es.length d2) ∧ w'.cell? ⟨w4.heap.size, 2, none⟩ = some (.slice (some ⟨h3, 0, none⟩) b.cs.length b.cs.length)) ∧ RdBx w' (.agg #[.slice (some ⟨h1, 0, none⟩) b.rs.length b.rs.length, .slice (some ⟨h2, 0, none⟩) b.es.length d2, .slice (some ⟨h3, 0, none⟩) b.cs.length b.cs.length]) b) := fun w' h => L4.out w' (b5.trans (h.mono b5.size))
  have G5 : Hid (∀ w', Below w5.heap.size w5 w' → (w'.cell? ⟨w.heap.size, 0, none⟩ = some (.slice a1 b.rs.length k1) ∧ w'.cell? ⟨w.heap.size, 1, none⟩ = some (.slice a2 b.es.length k2) ∧ w'.cell? ⟨w.heap.size, 2, none⟩ = some (.slice a3 b.cs.length k3)) ∧ ArgBx w' (.agg #[.slice a1 b.rs.length k1, .slice a2 b.es.length k2, .slice a3 b.cs.length k3]) b ∧ Below w.heap.size w w') := fun w' h =>
    have k := KK.out w' (C5.out.trans (h.mono C5.out.size))
    ⟨k.1, k.2.1, k.2.2.1⟩
  have Z5 : Hid (Below w5.heap.size w5 w5) := Below.refl _ _
  obtain ⟨⟨x0, x1, x2⟩, -⟩ := G5.out _ Z5.out
  obtain ⟨⟨y0, y1, y2⟩, -⟩ := F5.out _ Z5.out
  clear b5 L4 E4 C4 C3 C2 C1 P4 D4 O4 KK HM HI C5
  go_wp2_with fail
  go_region_with (first
    | (go_at_call 9; refine (HT.out _ (G5.out _ ((Below.refl _ _).drew)).2.1).mono ?_; rintro e w6 ⟨i1, i2, j2, i3, rfl, o6, b6⟩; have R6 := Lib.hid o6.rd; have d6 : Below w5.heap.size w5 w6 := ((Below.refl _ _).drew).trans b6; obtain ⟨⟨p0, p1, p2⟩, -, bw6⟩ := G5.out _ d6; obtain ⟨⟨q0, q1, q2⟩, S6⟩ := F5.out _ d6; have S6 := Lib.hid S6; clear o6 b6)
    | (go_at_call 11; refine (HE.out _ _ _ S6.out R6.out).mono ?_; rintro e w7 ⟨rfl, b7⟩; have bw7 := (G5.out _ (d6.trans (b7.mono d6.size))).2.2))
  all_goals
    go_wp2
    go_ret
    exact ⟨rfl, bw7⟩

end Go.Proofs.YtfgkonphbmliaaaGreatDoor
