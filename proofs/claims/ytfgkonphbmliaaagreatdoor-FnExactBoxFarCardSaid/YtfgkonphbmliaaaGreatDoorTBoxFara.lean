/- The law of BoxFar. Conditions: the argument's lists lie in the machine's memory, at any address; the variables that are read hold what they are laid with. (Several texts, joined: BoxForm, ConnOkI, ConnI, RulesI, IBoxOk, Far, FarI, BoxFarI, LawBoxFar.) -/
import Derived.Test.YtfgkonphbmliaaaGreatDoorTBoxOkc
import Derived.Test.YtfgkonphbmliaaaGreatDoorTBoxOkh
import Derived.Test.YtfgkonphbmliaaaGreatDoorBoxThree
import Derived.Test.YtfgkonphbmliaaaGreatDoorTBoxOkf
import Derived.Test.YtfgkonphbmliaaaGreatDoorTBoxOkb
import Derived.Test.YtfgkonphbmliaaaGreatDoorEqEnd
import Derived.Deep.RegionHeld3
import Derived.Deep.RegionWith

/- A box that came in, and one that became the program's, as structs of three slices. Condition: as for the copies. -/
namespace Go.Proofs.YtfgkonphbmliaaaGreatDoor
open Go.RowKit Go.Sort

theorem ArgBx.form {w : World} {v : Value} {b : Bx} (h : ArgBx w v b) : ∃ a1 k1 a2 k2 a3 k3, v = .agg #[.slice a1 b.rs.length k1, .slice a2 b.es.length k2, .slice a3 b.cs.length k3] := by
  obtain ⟨r, t, c, rfl, ⟨a1, k1, rfl, -⟩, ⟨a2, k2, rfl, -⟩, ⟨a3, k3, rfl, -⟩⟩ := h
  exact ⟨a1, k1, a2, k2, a3, k3, rfl⟩
/-- A box becomes the program's, in blocks of its own. -/
theorem toBox_form (v : Value) (b : Bx) (w : World) (hs : bxSz b) (hv : ArgBx w v b) :
    Calls Tryz.prog 9 #[v] w fun e w' => ∃ g1 g2 c2 g3, e = .returned (.agg #[.slice (some ⟨g1, 0, none⟩) b.rs.length b.rs.length, .slice (some ⟨g2, 0, none⟩) b.es.length c2, .slice (some ⟨g3, 0, none⟩) b.cs.length b.cs.length]) ∧ OwnBx w' w.heap.size (.agg #[.slice (some ⟨g1, 0, none⟩) b.rs.length b.rs.length, .slice (some ⟨g2, 0, none⟩) b.es.length c2, .slice (some ⟨g3, 0, none⟩) b.cs.length b.cs.length]) b ∧ Below w.heap.size w w' := by
  refine (toBox_any v b w hs hv).mono ?_
  rintro e w' ⟨u, rfl, ho, hb⟩
  obtain ⟨g1, g2, c2, g3, rfl, -⟩ := id ho
  exact ⟨g1, g2, c2, g3, rfl, ho, hb⟩

end Go.Proofs.YtfgkonphbmliaaaGreatDoor

/- Whether streams are ok, as the program asks. Conditions: a table that is ok; texts of at most 2^21 bytes. -/
namespace Go.Proofs.YtfgkonphbmliaaaGreatDoor
open Go.RowKit Go.Sort

theorem seven_cells {w : World} {b : Nat} {t : TypeId} {x0 x1 x2 x3 x4 x5 x6 : Value} (h : Blk w b t [x0, x1, x2, x3, x4, x5, x6]) :
    w.cell? ⟨b, 0, none⟩ = some x0 ∧ w.cell? ⟨b, 1, none⟩ = some x1 ∧ w.cell? ⟨b, 2, none⟩ = some x2 ∧ w.cell? ⟨b, 3, none⟩ = some x3 ∧ w.cell? ⟨b, 4, none⟩ = some x4 ∧ w.cell? ⟨b, 5, none⟩ = some x5 ∧ w.cell? ⟨b, 6, none⟩ = some x6 :=
  ⟨(h.cell 0 x0 rfl).1, (h.cell 1 x1 rfl).1, (h.cell 2 x2 rfl).1, (h.cell 3 x3 rfl).1, (h.cell 4 x4 rfl).1, (h.cell 5 x5 rfl).1, (h.cell 6 x6 rfl).1⟩

set_option maxRecDepth 100000 in
set_option maxHeartbeats 6400000 in
theorem implConn_any (v : Value) (es : List (Int × Int)) (ia ip oa op : Int) (kn he ne : ByteArray) (w : World) (hm : mapB es = true) (hk : kn.size ≤ 2097152) (hh : he.size ≤ 2097152) (hne : ne.size ≤ 2097152) (wa : (Lit.int .i64 ia).wf = true) (wp : (Lit.int .i64 ip).wf = true) (ht : TabAt w v es) (hv : VarsOk w) (htb : TabOk w) :
    Calls Tryz.prog 45 #[.agg #[v], .agg #[.int .i64 ia, .int .i64 ip, .int .i64 oa, .int .i64 op, .string kn, .string he, .string ne]] w fun e w' => e = .returned (.bool (conI es ⟨ia, ip, oa, op, kn, he, ne⟩)) ∧ Below w.heap.size w w' := by
  have h6 := mapB_le hm
  obtain ⟨W1, hW1⟩ : ∃ W, W = (w.alloc (.cells #[v] 34)).alloc (.cells #[.int .i64 ia, .int .i64 ip, .int .i64 oa, .int .i64 op, .string kn, .string he, .string ne] 83) := ⟨_, rfl⟩
  have hB1 : Below w.heap.size w W1 := by rw [hW1]; exact ((Below.refl _ _).alloc (Nat.le_refl _) _).alloc (by simp) _
  have hs1 : W1.heap.size = w.heap.size + 2 := by rw [hW1]; simp
  have HT := Lib.hid ht
  have HV := Lib.hid hv
  have HB := Lib.hid htb
  obtain ⟨ad, cap, rfl, _, _⟩ := ht
  have K2 : Blk W1 (w.heap.size + 1) 83 [.int .i64 ia, .int .i64 ip, .int .i64 oa, .int .i64 op, .string kn, .string he, .string ne] := by
    rw [hW1]
    have := heap_last3 (w.alloc (.cells #[.slice ad es.length cap] 34)) (.cells #[.int .i64 ia, .int .i64 ip, .int .i64 oa, .int .i64 op, .string kn, .string he, .string ne] 83)
    unfold Blk
    simpa using this
  have K0 : Blk W1 w.heap.size 34 [.slice ad es.length cap] := by
    rw [hW1]
    exact (show Blk (w.alloc (.cells #[.slice ad es.length cap] 34)) w.heap.size _ _ from heap_last3 w _).below ((Below.refl _ _).alloc (Nat.le_refl _) _)
  have HF : Hid (∀ w', Below W1.heap.size W1 w' → w'.cell? ⟨w.heap.size, 0, none⟩ = some (.slice ad es.length cap) ∧ (w'.cell? ⟨w.heap.size + 1, 0, none⟩ = some (.int .i64 ia) ∧ w'.cell? ⟨w.heap.size + 1, 1, none⟩ = some (.int .i64 ip) ∧ w'.cell? ⟨w.heap.size + 1, 2, none⟩ = some (.int .i64 oa) ∧ w'.cell? ⟨w.heap.size + 1, 3, none⟩ = some (.int .i64 op) ∧ w'.cell? ⟨w.heap.size + 1, 4, none⟩ = some (.string kn) ∧ w'.cell? ⟨w.heap.size + 1, 5, none⟩ = some (.string he) ∧ w'.cell? ⟨w.heap.size + 1, 6, none⟩ = some (.string ne))) := fun w' h =>
    ⟨((K0.below h).cell 0 _ rfl).1, seven_cells (K2.below h)⟩
  have HH : Hid (∀ w', Below W1.heap.size W1 w' → Below w.heap.size w w') := fun w' h => hB1.trans (h.mono hB1.size)
  have BB : Hid (Below W1.heap.size W1 W1) := Below.refl _ _
  have C1 : Hid (∀ w', Below W1.heap.size W1 w' → Calls Tryz.prog 108 #[.agg #[.slice ad es.length cap], .agg #[.int .i64 ia, .int .i64 ip]] w' fun e w'' => e = .returned (.int .i64 (portI es (ia, ip))) ∧ Below w'.heap.size w' w'') := fun w' h => implMapPort_any _ es ia ip w' (by omega) (mapB_wf hm) wa wp (HT.out.below (HH.out _ h))
  have C2 : Hid (∀ w', Below W1.heap.size W1 w' → Calls Tryz.prog 109 #[.agg #[.int .i64 oa, .int .i64 op]] w' fun e w'' => e = .returned (.bool (outB oa op && decide (op = 21))) ∧ Below w'.heap.size w' w'') := fun w' h => isCtl_any oa op w'
  have C3 : Hid (∀ w', Below W1.heap.size W1 w' → Calls Tryz.prog 110 #[.agg #[.slice ad es.length cap], .string kn] w' fun e w'' => e = .returned (.bool (strB kn.data.toList && knowB es kn.data.toList)) ∧ Below w'.heap.size w' w'') := fun w' h => implKnow_any _ es kn w' hm hk (HT.out.below (HH.out _ h)) (HV.out.below (HH.out _ h))
  have C4 : Hid (∀ w', Below W1.heap.size W1 w' → Calls Tryz.prog 111 #[.agg #[.slice ad es.length cap], .string he, .string ne] w' fun e w'' => e = .returned (.bool (strB he.data.toList && nearB es he.data.toList ne.data.toList)) ∧ Below w'.heap.size w' w'') := fun w' h => implNear_any _ es he ne w' hm hh hne (HT.out.below (HH.out _ h)) (HV.out.below (HH.out _ h)) (HB.out.below (HH.out _ h) (Nat.le_refl _))
  have HC : Hid (conI es ⟨ia, ip, oa, op, kn, he, ne⟩ = (decide (portI es (ia, ip) ≠ 0) && (outB oa op && decide (op = 21)) && (strB kn.data.toList && knowB es kn.data.toList) && (strB he.data.toList && nearB es he.data.toList ne.data.toList))) := by
    show conI es ⟨ia, ip, oa, op, kn, he, ne⟩ = _
    simp only [conI, Bool.and_assoc]
  obtain ⟨Q, hQ⟩ : ∃ Q, Q = conI es ⟨ia, ip, oa, op, kn, he, ne⟩ := ⟨_, rfl⟩
  obtain ⟨z1, e1⟩ : ∃ q, q = portI es (ia, ip) := ⟨_, rfl⟩
  obtain ⟨q2, e2⟩ : ∃ q, q = (outB oa op && decide (op = 21)) := ⟨_, rfl⟩
  obtain ⟨q3, e3⟩ : ∃ q, q = (strB kn.data.toList && knowB es kn.data.toList) := ⟨_, rfl⟩
  obtain ⟨q4, e4⟩ : ∃ q, q = (strB he.data.toList && nearB es he.data.toList ne.data.toList) := ⟨_, rfl⟩
  rw [← hQ] at HC ⊢
  rw [← e1] at C1 HC
  rw [← e2] at C2 HC
  rw [← e3] at C3 HC
  rw [← e4] at C4 HC
  clear hQ e1 e2 e3 e4 K0 K2 hB1 HT HV HB hv htb wa wp hk hh hne hm
  clear hs1
  subst hW1
  by_cases h1 : z1 = 0
  · have hq : Q = false := by have := HC.out; simpa [h1] using this
    subst hq h1
    clear HC
    go_enter Tryz.func45, Tryz.ntmps45
    go_wp2_with (first
      | (go_at_call 108; refine (C1.out _ BB.out).mono ?_; rintro e wn ⟨rfl, bn⟩; have BB := Lib.hid (BB.out.trans (bn.mono BB.out.size)); obtain ⟨x0, y0, y1, y2, y3, y4, y5, y6⟩ := HF.out _ BB.out; clear bn)
      | (go_at_call 109; refine (C2.out _ BB.out).mono ?_; rintro e wn ⟨rfl, bn⟩; have BB := Lib.hid (BB.out.trans (bn.mono BB.out.size)); obtain ⟨x0, y0, y1, y2, y3, y4, y5, y6⟩ := HF.out _ BB.out; clear bn)
      | (go_at_call 110; refine (C3.out _ BB.out).mono ?_; rintro e wn ⟨rfl, bn⟩; have BB := Lib.hid (BB.out.trans (bn.mono BB.out.size)); obtain ⟨x0, y0, y1, y2, y3, y4, y5, y6⟩ := HF.out _ BB.out; clear bn)
      | (go_at_call 111; refine (C4.out _ BB.out).mono ?_; rintro e wn ⟨rfl, bn⟩; have BB := Lib.hid (BB.out.trans (bn.mono BB.out.size)); obtain ⟨x0, y0, y1, y2, y3, y4, y5, y6⟩ := HF.out _ BB.out; clear bn))
    go_ret
    exact ⟨rfl, HH.out _ BB.out⟩
  cases q2
  · have hq : Q = false := by have := HC.out; simpa using this
    subst hq
    clear HC
    go_enter Tryz.func45, Tryz.ntmps45
    go_wp2_with (first
      | (go_at_call 108; refine (C1.out _ BB.out).mono ?_; rintro e wn ⟨rfl, bn⟩; have BB := Lib.hid (BB.out.trans (bn.mono BB.out.size)); obtain ⟨x0, y0, y1, y2, y3, y4, y5, y6⟩ := HF.out _ BB.out; clear bn)
      | (go_at_call 109; refine (C2.out _ BB.out).mono ?_; rintro e wn ⟨rfl, bn⟩; have BB := Lib.hid (BB.out.trans (bn.mono BB.out.size)); obtain ⟨x0, y0, y1, y2, y3, y4, y5, y6⟩ := HF.out _ BB.out; clear bn)
      | (go_at_call 110; refine (C3.out _ BB.out).mono ?_; rintro e wn ⟨rfl, bn⟩; have BB := Lib.hid (BB.out.trans (bn.mono BB.out.size)); obtain ⟨x0, y0, y1, y2, y3, y4, y5, y6⟩ := HF.out _ BB.out; clear bn)
      | (go_at_call 111; refine (C4.out _ BB.out).mono ?_; rintro e wn ⟨rfl, bn⟩; have BB := Lib.hid (BB.out.trans (bn.mono BB.out.size)); obtain ⟨x0, y0, y1, y2, y3, y4, y5, y6⟩ := HF.out _ BB.out; clear bn))
    go_ret
    exact ⟨rfl, HH.out _ BB.out⟩
  have HQ2 : Hid (Q = (q3 && q4)) := by
    show Q = _
    have := HC.out
    rw [decide_eq_true h1] at this
    simpa using this
  clear HC
  cases q3
  rotate_left
  cases q4
  all_goals
    first
    | (have hq : Q = true := by (have := HQ2.out; simpa using this)
       subst hq)
    | (have hq : Q = false := by (have := HQ2.out; simpa using this)
       subst hq)
    clear HQ2
    go_enter Tryz.func45, Tryz.ntmps45
    go_wp2_with (first
      | (go_at_call 108; refine (C1.out _ BB.out).mono ?_; rintro e wn ⟨rfl, bn⟩; have BB := Lib.hid (BB.out.trans (bn.mono BB.out.size)); obtain ⟨x0, y0, y1, y2, y3, y4, y5, y6⟩ := HF.out _ BB.out; clear bn)
      | (go_at_call 109; refine (C2.out _ BB.out).mono ?_; rintro e wn ⟨rfl, bn⟩; have BB := Lib.hid (BB.out.trans (bn.mono BB.out.size)); obtain ⟨x0, y0, y1, y2, y3, y4, y5, y6⟩ := HF.out _ BB.out; clear bn)
      | (go_at_call 110; refine (C3.out _ BB.out).mono ?_; rintro e wn ⟨rfl, bn⟩; have BB := Lib.hid (BB.out.trans (bn.mono BB.out.size)); obtain ⟨x0, y0, y1, y2, y3, y4, y5, y6⟩ := HF.out _ BB.out; clear bn)
      | (go_at_call 111; refine (C4.out _ BB.out).mono ?_; rintro e wn ⟨rfl, bn⟩; have BB := Lib.hid (BB.out.trans (bn.mono BB.out.size)); obtain ⟨x0, y0, y1, y2, y3, y4, y5, y6⟩ := HF.out _ BB.out; clear bn))
    go_ret
    first
      | exact ⟨rfl, HH.out _ BB.out⟩
      | exact ⟨ret_bool (by simpa using h1), HH.out _ BB.out⟩

end Go.Proofs.YtfgkonphbmliaaaGreatDoor

/- Where streams stand, as the program looks for them. Condition: at most 2^22 streams. -/
namespace Go.Proofs.YtfgkonphbmliaaaGreatDoor
open Go.RowKit

/-- An end lies in a block. -/
def EndIn (w : World) (g : Nat) (a p : Int) : Prop := w.cell? ⟨g, 0, none⟩ = some (.int .i64 a) ∧ w.cell? ⟨g, 1, none⟩ = some (.int .i64 p) ∧ g < w.heap.size
theorem EndIn.below {w w' : World} {g : Nat} {a p : Int} (h : EndIn w g a p) (hb : Below w.heap.size w w') : EndIn w' g a p :=
  ⟨(hb.cell (p := ⟨g, 0, none⟩) h.2.2).trans h.1, (hb.cell (p := ⟨g, 1, none⟩) h.2.2).trans h.2.1, Nat.lt_of_lt_of_le h.2.2 hb.size⟩

set_option maxRecDepth 100000 in
set_option maxHeartbeats 1600000 in
theorem sameI_any (bi bo : Nat) (ia ip oa op : Int) (a p o q : Int) (kn he ne : ByteArray) (w : World) (hi : EndIn w bi ia ip) (ho : EndIn w bo oa op) :
    Calls Tryz.prog 107 #[.agg #[.int .i64 a, .int .i64 p, .int .i64 o, .int .i64 q, .string kn, .string he, .string ne], .pointer (some ⟨bi, 0, none⟩), .pointer (some ⟨bo, 0, none⟩)] w fun e w' => e = .returned (.bool (sameCn ⟨a, p, o, q, kn, he, ne⟩ ia ip oa op)) ∧ Below w.heap.size w w' := by
  have HX : Hid (sameCn ⟨a, p, o, q, kn, he, ne⟩ ia ip oa op = (decide (a = ia) && decide (p = ip) && (decide (o = oa) && decide (q = op)))) := rfl
  obtain ⟨Q, hQ⟩ : ∃ Q, Q = sameCn ⟨a, p, o, q, kn, he, ne⟩ ia ip oa op := ⟨_, rfl⟩
  rw [← hQ] at HX ⊢
  clear hQ
  have A0 := fun x => (hi.below ((Below.refl w.heap.size w).alloc (Nat.le_refl _) x)).1
  have A1 := fun x => (hi.below ((Below.refl w.heap.size w).alloc (Nat.le_refl _) x)).2.1
  have C0 := fun x => (ho.below ((Below.refl w.heap.size w).alloc (Nat.le_refl _) x)).1
  have C1 := fun x => (ho.below ((Below.refl w.heap.size w).alloc (Nat.le_refl _) x)).2.1
  have g1 := eqEnds1
  have g2 := eqEnds2
  clear hi ho
  by_cases h1 : a = ia
  rotate_left
  · have hq : Q = false := by have := HX.out; simpa [h1] using this
    subst hq
    clear HX
    go_enter Tryz.func107, Tryz.ntmps107
    go_wp2
    go_ret
    exact ⟨rfl, (Below.refl _ _).alloc (Nat.le_refl _) _⟩
  subst h1
  by_cases h2 : p = ip
  rotate_left
  · have hq : Q = false := by have := HX.out; simpa [h2] using this
    subst hq
    clear HX
    go_enter Tryz.func107, Tryz.ntmps107
    go_wp2
    go_ret
    exact ⟨rfl, (Below.refl _ _).alloc (Nat.le_refl _) _⟩
  subst h2
  by_cases h3 : o = oa
  rotate_left
  · have hq : Q = false := by have := HX.out; simpa [h3] using this
    subst hq
    clear HX
    go_enter Tryz.func107, Tryz.ntmps107
    go_wp2
    go_ret
    exact ⟨rfl, (Below.refl _ _).alloc (Nat.le_refl _) _⟩
  subst h3
  by_cases h4 : q = op
  rotate_left
  · have hq : Q = false := by have := HX.out; simpa [h4] using this
    subst hq
    clear HX
    go_enter Tryz.func107, Tryz.ntmps107
    go_wp2
    go_ret
    exact ⟨rfl, (Below.refl _ _).alloc (Nat.le_refl _) _⟩
  subst h4
  have hq : Q = true := by have := HX.out; simpa using this
  subst hq
  clear HX
  go_enter Tryz.func107, Tryz.ntmps107
  go_wp2
  go_ret
  exact ⟨rfl, (Below.refl _ _).alloc (Nat.le_refl _) _⟩

set_option maxRecDepth 100000 in
set_option maxHeartbeats 3200000 in
theorem idxConns_any (v : Value) (cs : List Cn) (bi bo : Nat) (ia ip oa op : Int) (w : World) (hn : cs.length ≤ 4194304) (hv : RdCn w v cs) (hi : EndIn w bi ia ip) (ho : EndIn w bo oa op) :
    Calls Tryz.prog 106 #[v, .func (.func 107) #[] #[.pointer (some ⟨bi, 0, none⟩), .pointer (some ⟨bo, 0, none⟩)]] w fun e w' => e = .returned (.int .i64 (findCn cs ia ip oa op)) ∧ Below w.heap.size w w' := by
  obtain ⟨av, cv, rfl, hcv, hrv⟩ := hv
  have HV := Lib.hid hrv
  have HI := Lib.hid hi
  have HO := Lib.hid ho
  clear hrv hi ho
  go_enter Tryz.func106, Tryz.ntmps106
  go_wp2
  go_loopw [5, 8] (fun _ i wr => ∃ k : Nat, k ≤ cs.length ∧ i = .int .i64 k ∧ Hid (∀ j (hj : j < k) (hl : j < cs.length), sameCn cs[j] ia ip oa op = false) ∧ Below w.heap.size w wr) (fun _ i _ => cs.length - (intOf i).toNat)
  case atStart => exact ⟨0, Nat.zero_le _, rfl, fun j hj => by omega, Below.refl _ _⟩
  case round =>
    obtain ⟨k, hk, rfl, HD, hb⟩ := hrel
    by_cases hlt : k < cs.length
    · obtain ⟨g, rfl, hrow⟩ := HV.out (by omega)
      have hl : 0 < (flatC cnC cs).length := by rw [flatC_len cnC_len]; omega
      obtain ⟨⟨a, p, o, q, kn, he, ne⟩, hp⟩ : ∃ p, p = cs[k] := ⟨_, rfl⟩
      obtain ⟨⟨p0, p1, p2, p3, p4, p5, p6⟩, _⟩ := (hrow.below hb (hrow.lt hl)).conn k hlt _ hp
      simp only at p0 p1 p2 p3 p4 p5 p6
      have hk1 : (k : Int) ≤ (cv : Int) := by omega
      have hk3 : (k : Int) < (cs.length : Int) := by omega
      have HM : Hid (Calls Tryz.prog 107 #[.agg #[.int .i64 a, .int .i64 p, .int .i64 o, .int .i64 q, .string kn, .string he, .string ne], .pointer (some ⟨bi, 0, none⟩), .pointer (some ⟨bo, 0, none⟩)] wr fun e w' => e = .returned (.bool (sameCn ⟨a, p, o, q, kn, he, ne⟩ ia ip oa op)) ∧ Below wr.heap.size wr w') := sameI_any bi bo ia ip oa op a p o q kn he ne wr (HI.out.below hb) (HO.out.below hb)
      have HP := Lib.hid hp
      cases ht : sameCn ⟨a, p, o, q, kn, he, ne⟩ ia ip oa op
      · rw [ht] at HM
        have HN : Hid (∀ j (hj : j < k + 1) (hl : j < cs.length), sameCn cs[j] ia ip oa op = false) := fun j hj hl => by
          by_cases e : j = k
          · subst e; rw [← HP.out]; exact ht
          · exact HD.out j (by omega) hl
        clear hrow hp HP ht HD
        go_wp2_with (go_at_call 107; refine HM.out.mono ?_; rintro e' w2 ⟨rfl, b2⟩)
        go_roundw
        case rel => exact ⟨k + 1, by omega, by go_num, HN, hb.trans (b2.mono hb.size)⟩
        case measure => simp [intOf]; omega
      · rw [ht] at HM
        have HT : Hid (findCn cs ia ip oa op = k) := findCn_hit hlt (by rw [← HP.out]; exact ht) fun j hj => HD.out j hj (by omega)
        clear hrow hp HP ht HD
        go_wp2_with (go_at_call 107; refine HM.out.mono ?_; rintro e' w2 ⟨rfl, b2⟩)
        go_ret
        exact ⟨ret_int HT.out.symm, hb.trans (b2.mono hb.size)⟩
    · have HT : Hid (findCn cs ia ip oa op = -1) := findCn_miss fun j hj => HD.out j (by omega) hj
      clear HD
      go_wp2
      go_ret
      exact ⟨ret_int HT.out.symm, hb⟩

set_option maxRecDepth 100000 in
set_option maxHeartbeats 1600000 in
theorem implFindCn_any (v : Value) (cs : List Cn) (ia ip oa op : Int) (w : World) (hn : cs.length ≤ 4194304) (hv : RdCn w v cs) :
    Calls Tryz.prog 44 #[v, .agg #[.int .i64 ia, .int .i64 ip], .agg #[.int .i64 oa, .int .i64 op]] w fun e w' => e = .returned (.int .i64 (findCn cs ia ip oa op)) ∧ Below w.heap.size w w' := by
  obtain ⟨W0, hW0⟩ : ∃ W, W = (w.alloc (.cells #[.int .i64 ia, .int .i64 ip] 48)).alloc (.cells #[.int .i64 oa, .int .i64 op] 48) := ⟨_, rfl⟩
  have hB : Below w.heap.size w W0 := by rw [hW0]; exact ((Below.refl _ _).alloc (Nat.le_refl _) _).alloc (by simp) _
  have hs : W0.heap.size = w.heap.size + 2 := by rw [hW0]; simp
  have h1 : EndIn W0 w.heap.size ia ip := by rw [hW0]; exact ⟨by simp, by simp, by simp; omega⟩
  have h2 : EndIn W0 (w.heap.size + 1) oa op := by rw [hW0]; exact ⟨by simp, by simp, by simp⟩
  have HC : Hid (Calls Tryz.prog 106 #[v, .func (.func 107) #[] #[.pointer (some ⟨w.heap.size, 0, none⟩), .pointer (some ⟨w.heap.size + 1, 0, none⟩)]] W0 fun e w' => e = .returned (.int .i64 (findCn cs ia ip oa op)) ∧ Below W0.heap.size W0 w') := idxConns_any v cs _ _ ia ip oa op W0 hn (hv.below hB) h1 h2
  have BB := Lib.hid hB
  obtain ⟨av, cv, rfl, _⟩ := hv
  clear hB h1 h2 hs
  subst hW0
  go_enter Tryz.func44, Tryz.ntmps44
  go_wp2_with (go_at_call 106; refine HC.out.mono ?_; rintro e w1 ⟨rfl, b1⟩)
  go_ret
  exact ⟨rfl, BB.out.trans (b1.mono BB.out.size)⟩

end Go.Proofs.YtfgkonphbmliaaaGreatDoor

/- The rules of the program, whether they are ok, at rules in memory. Condition: at most 2^22 rules. -/
namespace Go.Proofs.YtfgkonphbmliaaaGreatDoor
open Go.RowKit

set_option maxRecDepth 100000 in
set_option maxHeartbeats 800000 in
theorem notOk_any (al : Bool) (i it o ot p pt : Int) (w : World) :
    Calls Tryz.prog 101 #[.agg #[.bool al, .int .i64 i, .int .i64 it, .int .i64 o, .int .i64 ot, .int .i64 p, .int .i64 pt]] w fun e w' => e = .returned (.bool (!ruleB ⟨al, i, it, o, ot, p, pt⟩)) ∧ Below w.heap.size w w' := by
  have HM : Hid (∀ w, Calls Tryz.prog 102 #[.agg #[.bool al, .int .i64 i, .int .i64 it, .int .i64 o, .int .i64 ot, .int .i64 p, .int .i64 pt]] w fun e w' => e = .returned (.bool (ruleB ⟨al, i, it, o, ot, p, pt⟩)) ∧ Below w.heap.size w w') := fun w => implRulOk_any al i it o ot p pt w
  obtain ⟨q, hq⟩ : ∃ q, q = ruleB ⟨al, i, it, o, ot, p, pt⟩ := ⟨_, rfl⟩
  rw [← hq] at HM ⊢
  clear hq
  cases q
  all_goals
    go_enter Tryz.func101, Tryz.ntmps101
    go_wp2_with (go_at_call 102; refine (HM.out _).mono ?_; rintro e w1 ⟨rfl, b1⟩)
    go_ret
    exact ⟨rfl, below_box b1⟩

set_option maxRecDepth 100000 in
set_option maxHeartbeats 1600000 in
theorem idxRules_any (v : Value) (l : List Rl) (w : World) (hn : l.length ≤ 4194304) (hv : RdRl w v l) :
    Calls Tryz.prog 137 #[v, .func (.func 101) #[] #[]] w fun e w' => ∃ z : Int, e = .returned (.int .i64 z) ∧ decide (0 ≤ z) = !l.all ruleB ∧ Below w.heap.size w w' := by
  obtain ⟨av, cv, rfl, hcv, hrv⟩ := hv
  have HV := Lib.hid hrv
  clear hrv
  go_enter Tryz.func137, Tryz.ntmps137
  go_wp2
  go_loopw [5, 8] (fun _ i wr => ∃ k : Nat, k ≤ l.length ∧ i = .int .i64 k ∧ Hid (∀ r ∈ l.take k, ruleB r = true) ∧ Below w.heap.size w wr) (fun _ i _ => l.length - (intOf i).toNat)
  case atStart => exact ⟨0, Nat.zero_le _, rfl, fun r hr => by simp at hr, Below.refl _ _⟩
  case round =>
    obtain ⟨k, hk, rfl, HD, hb⟩ := hrel
    by_cases hlt : k < l.length
    · obtain ⟨g1, o1, rfl, hg1, hr1⟩ := HV.out (by omega)
      obtain ⟨⟨al, a, b, c, d, e, f⟩, hap⟩ : ∃ x, x = l[k] := ⟨_, rfl⟩
      obtain ⟨p0, p1, p2, p3, p4, p5, p6⟩ := rl_seven hr1 k hlt al a b c d e f hap
      rw [← hb.cell (by exact hg1)] at p0 p1 p2 p3 p4 p5 p6
      have hk1 : (k : Int) ≤ (cv : Int) := by omega
      have hk3 : (k : Int) < (l.length : Int) := by omega
      cases ht : ruleB ⟨al, a, b, c, d, e, f⟩
      · have HF : Hid (decide (0 ≤ (k : Int)) = !l.all ruleB) := by
          show _ = _
          rw [show l.all ruleB = false from List.all_eq_false.2 ⟨l[k], List.getElem_mem _, by rw [← hap, ht]; simp⟩, decide_eq_true (by omega)]; rfl
        have HM : Hid (∀ w, Calls Tryz.prog 101 #[.agg #[.bool al, .int .i64 a, .int .i64 b, .int .i64 c, .int .i64 d, .int .i64 e, .int .i64 f]] w fun e w' => e = .returned (.bool true) ∧ Below w.heap.size w w') := fun w => by have := notOk_any al a b c d e f w; rwa [ht] at this
        clear hr1 hap ht
        go_wp2_with (go_at_call 101; refine (HM.out _).mono ?_; rintro e' w2 ⟨rfl, b2⟩)
        go_ret
        exact ⟨_, rfl, HF.out, hb.trans (b2.mono hb.size)⟩
      · have HF : Hid (∀ r ∈ l.take (k + 1), ruleB r = true) := take_all_snoc hlt HD.out (by rw [← hap]; exact ht)
        have HM : Hid (∀ w, Calls Tryz.prog 101 #[.agg #[.bool al, .int .i64 a, .int .i64 b, .int .i64 c, .int .i64 d, .int .i64 e, .int .i64 f]] w fun e w' => e = .returned (.bool false) ∧ Below w.heap.size w w') := fun w => by have := notOk_any al a b c d e f w; rwa [ht] at this
        clear hr1 hap ht
        go_wp2_with (go_at_call 101; refine (HM.out _).mono ?_; rintro e' w2 ⟨rfl, b2⟩)
        go_roundw
        case rel => exact ⟨k + 1, by omega, by go_num, HF, hb.trans (b2.mono hb.size)⟩
        case measure => simp [intOf]; omega
    · have hkn : k = l.length := by omega
      subst hkn
      have HF : Hid (decide (0 ≤ (-1 : Int)) = !l.all ruleB) := by
        have := HD.out
        rw [List.take_of_length_le (Nat.le_refl _)] at this
        show _ = _
        rw [List.all_eq_true.2 this]; rfl
      go_wp2
      go_ret
      exact ⟨_, rfl, HF.out, hb⟩

set_option maxRecDepth 100000 in
set_option maxHeartbeats 800000 in
theorem hasRule_any (v : Value) (l : List Rl) (w : World) (hn : l.length ≤ 4194304) (hv : RdRl w v l) :
    Calls Tryz.prog 100 #[v, .func (.func 101) #[] #[]] w fun e w' => e = .returned (.bool (!l.all ruleB)) ∧ Below w.heap.size w w' := by
  have HC : Hid (Calls Tryz.prog 137 #[v, .func (.func 101) #[] #[]] w fun e w' => ∃ z : Int, e = .returned (.int .i64 z) ∧ decide (0 ≤ z) = !l.all ruleB ∧ Below w.heap.size w w') := idxRules_any v l w hn hv
  obtain ⟨av, cv, rfl, _⟩ := hv
  obtain ⟨q, hq⟩ : ∃ q, q = !l.all ruleB := ⟨_, rfl⟩
  rw [← hq] at HC ⊢
  clear hq
  go_enter Tryz.func100, Tryz.ntmps100
  go_wp2_with (go_at_call 137; refine (HC.out).mono ?_; rintro e w1 ⟨z, rfl, hz, b1⟩)
  go_ret
  first
    | exact ⟨rfl, b1⟩
    | exact ⟨ret_bool hz, b1⟩

set_option maxRecDepth 100000 in
set_option maxHeartbeats 800000 in
theorem implRules_any (v : Value) (l : List Rl) (w : World) (hn : l.length ≤ 4194304) (hv : RdRl w v l) :
    Calls Tryz.prog 42 #[v] w fun e w' => e = .returned (.bool (rulesB l)) ∧ Below w.heap.size w w' := by
  have HC : Hid (Calls Tryz.prog 100 #[v, .func (.func 101) #[] #[]] w fun e w' => e = .returned (.bool (!l.all ruleB)) ∧ Below w.heap.size w w') := hasRule_any v l w hn hv
  obtain ⟨av, cv, rfl, _⟩ := hv
  have HS : Hid (rulesB l = (decide (l.length ≤ 5) && l.all ruleB)) := rfl
  obtain ⟨q, hq⟩ : ∃ q, q = rulesB l := ⟨_, rfl⟩
  obtain ⟨q1, hq1⟩ : ∃ q, q = l.all ruleB := ⟨_, rfl⟩
  rw [← hq] at HS ⊢
  rw [← hq1] at HS HC
  clear hq hq1
  by_cases h5 : l.length ≤ 5 <;> cases q1
  all_goals
    try rw [decide_eq_true h5] at HS
    try rw [decide_eq_false h5] at HS
    first
    | (have hq : q = true := by (have := HS.out; simpa using this)
       subst hq)
    | (have hq : q = false := by (have := HS.out; simpa using this)
       subst hq)
    clear HS
    go_enter Tryz.func42, Tryz.ntmps42
    go_wp2_with (go_at_call 100; refine (HC.out).mono ?_; rintro e w1 ⟨rfl, b1⟩)
    go_ret
    first
      | exact ⟨rfl, b1⟩
      | exact ⟨rfl, Below.refl _ _⟩

end Go.Proofs.YtfgkonphbmliaaaGreatDoor

/- Whether a box is ok, as the program asks. Condition: lists and texts of at most 2^20. -/
namespace Go.Proofs.YtfgkonphbmliaaaGreatDoor
open Go.RowKit Go.Sort

set_option maxRecDepth 100000 in
set_option maxHeartbeats 3200000 in
theorem implBoxOk_any (B : Nat) (v : Value) (b : Bx) (w : World) (hs : bxSz b) (hwf : wfE b.es) (hcw : cnWf b.cs) (ho : OwnBx w B v b) (hv : VarsOk w) (htb : TabOk w) :
    Calls Tryz.prog 10 #[v] w fun e w' => e = .returned (.bool (boxOkB b)) ∧ Below w.heap.size w w' := by
  obtain ⟨g1, g2, c2, g3, rfl, o1, o2, o3⟩ := ho
  obtain ⟨m1, m2, m3, m4⟩ := hs
  obtain ⟨W0, hW0⟩ : ∃ W, W = w.alloc (.cells #[.slice (some ⟨g1, 0, none⟩) b.rs.length b.rs.length, .slice (some ⟨g2, 0, none⟩) b.es.length c2, .slice (some ⟨g3, 0, none⟩) b.cs.length b.cs.length] 37) := ⟨_, rfl⟩
  have hA : Below w.heap.size w W0 := by rw [hW0]; exact (Below.refl _ _).alloc (Nat.le_refl _) _
  have K1 : Blk W0 w.heap.size 37 [.slice (some ⟨g1, 0, none⟩) b.rs.length b.rs.length, .slice (some ⟨g2, 0, none⟩) b.es.length c2, .slice (some ⟨g3, 0, none⟩) b.cs.length b.cs.length] := by rw [hW0]; exact three_new w _ _ _ _
  have KK : Hid (∀ w', Below W0.heap.size W0 w' → w'.cell? ⟨w.heap.size, 0, none⟩ = some (.slice (some ⟨g1, 0, none⟩) b.rs.length b.rs.length) ∧ w'.cell? ⟨w.heap.size, 1, none⟩ = some (.slice (some ⟨g2, 0, none⟩) b.es.length c2) ∧ w'.cell? ⟨w.heap.size, 2, none⟩ = some (.slice (some ⟨g3, 0, none⟩) b.cs.length b.cs.length)) := fun w' h => (three_all (K1.below h)).1
  have HA : Hid (∀ w', Below W0.heap.size W0 w' → Below w.heap.size w w') := fun w' h => hA.trans (h.mono hA.size)
  have HM : Hid (∀ w', Below w.heap.size w w' → Calls Tryz.prog 43 #[.agg #[.slice (some ⟨g2, 0, none⟩) b.es.length c2]] w' fun e w'' => e = .returned (.bool (mapB b.es)) ∧ Below w'.heap.size w' w'') := fun w' h => implMapOk_any _ b.es w' (by omega) hwf (OwnTab.tab (own_later o2 h))
  have HR : Hid (∀ w', Below w.heap.size w w' → Calls Tryz.prog 42 #[.slice (some ⟨g1, 0, none⟩) b.rs.length b.rs.length] w' fun e w'' => e = .returned (.bool (rulesB b.rs)) ∧ Below w'.heap.size w' w'') := fun w' h => implRules_any _ b.rs w' (by omega) (o1.rd.below h)
  have HC : Hid (mapB b.es = true → ∀ k (hk : k < b.cs.length) (c : Cn), c = b.cs[k] → ∀ w', Below w.heap.size w w' → Calls Tryz.prog 45 #[.agg #[.slice (some ⟨g2, 0, none⟩) b.es.length c2], .agg #[.int .i64 c.ia, .int .i64 c.ip, .int .i64 c.oa, .int .i64 c.op, .string c.kn, .string c.he, .string c.ne]] w' fun e w'' => e = .returned (.bool (conI b.es c)) ∧ Below w'.heap.size w' w'') := fun hm k hk c hc w' h => by
    have hmem : c ∈ b.cs := by rw [hc]; exact List.getElem_mem _
    obtain ⟨y1, y2, y3⟩ := m4 c hmem
    obtain ⟨⟨v1, v2⟩, -⟩ := hcw c hmem
    exact implConn_any _ b.es c.ia c.ip c.oa c.op c.kn c.he c.ne w' hm (by omega) (by omega) (by omega) v1 v2 (OwnTab.tab (own_later o2 h)) (hv.below h) (htb.below h (Nat.le_refl _))
  have HF : Hid (∀ (c : Cn) w', Below w.heap.size w w' → Calls Tryz.prog 44 #[.slice (some ⟨g3, 0, none⟩) b.cs.length b.cs.length, .agg #[.int .i64 c.ia, .int .i64 c.ip], .agg #[.int .i64 c.oa, .int .i64 c.op]] w' fun e w'' => e = .returned (.int .i64 (findCn b.cs c.ia c.ip c.oa c.op)) ∧ Below w'.heap.size w' w'') := fun c w' h => implFindCn_any _ b.cs c.ia c.ip c.oa c.op w' (by omega) (o3.rd.below h)
  have HRow : Hid (∀ k (hk : k < b.cs.length) (c : Cn), c = b.cs[k] → ∀ w', Below w.heap.size w w' → w'.cell? ⟨g3, k * 7, none⟩ = some (.int .i64 c.ia) ∧ w'.cell? ⟨g3, k * 7 + 1, none⟩ = some (.int .i64 c.ip) ∧ w'.cell? ⟨g3, k * 7 + 2, none⟩ = some (.int .i64 c.oa) ∧ w'.cell? ⟨g3, k * 7 + 3, none⟩ = some (.int .i64 c.op) ∧ w'.cell? ⟨g3, k * 7 + 4, none⟩ = some (.string c.kn) ∧ w'.cell? ⟨g3, k * 7 + 5, none⟩ = some (.string c.he) ∧ w'.cell? ⟨g3, k * 7 + 6, none⟩ = some (.string c.ne)) := fun k hk c hc w' h => by
    obtain ⟨ax, cx, ex, -, hrow⟩ := o3.rd.below h
    simp at ex
    obtain ⟨rfl, rfl⟩ := ex
    obtain ⟨g, e, hr⟩ := hrow (by omega)
    simp at e
    subst e
    exact (RowAt.conn hr k hk c hc).1
  have HCI : Hid (mapB b.es = true → ∀ k (hk : k < b.cs.length) (c : Cn), c = b.cs[k] → connB b.es b.cs k = (decide (findCn b.cs c.ia c.ip c.oa c.op = (k : Int)) && conI b.es c)) := fun hm k hk c hc => connB_I hm hk c hc
  have HQ : Hid (boxOkB b = (mapB b.es && rulesB b.rs && decide (b.cs.length ≤ 3) && (List.range b.cs.length).all (connB b.es b.cs))) := rfl
  obtain ⟨Q, hQ⟩ : ∃ Q, Q = boxOkB b := ⟨_, rfl⟩
  obtain ⟨q1, e1⟩ : ∃ q, q = mapB b.es := ⟨_, rfl⟩
  obtain ⟨q2, e2⟩ : ∃ q, q = rulesB b.rs := ⟨_, rfl⟩
  obtain ⟨P, hP⟩ : ∃ P, P = connB b.es b.cs := ⟨_, rfl⟩
  obtain ⟨n1, hn1⟩ : ∃ n, n = b.rs.length := ⟨_, rfl⟩
  obtain ⟨n2, hn2⟩ : ∃ n, n = b.es.length := ⟨_, rfl⟩
  obtain ⟨n3, hn3⟩ : ∃ n, n = b.cs.length := ⟨_, rfl⟩
  rw [← hQ] at HQ ⊢
  rw [← e1] at HM HC HCI HQ
  rw [← e2] at HR HQ
  rw [← hP] at HCI HQ
  rw [← hn1] at KK HR hW0 ⊢
  rw [← hn2] at KK HM HC hW0 ⊢
  have HL := Lib.hid hn3
  rw [← hn3] at KK HF HQ hW0 m3 ⊢
  have BB : Hid (Below W0.heap.size W0 W0) := Below.refl _ _
  clear hQ e1 e2 hP hn1 hn2 hn3 o1 o2 o3 m1 m2 m4 K1 hA hv htb hwf hcw
  subst hW0
  cases q2
  · have hq : Q = false := by have := HQ.out; simpa using this
    subst hq
    clear HQ HC HCI HF HRow
    go_enter Tryz.func10, Tryz.ntmps10
    go_wp2_with fail
    (go_at_call 42; refine (HR.out _ (HA.out _ BB.out)).mono ?_; rintro e w1 ⟨rfl, b1⟩)
    go_wp2_with fail
    go_ret
    exact ⟨rfl, HA.out _ b1⟩
  cases q1
  · have hq : Q = false := by have := HQ.out; simpa using this
    subst hq
    clear HQ HC HCI HF HRow
    go_enter Tryz.func10, Tryz.ntmps10
    go_wp2_with fail
    (go_at_call 42; refine (HR.out _ (HA.out _ BB.out)).mono ?_; rintro e w1 ⟨rfl, b1⟩)
    obtain ⟨k0, k1, k2⟩ := KK.out _ b1
    have B1 := Lib.hid b1
    clear b1
    go_wp2_with fail
    (go_at_call 43; refine (HM.out _ (HA.out _ B1.out)).mono ?_; rintro e w2 ⟨rfl, b2⟩)
    go_wp2_with fail
    go_ret
    exact ⟨rfl, HA.out _ (B1.out.trans (b2.mono B1.out.size))⟩
  have HC2 := Lib.hid (HC.out rfl)
  have HCI2 := Lib.hid (HCI.out rfl)
  clear HC HCI
  by_cases h3 : 3 < n3
  · have hq : Q = false := by have := HQ.out; simpa [show ¬ n3 ≤ 3 by omega] using this
    subst hq
    clear HQ HC2 HCI2 HF HRow
    go_enter Tryz.func10, Tryz.ntmps10
    go_wp2_with fail
    (go_at_call 42; refine (HR.out _ (HA.out _ BB.out)).mono ?_; rintro e w1 ⟨rfl, b1⟩)
    obtain ⟨k0, k1, k2⟩ := KK.out _ b1
    have B1 := Lib.hid b1
    clear b1
    go_wp2_with fail
    (go_at_call 43; refine (HM.out _ (HA.out _ B1.out)).mono ?_; rintro e w2 ⟨rfl, b2⟩)
    have B2 := Lib.hid (B1.out.trans (b2.mono B1.out.size))
    obtain ⟨k0', k1', k2'⟩ := KK.out _ B2.out
    clear b2
    go_wp2_with fail
    go_ret
    exact ⟨rfl, HA.out _ B2.out⟩
  have HQ2 : Hid (Q = (List.range n3).all P) := by
    show Q = _
    have := HQ.out
    rw [decide_eq_true (by omega : n3 ≤ 3)] at this
    simpa using this
  clear HQ
  go_enter Tryz.func10, Tryz.ntmps10
  go_wp2_with fail
  (go_at_call 42; refine (HR.out _ (HA.out _ BB.out)).mono ?_; rintro e w1 ⟨rfl, b1⟩)
  obtain ⟨k0, k1, k2⟩ := KK.out _ b1
  have B1 := Lib.hid b1
  clear b1
  go_wp2_with fail
  (go_at_call 43; refine (HM.out _ (HA.out _ B1.out)).mono ?_; rintro e w2 ⟨rfl, b2⟩)
  have B2 := Lib.hid (B1.out.trans (b2.mono B1.out.size))
  obtain ⟨k0', k1', k2'⟩ := KK.out _ B2.out
  clear b2 k0 k1 k2
  go_wp2_with fail
  clear k0' k1' k2'
  go_loopw [3, 24] (fun _ i wr => ∃ k : Nat, k ≤ n3 ∧ i = .int .i64 k ∧ Hid (∀ j, j < k → P j = true) ∧ Hid (Below (w.alloc (.cells #[.slice (some ⟨g1, 0, none⟩) n1 n1, .slice (some ⟨g2, 0, none⟩) n2 c2, .slice (some ⟨g3, 0, none⟩) n3 n3] 37)).heap.size (w.alloc (.cells #[.slice (some ⟨g1, 0, none⟩) n1 n1, .slice (some ⟨g2, 0, none⟩) n2 c2, .slice (some ⟨g3, 0, none⟩) n3 n3] 37)) wr)) (fun _ i _ => n3 - (intOf i).toNat)
  case atStart => exact ⟨0, Nat.zero_le _, rfl, fun j hj => by omega, B2⟩
  case round =>
    obtain ⟨k, hk, rfl, HD, HB⟩ := hrel
    obtain ⟨k0, k1, k2⟩ := KK.out _ HB.out
    by_cases hlt : k < n3
    · have hlt2 : k < b.cs.length := by have := HL.out; omega
      obtain ⟨⟨ia, ip, oa, op, kn, he, ne⟩, hc⟩ : ∃ c, c = b.cs[k] := ⟨_, rfl⟩
      have CC : Hid (∀ w', Below w.heap.size w w' → Calls Tryz.prog 45 #[.agg #[.slice (some ⟨g2, 0, none⟩) n2 c2], .agg #[.int .i64 ia, .int .i64 ip, .int .i64 oa, .int .i64 op, .string kn, .string he, .string ne]] w' fun e w'' => e = .returned (.bool (conI b.es ⟨ia, ip, oa, op, kn, he, ne⟩)) ∧ Below w'.heap.size w' w'') := HC2.out k hlt2 _ hc
      have CF : Hid (∀ w', Below w.heap.size w w' → Calls Tryz.prog 44 #[.slice (some ⟨g3, 0, none⟩) n3 n3, .agg #[.int .i64 ia, .int .i64 ip], .agg #[.int .i64 oa, .int .i64 op]] w' fun e w'' => e = .returned (.int .i64 (findCn b.cs ia ip oa op)) ∧ Below w'.heap.size w' w'') := HF.out ⟨ia, ip, oa, op, kn, he, ne⟩
      have CI : Hid (P k = (decide (findCn b.cs ia ip oa op = (k : Int)) && conI b.es ⟨ia, ip, oa, op, kn, he, ne⟩)) := HCI2.out k hlt2 _ hc
      obtain ⟨y0, y1, y2, y3, y4, y5, y6⟩ := HRow.out k hlt2 _ hc wr (HA.out _ HB.out)
      simp only at y0 y1 y2 y3 y4 y5 y6
      obtain ⟨f, hf⟩ : ∃ z, z = findCn b.cs ia ip oa op := ⟨_, rfl⟩
      obtain ⟨q, hq⟩ : ∃ z, z = conI b.es ⟨ia, ip, oa, op, kn, he, ne⟩ := ⟨_, rfl⟩
      rw [← hf] at CF CI
      rw [← hq] at CC CI
      clear hc HC2 HF HCI2 hf hq HRow
      have hsw : w.heap.size < wr.heap.size := by have := HB.out.size; simp at this; omega
      have kA : ∀ o, (wr.alloc o).cell? ⟨w.heap.size, 2, none⟩ = some (.slice (some ⟨g3, 0, none⟩) n3 n3) := fun o => (cell_alloc_lt hsw).trans k2
      have kB : ∀ o, (wr.alloc o).cell? ⟨w.heap.size, 1, none⟩ = some (.slice (some ⟨g2, 0, none⟩) n2 c2) := fun o => (cell_alloc_lt hsw).trans k1
      have AA : Hid (∀ o, Below w.heap.size w (wr.alloc o)) := fun o => (HA.out _ HB.out).alloc (by omega) o
      have LL : Hid (∀ w', Below (wr.alloc (.cells #[.int .i64 ia, .int .i64 ip, .int .i64 oa, .int .i64 op, .string kn, .string he, .string ne] 83)).heap.size (wr.alloc (.cells #[.int .i64 ia, .int .i64 ip, .int .i64 oa, .int .i64 op, .string kn, .string he, .string ne] 83)) w' → (w'.cell? ⟨wr.heap.size, 0, none⟩ = some (.int .i64 ia) ∧ w'.cell? ⟨wr.heap.size, 1, none⟩ = some (.int .i64 ip) ∧ w'.cell? ⟨wr.heap.size, 2, none⟩ = some (.int .i64 oa) ∧ w'.cell? ⟨wr.heap.size, 3, none⟩ = some (.int .i64 op) ∧ w'.cell? ⟨wr.heap.size, 4, none⟩ = some (.string kn) ∧ w'.cell? ⟨wr.heap.size, 5, none⟩ = some (.string he) ∧ w'.cell? ⟨wr.heap.size, 6, none⟩ = some (.string ne)) ∧ w'.cell? ⟨w.heap.size, 1, none⟩ = some (.slice (some ⟨g2, 0, none⟩) n2 c2) ∧ Hid (Below (w.alloc (.cells #[.slice (some ⟨g1, 0, none⟩) n1 n1, .slice (some ⟨g2, 0, none⟩) n2 c2, .slice (some ⟨g3, 0, none⟩) n3 n3] 37)).heap.size (w.alloc (.cells #[.slice (some ⟨g1, 0, none⟩) n1 n1, .slice (some ⟨g2, 0, none⟩) n2 c2, .slice (some ⟨g3, 0, none⟩) n3 n3] 37)) w')) := fun w' h =>
        ⟨seven_cells ((show Blk (wr.alloc (.cells #[.int .i64 ia, .int .i64 ip, .int .i64 oa, .int .i64 op, .string kn, .string he, .string ne] 83)) wr.heap.size _ _ from heap_last3 wr _).below h), (h.cell (p := ⟨w.heap.size, 1, none⟩) (by simp; omega)).trans (kB _), (HB.out.alloc HB.out.size _).trans (h.mono (HB.out.alloc HB.out.size _).size)⟩
      by_cases hfk : f = (k : Int)
      rotate_left
      · have HF0 : Hid (Q = false) := HQ2.out.trans (all_no hlt (CI.out.trans (by rw [decide_eq_false hfk]; rfl)))
        clear CI HQ2 HD
        go_wp2_with fail
        (go_at_call 44; refine (CF.out _ (AA.out _)).mono ?_; rintro e w3 ⟨rfl, b3⟩)
        obtain ⟨⟨z0, z1, z2, z3, z4, z5, z6⟩, x1, HB3⟩ := LL.out _ b3
        clear b3 y0 y1 y2 y3 y4 y5 y6
        go_wp2_with fail
        go_ret
        exact ⟨ret_bool HF0.out.symm, HA.out _ HB3.out⟩
      subst hfk
      cases q
      · have HF0 : Hid (Q = false) := HQ2.out.trans (all_no hlt (CI.out.trans (by simp)))
        clear CI HQ2 HD
        go_wp2_with fail
        (go_at_call 44; refine (CF.out _ (AA.out _)).mono ?_; rintro e w3 ⟨rfl, b3⟩)
        obtain ⟨⟨z0, z1, z2, z3, z4, z5, z6⟩, x1, HB3⟩ := LL.out _ b3
        clear b3 y0 y1 y2 y3 y4 y5 y6
        go_wp2_with fail
        (go_at_call 45; refine (CC.out _ (HA.out _ HB3.out)).mono ?_; rintro e w4 ⟨rfl, b4⟩)
        have HB4 := Lib.hid (HB3.out.trans (b4.mono HB3.out.size))
        clear b4
        go_wp2_with fail
        go_ret
        exact ⟨ret_bool HF0.out.symm, HA.out _ HB4.out⟩
      · have HN : Hid (∀ j, j < k + 1 → P j = true) := fun j hj => by
          by_cases e : j = k
          · subst e; exact CI.out.trans (by simp)
          · exact HD.out j (by omega)
        clear CI HQ2 HD
        go_wp2_with fail
        (go_at_call 44; refine (CF.out _ (AA.out _)).mono ?_; rintro e w3 ⟨rfl, b3⟩)
        obtain ⟨⟨z0, z1, z2, z3, z4, z5, z6⟩, x1, HB3⟩ := LL.out _ b3
        clear b3 y0 y1 y2 y3 y4 y5 y6
        go_wp2_with fail
        (go_at_call 45; refine (CC.out _ (HA.out _ HB3.out)).mono ?_; rintro e w4 ⟨rfl, b4⟩)
        have HB4 := Lib.hid (HB3.out.trans (b4.mono HB3.out.size))
        clear b4
        go_wp2_with fail
        go_roundw
        case rel => exact ⟨k + 1, by omega, by go_num, HN, HB4⟩
        case measure => simp [intOf]; omega
    · have HT : Hid (Q = true) := HQ2.out.trans (all_yes fun j hj => HD.out j (by omega))
      have hkn : k = n3 := by omega
      clear HQ2 HD
      go_wp2
      go_ret
      exact ⟨ret_bool HT.out.symm, HA.out _ HB.out⟩

end Go.Proofs.YtfgkonphbmliaaaGreatDoor

/- What goes outside of streams that a box knows. Condition: lists and texts of at most 2^20. -/
namespace Go.Proofs.YtfgkonphbmliaaaGreatDoor
open Go.RowKit Go.Sort

/-- What was sent outside of the k-th streams, as it goes there. -/
def farE (b : Bx) (k : Nat) : List UInt8 := (streamE b.es (linesL (b.cs.getD k default).kn.data.toList)).2
def farB (b : Bx) (k : Int) : List UInt8 := if boxOkB b = true ∧ 0 ≤ k ∧ k ≤ (b.cs.length : Int) - 1 then farE b k.toNat else []
theorem boxOk_parts {b : Bx} (h : boxOkB b = true) : mapB b.es = true ∧ rulesB b.rs = true ∧ b.cs.length ≤ 3 ∧ ∀ k, k < b.cs.length → connB b.es b.cs k = true := by
  unfold boxOkB at h
  simp only [Bool.and_eq_true, decide_eq_true_eq] at h
  obtain ⟨⟨⟨h1, h2⟩, h3⟩, h4⟩ := h
  exact ⟨h1, h2, h3, fun k hk => List.all_eq_true.1 h4 k (by simpa using hk)⟩
theorem conn_parts {es : List (Int × Int)} {cs : List Cn} {k : Nat} (h : connB es cs k = true) :
    insB (cs.getD k default).ia (cs.getD k default).ip = true ∧ outB (cs.getD k default).oa (cs.getD k default).op = true ∧ (cs.getD k default).op = 21 ∧ portI es ((cs.getD k default).ia, (cs.getD k default).ip) ≠ 0 ∧ strB (cs.getD k default).kn.data.toList = true ∧ strB (cs.getD k default).he.data.toList = true ∧
      knowB es (cs.getD k default).kn.data.toList = true ∧ nearB es (cs.getD k default).he.data.toList (cs.getD k default).ne.data.toList = true ∧ findCn (cs.take k) (cs.getD k default).ia (cs.getD k default).ip (cs.getD k default).oa (cs.getD k default).op < 0 := by
  unfold connB conB at h
  simp only [Bool.and_eq_true, decide_eq_true_eq] at h
  obtain ⟨⟨⟨⟨⟨⟨⟨h1, h2⟩, h3⟩, h4⟩, h5⟩, h6⟩, h7, h8⟩, h9⟩ := h
  exact ⟨h1, h2, h3, h4, h5, h6, h7, h8, h9⟩
theorem getD_at {α : Type} [Inhabited α] {l : List α} {k : Nat} (hk : k < l.length) : l.getD k default = l[k] := by simp [List.getD, hk]

set_option maxRecDepth 100000 in
set_option maxHeartbeats 1600000 in
theorem specL7Far_any (B : Nat) (ad : Addr) (cap : Nat) (es : List (Int × Int)) (s : ByteArray) (w : World) (hm : mapB es = true) (hs : s.size ≤ 2097152) (hB : B ≤ w.heap.size) (ho : OwnTab w B (.slice (some ad) es.length cap) es) :
    Calls Tryz.prog 49 #[.agg #[.slice (some ad) es.length cap], .string s] w fun e w' => e = .returned (.string ⟨(streamE es (linesL s.data.toList)).2.toArray⟩) ∧ Below w.heap.size w w' := by
  have B0 : Hid (Below w.heap.size w (w.alloc (.cells #[.slice (some ad) es.length cap] 34))) := (Below.refl _ _).alloc (Nat.le_refl _) _
  have HC : Hid (Calls Tryz.prog 113 #[.agg #[.slice (some ad) es.length cap], .string s] (w.alloc (.cells #[.slice (some ad) es.length cap] 34)) fun e w' => ∃ g c, e = .returned (.tuple #[.agg #[.slice (some g) (streamE es (linesL s.data.toList)).1.length c], .string ⟨(streamE es (linesL s.data.toList)).2.toArray⟩]) ∧ Below (w.alloc (.cells #[.slice (some ad) es.length cap] 34)).heap.size (w.alloc (.cells #[.slice (some ad) es.length cap] 34)) w') := by
    refine (specStream_any B ad cap es s _ hm hs (by simp; omega) (ho.below B0.out)).mono ?_
    rintro e w' ⟨g, c, rfl, _, b⟩
    exact ⟨g, c, rfl, b⟩
  obtain ⟨k, hk⟩ : ∃ k, k = (streamE es (linesL s.data.toList)).1.length := ⟨_, rfl⟩
  obtain ⟨ot, hot⟩ : ∃ o : ByteArray, o = ⟨(streamE es (linesL s.data.toList)).2.toArray⟩ := ⟨_, rfl⟩
  rw [← hk, ← hot] at HC
  rw [← hot]
  clear hk hot ho hm
  go_enter Tryz.func49, Tryz.ntmps49
  go_wp2_with fail
  (go_at_call 113; refine HC.out.mono ?_; rintro e w1 ⟨g, c, rfl, b1⟩)
  have B1 : Hid (Below w.heap.size w w1) := B0.out.trans (b1.mono (by simp))
  clear b1
  go_wp2_with fail
  go_ret
  first
    | exact ⟨rfl, B1.out⟩
    | exact ⟨rfl, B1.out.alloc B1.out.size _⟩

set_option maxRecDepth 100000 in
set_option maxHeartbeats 3200000 in
theorem specFar_any (B : Nat) (v : Value) (b : Bx) (k : Int) (w : World) (hs : bxSz b) (hB : B ≤ w.heap.size) (ho : OwnBx w B v b) :
    Calls Tryz.prog 12 #[v, .int .i64 k] w fun e w' => e = .returned (.string ⟨(farB b k).toArray⟩) ∧ Below w.heap.size w w' := by
  have HO := Lib.hid ho
  obtain ⟨g1, g2, c2, g3, rfl, o1, o2, o3⟩ := ho
  obtain ⟨W0, hW0⟩ : ∃ W, W = w.alloc (.cells #[.slice (some ⟨g1, 0, none⟩) b.rs.length b.rs.length, .slice (some ⟨g2, 0, none⟩) b.es.length c2, .slice (some ⟨g3, 0, none⟩) b.cs.length b.cs.length] 37) := ⟨_, rfl⟩
  have hA : Below w.heap.size w W0 := by rw [hW0]; exact (Below.refl _ _).alloc (Nat.le_refl _) _
  have K1 : Blk W0 w.heap.size 37 [.slice (some ⟨g1, 0, none⟩) b.rs.length b.rs.length, .slice (some ⟨g2, 0, none⟩) b.es.length c2, .slice (some ⟨g3, 0, none⟩) b.cs.length b.cs.length] := by rw [hW0]; exact three_new w _ _ _ _
  have KK : Hid (∀ w', Below W0.heap.size W0 w' → (w'.cell? ⟨w.heap.size, 0, none⟩ = some (.slice (some ⟨g1, 0, none⟩) b.rs.length b.rs.length) ∧ w'.cell? ⟨w.heap.size, 1, none⟩ = some (.slice (some ⟨g2, 0, none⟩) b.es.length c2) ∧ w'.cell? ⟨w.heap.size, 2, none⟩ = some (.slice (some ⟨g3, 0, none⟩) b.cs.length b.cs.length)) ∧ Below w.heap.size w w') := fun w' h => ⟨(three_all (K1.below h)).1, hA.trans (h.mono hA.size)⟩
  have HM : Hid (Calls Tryz.prog 8 #[.agg #[.slice (some ⟨g1, 0, none⟩) b.rs.length b.rs.length, .slice (some ⟨g2, 0, none⟩) b.es.length c2, .slice (some ⟨g3, 0, none⟩) b.cs.length b.cs.length]] W0 fun e w' => e = .returned (.bool (boxOkB b)) ∧ Below W0.heap.size W0 w') := specBoxOk_any B _ b W0 hs (Nat.le_trans hB hA.size) (HO.out.later hA)
  have HI : Hid (∀ w', Calls Tryz.prog 48 #[.int .i64 k, .int .i64 0, .int .i64 ((b.cs.length : Int) - 1)] w' fun e w'' => e = .returned (.bool (inB k 0 ((b.cs.length : Int) - 1))) ∧ w' = w'') := fun w' => specIn_any k 0 _ w'
  have h3 : b.cs.length ≤ 1048576 := hs.2.2.1
  have BB : Hid (Below W0.heap.size W0 W0) := Below.refl _ _
  cases hok : boxOkB b
  · have hf : farB b k = [] := if_neg (by rw [hok]; simp)
    rw [hf]
    rw [hok] at HM
    clear hf hok HO o1 o2 o3 K1 hA hs hB KK HI
    have AA : Hid (∀ w', Below W0.heap.size W0 w' → Below w.heap.size w w') := fun w' h => by rw [hW0] at h; exact ((Below.refl _ _).alloc (Nat.le_refl _) _).trans (h.mono (by simp))
    subst hW0
    go_enter Tryz.func12, Tryz.ntmps12
    go_wp2_with fail
    (go_at_call 8; refine HM.out.mono ?_; rintro e w1 ⟨rfl, b1⟩)
    go_wp2_with fail
    go_ret
    exact ⟨rfl, AA.out _ b1⟩
  rw [hok] at HM
  by_cases hk : 0 ≤ k ∧ k ≤ (b.cs.length : Int) - 1
  rotate_left
  · have hf : farB b k = [] := if_neg (by rintro ⟨_, h⟩; exact hk h)
    have hi : inB k 0 ((b.cs.length : Int) - 1) = false := by
      unfold inB
      simp only [Bool.and_eq_false_iff, decide_eq_false_iff_not]
      omega
    rw [hf]
    rw [hi] at HI
    clear hf hok HO o1 o2 o3 K1 hA hs hB hi hk
    subst hW0
    go_enter Tryz.func12, Tryz.ntmps12
    go_wp2_with fail
    (go_at_call 8; refine HM.out.mono ?_; rintro e w1 ⟨rfl, b1⟩)
    obtain ⟨⟨x0, x1, x2⟩, bw⟩ := KK.out _ b1
    go_wp2_with fail
    (go_at_call 48; refine (HI.out _).mono ?_; rintro e w2 ⟨rfl, rfl⟩)
    go_wp2_with fail
    go_ret
    exact ⟨rfl, bw⟩
  obtain ⟨n, rfl⟩ : ∃ n : Nat, k = n := ⟨k.toNat, by omega⟩
  have hn : n < b.cs.length := by omega
  have hi : inB (n : Int) 0 ((b.cs.length : Int) - 1) = true := by
    unfold inB
    simp only [Bool.and_eq_true, decide_eq_true_eq]
    omega
  rw [hi] at HI
  obtain ⟨⟨ia, ip, oa, op, kn, he, ne⟩, hc⟩ : ∃ c, c = b.cs[n] := ⟨_, rfl⟩
  have hf : farB b n = (streamE b.es (linesL kn.data.toList)).2 := by
    unfold farB
    rw [if_pos ⟨hok, hk⟩]
    unfold farE
    simp only [Int.toNat_natCast]
    rw [getD_at hn, ← hc]
  have hm := (boxOk_parts hok).1
  have hsz : kn.size ≤ 1048576 := by have := (hs.2.2.2 ⟨ia, ip, oa, op, kn, he, ne⟩ (by rw [hc]; exact List.getElem_mem _)).1; simp only at this; omega
  have HF : Hid (∀ w', Below w.heap.size w w' → Calls Tryz.prog 49 #[.agg #[.slice (some ⟨g2, 0, none⟩) b.es.length c2], .string kn] w' fun e w'' => e = .returned (.string ⟨(farB b n).toArray⟩) ∧ Below w'.heap.size w' w'') := fun w' h => by
    rw [hf]
    exact specL7Far_any B _ c2 b.es kn w' hm (by omega) (Nat.le_trans hB h.size) (own_later o2 h)
  have HRow : Hid (∀ w', Below w.heap.size w w' → w'.cell? ⟨g3, n * 7 + 4, none⟩ = some (.string kn)) := fun w' h => by
    obtain ⟨ax, cx, ex, -, hrow⟩ := o3.rd.below h
    simp at ex
    obtain ⟨rfl, rfl⟩ := ex
    obtain ⟨g, e, hr⟩ := hrow (by omega)
    simp at e
    subst e
    exact (RowAt.conn hr n hn _ hc).1.2.2.2.2.1
  obtain ⟨ot, hot⟩ : ∃ o : ByteArray, o = ⟨(farB b n).toArray⟩ := ⟨_, rfl⟩
  rw [← hot] at HF ⊢
  have hn2 : (n : Int) < (b.cs.length : Int) := by omega
  clear hot hf hm hsz hc hi hok HO o1 o2 o3 K1 hA hs hB hk
  subst hW0
  go_enter Tryz.func12, Tryz.ntmps12
  go_wp2_with fail
  (go_at_call 8; refine HM.out.mono ?_; rintro e w1 ⟨rfl, b1⟩)
  obtain ⟨⟨x0, x1, x2⟩, bw⟩ := KK.out _ b1
  have r4 := HRow.out _ bw
  go_wp2_with fail
  (go_at_call 48; refine (HI.out _).mono ?_; rintro e w2 ⟨rfl, rfl⟩)
  go_wp2_with fail
  have bd : Below w.heap.size w w1.drew := bw.drew
  go_region_with (go_at_call 49; refine (HF.out _ (by first | exact bw | exact bd)).mono ?_; rintro e w3 ⟨rfl, b3⟩; have bw3 : Below w.heap.size w w3 := (by first | exact bw.trans (b3.mono bw.size) | exact bd.trans (b3.mono bd.size)); clear b3)
  all_goals
    go_wp2
    go_ret
    exact ⟨rfl, bw3⟩

end Go.Proofs.YtfgkonphbmliaaaGreatDoor

/- What goes outside of streams that a box knows, as the program answers. Condition: lists and texts of at most 2^20. -/
namespace Go.Proofs.YtfgkonphbmliaaaGreatDoor
open Go.RowKit Go.Sort

/-- The cells of the n-th streams. -/
theorem RdCn.at {w : World} {a : Option Addr} {m cap : Nat} {cs : List Cn} (h : RdCn w (.slice a m cap) cs) {n : Nat} (hn : n < cs.length) (c : Cn) (hc : c = cs[n]) : ∃ g, a = some ⟨g, 0, none⟩ ∧ m = cs.length ∧ cs.length ≤ cap ∧ g < w.heap.size ∧
    (w.cell? ⟨g, n * 7, none⟩ = some (.int .i64 c.ia) ∧ w.cell? ⟨g, n * 7 + 1, none⟩ = some (.int .i64 c.ip) ∧ w.cell? ⟨g, n * 7 + 2, none⟩ = some (.int .i64 c.oa) ∧ w.cell? ⟨g, n * 7 + 3, none⟩ = some (.int .i64 c.op) ∧ w.cell? ⟨g, n * 7 + 4, none⟩ = some (.string c.kn) ∧ w.cell? ⟨g, n * 7 + 5, none⟩ = some (.string c.he) ∧ w.cell? ⟨g, n * 7 + 6, none⟩ = some (.string c.ne)) := by
  obtain ⟨ax, cx, ex, hcap, hrow⟩ := h
  simp at ex
  obtain ⟨rfl, rfl, rfl⟩ := ex
  obtain ⟨g, rfl, hr⟩ := hrow (by omega)
  exact ⟨g, rfl, rfl, hcap, hr.lt (by rw [flatC_len cnC_len]; omega), (RowAt.conn hr n hn c hc).1⟩

theorem cell_newE {w : World} {cs : Array Value} {t : TypeId} {b i : Nat} (h : b = w.heap.size) : (w.alloc (.cells cs t)).cell? ⟨b, i, none⟩ = cs[i]? := by subst h; exact (cell_new w cs t i).1
theorem frozen_newE {w : World} {cs : Array Value} {t : TypeId} {b i : Nat} (h : b = w.heap.size) : (w.alloc (.cells cs t)).frozen? ⟨b, i, none⟩ = false := by subst h; exact (cell_new w cs t i).2
theorem two_two {W : World} {b1 b2 : Nat} {x0 x1 y0 y1 : Value} (u0 u1 v0 v1 : Value) (n : b1 ≠ b2) (k0 : W.cell? ⟨b1, 0, none⟩ = some x0) (k1 : W.cell? ⟨b1, 1, none⟩ = some x1) (m0 : W.cell? ⟨b2, 0, none⟩ = some y0) (m1 : W.cell? ⟨b2, 1, none⟩ = some y1) :
    ((((W.setCell ⟨b1, 0, none⟩ u0).setCell ⟨b1, 1, none⟩ u1).setCell ⟨b2, 0, none⟩ v0).setCell ⟨b2, 1, none⟩ v1).cell? ⟨b1, 0, none⟩ = some u0 ∧ ((((W.setCell ⟨b1, 0, none⟩ u0).setCell ⟨b1, 1, none⟩ u1).setCell ⟨b2, 0, none⟩ v0).setCell ⟨b2, 1, none⟩ v1).cell? ⟨b1, 1, none⟩ = some u1 ∧
    ((((W.setCell ⟨b1, 0, none⟩ u0).setCell ⟨b1, 1, none⟩ u1).setCell ⟨b2, 0, none⟩ v0).setCell ⟨b2, 1, none⟩ v1).cell? ⟨b2, 0, none⟩ = some v0 ∧ ((((W.setCell ⟨b1, 0, none⟩ u0).setCell ⟨b1, 1, none⟩ u1).setCell ⟨b2, 0, none⟩ v0).setCell ⟨b2, 1, none⟩ v1).cell? ⟨b2, 1, none⟩ = some v1 := by
  have f1 : ∀ i j, (⟨b2, i, none⟩ : Addr) ≠ ⟨b1, j, none⟩ := fun i j e => by injection e with e1; exact n e1.symm
  have f2 : ∀ i j, (⟨b1, i, none⟩ : Addr) ≠ ⟨b2, j, none⟩ := fun i j e => by injection e with e1; exact n e1
  have g0 := World.cell?_setCell_same W ⟨b1, 0, none⟩ u0 k0
  have g1 := World.cell?_setCell_same (W.setCell ⟨b1, 0, none⟩ u0) ⟨b1, 1, none⟩ u1 ((World.cell?_setCell_other _ _ _ _ (seg_ne (show 0 ≠ 1 by decide))).trans k1)
  have h0 : (((W.setCell ⟨b1, 0, none⟩ u0).setCell ⟨b1, 1, none⟩ u1).cell? ⟨b2, 0, none⟩) = some y0 := (World.cell?_setCell_other _ _ _ _ (f2 _ _)).trans ((World.cell?_setCell_other _ _ _ _ (f2 _ _)).trans m0)
  have h1 : ((((W.setCell ⟨b1, 0, none⟩ u0).setCell ⟨b1, 1, none⟩ u1).setCell ⟨b2, 0, none⟩ v0).cell? ⟨b2, 1, none⟩) = some y1 := (World.cell?_setCell_other _ _ _ _ (seg_ne (show 0 ≠ 1 by decide))).trans ((World.cell?_setCell_other _ _ _ _ (f2 _ _)).trans ((World.cell?_setCell_other _ _ _ _ (f2 _ _)).trans m1))
  refine ⟨?_, ?_, ?_, ?_⟩
  · exact (World.cell?_setCell_other _ _ _ _ (f1 _ _)).trans ((World.cell?_setCell_other _ _ _ _ (f1 _ _)).trans ((World.cell?_setCell_other _ _ _ _ (seg_ne (show 1 ≠ 0 by decide))).trans g0))
  · exact (World.cell?_setCell_other _ _ _ _ (f1 _ _)).trans ((World.cell?_setCell_other _ _ _ _ (f1 _ _)).trans g1)
  · exact (World.cell?_setCell_other _ _ _ _ (seg_ne (show 1 ≠ 0 by decide))).trans (World.cell?_setCell_same _ _ _ h0)
  · exact World.cell?_setCell_same _ _ _ h1

theorem wp_name {P : Program} {c : Code} {Q : Exit → Act → World → Prop} {a : Act} {w : World} (F : World → Prop) (hF : F w) (h : ∀ W, F W → Code.wp P c Q a W) : Code.wp P c Q a w := h w hF

set_option maxRecDepth 100000 in
set_option maxHeartbeats 3200000 in
theorem implWays_any (v : Value) (b : Bx) (n : Nat) (w : World) (c : Cn) (hn : n < b.cs.length) (hc : c = b.cs[n]) (hm : mapB b.es = true) (hl : strB c.kn.data.toList = true) (hs : c.kn.size ≤ 2097152) (hv : RdBx w v b) (hvars : VarsOk w) :
    Calls Tryz.prog 51 #[v, .int .i64 n] w fun e w' => e = .returned (.tuple #[.agg #[.string c.kn, .string ⟨(streamE b.es (linesL c.kn.data.toList)).2.toArray⟩], .agg #[.string c.he, .string c.ne]]) ∧ Below w.heap.size w w' := by
  have h6 := mapB_le hm
  obtain ⟨a1, k1, a2, k2, a3, k3, rfl⟩ := hv.form
  obtain ⟨_, _, _, hvv, hr, ht, hcn⟩ := hv
  simp at hvv
  obtain ⟨rfl, rfl, rfl⟩ := hvv
  obtain ⟨g, rfl, -, hcap, hg, y0, y1, y2, y3, y4, y5, y6⟩ := hcn.at hn c hc
  have HC : Hid (∀ w', Below w.heap.size w w' → Calls Tryz.prog 114 #[.agg #[.slice a2 b.es.length k2], .string c.kn] w' fun e w'' => ∃ g c1, e = .returned (.tuple #[.agg #[.slice g (streamE b.es (linesL c.kn.data.toList)).1.length c1], .string ⟨(streamE b.es (linesL c.kn.data.toList)).2.toArray⟩]) ∧ Below w'.heap.size w' w'') := fun w' h => by
    refine (implStream_ok _ b.es c.kn w' (by omega) hs (ht.below h) hm hl (hvars.below h)).mono ?_
    rintro e w'' ⟨g, c1, rfl, _, b⟩
    exact ⟨g, c1, rfl, b⟩
  obtain ⟨ia, ip, oa, op, kn, he, ne⟩ := c
  simp only at HC y0 y1 y2 y3 y4 y5 y6 ⊢
  obtain ⟨z, hz⟩ : ∃ k, k = (streamE b.es (linesL kn.data.toList)).1.length := ⟨_, rfl⟩
  obtain ⟨ot, hot⟩ : ∃ o : ByteArray, o = ⟨(streamE b.es (linesL kn.data.toList)).2.toArray⟩ := ⟨_, rfl⟩
  rw [← hz, ← hot] at HC
  rw [← hot]
  have hn2 : (n : Int) < (b.cs.length : Int) := by omega
  have hn3 : (n : Int) ≤ (k3 : Int) := by omega
  have r0 := fun x y z => (cell_alloc_lt (o := z) (w := (w.alloc x).alloc y) (by simp; omega)).trans ((cell_alloc_lt (o := y) (w := w.alloc x) (by simp; omega)).trans ((cell_alloc_lt (o := x) hg).trans y0))
  have r1 := fun x y z => (cell_alloc_lt (o := z) (w := (w.alloc x).alloc y) (by simp; omega)).trans ((cell_alloc_lt (o := y) (w := w.alloc x) (by simp; omega)).trans ((cell_alloc_lt (o := x) hg).trans y1))
  have r2 := fun x y z => (cell_alloc_lt (o := z) (w := (w.alloc x).alloc y) (by simp; omega)).trans ((cell_alloc_lt (o := y) (w := w.alloc x) (by simp; omega)).trans ((cell_alloc_lt (o := x) hg).trans y2))
  have r3 := fun x y z => (cell_alloc_lt (o := z) (w := (w.alloc x).alloc y) (by simp; omega)).trans ((cell_alloc_lt (o := y) (w := w.alloc x) (by simp; omega)).trans ((cell_alloc_lt (o := x) hg).trans y3))
  have r4 := fun x y z => (cell_alloc_lt (o := z) (w := (w.alloc x).alloc y) (by simp; omega)).trans ((cell_alloc_lt (o := y) (w := w.alloc x) (by simp; omega)).trans ((cell_alloc_lt (o := x) hg).trans y4))
  have r5 := fun x y z => (cell_alloc_lt (o := z) (w := (w.alloc x).alloc y) (by simp; omega)).trans ((cell_alloc_lt (o := y) (w := w.alloc x) (by simp; omega)).trans ((cell_alloc_lt (o := x) hg).trans y5))
  have r6 := fun x y z => (cell_alloc_lt (o := z) (w := (w.alloc x).alloc y) (by simp; omega)).trans ((cell_alloc_lt (o := y) (w := w.alloc x) (by simp; omega)).trans ((cell_alloc_lt (o := x) hg).trans y6))
  have HA : Hid (∀ x y z u, Below w.heap.size w ((((w.alloc x).alloc y).alloc z).alloc u)) := fun x y z u => ((((Below.refl _ _).alloc (Nat.le_refl _) x).alloc (by simp) y).alloc (by simp; omega) z).alloc (by simp; omega) u
  clear hz hot hc hm hl hs hr ht hcn hvars y0 y1 y2 y3 y4 y5 y6
  go_enter Tryz.func51, Tryz.ntmps51
  go_wp2_with fail
  clear r0 r1 r2 r3 r4 r5 r6
  (go_at_call 114; refine (HC.out _ (HA.out _ _ _ _)).mono ?_; rintro e w1 ⟨gg, cc, rfl, b1⟩; obtain ⟨e1, f1⟩ := bcell b1)
  have s1 : w.heap.size < w1.heap.size := by have := b1.size; simp at this; omega
  have s2 : w.heap.size + 1 < w1.heap.size := by have := b1.size; simp at this; omega
  have s3 : w.heap.size + 1 + 1 < w1.heap.size := by have := b1.size; simp at this; omega
  have s4 : w.heap.size + 1 + 1 + 1 < w1.heap.size := by have := b1.size; simp at this; omega
  have B1 : Hid (Below w.heap.size w w1) := (HA.out _ _ _ _).trans (b1.mono (HA.out _ _ _ _).size)
  clear b1
  have O : Hid ((w1.cell? ⟨w.heap.size + 1, 0, none⟩ = some (.string ⟨#[]⟩) ∧ w1.cell? ⟨w.heap.size + 1, 1, none⟩ = some (.string ⟨#[]⟩) ∧ w1.frozen? ⟨w.heap.size + 1, 0, none⟩ = false ∧ w1.frozen? ⟨w.heap.size + 1, 1, none⟩ = false) ∧ (w1.cell? ⟨w.heap.size + 1 + 1, 0, none⟩ = some (.string ⟨#[]⟩) ∧ w1.cell? ⟨w.heap.size + 1 + 1, 1, none⟩ = some (.string ⟨#[]⟩) ∧ w1.frozen? ⟨w.heap.size + 1 + 1, 0, none⟩ = false ∧ w1.frozen? ⟨w.heap.size + 1 + 1, 1, none⟩ = false)) :=
    ⟨⟨((e1 _ _ (by simp)).trans ((cell_alloc_lt (by simp <;> omega)).trans ((cell_alloc_lt (by simp <;> omega)).trans (cell_newE (by simp))))), ((e1 _ _ (by simp)).trans ((cell_alloc_lt (by simp <;> omega)).trans ((cell_alloc_lt (by simp <;> omega)).trans (cell_newE (by simp))))), ((f1 _ _ (by simp)).trans ((frozen_alloc_lt (by simp <;> omega)).trans ((frozen_alloc_lt (by simp <;> omega)).trans (frozen_newE (by simp))))), ((f1 _ _ (by simp)).trans ((frozen_alloc_lt (by simp <;> omega)).trans ((frozen_alloc_lt (by simp <;> omega)).trans (frozen_newE (by simp)))))⟩, ⟨((e1 _ _ (by simp)).trans ((cell_alloc_lt (by simp <;> omega)).trans (cell_newE (by simp)))), ((e1 _ _ (by simp)).trans ((cell_alloc_lt (by simp <;> omega)).trans (cell_newE (by simp)))), ((f1 _ _ (by simp)).trans ((frozen_alloc_lt (by simp <;> omega)).trans (frozen_newE (by simp)))), ((f1 _ _ (by simp)).trans ((frozen_alloc_lt (by simp <;> omega)).trans (frozen_newE (by simp))))⟩⟩
  simp at e1 f1
  go_wp2_with fail
  refine wp_name (fun W => (W.cell? ⟨w.heap.size + 1, 0, none⟩ = some (.string ⟨#[]⟩) ∧ W.cell? ⟨w.heap.size + 1, 1, none⟩ = some (.string ⟨#[]⟩) ∧ W.frozen? ⟨w.heap.size + 1, 0, none⟩ = false ∧ W.frozen? ⟨w.heap.size + 1, 1, none⟩ = false) ∧
    (W.cell? ⟨w.heap.size + 1 + 1, 0, none⟩ = some (.string ⟨#[]⟩) ∧ W.cell? ⟨w.heap.size + 1 + 1, 1, none⟩ = some (.string ⟨#[]⟩) ∧ W.frozen? ⟨w.heap.size + 1 + 1, 0, none⟩ = false ∧ W.frozen? ⟨w.heap.size + 1 + 1, 1, none⟩ = false) ∧
    (W.cell? ⟨w1.heap.size + 1, 0, none⟩ = some (.string kn) ∧ W.cell? ⟨w1.heap.size + 1, 1, none⟩ = some (.string ot)) ∧ (W.cell? ⟨w1.heap.size + 1 + 1, 0, none⟩ = some (.string he) ∧ W.cell? ⟨w1.heap.size + 1 + 1, 1, none⟩ = some (.string ne)) ∧ Hid (Below w.heap.size w W)) ?_ ?_
  · refine ⟨⟨?_, ?_, ?_, ?_⟩, ⟨?_, ?_, ?_, ?_⟩, ⟨?_, ?_⟩, ⟨?_, ?_⟩, ?_⟩
    rotate_right
    · exact ((B1.out.alloc B1.out.size _).alloc (by simp; omega) _).alloc (by simp; omega) _
    · exact (cell_alloc_lt (by simp; omega)).trans ((cell_alloc_lt (by simp; omega)).trans ((cell_alloc_lt (by omega)).trans O.out.1.1))
    · exact (cell_alloc_lt (by simp; omega)).trans ((cell_alloc_lt (by simp; omega)).trans ((cell_alloc_lt (by omega)).trans O.out.1.2.1))
    · exact (frozen_alloc_lt (by simp; omega)).trans ((frozen_alloc_lt (by simp; omega)).trans ((frozen_alloc_lt (by omega)).trans O.out.1.2.2.1))
    · exact (frozen_alloc_lt (by simp; omega)).trans ((frozen_alloc_lt (by simp; omega)).trans ((frozen_alloc_lt (by omega)).trans O.out.1.2.2.2))
    · exact (cell_alloc_lt (by simp; omega)).trans ((cell_alloc_lt (by simp; omega)).trans ((cell_alloc_lt (by omega)).trans O.out.2.1))
    · exact (cell_alloc_lt (by simp; omega)).trans ((cell_alloc_lt (by simp; omega)).trans ((cell_alloc_lt (by omega)).trans O.out.2.2.1))
    · exact (frozen_alloc_lt (by simp; omega)).trans ((frozen_alloc_lt (by simp; omega)).trans ((frozen_alloc_lt (by omega)).trans O.out.2.2.2.1))
    · exact (frozen_alloc_lt (by simp; omega)).trans ((frozen_alloc_lt (by simp; omega)).trans ((frozen_alloc_lt (by omega)).trans O.out.2.2.2.2))
    · exact (cell_alloc_lt (by simp)).trans (cell_newE (by simp))
    · exact (cell_alloc_lt (by simp)).trans (cell_newE (by simp))
    · exact cell_newE (by simp)
    · exact cell_newE (by simp)
  intro W5 ⟨⟨k0, k1, g0, g1⟩, ⟨m0, m1, p0, p1⟩, ⟨u0, u1⟩, ⟨t0, t1⟩, BB⟩
  obtain ⟨b1, hb1⟩ : ∃ b, b = w.heap.size + 1 := ⟨_, rfl⟩
  obtain ⟨b2, hb2⟩ : ∃ b, b = w.heap.size + 1 + 1 := ⟨_, rfl⟩
  obtain ⟨b3, hb3⟩ : ∃ b, b = w1.heap.size + 1 := ⟨_, rfl⟩
  obtain ⟨b4, hb4⟩ : ∃ b, b = w1.heap.size + 1 + 1 := ⟨_, rfl⟩
  rw [← hb2, ← hb1, ← hb4, ← hb3]
  rw [← hb1] at k0 k1 g0 g1
  rw [← hb2] at m0 m1 p0 p1
  rw [← hb3] at u0 u1
  rw [← hb4] at t0 t1
  have n1 : b1 ≠ b2 := by omega
  have n2 : b1 ≠ b3 := by omega
  have n3 : b1 ≠ b4 := by omega
  have n4 : b2 ≠ b3 := by omega
  have n5 : b2 ≠ b4 := by omega
  have l1 : w.heap.size ≤ b1 := by omega
  have l2 : w.heap.size ≤ b2 := by omega
  clear O hb1 hb2 hb3 hb4 e1 f1 s1 s2 s3 s4 B1 HA HC hg hn hn2 hn3 hcap h6
  go_region
  all_goals
    go_wp2_with fail
    obtain ⟨q0, q1, q2, q3⟩ := two_two (W := W5) (b1 := b1) (b2 := b2) (.string kn) (.string ot) (.string he) (.string ne) n1 k0 k1 m0 m1
    refine bodyPost_ret (v := .tuple #[.agg #[.string kn, .string ot], .agg #[.string he, .string ne]]) (by simp [results, Tryz.results51, go_sem, q0, q1, q2, q3]) rfl ⟨rfl, ?_⟩
    exact ((((BB.out.setCell l1 _).setCell l1 _).setCell l2 _).setCell l2 _).drew

end Go.Proofs.YtfgkonphbmliaaaGreatDoor

/- BoxFar of the program, at boxes in memory. Condition: lists and texts of at most 2^20. -/
namespace Go.Proofs.YtfgkonphbmliaaaGreatDoor
open Go.RowKit Go.Sort

set_option maxRecDepth 100000 in
set_option maxHeartbeats 3200000 in
theorem implFar_any (B : Nat) (v : Value) (b : Bx) (k : Int) (w : World) (hs : bxSz b) (hwf : wfE b.es) (hcw : cnWf b.cs) (ho : OwnBx w B v b) (hv : VarsOk w) (htb : TabOk w) :
    Calls Tryz.prog 13 #[v, .int .i64 k] w fun e w' => e = .returned (.string ⟨(farB b k).toArray⟩) ∧ Below w.heap.size w w' := by
  have HO := Lib.hid ho
  obtain ⟨g1, g2, c2, g3, rfl, o1, o2, o3⟩ := ho
  obtain ⟨W0, hW0⟩ : ∃ W, W = w.alloc (.cells #[.slice (some ⟨g1, 0, none⟩) b.rs.length b.rs.length, .slice (some ⟨g2, 0, none⟩) b.es.length c2, .slice (some ⟨g3, 0, none⟩) b.cs.length b.cs.length] 37) := ⟨_, rfl⟩
  have hA : Below w.heap.size w W0 := by rw [hW0]; exact (Below.refl _ _).alloc (Nat.le_refl _) _
  have K1 : Blk W0 w.heap.size 37 [.slice (some ⟨g1, 0, none⟩) b.rs.length b.rs.length, .slice (some ⟨g2, 0, none⟩) b.es.length c2, .slice (some ⟨g3, 0, none⟩) b.cs.length b.cs.length] := by rw [hW0]; exact three_new w _ _ _ _
  have KK : Hid (∀ w', Below W0.heap.size W0 w' → (w'.cell? ⟨w.heap.size, 0, none⟩ = some (.slice (some ⟨g1, 0, none⟩) b.rs.length b.rs.length) ∧ w'.cell? ⟨w.heap.size, 1, none⟩ = some (.slice (some ⟨g2, 0, none⟩) b.es.length c2) ∧ w'.cell? ⟨w.heap.size, 2, none⟩ = some (.slice (some ⟨g3, 0, none⟩) b.cs.length b.cs.length)) ∧ Below w.heap.size w w') := fun w' h => ⟨(three_all (K1.below h)).1, hA.trans (h.mono hA.size)⟩
  have HM : Hid (Calls Tryz.prog 10 #[.agg #[.slice (some ⟨g1, 0, none⟩) b.rs.length b.rs.length, .slice (some ⟨g2, 0, none⟩) b.es.length c2, .slice (some ⟨g3, 0, none⟩) b.cs.length b.cs.length]] W0 fun e w' => e = .returned (.bool (boxOkB b)) ∧ Below W0.heap.size W0 w') := implBoxOk_any B _ b W0 hs hwf hcw (HO.out.later hA) (hv.below hA) (htb.below hA (Nat.le_refl _))
  have HI : Hid (∀ w', Calls Tryz.prog 50 #[.int .i64 k, .int .i64 0, .int .i64 ((b.cs.length : Int) - 1)] w' fun e w'' => e = .returned (.bool (inB k 0 ((b.cs.length : Int) - 1))) ∧ w' = w'') := fun w' => within_any k 0 _ w'
  have h3 : b.cs.length ≤ 1048576 := hs.2.2.1
  have BB : Hid (Below W0.heap.size W0 W0) := Below.refl _ _
  cases hok : boxOkB b
  · have hf : farB b k = [] := if_neg (by rw [hok]; simp)
    rw [hf]
    rw [hok] at HM
    clear hf hok HO o1 o2 o3 K1 hA hs hwf hcw hv htb KK HI
    have AA : Hid (∀ w', Below W0.heap.size W0 w' → Below w.heap.size w w') := fun w' h => by rw [hW0] at h; exact ((Below.refl _ _).alloc (Nat.le_refl _) _).trans (h.mono (by simp))
    subst hW0
    go_enter Tryz.func13, Tryz.ntmps13
    go_wp2_with fail
    (go_at_call 10; refine HM.out.mono ?_; rintro e w1 ⟨rfl, b1⟩)
    go_wp2_with fail
    go_ret
    exact ⟨rfl, AA.out _ b1⟩
  rw [hok] at HM
  by_cases hk : 0 ≤ k ∧ k ≤ (b.cs.length : Int) - 1
  rotate_left
  · have hf : farB b k = [] := if_neg (by rintro ⟨_, h⟩; exact hk h)
    have hi : inB k 0 ((b.cs.length : Int) - 1) = false := by
      unfold inB
      simp only [Bool.and_eq_false_iff, decide_eq_false_iff_not]
      omega
    rw [hf]
    rw [hi] at HI
    clear hf hok HO o1 o2 o3 K1 hA hs hwf hcw hv htb hi hk
    subst hW0
    go_enter Tryz.func13, Tryz.ntmps13
    go_wp2_with fail
    (go_at_call 10; refine HM.out.mono ?_; rintro e w1 ⟨rfl, b1⟩)
    obtain ⟨⟨x0, x1, x2⟩, bw⟩ := KK.out _ b1
    go_wp2_with fail
    (go_at_call 50; refine (HI.out _).mono ?_; rintro e w2 ⟨rfl, rfl⟩)
    go_wp2_with fail
    go_ret
    exact ⟨rfl, bw⟩
  obtain ⟨n, rfl⟩ : ∃ n : Nat, k = n := ⟨k.toNat, by omega⟩
  have hn : n < b.cs.length := by omega
  have hi : inB (n : Int) 0 ((b.cs.length : Int) - 1) = true := by
    unfold inB
    simp only [Bool.and_eq_true, decide_eq_true_eq]
    omega
  rw [hi] at HI
  obtain ⟨⟨ia, ip, oa, op, kn, he, ne⟩, hc⟩ : ∃ c, c = b.cs[n] := ⟨_, rfl⟩
  have hf : farB b n = (streamE b.es (linesL kn.data.toList)).2 := by
    unfold farB
    rw [if_pos ⟨hok, hk⟩]
    unfold farE
    simp only [Int.toNat_natCast]
    rw [getD_at hn, ← hc]
  have hm := (boxOk_parts hok).1
  have hsz : kn.size ≤ 1048576 := by have := (hs.2.2.2 ⟨ia, ip, oa, op, kn, he, ne⟩ (by rw [hc]; exact List.getElem_mem _)).1; simp only at this; omega
  have HF : Hid (∀ w', Below w.heap.size w w' → Calls Tryz.prog 51 #[.agg #[.slice (some ⟨g1, 0, none⟩) b.rs.length b.rs.length, .slice (some ⟨g2, 0, none⟩) b.es.length c2, .slice (some ⟨g3, 0, none⟩) b.cs.length b.cs.length], .int .i64 n] w' fun e w'' => e = .returned (.tuple #[.agg #[.string kn, .string ⟨(farB b n).toArray⟩], .agg #[.string he, .string ne]]) ∧ Below w'.heap.size w' w'') := fun w' h => by
    rw [hf]
    have hl : strB kn.data.toList = true := by
      have := (conn_parts ((boxOk_parts hok).2.2.2 n hn)).2.2.2.2.1
      rwa [getD_at hn, ← hc] at this
    exact implWays_any _ b n w' ⟨ia, ip, oa, op, kn, he, ne⟩ hn hc hm hl (by show kn.size ≤ 2097152; omega) (HO.out.later h).rd (hv.below h)
  obtain ⟨ot, hot⟩ : ∃ o : ByteArray, o = ⟨(farB b n).toArray⟩ := ⟨_, rfl⟩
  rw [← hot] at HF ⊢
  have hn2 : (n : Int) < (b.cs.length : Int) := by omega
  clear hot hf hm hsz hc hi hok HO o1 o2 o3 K1 hA hs hwf hcw hv htb hk
  subst hW0
  go_enter Tryz.func13, Tryz.ntmps13
  go_wp2_with fail
  (go_at_call 10; refine HM.out.mono ?_; rintro e w1 ⟨rfl, b1⟩)
  obtain ⟨⟨x0, x1, x2⟩, bw⟩ := KK.out _ b1
  go_wp2_with fail
  (go_at_call 50; refine (HI.out _).mono ?_; rintro e w2 ⟨rfl, rfl⟩)
  go_wp2_with fail
  (go_at_call 51; refine (HF.out _ bw).mono ?_; rintro e w3 ⟨rfl, b3⟩)
  have bw3 := bw.trans (b3.mono bw.size)
  go_wp2_with fail
  go_ret
  first
    | exact ⟨rfl, bw3⟩
    | exact ⟨rfl, (bw3.alloc bw3.size _).alloc (by have := bw3.size; simp; omega) _⟩

end Go.Proofs.YtfgkonphbmliaaaGreatDoor

/- The law of BoxFar. Conditions: the argument's lists lie in the machine's memory, at any address; the variables that are read hold what they are laid with. -/
namespace Go.Proofs.YtfgkonphbmliaaaGreatDoor
open Go.RowKit Go.Sort

set_option maxRecDepth 100000 in
set_option maxHeartbeats 3200000 in
theorem lawBoxFar_any (v : Value) (b : Bx) (k : Int) (w : World) (hv : ArgBx w v b) (hm : bxMax b) (hvars : VarsOk w) (htb : TabOk w) :
    Calls Tryz.prog 4 #[v, .int .i64 k] w fun e w' => e = .returned (.bool true) ∧ Below w.heap.size w w' := by
  obtain ⟨a1, k1, a2, k2, a3, k3, rfl⟩ := hv.form
  obtain ⟨v0, hv0⟩ : ∃ v : Value, v = .agg #[.slice a1 b.rs.length k1, .slice a2 b.es.length k2, .slice a3 b.cs.length k3] := ⟨_, rfl⟩
  obtain ⟨W0, hW0⟩ : ∃ W, W = w.alloc (.cells #[.slice a1 b.rs.length k1, .slice a2 b.es.length k2, .slice a3 b.cs.length k3] 28) := ⟨_, rfl⟩
  have hA : Below w.heap.size w W0 := by rw [hW0]; exact (Below.refl _ _).alloc (Nat.le_refl _) _
  have hz : w.heap.size < W0.heap.size := by rw [hW0]; simp
  have K1 : Blk W0 w.heap.size 28 [.slice a1 b.rs.length k1, .slice a2 b.es.length k2, .slice a3 b.cs.length k3] := by rw [hW0]; exact three_new w _ _ _ _
  have KK : Hid (∀ w', Below W0.heap.size W0 w' → (w'.cell? ⟨w.heap.size, 0, none⟩ = some (.slice a1 b.rs.length k1) ∧ w'.cell? ⟨w.heap.size, 1, none⟩ = some (.slice a2 b.es.length k2) ∧ w'.cell? ⟨w.heap.size, 2, none⟩ = some (.slice a3 b.cs.length k3)) ∧ ArgBx w' (.agg #[.slice a1 b.rs.length k1, .slice a2 b.es.length k2, .slice a3 b.cs.length k3]) b ∧ Below w.heap.size w w' ∧ VarsOk w' ∧ TabOk w') := fun w' h =>
    have hb := hA.trans (h.mono hA.size)
    ⟨(three_all (K1.below h)).1, hv.below hb, hb, hvars.below hb, htb.below hb (Nat.le_refl _)⟩
  have HZ : Hid (∀ w', ArgBx w' (.agg #[.slice a1 b.rs.length k1, .slice a2 b.es.length k2, .slice a3 b.cs.length k3]) b → Calls Tryz.prog 7 #[.agg #[.slice a1 b.rs.length k1, .slice a2 b.es.length k2, .slice a3 b.cs.length k3], .int .i64 1048576] w' fun e w'' => ∃ z : Int, e = .returned (.int .i64 z) ∧ (z = -1 ∨ (0 ≤ z ∧ z ≤ 1048576 ∧ bxSz b)) ∧ Below w'.heap.size w' w'') := fun w' h => szBox_any _ b w' h hm
  have hwf : Hid (wfE b.es ∧ cnWf b.cs) := ⟨hm.2.2.2.2.1, hm.2.2.2.2.2⟩
  have BB : Hid (Below W0.heap.size W0 W0) := Below.refl _ _
  clear hv0 hA K1 hvars htb hv hm
  subst hW0
  go_enter Tryz.func4, Tryz.ntmps4
  go_wp2_with fail
  (go_at_call 7; refine (HZ.out _ (KK.out _ BB.out).2.1).mono ?_; rintro e w1 ⟨z, rfl, hz1, b1⟩)
  have C1 := Lib.hid b1
  clear b1 BB HZ
  obtain ⟨⟨x0, x1, x2⟩, -, bw1, -⟩ := KK.out _ C1.out
  rcases hz1 with rfl | ⟨hz1, -, hs⟩
  · go_wp2_with fail
    go_ret
    exact ⟨rfl, bw1⟩
  have hz2 : ¬ z < 0 := by omega
  have S := Lib.hid hs
  obtain ⟨q, hq⟩ : ∃ q : ByteArray, q = ⟨(farB b k).toArray⟩ := ⟨_, rfl⟩
  have HT : Hid (∀ w', ArgBx w' (.agg #[.slice a1 b.rs.length k1, .slice a2 b.es.length k2, .slice a3 b.cs.length k3]) b → Calls Tryz.prog 9 #[.agg #[.slice a1 b.rs.length k1, .slice a2 b.es.length k2, .slice a3 b.cs.length k3]] w' fun e w'' => ∃ g1 g2 c2 g3, e = .returned (.agg #[.slice (some ⟨g1, 0, none⟩) b.rs.length b.rs.length, .slice (some ⟨g2, 0, none⟩) b.es.length c2, .slice (some ⟨g3, 0, none⟩) b.cs.length b.cs.length]) ∧ OwnBx w'' w'.heap.size (.agg #[.slice (some ⟨g1, 0, none⟩) b.rs.length b.rs.length, .slice (some ⟨g2, 0, none⟩) b.es.length c2, .slice (some ⟨g3, 0, none⟩) b.cs.length b.cs.length]) b ∧ Below w'.heap.size w' w'') := fun w' h => toBox_form _ b w' hs h
  have HM : Hid (∀ B u w', B ≤ w'.heap.size → OwnBx w' B u b → Calls Tryz.prog 12 #[u, .int .i64 k] w' fun e w'' => e = .returned (.string q) ∧ Below w'.heap.size w' w'') := fun B u w' hB h => by rw [hq]; exact specFar_any B u b k w' hs hB h
  have HI : Hid (∀ B u w', OwnBx w' B u b → VarsOk w' → TabOk w' → Calls Tryz.prog 13 #[u, .int .i64 k] w' fun e w'' => e = .returned (.string q) ∧ Below w'.heap.size w' w'') := fun B u w' h h1 h2 => by rw [hq]; exact implFar_any B u b k w' hs hwf.out.1 hwf.out.2 h h1 h2
  have HE : Hid (∀ u1 u2 w', RdBx w' u1 b → RdBx w' u2 b → Calls Tryz.prog 11 #[u1, u2] w' fun e w'' => e = .returned (.bool true) ∧ Below w'.heap.size w' w'') := fun u1 u2 w' h1 h2 => eqBox_same u1 u2 b w' (by have := hs.1; omega) (by have := hs.2.1; omega) (by have := hs.2.2.1; omega) h1 h2
  clear hq hs hwf hz1
  go_wp2_with fail
  clear x0 x1 x2
  (go_at_call 9; refine (HT.out _ (KK.out _ C1.out).2.1).mono ?_; rintro e w2 ⟨g1, g2, c2, g3, rfl, o2, b2⟩)
  have C2 := Lib.hid (C1.out.trans (b2.mono C1.out.size))
  have z12 := b2.size
  have O2 := Lib.hid o2
  obtain ⟨⟨x0, x1, x2⟩, -⟩ := KK.out _ C2.out
  clear b2 o2
  go_wp2_with fail
  clear x0 x1 x2
  (go_at_call 12; refine (HM.out _ _ _ z12 O2.out).mono ?_; rintro e w3 ⟨rfl, b3⟩)
  have C3 := Lib.hid (C2.out.trans (b3.mono C2.out.size))
  obtain ⟨⟨x0, x1, x2⟩, -⟩ := KK.out _ C3.out
  clear b3 O2
  go_wp2_with fail
  clear x0 x1 x2
  (go_at_call 9; refine (HT.out _ (KK.out _ C3.out).2.1).mono ?_; rintro e w4 ⟨h1, h2, d2, h3, rfl, o4, b4⟩)
  have C4 := Lib.hid (C3.out.trans (b4.mono C3.out.size))
  have O4 := Lib.hid o4
  obtain ⟨⟨x0, x1, x2⟩, -⟩ := KK.out _ C4.out
  clear b4 o4
  have D4 : Hid (Below w4.heap.size w4 (w4.alloc (.cells #[.slice (some ⟨h1, 0, none⟩) b.rs.length b.rs.length, .slice (some ⟨h2, 0, none⟩) b.es.length d2, .slice (some ⟨h3, 0, none⟩) b.cs.length b.cs.length] 37))) := (Below.refl _ _).alloc (Nat.le_refl _) _
  have E4 := Lib.hid (C4.out.trans (D4.out.mono C4.out.size))
  have P4 := Lib.hid (O4.out.later D4.out)
  have L4 : Hid (∀ w', Below (w4.alloc (.cells #[.slice (some ⟨h1, 0, none⟩) b.rs.length b.rs.length, .slice (some ⟨h2, 0, none⟩) b.es.length d2, .slice (some ⟨h3, 0, none⟩) b.cs.length b.cs.length] 37)).heap.size (w4.alloc (.cells #[.slice (some ⟨h1, 0, none⟩) b.rs.length b.rs.length, .slice (some ⟨h2, 0, none⟩) b.es.length d2, .slice (some ⟨h3, 0, none⟩) b.cs.length b.cs.length] 37)) w' → (w'.cell? ⟨w4.heap.size, 0, none⟩ = some (.slice (some ⟨h1, 0, none⟩) b.rs.length b.rs.length) ∧ w'.cell? ⟨w4.heap.size, 1, none⟩ = some (.slice (some ⟨h2, 0, none⟩) b.es.length d2) ∧ w'.cell? ⟨w4.heap.size, 2, none⟩ = some (.slice (some ⟨h3, 0, none⟩) b.cs.length b.cs.length)) ∧ RdBx w' (.agg #[.slice (some ⟨h1, 0, none⟩) b.rs.length b.rs.length, .slice (some ⟨h2, 0, none⟩) b.es.length d2, .slice (some ⟨h3, 0, none⟩) b.cs.length b.cs.length]) b) := fun w' h =>
    ⟨(three_all ((three_new w4 _ _ _ _).below h)).1, P4.out.rd.below h⟩
  go_wp2_with fail
  clear x0 x1 x2
  (go_at_call 13; refine (HI.out _ _ _ P4.out (KK.out _ E4.out).2.2.2.1 (KK.out _ E4.out).2.2.2.2).mono ?_; rintro e w5 ⟨rfl, b5⟩)
  have C5 := Lib.hid (E4.out.trans (b5.mono E4.out.size))
  have F5 : Hid (∀ w', Below w5.heap.size w5 w' → (w'.cell? ⟨w4.heap.size, 0, none⟩ = some (.slice (some ⟨h1, 0, none⟩) b.rs.length b.rs.length) ∧ w'.cell? ⟨w4.heap.size, 1, none⟩ = some (.slice (some ⟨h2, 0, none⟩) b.es.length d2) ∧ w'.cell? ⟨w4.heap.size, 2, none⟩ = some (.slice (some ⟨h3, 0, none⟩) b.cs.length b.cs.length)) ∧ RdBx w' (.agg #[.slice (some ⟨h1, 0, none⟩) b.rs.length b.rs.length, .slice (some ⟨h2, 0, none⟩) b.es.length d2, .slice (some ⟨h3, 0, none⟩) b.cs.length b.cs.length]) b) := fun w' h => L4.out w' (b5.trans (h.mono b5.size))
  have G5 : Hid (∀ w', Below w5.heap.size w5 w' → (w'.cell? ⟨w.heap.size, 0, none⟩ = some (.slice a1 b.rs.length k1) ∧ w'.cell? ⟨w.heap.size, 1, none⟩ = some (.slice a2 b.es.length k2) ∧ w'.cell? ⟨w.heap.size, 2, none⟩ = some (.slice a3 b.cs.length k3)) ∧ ArgBx w' (.agg #[.slice a1 b.rs.length k1, .slice a2 b.es.length k2, .slice a3 b.cs.length k3]) b ∧ Below w.heap.size w w') := fun w' h =>
    have k := KK.out w' (C5.out.trans (h.mono C5.out.size))
    ⟨k.1, k.2.1, k.2.2.1⟩
  have Z5 : Hid (Below w5.heap.size w5 w5) := Below.refl _ _
  obtain ⟨⟨x0, x1, x2⟩, -⟩ := G5.out _ Z5.out
  obtain ⟨⟨y0, y1, y2⟩, -⟩ := F5.out _ Z5.out
  clear b5 L4 E4 C4 C3 C2 C1 P4 D4 O4 KK HM HI C5
  go_wp2_with fail
  go_region_with (first
    | (go_at_call 9; refine (HT.out _ (G5.out _ ((Below.refl _ _).drew)).2.1).mono ?_; rintro e w6 ⟨i1, i2, j2, i3, rfl, o6, b6⟩; have R6 := Lib.hid o6.rd; have d6 : Below w5.heap.size w5 w6 := ((Below.refl _ _).drew).trans b6; obtain ⟨⟨p0, p1, p2⟩, -, bw6⟩ := G5.out _ d6; obtain ⟨⟨q0, q1, q2⟩, S6⟩ := F5.out _ d6; have S6 := Lib.hid S6; clear o6 b6)
    | (go_at_call 11; refine (HE.out _ _ _ S6.out R6.out).mono ?_; rintro e w7 ⟨rfl, b7⟩; have bw7 := (G5.out _ (d6.trans (b7.mono d6.size))).2.2))
  all_goals
    go_wp2
    go_ret
    exact ⟨rfl, bw7⟩

end Go.Proofs.YtfgkonphbmliaaaGreatDoor
