/- A box that came in, and one that became the program's, as structs of three slices. Condition: as for the copies. (Several texts, joined: TurnK, STurnY, TurnBth, TurnLw, MarkBx, BoxForm.) -/
import Derived.Test.YtglpijjkihpeeaaGreatDoorTBxTj
import Derived.Test.YtglpijjkihpeeaaGreatDoorTBxTf
import Derived.Test.YtglpijjkihpeeaaGreatDoorTBxTa
import Derived.Test.YtglpijjkihpeeaaGreatDoorBoxMk
import Derived.Test.YtglpijjkihpeeaaGreatDoorTBxTd

/- BoxTurn of the program at a segment that goes, if its sender gets a port. Conditions: as XTurnJ. -/
namespace Go.Proofs.YtglpijjkihpeeaaGreatDoor
open Go.RowKit Go.Sort

theorem putE_pos (es : List (Int × Int)) (e : Int × Int) : 0 < (putE es e).1.length := by
  cases es with
  | nil => simp [putE, portI, findI]
  | cons x t =>
    unfold putE
    split
    · simp
    · split <;> simp

/-- The box's variable and the segment's variable hold these. -/
def Rs (n : Nat) (a0 a1 a2 c0 c1 c2 c3 c4 c5 c6 : Value) (w' : World) : Prop := w'.cell? ⟨n, 0, none⟩ = some a0 ∧ w'.cell? ⟨n, 1, none⟩ = some a1 ∧ w'.cell? ⟨n, 2, none⟩ = some a2 ∧ w'.cell? ⟨n + 1, 0, none⟩ = some c0 ∧ w'.cell? ⟨n + 1, 1, none⟩ = some c1 ∧ w'.cell? ⟨n + 1, 2, none⟩ = some c2 ∧ w'.cell? ⟨n + 1, 3, none⟩ = some c3 ∧ w'.cell? ⟨n + 1, 4, none⟩ = some c4 ∧ w'.cell? ⟨n + 1, 5, none⟩ = some c5 ∧ w'.cell? ⟨n + 1, 6, none⟩ = some c6
theorem Rs.drew {n : Nat} {a0 a1 a2 c0 c1 c2 c3 c4 c5 c6 : Value} {w' : World} (h : Rs n a0 a1 a2 c0 c1 c2 c3 c4 c5 c6 w') : Rs n a0 a1 a2 c0 c1 c2 c3 c4 c5 c6 w'.drew := h
theorem Rs.set {n : Nat} {a0 a1 a2 c0 c1 c2 c3 c4 c5 c6 : Value} {w' : World} (h : Rs n a0 a1 a2 c0 c1 c2 c3 c4 c5 c6 w') {b : Nat} (hb : n + 1 < b) (o : Nat) (u : Value) : Rs n a0 a1 a2 c0 c1 c2 c3 c4 c5 c6 (w'.setCell ⟨b, o, none⟩ u) := by
  have m : ∀ (k j : Nat), k ≤ n + 1 → (w'.setCell ⟨b, o, none⟩ u).cell? ⟨k, j, none⟩ = w'.cell? ⟨k, j, none⟩ := fun k j hk => World.cell?_setCell_far _ _ _ _ (by simp; omega)
  obtain ⟨y0, y1, y2, z0, z1, z2, z3, z4, z5, z6⟩ := h
  exact ⟨(m _ _ (by omega)).trans y0, (m _ _ (by omega)).trans y1, (m _ _ (by omega)).trans y2, (m _ _ (by omega)).trans z0, (m _ _ (by omega)).trans z1, (m _ _ (by omega)).trans z2, (m _ _ (by omega)).trans z3, (m _ _ (by omega)).trans z4, (m _ _ (by omega)).trans z5, (m _ _ (by omega)).trans z6⟩
theorem Rs.of {n : Nat} {a0 a1 a2 c0 c1 c2 c3 c4 c5 c6 : Value} {w' : World} {t1 t2 : TypeId} (h1 : Blk w' n t1 [a0, a1, a2]) (h2 : Blk w' (n + 1) t2 [c0, c1, c2, c3, c4, c5, c6]) : Rs n a0 a1 a2 c0 c1 c2 c3 c4 c5 c6 w' :=
  ⟨(h1.cell 0 _ rfl).1, (h1.cell 1 _ rfl).1, (h1.cell 2 _ rfl).1, (h2.cell 0 _ rfl).1, (h2.cell 1 _ rfl).1, (h2.cell 2 _ rfl).1, (h2.cell 3 _ rfl).1, (h2.cell 4 _ rfl).1, (h2.cell 5 _ rfl).1, (h2.cell 6 _ rfl).1⟩

/-- The segment's variable takes two other ends. -/
theorem Q4.seg {w w' : World} {x0 x1 x2 x3 x4 x5 x6 : Value} {lb lr lq : List Value} (h : Q4 w lb [x0, x1, x2, x3, x4, x5, x6] lr lq w') (u0 u1 u2 u3 : Value) :
    Q4 w lb [u0, u1, u2, u3, x4, x5, x6] lr lq ((((w'.setCell ⟨w.heap.size + 1, 0, none⟩ u0).setCell ⟨w.heap.size + 1, 1, none⟩ u1).setCell ⟨w.heap.size + 1, 2, none⟩ u2).setCell ⟨w.heap.size + 1, 3, none⟩ u3) := by
  obtain ⟨h0, h1, h2, h3, h4⟩ := h
  have hb : w.heap.size ≤ w.heap.size + 1 := by omega
  have n1 : ∀ o, (⟨w.heap.size + 1, o, none⟩ : Addr).block ≠ w.heap.size := fun o => by simp
  have n2 : ∀ o, (⟨w.heap.size + 1, o, none⟩ : Addr).block ≠ w.heap.size + 1 + 1 := fun o => by simp
  have n3 : ∀ o, (⟨w.heap.size + 1, o, none⟩ : Addr).block ≠ w.heap.size + 1 + 1 + 1 := fun o => by simp
  exact ⟨(((h0.setCell hb _).setCell hb _).setCell hb _).setCell hb _, (((h1.far (n1 0) _).far (n1 1) _).far (n1 2) _).far (n1 3) _, (((h2.set 0 u0).set 1 u1).set 2 u2).set 3 u3, (((h3.far (n2 0) _).far (n2 1) _).far (n2 2) _).far (n2 3) _, (((h4.far (n3 0) _).far (n3 1) _).far (n3 2) _).far (n3 3) _⟩

/-- The box's variable takes another table. -/
theorem Q4.table {w w' : World} {x0 x1 x2 : Value} {ls lr lq : List Value} (h : Q4 w [x0, x1, x2] ls lr lq w') (u : Value) : Q4 w [x0, u, x2] ls lr lq (w'.setCell ⟨w.heap.size, 1, none⟩ u) := by
  obtain ⟨h0, h1, h2, h3, h4⟩ := h
  exact ⟨h0.setCell (Nat.le_refl _) _, h1.set 1 u, h2.far (by simp) _, h3.far (by simp; omega) _, h4.far (by simp; omega) _⟩

set_option maxRecDepth 100000 in
set_option maxHeartbeats 3200000 in
theorem implTurn_yes (B : Nat) (v : Value) (b : Bx) (sa sp da dp sq ak : Int) (d : ByteArray) (w : World) (hs : bxSz b) (hcw : cnWf b.cs) (ho : OwnBx w B v b) (hv : VarsOk w) (htb : TabOk w) (hok : boxOkB b = true) (hd : d.size ≤ 2097152) (wd : (Lit.int .i64 dp).wf = true)
    (hwf : wfE b.es) (ta tp : Int) (hgo : (segOkB ⟨sa, sp, da, dp, sq, ak, d.data.toList⟩ && insB sa sp && boxB da dp) = true) (hE : endI b.es dp = some (ta, tp)) :
    Calls Tryz.prog 19 #[v, .agg #[.int .i64 sa, .int .i64 sp, .int .i64 da, .int .i64 dp, .int .i64 sq, .int .i64 ak, .string d]] w fun e w' => ∃ u, e = .returned (.tuple #[u, if (putE b.es (sa, sp)).2 = 0 then .agg ⟨zeroSg⟩ else .agg #[.int .i64 50, .int .i64 (putE b.es (sa, sp)).2, .int .i64 ta, .int .i64 tp, .int .i64 sq, .int .i64 ak, .string d], .bool (decide ((putE b.es (sa, sp)).2 ≠ 0))]) ∧ OwB w' w.heap.size u ⟨b.rs, (putE b.es (sa, sp)).1, b.cs⟩ ∧ Below w.heap.size w w' := by
  have hgo' : segOkB ⟨sa, sp, da, dp, sq, ak, d.data.toList⟩ = true ∧ insB sa sp = true ∧ boxB da dp = true := by simpa [Bool.and_eq_true, and_assoc] using hgo
  obtain ⟨gS, gI, gB⟩ := hgo'
  have gM : mapB b.es = true := by
    unfold boxOkB at hok
    simp only [Bool.and_eq_true] at hok
    exact hok.1.1.1
  have HO : Hid (∀ w', Below w.heap.size w w' → Calls Tryz.prog 12 #[v] w' fun e w'' => e = .returned (.bool true) ∧ Below w'.heap.size w' w'') := fun w' h => by
    rw [← hok]
    exact implBoxOk_any B v b w' hs hwf hcw (ho.later h) (hv.below h) (htb.below h (Nat.le_refl _))
  have HC : Hid (∀ w', Below w.heap.size w w' → Calls Tryz.prog 60 #[v] w' fun e w'' => ∃ u, e = .returned u ∧ OwB w'' w'.heap.size u b ∧ Below w'.heap.size w' w'') := fun w' h => implCopy_any v b w' hs (ho.later h).owb.rd
  obtain ⟨es, hes⟩ : ∃ es, es = b.es := ⟨_, rfl⟩
  rw [← hes] at hwf hE
  have hn : es.length ≤ 4194304 := by rw [hes]; have := hs.2.1; omega
  have HM : Hid (∀ t w', TabAt w' t es → Calls Tryz.prog 61 #[.agg #[t], .int .i64 dp] w' fun e w'' => e = .returned (.tuple #[.agg #[.int .i64 ta, .int .i64 tp], .bool true]) ∧ Below w'.heap.size w' w'') := fun t w' h => by have := implMapEnd_any t es dp w' hn hwf wd h; rwa [hE] at this
  have HS : Hid (∀ w', Calls Tryz.prog 62 #[.agg #[.int .i64 sa, .int .i64 sp, .int .i64 da, .int .i64 dp, .int .i64 sq, .int .i64 ak, .string d]] w' fun e w'' => e = .returned (.bool true) ∧ Below w'.heap.size w' w'') := fun w' => by rw [← gS]; exact implSegOk_any sa sp da dp sq ak d w' hd
  have HI : Hid (∀ w', Calls Tryz.prog 63 #[.agg #[.int .i64 sa, .int .i64 sp]] w' fun e w'' => e = .returned (.bool true) ∧ Below w'.heap.size w' w'') := fun w' => by rw [← gI]; exact implInside_any sa sp w'
  have HB : Hid (∀ w', Calls Tryz.prog 64 #[.agg #[.int .i64 da, .int .i64 dp]] w' fun e w'' => e = .returned (.bool true) ∧ Below w'.heap.size w' w'') := fun w' => by rw [← gB]; exact isBox_any da dp w'
  obtain ⟨us, hus⟩ : ∃ us, us = (putE b.es (sa, sp)).1 := ⟨_, rfl⟩
  obtain ⟨q, hq⟩ : ∃ q, q = (putE b.es (sa, sp)).2 := ⟨_, rfl⟩
  rw [← hus, ← hq]
  have HP : Hid (∀ g y1 t y3 w', Blk w' g 30 [y1, t, y3] → TabAt w' t es → Calls Tryz.prog 65 #[.pointer (some ⟨g, 0, none⟩), .agg #[.int .i64 sa, .int .i64 sp]] w' fun e w'' => e = .returned (.int .i64 q) ∧
      ∃ g' c' w1, Below w'.heap.size w' w1 ∧ OwnTab w1 w'.heap.size (.slice g' us.length c') us ∧ w'' = w1.setCell ⟨g, 1, none⟩ (.slice g' us.length c')) := fun g y1 t y3 w' h1 h2 => by rw [hus, hq, ← hes]; exact implSend_any g y1 t y3 es sa sp w' h1 h2 (by rw [hes]; exact gM) gI
  have hne : 0 < us.length := by
    rw [hus]
    exact putE_pos _ _
  have GM := Lib.hid hne
  clear hne gM gS gI gB hgo hE hus hq
  obtain ⟨g1, g2, c2, g3, rfl, o1, o2, o3⟩ := ho
  subst hes
  clear o1 o2 o3 hok hs hwf hcw hv htb hd wd hn
  have QN := Lib.hid (Q4.new w [.slice (some ⟨g1, 0, none⟩) b.rs.length b.rs.length, .slice (some ⟨g2, 0, none⟩) b.es.length c2, .slice (some ⟨g3, 0, none⟩) b.cs.length b.cs.length] [.int .i64 sa, .int .i64 sp, .int .i64 da, .int .i64 dp, .int .i64 sq, .int .i64 ak, .string d] [.slice none 0 0, .slice none 0 0, .slice none 0 0] zeroSg)
  go_enter Tryz.func19, Tryz.ntmps19
  go_wp2_with (go_at_call 12; refine (HO.out _ QN.out.1).mono ?_; rintro e w1 ⟨rfl, b1⟩; have Q1 := Lib.hid (QN.out.call b1); obtain ⟨⟨p0, p1, p2⟩, -⟩ := three_all Q1.out.2.1; clear b1)
  (go_at_call 60; refine (HC.out _ Q1.out.1).mono ?_; rintro e w2 ⟨u, rfl, oU, bU⟩; obtain ⟨x1, d1, x2, d2, x3, d3, rfl, m1, m2, m3⟩ := oU)
  have Q2 := Q1.out.call bU
  have z1 : w.heap.size < w1.heap.size := by have := Q1.out.2.1.lt; omega
  have z4 : w.heap.size + 1 + 1 + 1 < w1.heap.size := Q1.out.2.2.2.2.lt
  have hz1 : w.heap.size ≤ w1.heap.size := by omega
  have OU : OwB w2 w1.heap.size (.agg #[.slice (some x1) b.rs.length d1, .slice (some x2) b.es.length d2, .slice (some x3) b.cs.length d3]) b := ⟨_, _, _, _, _, _, rfl, m1, m2, m3⟩
  have zU := bU.size
  clear m1 m2 m3 bU p0 p1 p2
  obtain ⟨⟨p0, p1, p2⟩, f0, f1, f2⟩ := three_all Q2.2.1
  have Q3 := Lib.hid (Q2.turn (.slice (some x1) b.rs.length d1) (.slice (some x2) b.es.length d2) (.slice (some x3) b.cs.length d3))
  have OU3 := Lib.hid (((OU.setCell (a := ⟨w.heap.size, 0, none⟩) z1 (.slice (some x1) b.rs.length d1)).setCell (a := ⟨w.heap.size, 1, none⟩) z1 (.slice (some x2) b.es.length d2)).setCell (a := ⟨w.heap.size, 2, none⟩) z1 (.slice (some x3) b.cs.length d3))
  have TT := Lib.hid (show TabAt (((w2.setCell ⟨w.heap.size, 0, none⟩ (.slice (some x1) b.rs.length d1)).setCell ⟨w.heap.size, 1, none⟩ (.slice (some x2) b.es.length d2)).setCell ⟨w.heap.size, 2, none⟩ (.slice (some x3) b.cs.length d3)) (.slice (some x2) b.es.length d2) b.es from by
    have h : OwnTab w2 w1.heap.size (.slice (some x2) b.es.length d2) b.es := by
      obtain ⟨_, _, _, _, _, _, he, _, m2, _⟩ := OU
      simp only [Value.agg.injEq, Array.mk.injEq, List.cons.injEq, Value.slice.injEq] at he
      obtain ⟨-, ⟨e1, -, e2⟩, -⟩ := he
      rw [e1, e2]
      exact ends_own m2
    exact OwnTab.tab (B := w1.heap.size) (ownsRow_setCell_below (ownsRow_setCell_below (ownsRow_setCell_below h z1 _) z1 _) z1 _))
  obtain ⟨s0, s1, s2, s3, s4, s5, s6⟩ := seven_all Q3.out.2.2.1
  clear OU Q2
  go_wp2_with fail
  (go_at_call 61; refine (HM.out _ _ TT.out).mono ?_; rintro e w3 ⟨rfl, b3⟩)
  have a3 : Below w3.heap.size w3 (w3.alloc (.cells #[.int .i64 ta, .int .i64 tp] 53)) := (Below.refl _ _).alloc (Nat.le_refl _) _
  have K4 : Hid (Blk (w3.alloc (.cells #[.int .i64 ta, .int .i64 tp] 53)) w3.heap.size 53 [.int .i64 ta, .int .i64 tp]) := heap_last3 w3 _
  have Q4 := Lib.hid ((Q3.out.call b3).call a3)
  have OU4 := Lib.hid ((OU3.out.later b3).later a3)
  have TT4 := Lib.hid ((TT.out.below b3).below a3)
  have ZZ := Lib.hid z4
  have HZ := Lib.hid hz1
  have zw : w.heap.size + 1 + 1 + 1 < w3.heap.size := by
    have := (Q3.out.call b3).2.2.2.2.lt
    exact this
  have ZW := Lib.hid zw
  have SZ4 : Hid (w1.heap.size ≤ (w3.alloc (.cells #[.int .i64 ta, .int .i64 tp] 53)).heap.size) := by
    have e1 := b3.size
    have e2 := a3.size
    simp only [World.setCell, Array.size_modify] at e1
    exact Nat.le_trans zU (Nat.le_trans e1 e2)
  clear OU3 TT Q3 b3 a3 zw s0 s1 s2 s3 s4 s5 s6 p0 p1 p2 f0 f1 f2 HM HC HO QN hz1 z4 z1 zU
  obtain ⟨⟨p0, p1, p2⟩, -⟩ := three_all Q4.out.2.1
  obtain ⟨s0, s1, s2, s3, s4, s5, s6⟩ := seven_all Q4.out.2.2.1
  obtain ⟨⟨r0, r1, r2⟩, f0, f1, f2⟩ := three_all Q4.out.2.2.2.1
  obtain ⟨q0, q1, q2, q3, q4, q5, q6⟩ := seven_all (show Blk _ _ _ [.int .i64 0, .int .i64 0, .int .i64 0, .int .i64 0, .int .i64 0, .int .i64 0, .string ByteArray.empty] from Q4.out.2.2.2.2)
  obtain ⟨h0, h1, h2, h3, h4, h5, h6⟩ := seven_froz (show Blk _ _ _ [.int .i64 0, .int .i64 0, .int .i64 0, .int .i64 0, .int .i64 0, .int .i64 0, .string ByteArray.empty] from Q4.out.2.2.2.2)
  go_wp2_with (first
      | (go_at_call 62; refine (HS.out _).mono ?_; rintro e w5 ⟨rfl, b5⟩; have Q5 := Lib.hid (Q4.out.call b5); have TT5 := Lib.hid (TT4.out.below b5); have OU5 := Lib.hid (OU4.out.later b5); have SZ5 := Lib.hid (Nat.le_trans SZ4.out b5.size); have K5 := Lib.hid (K4.out.below b5); clear b5 p0 p1 p2 s0 s1 s2 s3 s4 s5 s6 r0 r1 r2 f0 f1 f2 q0 q1 q2 q3 q4 q5 q6 h0 h1 h2 h3 h4 h5 h6; obtain ⟨⟨p0, p1, p2⟩, -⟩ := three_all Q5.out.2.1; obtain ⟨s0, s1, s2, s3, s4, s5, s6⟩ := seven_all Q5.out.2.2.1; obtain ⟨⟨r0, r1, r2⟩, f0, f1, f2⟩ := three_all Q5.out.2.2.2.1; obtain ⟨q0, q1, q2, q3, q4, q5, q6⟩ := seven_all (show Blk _ _ _ [.int .i64 0, .int .i64 0, .int .i64 0, .int .i64 0, .int .i64 0, .int .i64 0, .string ByteArray.empty] from Q5.out.2.2.2.2); obtain ⟨h0, h1, h2, h3, h4, h5, h6⟩ := seven_froz (show Blk _ _ _ [.int .i64 0, .int .i64 0, .int .i64 0, .int .i64 0, .int .i64 0, .int .i64 0, .string ByteArray.empty] from Q5.out.2.2.2.2))
      | (go_at_call 63; refine (HI.out _).mono ?_; rintro e w6 ⟨rfl, b6⟩; have Q6 := Lib.hid (Q5.out.call b6); have TT6 := Lib.hid (TT5.out.below b6); have OU6 := Lib.hid (OU5.out.later b6); have SZ6 := Lib.hid (Nat.le_trans SZ5.out b6.size); have K6 := Lib.hid (K5.out.below b6); clear b6 p0 p1 p2 s0 s1 s2 s3 s4 s5 s6 r0 r1 r2 f0 f1 f2 q0 q1 q2 q3 q4 q5 q6 h0 h1 h2 h3 h4 h5 h6; obtain ⟨⟨p0, p1, p2⟩, -⟩ := three_all Q6.out.2.1; obtain ⟨s0, s1, s2, s3, s4, s5, s6⟩ := seven_all Q6.out.2.2.1; obtain ⟨⟨r0, r1, r2⟩, f0, f1, f2⟩ := three_all Q6.out.2.2.2.1; obtain ⟨q0, q1, q2, q3, q4, q5, q6⟩ := seven_all (show Blk _ _ _ [.int .i64 0, .int .i64 0, .int .i64 0, .int .i64 0, .int .i64 0, .int .i64 0, .string ByteArray.empty] from Q6.out.2.2.2.2); obtain ⟨h0, h1, h2, h3, h4, h5, h6⟩ := seven_froz (show Blk _ _ _ [.int .i64 0, .int .i64 0, .int .i64 0, .int .i64 0, .int .i64 0, .int .i64 0, .string ByteArray.empty] from Q6.out.2.2.2.2))
      | (go_at_call 64; refine (HB.out _).mono ?_; rintro e w7 ⟨rfl, b7⟩; have Q7 := Lib.hid (Q6.out.call b7); have TT7 := Lib.hid (TT6.out.below b7); have OU7 := Lib.hid (OU6.out.later b7); have SZ7 := Lib.hid (Nat.le_trans SZ6.out b7.size); have K7 := Lib.hid (K6.out.below b7); clear b7 p0 p1 p2 s0 s1 s2 s3 s4 s5 s6 r0 r1 r2 f0 f1 f2 q0 q1 q2 q3 q4 q5 q6 h0 h1 h2 h3 h4 h5 h6; obtain ⟨⟨p0, p1, p2⟩, -⟩ := three_all Q7.out.2.1; obtain ⟨s0, s1, s2, s3, s4, s5, s6⟩ := seven_all Q7.out.2.2.1; obtain ⟨⟨r0, r1, r2⟩, f0, f1, f2⟩ := three_all Q7.out.2.2.2.1; obtain ⟨q0, q1, q2, q3, q4, q5, q6⟩ := seven_all (show Blk _ _ _ [.int .i64 0, .int .i64 0, .int .i64 0, .int .i64 0, .int .i64 0, .int .i64 0, .string ByteArray.empty] from Q7.out.2.2.2.2); obtain ⟨h0, h1, h2, h3, h4, h5, h6⟩ := seven_froz (show Blk _ _ _ [.int .i64 0, .int .i64 0, .int .i64 0, .int .i64 0, .int .i64 0, .int .i64 0, .string ByteArray.empty] from Q7.out.2.2.2.2)))
  (go_at_call 65; refine (HP.out _ _ _ _ _ Q7.out.2.1 TT7.out).mono ?_; rintro e w8 ⟨rfl, g8, c8, w9, b9, o9, rfl⟩)
  have hz9 : w.heap.size < w1.heap.size := by have := ZZ.out; omega
  have hpos := GM.out
  have OU10 : Hid (OwB (w9.setCell ⟨w.heap.size, 1, none⟩ (.slice g8 us.length c8)) w1.heap.size (.agg #[.slice (some x1) b.rs.length d1, .slice g8 us.length c8, .slice (some x3) b.cs.length d3]) ⟨b.rs, us, b.cs⟩) := by
    obtain ⟨g, cap, hv, -⟩ := own_someform o9 (by intro h; simp only [Value.slice.injEq] at h; omega)
    simp only [Value.slice.injEq] at hv
    obtain ⟨rfl, -, rfl⟩ := hv
    obtain ⟨_, _, _, _, _, _, he, m1, m2, m3⟩ := OU7.out.later b9
    simp only [Value.agg.injEq, Array.mk.injEq, List.cons.injEq, Value.slice.injEq, Option.some.injEq] at he
    obtain ⟨⟨e1, -, e2⟩, -, ⟨e3, -, e4⟩, -⟩ := he
    subst e1 e2 e3 e4
    exact OwB.setCell (a := ⟨w.heap.size, 1, none⟩) (show OwB w9 w1.heap.size _ ⟨b.rs, us, b.cs⟩ from ⟨_, _, _, _, _, _, rfl, m1, own_ends (OwnTab.mono o9 SZ7.out), m3⟩) hz9 _
  have K10 := Lib.hid ((K7.out.below b9).far (a := ⟨w.heap.size, 1, none⟩) (by have := ZW.out; simp; omega) (.slice g8 us.length c8))
  have Q10 := Lib.hid ((Q7.out.call b9).table (.slice g8 us.length c8))
  obtain ⟨w10, hw10⟩ : ∃ w10, w10 = w9.setCell ⟨w.heap.size, 1, none⟩ (.slice g8 us.length c8) := ⟨_, rfl⟩
  rw [← hw10] at OU10 K10 Q10
  rw [← hw10]
  clear hw10 o9 b9 hpos OU7 Q7 K7 TT7 SZ7 GM HP HS HI HB hz9 p0 p1 p2 s0 s1 s2 s3 s4 s5 s6 r0 r1 r2 f0 f1 f2 q0 q1 q2 q3 q4 q5 q6 h0 h1 h2 h3 h4 h5 h6
  obtain ⟨⟨p0, p1, p2⟩, -⟩ := three_all Q10.out.2.1
  obtain ⟨s0, s1, s2, s3, s4, s5, s6⟩ := seven_all Q10.out.2.2.1
  obtain ⟨⟨r0, r1, r2⟩, f0, f1, f2⟩ := three_all Q10.out.2.2.2.1
  obtain ⟨q0, q1, q2, q3, q4, q5, q6⟩ := seven_all (show Blk _ _ _ [.int .i64 0, .int .i64 0, .int .i64 0, .int .i64 0, .int .i64 0, .int .i64 0, .string ByteArray.empty] from Q10.out.2.2.2.2)
  obtain ⟨h0, h1, h2, h3, h4, h5, h6⟩ := seven_froz (show Blk _ _ _ [.int .i64 0, .int .i64 0, .int .i64 0, .int .i64 0, .int .i64 0, .int .i64 0, .string ByteArray.empty] from Q10.out.2.2.2.2)
  by_cases h0q : q = 0
  · subst h0q
    go_wp2_with fail
    first
    | (obtain ⟨⟨y0, y1, y2⟩, -⟩ := three_all (put10_box Q10.out.2.2.2.1 (.slice (some x1) b.rs.length d1) (.slice g8 us.length c8) (.slice (some x3) b.cs.length d3) (.int .i64 0) (.int .i64 0) (.int .i64 0) (.int .i64 0) (.int .i64 0) (.int .i64 0) (.string ByteArray.empty))
       obtain ⟨z0, z1, z2, z3, z4, z5, z6⟩ := seven_all (put10_seg (show Blk _ _ _ [.int .i64 0, .int .i64 0, .int .i64 0, .int .i64 0, .int .i64 0, .int .i64 0, .string ByteArray.empty] from Q10.out.2.2.2.2) (.slice (some x1) b.rs.length d1) (.slice g8 us.length c8) (.slice (some x3) b.cs.length d3) (.int .i64 0) (.int .i64 0) (.int .i64 0) (.int .i64 0) (.int .i64 0) (.int .i64 0) (.string ByteArray.empty))
       have hB := put10_below Q10.out.1 (Nat.le_refl _) (.slice (some x1) b.rs.length d1) (.slice g8 us.length c8) (.slice (some x3) b.cs.length d3) (.int .i64 0) (.int .i64 0) (.int .i64 0) (.int .i64 0) (.int .i64 0) (.int .i64 0) (.string ByteArray.empty)
       have hO := put10_own OU10.out ZZ.out (.slice (some x1) b.rs.length d1) (.slice g8 us.length c8) (.slice (some x3) b.cs.length d3) (.int .i64 0) (.int .i64 0) (.int .i64 0) (.int .i64 0) (.int .i64 0) (.int .i64 0) (.string ByteArray.empty)
       have hK : ByteArray.empty = { data := #[] } := rfl
       rw [hK] at y0 y1 y2 z0 z1 z2 z3 z4 z5 z6 hB hO
       obtain ⟨W, hW⟩ : ∃ W, W = put10 w10 w.heap.size (.slice (some x1) b.rs.length d1) (.slice g8 us.length c8) (.slice (some x3) b.cs.length d3) (.int .i64 0) (.int .i64 0) (.int .i64 0) (.int .i64 0) (.int .i64 0) (.int .i64 0) (.string { data := #[] }) := ⟨_, rfl⟩
       rw [← hW] at y0 y1 y2 z0 z1 z2 z3 z4 z5 z6 hB hO
       unfold put10 at hW
       rw [← hW]
       refine bodyPost_ret (v := .tuple #[.agg #[.slice (some x1) b.rs.length d1, .slice g8 us.length c8, .slice (some x3) b.cs.length d3], .agg ⟨zeroSg⟩, .bool false]) (by simp [results, Tryz.results19, go_sem, zeroSg, hK, y0, y1, y2, z0, z1, z2, z3, z4, z5, z6]) rfl ⟨_, by simp, hO.base HZ.out, hB⟩)
  · have hqf : (q == 0) = false := by simpa using h0q
    go_wp2_with fail
    (go_at_call 66; refine (boxAt_any q _).mono ?_; rintro e w11 ⟨rfl, b11⟩)
    have K11 := Lib.hid (K10.out.below b11)
    have Q11 := Lib.hid (Q10.out.call b11)
    have OU11 := Lib.hid (OU10.out.later b11)
    clear b11 K10 Q10 OU10 p0 p1 p2 s0 s1 s2 s3 s4 s5 s6 r0 r1 r2 f0 f1 f2 q0 q1 q2 q3 q4 q5 q6 h0 h1 h2 h3 h4 h5 h6
    obtain ⟨⟨p0, p1, p2⟩, -⟩ := three_all Q11.out.2.1
    obtain ⟨s0, s1, s2, s3, s4, s5, s6⟩ := seven_all Q11.out.2.2.1
    obtain ⟨⟨r0, r1, r2⟩, f0, f1, f2⟩ := three_all Q11.out.2.2.2.1
    obtain ⟨q0, q1, q2, q3, q4, q5, q6⟩ := seven_all (show Blk _ _ _ [.int .i64 0, .int .i64 0, .int .i64 0, .int .i64 0, .int .i64 0, .int .i64 0, .string ByteArray.empty] from Q11.out.2.2.2.2)
    obtain ⟨h0, h1, h2, h3, h4, h5, h6⟩ := seven_froz (show Blk _ _ _ [.int .i64 0, .int .i64 0, .int .i64 0, .int .i64 0, .int .i64 0, .int .i64 0, .string ByteArray.empty] from Q11.out.2.2.2.2)
    have zn : w.heap.size + 1 ≠ w3.heap.size := by have := ZW.out; omega
    have t0 : ((w11.setCell ⟨w.heap.size + 1, 0, none⟩ (.int .i64 50)).setCell ⟨w.heap.size + 1, 1, none⟩ (.int .i64 q)).cell? ⟨w3.heap.size, 0, none⟩ = some (.int .i64 ta) := by
      rw [World.cell?_setCell_far _ _ _ _ (by simpa using zn), World.cell?_setCell_far _ _ _ _ (by simpa using zn)]
      exact (K11.out.cell 0 _ rfl).1
    have t1 : ((w11.setCell ⟨w.heap.size + 1, 0, none⟩ (.int .i64 50)).setCell ⟨w.heap.size + 1, 1, none⟩ (.int .i64 q)).cell? ⟨w3.heap.size, 1, none⟩ = some (.int .i64 tp) := by
      rw [World.cell?_setCell_far _ _ _ _ (by simpa using zn), World.cell?_setCell_far _ _ _ _ (by simpa using zn)]
      exact (K11.out.cell 1 _ rfl).1
    obtain ⟨j0, j1, j2, j3, j4, j5, j6⟩ := seven_froz Q11.out.2.2.1
    have Q12 := Lib.hid (Q11.out.seg (.int .i64 50) (.int .i64 q) (.int .i64 ta) (.int .i64 tp))
    have hs1 : w.heap.size + 1 < w1.heap.size := by have := ZZ.out; omega
    have OU12 := Lib.hid ((((OU11.out.setCell (a := ⟨w.heap.size + 1, 0, none⟩) hs1 (.int .i64 50)).setCell (a := ⟨w.heap.size + 1, 1, none⟩) hs1 (.int .i64 q)).setCell (a := ⟨w.heap.size + 1, 2, none⟩) hs1 (.int .i64 ta)).setCell (a := ⟨w.heap.size + 1, 3, none⟩) hs1 (.int .i64 tp))
    clear zn hs1 p0 p1 p2 r0 r1 r2 f0 f1 f2 q0 q1 q2 q3 q4 q5 q6 h0 h1 h2 h3 h4 h5 h6
    obtain ⟨⟨p0, p1, p2⟩, -⟩ := three_all Q12.out.2.1
    obtain ⟨v0, v1, v2, v3, v4, v5, v6⟩ := seven_all Q12.out.2.2.1
    obtain ⟨⟨r0, r1, r2⟩, f0, f1, f2⟩ := three_all Q12.out.2.2.2.1
    obtain ⟨q0, q1, q2, q3, q4, q5, q6⟩ := seven_all (show Blk _ _ _ [.int .i64 0, .int .i64 0, .int .i64 0, .int .i64 0, .int .i64 0, .int .i64 0, .string ByteArray.empty] from Q12.out.2.2.2.2)
    obtain ⟨h0, h1, h2, h3, h4, h5, h6⟩ := seven_froz (show Blk _ _ _ [.int .i64 0, .int .i64 0, .int .i64 0, .int .i64 0, .int .i64 0, .int .i64 0, .string ByteArray.empty] from Q12.out.2.2.2.2)
    go_wp2_with fail
    obtain ⟨w12, hw12⟩ : ∃ w12, w12 = ((((w11.setCell ⟨w.heap.size + 1, 0, none⟩ (.int .i64 50)).setCell ⟨w.heap.size + 1, 1, none⟩ (.int .i64 q)).setCell ⟨w.heap.size + 1, 2, none⟩ (.int .i64 ta)).setCell ⟨w.heap.size + 1, 3, none⟩ (.int .i64 tp)) := ⟨_, rfl⟩
    rw [← hw12] at Q12 OU12 p0 p1 p2 v0 v1 v2 v3 v4 v5 v6 r0 r1 r2 f0 f1 f2 q0 q1 q2 q3 q4 q5 q6 h0 h1 h2 h3 h4 h5 h6
    rw [← hw12]
    clear hw12 s0 s1 s2 s3 s4 s5 s6 t0 t1 j0 j1 j2 j3 j4 j5 j6 OU11 Q11 K11
    have BR : Hid (Rs w.heap.size (.slice (some x1) b.rs.length d1) (.slice g8 us.length c8) (.slice (some x3) b.cs.length d3) (.int .i64 50) (.int .i64 q) (.int .i64 ta) (.int .i64 tp) (.int .i64 sq) (.int .i64 ak) (.string d) w12) := Rs.of Q12.out.2.1 Q12.out.2.2.1
    clear p0 p1 p2 v0 v1 v2 v3 v4 v5 v6
    go_region_held3 (fun w' => w'.cell? ⟨w.heap.size, 0, none⟩ = some (.slice (some x1) b.rs.length d1) ∧ w'.cell? ⟨w.heap.size, 1, none⟩ = some (.slice g8 us.length c8) ∧ w'.cell? ⟨w.heap.size, 2, none⟩ = some (.slice (some x3) b.cs.length d3) ∧ w'.cell? ⟨w.heap.size + 1, 0, none⟩ = some (.int .i64 50) ∧ w'.cell? ⟨w.heap.size + 1, 1, none⟩ = some (.int .i64 q) ∧ w'.cell? ⟨w.heap.size + 1, 2, none⟩ = some (.int .i64 ta) ∧ w'.cell? ⟨w.heap.size + 1, 3, none⟩ = some (.int .i64 tp) ∧ w'.cell? ⟨w.heap.size + 1, 4, none⟩ = some (.int .i64 sq) ∧ w'.cell? ⟨w.heap.size + 1, 5, none⟩ = some (.int .i64 ak) ∧ w'.cell? ⟨w.heap.size + 1, 6, none⟩ = some (.string d))
      (first
        | (show Rs w.heap.size (.slice (some x1) b.rs.length d1) (.slice g8 us.length c8) (.slice (some x3) b.cs.length d3) (.int .i64 50) (.int .i64 q) (.int .i64 ta) (.int .i64 tp) (.int .i64 sq) (.int .i64 ak) (.string d) _; repeat (first | with_reducible exact BR.out | with_reducible refine Rs.drew ?_ | with_reducible refine Rs.set ?_ (by omega) _ _))
        | (trace_state; fail))
      (fail)
    all_goals
      go_wp2_with fail
      have e1 := put10_box Q12.out.2.2.2.1 (.slice (some x1) b.rs.length d1) (.slice g8 us.length c8) (.slice (some x3) b.cs.length d3) (.int .i64 50) (.int .i64 q) (.int .i64 ta) (.int .i64 tp) (.int .i64 sq) (.int .i64 ak) (.string d)
      have e2 := put10_seg (show Blk _ _ _ [.int .i64 0, .int .i64 0, .int .i64 0, .int .i64 0, .int .i64 0, .int .i64 0, .string ByteArray.empty] from Q12.out.2.2.2.2) (.slice (some x1) b.rs.length d1) (.slice g8 us.length c8) (.slice (some x3) b.cs.length d3) (.int .i64 50) (.int .i64 q) (.int .i64 ta) (.int .i64 tp) (.int .i64 sq) (.int .i64 ak) (.string d)
      have hB := (put10_below Q12.out.1 (Nat.le_refl _) (.slice (some x1) b.rs.length d1) (.slice g8 us.length c8) (.slice (some x3) b.cs.length d3) (.int .i64 50) (.int .i64 q) (.int .i64 ta) (.int .i64 tp) (.int .i64 sq) (.int .i64 ak) (.string d)).drew
      have hO := put10_own OU12.out ZZ.out (.slice (some x1) b.rs.length d1) (.slice g8 us.length c8) (.slice (some x3) b.cs.length d3) (.int .i64 50) (.int .i64 q) (.int .i64 ta) (.int .i64 tp) (.int .i64 sq) (.int .i64 ak) (.string d)
      obtain ⟨W, hW⟩ : ∃ W, W = put10 w12 w.heap.size (.slice (some x1) b.rs.length d1) (.slice g8 us.length c8) (.slice (some x3) b.cs.length d3) (.int .i64 50) (.int .i64 q) (.int .i64 ta) (.int .i64 tp) (.int .i64 sq) (.int .i64 ak) (.string d) := ⟨_, rfl⟩
      rw [← hW] at e1 e2 hB hO
      unfold put10 at hW
      rw [← hW]
      clear hW
      obtain ⟨⟨y0, y1, y2⟩, -⟩ := three_all (show Blk W.drew _ _ _ from e1)
      obtain ⟨z0, z1, z2, z3, z4, z5, z6⟩ := seven_all (show Blk W.drew _ _ _ from e2)
      have hO2 : OwB W.drew w1.heap.size (.agg #[.slice (some x1) b.rs.length d1, .slice g8 us.length c8, .slice (some x3) b.cs.length d3]) ⟨b.rs, us, b.cs⟩ := OwB.later hO (Below.refl _ _).drew
      refine bodyPost_ret (v := .tuple #[.agg #[.slice (some x1) b.rs.length d1, .slice g8 us.length c8, .slice (some x3) b.cs.length d3], .agg #[.int .i64 50, .int .i64 q, .int .i64 ta, .int .i64 tp, .int .i64 sq, .int .i64 ak, .string d], .bool true]) (by simp [results, Tryz.results19, go_sem, y0, y1, y2, z0, z1, z2, z3, z4, z5, z6]) rfl ⟨_, rfl, hO2.base HZ.out, hB⟩

end Go.Proofs.YtglpijjkihpeeaaGreatDoor

/- BoxTurn of the specification at a segment that is meant for it. Conditions: as XSTurnB. -/
namespace Go.Proofs.YtglpijjkihpeeaaGreatDoor
open Go.RowKit Go.Sort

theorem putE_zero {es : List (Int × Int)} {e : Int × Int} (h : (putE es e).2 = 0) : (putE es e).1 = es := by
  unfold putE at h ⊢
  split at h
  · rename_i h1
    simp only at h
    omega
  · split at h
    · rename_i h1 h2
      rw [if_neg h1, if_pos h2]
    · simp only at h
      omega

/-- An own row outlives a store into a block of another type. -/
theorem own_setT {w : World} {B k n R : Nat} {t tR : TypeId} {v : Value} {xs l : List Value} (h : w.ownsRow B t k v n xs) (hR : Blk w R tR l) (hne : tR ≠ t) (o : Nat) (u : Value) : (w.setCell ⟨R, o, none⟩ u).ownsRow B t k v n xs := by
  refine ⟨h.1, ?_⟩
  rcases h.2 with h2 | ⟨g, cap, cur, hv, hB, hgg, r⟩
  · exact .inl h2
  · refine .inr ⟨g, cap, cur, hv, hB, ?_, r⟩
    rw [Below.heap_setCell _ _ _ _ fun e => ?_]
    · exact hgg
    · have e : g = R := e
      subst e
      rw [hR] at hgg
      injection hgg with h1
      injection h1 with _ h2 _
      exact hne h2
theorem Q4.far {w w' : World} {lb ls lr lq : List Value} (h : Q4 w lb ls lr lq w') {a : Addr} (ha : w.heap.size + 1 + 1 + 1 < a.block) (u : Value) : Q4 w lb ls lr lq (w'.setCell a u) := by
  obtain ⟨h0, h1, h2, h3, h4⟩ := h
  exact ⟨h0.setCell (by omega) _, h1.far (by omega) _, h2.far (by omega) _, h3.far (by omega) _, h4.far (by omega) _⟩
/-- A variable of three cells and one of seven hold these. -/
def Rz (m n : Nat) (a0 a1 a2 c0 c1 c2 c3 c4 c5 c6 : Value) (w' : World) : Prop := w'.cell? ⟨m, 0, none⟩ = some a0 ∧ w'.cell? ⟨m, 1, none⟩ = some a1 ∧ w'.cell? ⟨m, 2, none⟩ = some a2 ∧ w'.cell? ⟨n, 0, none⟩ = some c0 ∧ w'.cell? ⟨n, 1, none⟩ = some c1 ∧ w'.cell? ⟨n, 2, none⟩ = some c2 ∧ w'.cell? ⟨n, 3, none⟩ = some c3 ∧ w'.cell? ⟨n, 4, none⟩ = some c4 ∧ w'.cell? ⟨n, 5, none⟩ = some c5 ∧ w'.cell? ⟨n, 6, none⟩ = some c6
theorem Rz.drew {m n : Nat} {a0 a1 a2 c0 c1 c2 c3 c4 c5 c6 : Value} {w' : World} (h : Rz m n a0 a1 a2 c0 c1 c2 c3 c4 c5 c6 w') : Rz m n a0 a1 a2 c0 c1 c2 c3 c4 c5 c6 w'.drew := h
theorem Rz.set {m n : Nat} {a0 a1 a2 c0 c1 c2 c3 c4 c5 c6 : Value} {w' : World} (h : Rz m n a0 a1 a2 c0 c1 c2 c3 c4 c5 c6 w') {b : Nat} (h1 : b ≠ m) (h2 : b ≠ n) (o : Nat) (u : Value) : Rz m n a0 a1 a2 c0 c1 c2 c3 c4 c5 c6 (w'.setCell ⟨b, o, none⟩ u) := by
  have m1 : ∀ (j : Nat), (w'.setCell ⟨b, o, none⟩ u).cell? ⟨m, j, none⟩ = w'.cell? ⟨m, j, none⟩ := fun j => World.cell?_setCell_far _ _ _ _ (by simp; omega)
  have m2 : ∀ (j : Nat), (w'.setCell ⟨b, o, none⟩ u).cell? ⟨n, j, none⟩ = w'.cell? ⟨n, j, none⟩ := fun j => World.cell?_setCell_far _ _ _ _ (by simp; omega)
  obtain ⟨y0, y1, y2, z0, z1, z2, z3, z4, z5, z6⟩ := h
  exact ⟨(m1 _).trans y0, (m1 _).trans y1, (m1 _).trans y2, (m2 _).trans z0, (m2 _).trans z1, (m2 _).trans z2, (m2 _).trans z3, (m2 _).trans z4, (m2 _).trans z5, (m2 _).trans z6⟩
theorem Rz.of {m n : Nat} {a0 a1 a2 c0 c1 c2 c3 c4 c5 c6 : Value} {w' : World} {t1 t2 : TypeId} (h1 : Blk w' m t1 [a0, a1, a2]) (h2 : Blk w' n t2 [c0, c1, c2, c3, c4, c5, c6]) : Rz m n a0 a1 a2 c0 c1 c2 c3 c4 c5 c6 w' :=
  ⟨(h1.cell 0 _ rfl).1, (h1.cell 1 _ rfl).1, (h1.cell 2 _ rfl).1, (h2.cell 0 _ rfl).1, (h2.cell 1 _ rfl).1, (h2.cell 2 _ rfl).1, (h2.cell 3 _ rfl).1, (h2.cell 4 _ rfl).1, (h2.cell 5 _ rfl).1, (h2.cell 6 _ rfl).1⟩

set_option maxRecDepth 100000 in
set_option maxHeartbeats 6400000 in
theorem specTurn_go (B : Nat) (v : Value) (b : Bx) (sa sp da dp sq ak : Int) (d : ByteArray) (w : World) (hs : bxSz b) (hB : B ≤ w.heap.size) (ho : OwnBx w B v b) (hok : boxOkB b = true) (hd : d.size ≤ 2097152) (ta tp : Int) (has : Bool)
    (gS : segOkB ⟨sa, sp, da, dp, sq, ak, d.data.toList⟩ = true) (gI : insB sa sp = true) (gD : da = 50) (hE : endV (endI b.es dp) = .tuple #[.agg #[.int .i64 ta, .int .i64 tp], .bool has]) :
    Calls Tryz.prog 16 #[v, .agg #[.int .i64 sa, .int .i64 sp, .int .i64 da, .int .i64 dp, .int .i64 sq, .int .i64 ak, .string d]] w fun e w' => ∃ u, e = .returned (.tuple #[u, if has = false ∨ (putE b.es (sa, sp)).2 = 0 then .agg ⟨zeroSg⟩ else .agg #[.int .i64 50, .int .i64 (putE b.es (sa, sp)).2, .int .i64 ta, .int .i64 tp, .int .i64 sq, .int .i64 ak, .string d], .bool (decide (¬ (has = false ∨ (putE b.es (sa, sp)).2 = 0)))]) ∧ OwB w' w.heap.size u (if has = false then b else ⟨b.rs, (putE b.es (sa, sp)).1, b.cs⟩) ∧ Below w.heap.size w w' := by
  subst gD
  have HO : Hid (∀ w', Below w.heap.size w w' → Calls Tryz.prog 51 #[v] w' fun e w'' => e = .returned (.bool true) ∧ Below w'.heap.size w' w'') := fun w' h => by
    rw [← hok]
    exact specBoxOk_any B v b w' hs (Nat.le_trans hB h.size) (ho.later h)
  have HC : Hid (∀ w', Below w.heap.size w w' → Calls Tryz.prog 55 #[v] w' fun e w'' => ∃ u, e = .returned u ∧ OwB w'' w'.heap.size u b ∧ Below w'.heap.size w' w'') := fun w' h => specCopy7_any B v b w' hs (ho.later h)
  have hn : b.es.length ≤ 4194304 := by have := hs.2.1; omega
  have HS : Hid (∀ w', Calls Tryz.prog 52 #[.agg #[.int .i64 sa, .int .i64 sp, .int .i64 50, .int .i64 dp, .int .i64 sq, .int .i64 ak, .string d]] w' fun e w'' => e = .returned (.bool true) ∧ Below w'.heap.size w' w'') := fun w' => by rw [← gS]; exact specSegOk_any sa sp 50 dp sq ak d w' hd
  have HI : Hid (∀ w', Calls Tryz.prog 53 #[.agg #[.int .i64 sa, .int .i64 sp]] w' fun e w'' => e = .returned (.bool true) ∧ Below w'.heap.size w' w'') := fun w' => by rw [← gI]; exact specInside_any sa sp w'
  obtain ⟨us, hus⟩ : ∃ us, us = (putE b.es (sa, sp)).1 := ⟨_, rfl⟩
  obtain ⟨q, hq⟩ : ∃ q, q = (putE b.es (sa, sp)).2 := ⟨_, rfl⟩
  have hz : q = 0 → us = b.es := fun h => by rw [hus]; exact putE_zero (by rw [← hq]; exact h)
  rw [← hus, ← hq]
  obtain ⟨R, hR⟩ : ∃ R : Value, R = if has = false ∨ q = 0 then .agg ⟨zeroSg⟩ else .agg #[.int .i64 50, .int .i64 q, .int .i64 ta, .int .i64 tp, .int .i64 sq, .int .i64 ak, .string d] := ⟨_, rfl⟩
  obtain ⟨bb, hbb⟩ : ∃ bb : Bool, bb = decide (¬ (has = false ∨ q = 0)) := ⟨_, rfl⟩
  obtain ⟨ub, hub⟩ : ∃ ub : Bx, ub = if has = false then b else ⟨b.rs, us, b.cs⟩ := ⟨_, rfl⟩
  rw [← hR, ← hbb, ← hub]
  have HR := Lib.hid hR
  have HBB := Lib.hid hbb
  have HUB := Lib.hid hub
  clear hR hbb hub
  have HP : Hid (∀ B x c w', B ≤ w'.heap.size → OwnTab w' B (.slice (some x) b.es.length c) b.es → Calls Tryz.prog 57 #[.agg #[.slice (some x) b.es.length c], .agg #[.int .i64 sa, .int .i64 sp]] w' fun e w'' => ∃ g c', e = .returned (.tuple #[.agg #[.slice (some g) us.length c'], .int .i64 q]) ∧ OwnTab w'' B (.slice (some g) us.length c') us ∧ Below w'.heap.size w' w'') := fun B x c w' h1 h2 => by rw [hus, hq]; exact specPut_any B x c b.es sa sp w' hn h1 h2
  obtain ⟨g1, g2, c2, g3, rfl, o1, o2, o3⟩ := ho
  have HM : Hid (∀ w', Below w.heap.size w w' → Calls Tryz.prog 56 #[.agg #[.slice (some ⟨g2, 0, none⟩) b.es.length c2], .int .i64 dp] w' fun e w'' => e = .returned (.tuple #[.agg #[.int .i64 ta, .int .i64 tp], .bool has]) ∧ Below w'.heap.size w' w'') := fun w' h => by
    rw [← hE]
    exact specMapEnd_any _ b.es dp w' hn ((OwnTab.tab (B := B) o2).below h)
  have ZQ := Lib.hid hz
  clear o1 o2 o3 hok hs hB hd gS gI hE hus hq hz hn
  have QN := Lib.hid (Q4.new w [.slice (some ⟨g1, 0, none⟩) b.rs.length b.rs.length, .slice (some ⟨g2, 0, none⟩) b.es.length c2, .slice (some ⟨g3, 0, none⟩) b.cs.length b.cs.length] [.int .i64 sa, .int .i64 sp, .int .i64 50, .int .i64 dp, .int .i64 sq, .int .i64 ak, .string d] [.slice none 0 0, .slice none 0 0, .slice none 0 0] zeroSg)
  go_enter Tryz.func16, Tryz.ntmps16
  go_wp2_with (first
      | (go_at_call 51; refine (HO.out _ QN.out.1).mono ?_; rintro e w1 ⟨rfl, b1⟩; have QQ := Lib.hid (QN.out.call b1); obtain ⟨⟨p0, p1, p2⟩, -⟩ := three_all QQ.out.2.1; obtain ⟨s0, s1, s2, s3, s4, s5, s6⟩ := seven_all QQ.out.2.2.1; clear b1)
      | (go_at_call 52; refine (HS.out _).mono ?_; rintro e w5 ⟨rfl, b5⟩; have QQ := Lib.hid (QQ.out.call b5); clear b5 p0 p1 p2 s0 s1 s2 s3 s4 s5 s6; obtain ⟨⟨p0, p1, p2⟩, -⟩ := three_all QQ.out.2.1; obtain ⟨s0, s1, s2, s3, s4, s5, s6⟩ := seven_all QQ.out.2.2.1)
      | (go_at_call 53; refine (HI.out _).mono ?_; rintro e w6 ⟨rfl, b6⟩; have Q6 := Lib.hid (QQ.out.call b6); clear b6 p0 p1 p2 s0 s1 s2 s3 s4 s5 s6; obtain ⟨⟨p0, p1, p2⟩, -⟩ := three_all Q6.out.2.1; obtain ⟨s0, s1, s2, s3, s4, s5, s6⟩ := seven_all Q6.out.2.2.1))
  (go_at_call 55; refine (HC.out _ Q6.out.1).mono ?_; rintro e wC ⟨u, rfl, oU, bU⟩; obtain ⟨x1, d1, x2, d2, x3, d3, rfl, m1, m2, m3⟩ := oU)
  have ZZ := Lib.hid Q6.out.2.2.2.2.lt
  have ZC := Lib.hid bU.size
  have aC : Below wC.heap.size wC (wC.alloc (.cells #[.slice (some x1) b.rs.length d1, .slice (some x2) b.es.length d2, .slice (some x3) b.cs.length d3] 30)) := (Below.refl _ _).alloc (Nat.le_refl _) _
  have Q7 := Lib.hid ((Q6.out.call bU).call aC)
  have M1 := Lib.hid (own_later m1 aC)
  have M2 := Lib.hid (own_later (ends_own m2) aC)
  have M3 := Lib.hid (own_later m3 aC)
  have KX : Hid (Blk (wC.alloc (.cells #[.slice (some x1) b.rs.length d1, .slice (some x2) b.es.length d2, .slice (some x3) b.cs.length d3] 30)) wC.heap.size 30 [.slice (some x1) b.rs.length d1, .slice (some x2) b.es.length d2, .slice (some x3) b.cs.length d3]) := heap_last3 wC _
  clear m1 m2 m3 bU aC p0 p1 p2 s0 s1 s2 s3 s4 s5 s6
  obtain ⟨⟨p0, p1, p2⟩, -⟩ := three_all Q7.out.2.1
  obtain ⟨s0, s1, s2, s3, s4, s5, s6⟩ := seven_all Q7.out.2.2.1
  go_wp2_with fail
  (go_at_call 56; refine (HM.out _ Q7.out.1).mono ?_; rintro e wM ⟨rfl, bM⟩)
  have aM : Below wM.heap.size wM (wM.alloc (.cells #[.int .i64 ta, .int .i64 tp] 53)) := (Below.refl _ _).alloc (Nat.le_refl _) _
  have Q8 := Lib.hid ((Q7.out.call bM).call aM)
  have M18 := Lib.hid (own_later (own_later M1.out bM) aM)
  have M28 := Lib.hid (own_later (own_later M2.out bM) aM)
  have M38 := Lib.hid (own_later (own_later M3.out bM) aM)
  have KX8 := Lib.hid ((KX.out.below bM).below aM)
  have KE : Hid (Blk (wM.alloc (.cells #[.int .i64 ta, .int .i64 tp] 53)) wM.heap.size 53 [.int .i64 ta, .int .i64 tp]) := heap_last3 wM _
  have ZM : Hid (wC.heap.size < wM.heap.size) := by
    have := bM.size
    simp at this
    show _ < _
    omega
  clear bM aM p0 p1 p2 s0 s1 s2 s3 s4 s5 s6 Q7 M1 M2 M3 KX HM HC HO HS HI QN Q6 QQ
  obtain ⟨⟨x0', x1', x2'⟩, -⟩ := three_all KX8.out
  obtain ⟨s0, s1, s2, s3, s4, s5, s6⟩ := seven_all Q8.out.2.2.1
  go_wp2_with fail
  (go_at_call 57; refine (HP.out _ _ _ _ (by have := ZC.out; have := ZM.out; simp; omega) M28.out).mono ?_; rintro e wP ⟨gT, cT, rfl, oT, bP⟩)
  have aP : Below wP.heap.size wP (wP.alloc (.cells #[.slice (some gT) us.length cT] 27)) := (Below.refl _ _).alloc (Nat.le_refl _) _
  have Q9 := Lib.hid ((Q8.out.call bP).call aP)
  have M1 := Lib.hid (own_later (own_later M18.out bP) aP)
  have M2 := Lib.hid (own_later (own_later M28.out bP) aP)
  have M3 := Lib.hid (own_later (own_later M38.out bP) aP)
  have MT := Lib.hid (own_later oT aP)
  have KX := Lib.hid ((KX8.out.below bP).below aP)
  have KE9 := Lib.hid ((KE.out.below bP).below aP)
  have KT : Hid (Blk (wP.alloc (.cells #[.slice (some gT) us.length cT] 27)) wP.heap.size 27 [.slice (some gT) us.length cT]) := heap_last3 wP _
  have ZP : Hid (wM.heap.size < wP.heap.size) := by
    have := bP.size
    simp at this
    show _ < _
    omega
  obtain ⟨WT, hWT⟩ : ∃ W, W = wP.alloc (.cells #[.slice (some gT) us.length cT] 27) := ⟨_, rfl⟩
  rw [← hWT] at Q9 M1 M2 M3 MT KX KE9 KT
  clear bP aP oT M18 M28 M38 KX8 KE Q8 x0' x1' x2' s0 s1 s2 s3 s4 s5 s6 HP
  subst hWT
  obtain ⟨⟨p0, p1, p2⟩, g0, g1', g2'⟩ := three_all KX.out
  obtain ⟨⟨r0, r1, r2⟩, f0, f1, f2⟩ := three_all Q9.out.2.2.2.1
  obtain ⟨q0, q1, q2, q3, q4, q5, q6⟩ := seven_all (show Blk _ _ _ [.int .i64 0, .int .i64 0, .int .i64 0, .int .i64 0, .int .i64 0, .int .i64 0, .string ByteArray.empty] from Q9.out.2.2.2.2)
  obtain ⟨h0, h1, h2, h3, h4, h5, h6⟩ := seven_froz (show Blk _ _ _ [.int .i64 0, .int .i64 0, .int .i64 0, .int .i64 0, .int .i64 0, .int .i64 0, .string ByteArray.empty] from Q9.out.2.2.2.2)
  by_cases hst : has = false ∨ q = 0
  · have hR := HR.out
    have hbb := HBB.out
    have hub := HUB.out
    rw [if_pos hst] at hR
    rw [show decide (¬ (has = false ∨ q = 0)) = false from by simp [hst]] at hbb
    subst hR hbb
    clear HR HBB HUB
    have HB : Hid (OwB (wP.alloc (.cells #[.slice (some gT) us.length cT] 27)) w6.heap.size (.agg #[.slice (some x1) b.rs.length d1, .slice (some x2) b.es.length d2, .slice (some x3) b.cs.length d3]) ub) := by
      have e : ub = b := by
        rw [hub]
        split
        · rfl
        · rename_i hh
          rw [ZQ.out (hst.resolve_left hh)]
      rw [e]
      exact ⟨_, _, _, _, _, _, rfl, M1.out, own_ends M2.out, M3.out⟩
    have key : has = false ∨ (has = true ∧ q = 0) := by
      cases has
      · exact .inl rfl
      · exact .inr ⟨rfl, hst.resolve_left (by decide)⟩
    clear hst hub ZQ M1 M2 M3 MT KT KE9 KX
    rcases key with rfl | ⟨rfl, rfl⟩
    all_goals
      go_wp2_with fail
      obtain ⟨⟨y0, y1, y2⟩, -⟩ := three_all (put10_box Q9.out.2.2.2.1 (.slice (some x1) b.rs.length d1) (.slice (some x2) b.es.length d2) (.slice (some x3) b.cs.length d3) (.int .i64 0) (.int .i64 0) (.int .i64 0) (.int .i64 0) (.int .i64 0) (.int .i64 0) (.string ByteArray.empty))
      obtain ⟨z0, z1, z2, z3, z4, z5, z6⟩ := seven_all (put10_seg (show Blk _ _ _ [.int .i64 0, .int .i64 0, .int .i64 0, .int .i64 0, .int .i64 0, .int .i64 0, .string ByteArray.empty] from Q9.out.2.2.2.2) (.slice (some x1) b.rs.length d1) (.slice (some x2) b.es.length d2) (.slice (some x3) b.cs.length d3) (.int .i64 0) (.int .i64 0) (.int .i64 0) (.int .i64 0) (.int .i64 0) (.int .i64 0) (.string ByteArray.empty))
      have hB := put10_below Q9.out.1 (Nat.le_refl _) (.slice (some x1) b.rs.length d1) (.slice (some x2) b.es.length d2) (.slice (some x3) b.cs.length d3) (.int .i64 0) (.int .i64 0) (.int .i64 0) (.int .i64 0) (.int .i64 0) (.int .i64 0) (.string ByteArray.empty)
      have hO := put10_own HB.out ZZ.out (.slice (some x1) b.rs.length d1) (.slice (some x2) b.es.length d2) (.slice (some x3) b.cs.length d3) (.int .i64 0) (.int .i64 0) (.int .i64 0) (.int .i64 0) (.int .i64 0) (.int .i64 0) (.string ByteArray.empty)
      have hK : ByteArray.empty = { data := #[] } := rfl
      rw [hK] at y0 y1 y2 z0 z1 z2 z3 z4 z5 z6 hB hO
      obtain ⟨W, hW⟩ : ∃ W, W = put10 (wP.alloc (.cells #[.slice (some gT) us.length cT] 27)) w.heap.size (.slice (some x1) b.rs.length d1) (.slice (some x2) b.es.length d2) (.slice (some x3) b.cs.length d3) (.int .i64 0) (.int .i64 0) (.int .i64 0) (.int .i64 0) (.int .i64 0) (.int .i64 0) (.string { data := #[] }) := ⟨_, rfl⟩
      rw [← hW] at y0 y1 y2 z0 z1 z2 z3 z4 z5 z6 hB hO
      unfold put10 at hW
      rw [← hW]
      have HZ := ZZ.out
      refine bodyPost_ret (v := .tuple #[.agg #[.slice (some x1) b.rs.length d1, .slice (some x2) b.es.length d2, .slice (some x3) b.cs.length d3], .agg ⟨zeroSg⟩, .bool false]) (by simp [results, Tryz.results16, go_sem, zeroSg, hK, y0, y1, y2, z0, z1, z2, z3, z4, z5, z6]) rfl ⟨_, rfl, hO.base (by omega), hB⟩
  · have hR := HR.out
    have hbb := HBB.out
    have hub := HUB.out
    rw [if_neg hst] at hR
    rw [show decide (¬ (has = false ∨ q = 0)) = true from by simp [hst]] at hbb
    obtain ⟨hh, h0q⟩ : has = true ∧ ¬ q = 0 := by
      cases has
      · exact absurd (.inl rfl) hst
      · exact ⟨rfl, fun h => hst (.inr h)⟩
    subst hh
    have hqf : (q == 0) = false := by simpa using h0q
    rw [if_neg (by decide)] at hub
    subst hR hbb hub
    clear HR HBB HUB hst ZQ M2
    obtain ⟨s0, s1, s2, s3, s4, s5, s6⟩ := seven_all Q9.out.2.2.1
    obtain ⟨j0, j1, j2, j3, j4, j5, j6⟩ := seven_froz Q9.out.2.2.1
    have k0 : (wP.alloc (.cells #[.slice (some gT) us.length cT] 27)).cell? ⟨wP.heap.size, 0, none⟩ = some (.slice (some gT) us.length cT) := (KT.out.cell 0 _ rfl).1
    have zn : w.heap.size + 1 ≠ wM.heap.size := by have := ZZ.out; have := ZC.out; have := ZM.out; omega
    have zx : wC.heap.size ≠ wM.heap.size := by have := ZM.out; omega
    have zs : wC.heap.size ≠ w.heap.size + 1 := by have := ZZ.out; have := ZC.out; omega
    have zl : w.heap.size + 1 + 1 + 1 < wC.heap.size := by have := ZZ.out; have := ZC.out; omega
    have E2 := Lib.hid (((KE9.out.far (a := ⟨wC.heap.size, 1, none⟩) zx (.slice (some gT) us.length cT)).far (a := ⟨w.heap.size + 1, 0, none⟩) zn (.int .i64 50)).far (a := ⟨w.heap.size + 1, 1, none⟩) zn (.int .i64 q))
    have t0 := (E2.out.cell 0 _ rfl).1
    have t1 := (E2.out.cell 1 _ rfl).1
    have Q12 := Lib.hid ((Q9.out.far (a := ⟨wC.heap.size, 1, none⟩) zl (.slice (some gT) us.length cT)).seg (.int .i64 50) (.int .i64 q) (.int .i64 ta) (.int .i64 tp))
    have KX12 := Lib.hid (((((KX.out.set 1 (.slice (some gT) us.length cT)).far (a := ⟨w.heap.size + 1, 0, none⟩) zs.symm (.int .i64 50)).far (a := ⟨w.heap.size + 1, 1, none⟩) zs.symm (.int .i64 q)).far (a := ⟨w.heap.size + 1, 2, none⟩) zs.symm (.int .i64 ta)).far (a := ⟨w.heap.size + 1, 3, none⟩) zs.symm (.int .i64 tp))
    have OU1 : OwB ((wP.alloc (.cells #[.slice (some gT) us.length cT] 27)).setCell ⟨wC.heap.size, 1, none⟩ (.slice (some gT) us.length cT)) w6.heap.size (.agg #[.slice (some x1) b.rs.length d1, .slice (some gT) us.length cT, .slice (some x3) b.cs.length d3]) ⟨b.rs, us, b.cs⟩ :=
      ⟨_, _, _, _, _, _, rfl, own_setT M1.out KX.out (by decide) _ _, own_ends (own_setT MT.out KX.out (by decide) _ _), own_setT M3.out KX.out (by decide) _ _⟩
    have hs1 : w.heap.size + 1 < w6.heap.size := by have := ZZ.out; omega
    have OU12 := Lib.hid ((((OU1.setCell (a := ⟨w.heap.size + 1, 0, none⟩) hs1 (.int .i64 50)).setCell (a := ⟨w.heap.size + 1, 1, none⟩) hs1 (.int .i64 q)).setCell (a := ⟨w.heap.size + 1, 2, none⟩) hs1 (.int .i64 ta)).setCell (a := ⟨w.heap.size + 1, 3, none⟩) hs1 (.int .i64 tp))
    clear OU1 r0 r1 r2 f0 f1 f2 q0 q1 q2 q3 q4 q5 q6 h0 h1 h2 h3 h4 h5 h6 zn zx hs1 M1 M3 MT KX KE9 KT
    obtain ⟨⟨r0, r1, r2⟩, f0, f1, f2⟩ := three_all Q12.out.2.2.2.1
    obtain ⟨q0, q1, q2, q3, q4, q5, q6⟩ := seven_all (show Blk _ _ _ [.int .i64 0, .int .i64 0, .int .i64 0, .int .i64 0, .int .i64 0, .int .i64 0, .string ByteArray.empty] from Q12.out.2.2.2.2)
    obtain ⟨h0, h1, h2, h3, h4, h5, h6⟩ := seven_froz (show Blk _ _ _ [.int .i64 0, .int .i64 0, .int .i64 0, .int .i64 0, .int .i64 0, .int .i64 0, .string ByteArray.empty] from Q12.out.2.2.2.2)
    go_wp2_with fail
    obtain ⟨w12, hw12⟩ : ∃ w12, w12 = (((((wP.alloc (.cells #[.slice (some gT) us.length cT] 27)).setCell ⟨wC.heap.size, 1, none⟩ (.slice (some gT) us.length cT)).setCell ⟨w.heap.size + 1, 0, none⟩ (.int .i64 50)).setCell ⟨w.heap.size + 1, 1, none⟩ (.int .i64 q)).setCell ⟨w.heap.size + 1, 2, none⟩ (.int .i64 ta)).setCell ⟨w.heap.size + 1, 3, none⟩ (.int .i64 tp) := ⟨_, rfl⟩
    rw [← hw12] at Q12 OU12 KX12 r0 r1 r2 f0 f1 f2 q0 q1 q2 q3 q4 q5 q6 h0 h1 h2 h3 h4 h5 h6
    rw [← hw12]
    clear hw12 s0 s1 s2 s3 s4 s5 s6 t0 t1 j0 j1 j2 j3 j4 j5 j6 Q9 p0 p1 p2 g0 g1' g2' k0 E2
    have BR : Hid (Rz wC.heap.size (w.heap.size + 1) (.slice (some x1) b.rs.length d1) (.slice (some gT) us.length cT) (.slice (some x3) b.cs.length d3) (.int .i64 50) (.int .i64 q) (.int .i64 ta) (.int .i64 tp) (.int .i64 sq) (.int .i64 ak) (.string d) w12) := Rz.of KX12.out Q12.out.2.2.1
    clear KX12
    go_region_held3 (fun w' => w'.cell? ⟨wC.heap.size, 0, none⟩ = some (.slice (some x1) b.rs.length d1) ∧ w'.cell? ⟨wC.heap.size, 1, none⟩ = some (.slice (some gT) us.length cT) ∧ w'.cell? ⟨wC.heap.size, 2, none⟩ = some (.slice (some x3) b.cs.length d3) ∧ w'.cell? ⟨w.heap.size + 1, 0, none⟩ = some (.int .i64 50) ∧ w'.cell? ⟨w.heap.size + 1, 1, none⟩ = some (.int .i64 q) ∧ w'.cell? ⟨w.heap.size + 1, 2, none⟩ = some (.int .i64 ta) ∧ w'.cell? ⟨w.heap.size + 1, 3, none⟩ = some (.int .i64 tp) ∧ w'.cell? ⟨w.heap.size + 1, 4, none⟩ = some (.int .i64 sq) ∧ w'.cell? ⟨w.heap.size + 1, 5, none⟩ = some (.int .i64 ak) ∧ w'.cell? ⟨w.heap.size + 1, 6, none⟩ = some (.string d))
      (first
        | (show Rz wC.heap.size (w.heap.size + 1) (.slice (some x1) b.rs.length d1) (.slice (some gT) us.length cT) (.slice (some x3) b.cs.length d3) (.int .i64 50) (.int .i64 q) (.int .i64 ta) (.int .i64 tp) (.int .i64 sq) (.int .i64 ak) (.string d) _; repeat (first | with_reducible exact BR.out | with_reducible refine Rz.drew ?_ | with_reducible refine Rz.set ?_ (by omega) (by omega) _ _))
        | (trace_state; fail))
      (fail)
    all_goals
      go_wp2_with fail
      have e1 := put10_box Q12.out.2.2.2.1 (.slice (some x1) b.rs.length d1) (.slice (some gT) us.length cT) (.slice (some x3) b.cs.length d3) (.int .i64 50) (.int .i64 q) (.int .i64 ta) (.int .i64 tp) (.int .i64 sq) (.int .i64 ak) (.string d)
      have e2 := put10_seg (show Blk _ _ _ [.int .i64 0, .int .i64 0, .int .i64 0, .int .i64 0, .int .i64 0, .int .i64 0, .string ByteArray.empty] from Q12.out.2.2.2.2) (.slice (some x1) b.rs.length d1) (.slice (some gT) us.length cT) (.slice (some x3) b.cs.length d3) (.int .i64 50) (.int .i64 q) (.int .i64 ta) (.int .i64 tp) (.int .i64 sq) (.int .i64 ak) (.string d)
      have hB := (put10_below Q12.out.1 (Nat.le_refl _) (.slice (some x1) b.rs.length d1) (.slice (some gT) us.length cT) (.slice (some x3) b.cs.length d3) (.int .i64 50) (.int .i64 q) (.int .i64 ta) (.int .i64 tp) (.int .i64 sq) (.int .i64 ak) (.string d)).drew
      have hO := put10_own OU12.out ZZ.out (.slice (some x1) b.rs.length d1) (.slice (some gT) us.length cT) (.slice (some x3) b.cs.length d3) (.int .i64 50) (.int .i64 q) (.int .i64 ta) (.int .i64 tp) (.int .i64 sq) (.int .i64 ak) (.string d)
      obtain ⟨W, hW⟩ : ∃ W, W = put10 w12 w.heap.size (.slice (some x1) b.rs.length d1) (.slice (some gT) us.length cT) (.slice (some x3) b.cs.length d3) (.int .i64 50) (.int .i64 q) (.int .i64 ta) (.int .i64 tp) (.int .i64 sq) (.int .i64 ak) (.string d) := ⟨_, rfl⟩
      rw [← hW] at e1 e2 hB hO
      unfold put10 at hW
      rw [← hW]
      clear hW
      obtain ⟨⟨y0, y1, y2⟩, -⟩ := three_all (show Blk W.drew _ _ _ from e1)
      obtain ⟨z0, z1, z2, z3, z4, z5, z6⟩ := seven_all (show Blk W.drew _ _ _ from e2)
      have hO2 : OwB W.drew w6.heap.size (.agg #[.slice (some x1) b.rs.length d1, .slice (some gT) us.length cT, .slice (some x3) b.cs.length d3]) ⟨b.rs, us, b.cs⟩ := OwB.later hO (Below.refl _ _).drew
      have HZ := ZZ.out
      refine bodyPost_ret (v := .tuple #[.agg #[.slice (some x1) b.rs.length d1, .slice (some gT) us.length cT, .slice (some x3) b.cs.length d3], .agg #[.int .i64 50, .int .i64 q, .int .i64 ta, .int .i64 tp, .int .i64 sq, .int .i64 ak, .string d], .bool true]) (by simp [results, Tryz.results16, go_sem, y0, y1, y2, z0, z1, z2, z3, z4, z5, z6]) rfl ⟨_, rfl, hO2.base (by omega), hB⟩

end Go.Proofs.YtglpijjkihpeeaaGreatDoor

/- What BoxTurn answers, of both sides in one form. Conditions: at most 2^20 rules, ends and streams each; a segment of at most 2^21 bytes; all numbers are ints. -/
namespace Go.Proofs.YtglpijjkihpeeaaGreatDoor
open Go.RowKit Go.Sort

theorem seg_box {sa sp da dp sq ak : Int} {d : List UInt8} (h : segOkB ⟨sa, sp, da, dp, sq, ak, d⟩ = true) (hd : da = 50) : boxB da dp = true := by
  subst hd
  unfold segOkB at h
  simp only [Bool.and_eq_true] at h
  have h1 := h.1.1.1.2
  unfold endB at h1
  have e1 : insB 50 dp = false := by simp [insB, inB]
  have e2 : outB 50 dp = false := by simp [outB, inB]
  rw [e1, e2] at h1
  simpa using h1
theorem box_fifty {da dp : Int} (h : boxB da dp = true) : da = 50 := by
  unfold boxB at h
  simp only [Bool.and_eq_true, decide_eq_true_eq] at h
  exact h.1
theorem FrBx.zero (w : World) (B : Nat) : FrBx w B (.agg #[.slice none 0 0, .slice none 0 0, .slice none 0 0]) ⟨[], [], []⟩ :=
  ⟨_, _, _, rfl, FrL.nil _ _ _ _ (fun _ => rfl), FrL.nil _ _ _ _ (fun _ => rfl), FrL.nil _ _ _ _ (fun _ => rfl)⟩
theorem putE_len (es : List (Int × Int)) (e : Int × Int) : (putE es e).1.length ≤ es.length + 1 := by
  unfold putE
  split
  · simp
  · split <;> simp

/-- The three parts of an answer: a box, a segment, and whether one goes. -/
def TurnR (w : World) (ub : Bx) (a0 a1 a2 a3 a4 a5 : Int) (s : ByteArray) (bb : Bool) (e : Ending) (w' : World) : Prop :=
  ∃ u, e = .returned (.tuple #[u, .agg #[.int .i64 a0, .int .i64 a1, .int .i64 a2, .int .i64 a3, .int .i64 a4, .int .i64 a5, .string s], .bool bb]) ∧ FrBx w' w.heap.size u ub ∧ Below w.heap.size w w'

set_option maxHeartbeats 1600000 in
theorem turn_both (b : Bx) (sa sp da dp sq ak : Int) (d : ByteArray) (hs : bxSz b) (hwf : wfE b.es) (hcw : cnWf b.cs) (hd : d.size ≤ 2097152) (wd : (Lit.int .i64 dp).wf = true) :
    ∃ (ub : Bx) (a0 a1 a2 a3 a4 a5 : Int) (s : ByteArray) (bb : Bool), (ub.rs.length ≤ 1048577 ∧ ub.es.length ≤ 1048577 ∧ ub.cs.length ≤ 1048577) ∧
      (∀ B v w, B ≤ w.heap.size → OwnBx w B v b → Calls Tryz.prog 16 #[v, .agg #[.int .i64 sa, .int .i64 sp, .int .i64 da, .int .i64 dp, .int .i64 sq, .int .i64 ak, .string d]] w (TurnR w ub a0 a1 a2 a3 a4 a5 s bb)) ∧
      (∀ B v w, OwnBx w B v b → VarsOk w → TabOk w → Calls Tryz.prog 19 #[v, .agg #[.int .i64 sa, .int .i64 sp, .int .i64 da, .int .i64 dp, .int .i64 sq, .int .i64 ak, .string d]] w (TurnR w ub a0 a1 a2 a3 a4 a5 s bb)) := by
  have hr := hs.1
  have he := hs.2.1
  have hc := hs.2.2.1
  cases hok : boxOkB b
  · refine ⟨⟨[], [], []⟩, 0, 0, 0, 0, 0, 0, ByteArray.empty, false, by simp, fun B v w hB ho => ?_, fun B v w ho hv ht => ?_⟩
    · refine (specTurn_not B v b sa sp da dp sq ak d w hs hB ho hok).mono ?_
      rintro e w' ⟨rfl, hb⟩
      exact ⟨_, rfl, FrBx.zero _ _, hb⟩
    · refine (implTurn_not B v b sa sp da dp sq ak d w hs hwf hcw ho hv ht hok).mono ?_
      rintro e w' ⟨rfl, hb⟩
      exact ⟨_, rfl, FrBx.zero _ _, hb⟩
  · cases hg : (segOkB ⟨sa, sp, da, dp, sq, ak, d.data.toList⟩ && insB sa sp && boxB da dp && (endI b.es dp).isSome)
    · refine ⟨b, 0, 0, 0, 0, 0, 0, ByteArray.empty, false, by omega, fun B v w hB ho => ?_, fun B v w ho hv ht => ?_⟩
      · cases hg2 : (segOkB ⟨sa, sp, da, dp, sq, ak, d.data.toList⟩ && insB sa sp && decide (da = 50))
        · refine (specTurn_stay B v b sa sp da dp sq ak d w hs hB ho hok hd hg2).mono ?_
          rintro e w' ⟨u, rfl, hu, hb⟩
          exact ⟨_, rfl, hu.fr, hb⟩
        · simp only [Bool.and_eq_true, decide_eq_true_eq] at hg2
          obtain ⟨⟨gS, gI⟩, gD⟩ := hg2
          have gB := seg_box gS gD
          rw [gS, gI, gB] at hg
          have hE : endV (endI b.es dp) = .tuple #[.agg #[.int .i64 0, .int .i64 0], .bool false] := by
            cases hx : endI b.es dp with
            | none => rfl
            | some y => rw [hx] at hg; simp at hg
          refine (specTurn_go B v b sa sp da dp sq ak d w hs hB ho hok hd 0 0 false gS gI gD hE).mono ?_
          rintro e w' ⟨u, rfl, hu, hb⟩
          exact ⟨u, by simp [zeroSg], by simpa using hu.fr, hb⟩
      · refine (implTurn_no B v b sa sp da dp sq ak d w hs hcw ho hv ht hok hd wd hwf hg).mono ?_
        rintro e w' ⟨u, rfl, hu, hb⟩
        exact ⟨_, rfl, hu.fr, hb⟩
    · simp only [Bool.and_eq_true] at hg
      obtain ⟨⟨⟨gS, gI⟩, gB⟩, gE⟩ := hg
      obtain ⟨⟨ta, tp⟩, hE⟩ := Option.isSome_iff_exists.1 gE
      have gD := box_fifty gB
      have hgo : (segOkB ⟨sa, sp, da, dp, sq, ak, d.data.toList⟩ && insB sa sp && boxB da dp) = true := by rw [gS, gI, gB]; rfl
      have hE2 : endV (endI b.es dp) = .tuple #[.agg #[.int .i64 ta, .int .i64 tp], .bool true] := by rw [hE]; rfl
      have hp := putE_len b.es (sa, sp)
      by_cases h0 : (putE b.es (sa, sp)).2 = 0
      · refine ⟨⟨b.rs, (putE b.es (sa, sp)).1, b.cs⟩, 0, 0, 0, 0, 0, 0, ByteArray.empty, false, ⟨by show b.rs.length ≤ _; omega, by show (putE b.es (sa, sp)).1.length ≤ _; omega, by show b.cs.length ≤ _; omega⟩, fun B v w hB ho => ?_, fun B v w ho hv ht => ?_⟩
        · refine (specTurn_go B v b sa sp da dp sq ak d w hs hB ho hok hd ta tp true gS gI gD hE2).mono ?_
          rintro e w' ⟨u, rfl, hu, hb⟩
          exact ⟨u, by simp [zeroSg, h0], by simpa using hu.fr, hb⟩
        · refine (implTurn_yes B v b sa sp da dp sq ak d w hs hcw ho hv ht hok hd wd hwf ta tp hgo hE).mono ?_
          rintro e w' ⟨u, rfl, hu, hb⟩
          exact ⟨u, by simp [zeroSg, h0], hu.fr, hb⟩
      · refine ⟨⟨b.rs, (putE b.es (sa, sp)).1, b.cs⟩, 50, (putE b.es (sa, sp)).2, ta, tp, sq, ak, d, true, ⟨by show b.rs.length ≤ _; omega, by show (putE b.es (sa, sp)).1.length ≤ _; omega, by show b.cs.length ≤ _; omega⟩, fun B v w hB ho => ?_, fun B v w ho hv ht => ?_⟩
        · refine (specTurn_go B v b sa sp da dp sq ak d w hs hB ho hok hd ta tp true gS gI gD hE2).mono ?_
          rintro e w' ⟨u, rfl, hu, hb⟩
          exact ⟨u, by simp [h0], by simpa using hu.fr, hb⟩
        · refine (implTurn_yes B v b sa sp da dp sq ak d w hs hcw ho hv ht hok hd wd hwf ta tp hgo hE).mono ?_
          rintro e w' ⟨u, rfl, hu, hb⟩
          exact ⟨u, by simp [h0], hu.fr, hb⟩

end Go.Proofs.YtglpijjkihpeeaaGreatDoor

/- What the law of BoxTurn wants of memory: variables that are made in any order, and stay. No condition. -/
namespace Go.Proofs.YtglpijjkihpeeaaGreatDoor
open Go.RowKit Go.Sort

theorem own_keepU {w w' : World} {B U k n : Nat} {t : TypeId} {v : Value} {l : List Value} (h : w.ownsRow B t k v n l) (hU : ∀ k, U ≤ k → k < w.heap.size → w'.heap[k]? = w.heap[k]?) (hB : U ≤ B) : w'.ownsRow B t k v n l := by
  refine ⟨h.1, ?_⟩
  rcases h.2 with h2 | ⟨g, cap, cur, hv, hb, hgg, h2⟩
  · exact Or.inl h2
  · exact Or.inr ⟨g, cap, cur, hv, hb, (hU g (Nat.le_trans hB hb) (Array.getElem?_eq_some_iff.1 hgg).1).trans hgg, h2⟩
theorem FrL.keepU {α : Type} {t : TypeId} {k : Nat} {c : α → List Value} {w w' : World} {B U : Nat} {v : Value} {xs : List α} (h : FrL t k c w B v xs) (hU : ∀ k, U ≤ k → k < w.heap.size → w'.heap[k]? = w.heap[k]?) (hB : U ≤ B) : FrL t k c w' B v xs := h.elim Or.inl fun h => Or.inr (own_keepU h hU hB)
/-- What lies above a block, and stays, is still nobody else's. -/
theorem FrBx.keepU {w w' : World} {B U : Nat} {v : Value} {b : Bx} (h : FrBx w B v b) (hU : ∀ k, U ≤ k → k < w.heap.size → w'.heap[k]? = w.heap[k]?) (hB : U ≤ B) : FrBx w' B v b := by
  obtain ⟨r, t, c, rfl, h1, h2, h3⟩ := h
  exact ⟨r, t, c, rfl, FrL.keepU h1 hU hB, FrL.keepU h2 hU hB, FrL.keepU h3 hU hB⟩
theorem Blk.keepU {w w' : World} {g U : Nat} {t : TypeId} {l : List Value} (h : Blk w g t l) (hU : ∀ k, U ≤ k → k < w.heap.size → w'.heap[k]? = w.heap[k]?) (hg : U ≤ g) : Blk w' g t l := (hU g hg h.lt).trans h
theorem FrL.setT {α : Type} {t tR : TypeId} {k R : Nat} {c : α → List Value} {w : World} {B : Nat} {v : Value} {xs : List α} {l : List Value} (h : FrL t k c w B v xs) (hR : Blk w R tR l) (hne : tR ≠ t) (o : Nat) (u : Value) : FrL t k c (w.setCell ⟨R, o, none⟩ u) B v xs := h.elim Or.inl fun h => Or.inr (own_setT h hR hne o u)
theorem FrBx.setT {w : World} {B R : Nat} {tR : TypeId} {v : Value} {b : Bx} {l : List Value} (h : FrBx w B v b) (hR : Blk w R tR l) (h1 : tR ≠ 35) (h2 : tR ≠ 53) (h3 : tR ≠ 87) (o : Nat) (u : Value) : FrBx (w.setCell ⟨R, o, none⟩ u) B v b := by
  obtain ⟨r, t, c, rfl, x1, x2, x3⟩ := h
  exact ⟨r, t, c, rfl, FrL.setT x1 hR h1 o u, FrL.setT x2 hR h2 o u, FrL.setT x3 hR h3 o u⟩
theorem Blk.newL (w : World) (l : List Value) (t : TypeId) : Blk (w.alloc (.cells ⟨l⟩ t)) w.heap.size t l := heap_last3 w _
theorem Blk.newL1 (w : World) (o : Obj) (l : List Value) (t : TypeId) : Blk ((w.alloc o).alloc (.cells ⟨l⟩ t)) (w.heap.size + 1) t l := by
  have := Blk.newL (w.alloc o) l t
  simpa using this
theorem Blk.later' {w w' : World} {g : Nat} {t : TypeId} {l : List Value} (hb : Below w.heap.size w w') (h : Blk w g t l) : Blk w' g t l := h.below hb
theorem Ups.alloc {w w' : World} (h : Below w.heap.size w w') (o : Obj) : Below w.heap.size w (w'.alloc o) := h.alloc h.size _
theorem Ups.drew {w w' : World} (h : Below w.heap.size w w') : Below w.heap.size w w'.drew := h.drew

/-- Three stores into one variable, and seven into another. -/
def put37 (w : World) (b6 b7 : Nat) (u0 u1 u2 t0 t1 t2 t3 t4 t5 t6 : Value) : World :=
  (((((((((((w.setCell ⟨b6, 0, none⟩ u0).setCell ⟨b6, 1, none⟩ u1).setCell ⟨b6, 2, none⟩ u2).setCell ⟨b7, 0, none⟩ t0).setCell ⟨b7, 1, none⟩ t1).setCell ⟨b7, 2, none⟩ t2).setCell ⟨b7, 3, none⟩ t3).setCell ⟨b7, 4, none⟩ t4).setCell ⟨b7, 5, none⟩ t5).setCell ⟨b7, 6, none⟩ t6))
theorem put37_all {w ws : World} {B b6 b7 : Nat} {u0 u1 u2 t0 t1 t2 t3 t4 t5 t6 x0 x1 x2 z0 z1 z2 z3 z4 z5 z6 : Value} {ub : Bx} (h6 : Blk w b6 30 [x0, x1, x2]) (h7 : Blk w b7 55 [z0, z1, z2, z3, z4, z5, z6]) (hf : FrBx w B (.agg #[u0, u1, u2]) ub) (hb : Below ws.heap.size ws w) (l6 : ws.heap.size ≤ b6) (l7 : ws.heap.size ≤ b7) :
    Blk (put37 w b6 b7 u0 u1 u2 t0 t1 t2 t3 t4 t5 t6) b6 30 [u0, u1, u2] ∧ Blk (put37 w b6 b7 u0 u1 u2 t0 t1 t2 t3 t4 t5 t6) b7 55 [t0, t1, t2, t3, t4, t5, t6] ∧ FrBx (put37 w b6 b7 u0 u1 u2 t0 t1 t2 t3 t4 t5 t6) B (.agg #[u0, u1, u2]) ub ∧ Below ws.heap.size ws (put37 w b6 b7 u0 u1 u2 t0 t1 t2 t3 t4 t5 t6) := by
  have hne : b6 ≠ b7 := by
    rintro rfl
    unfold Blk at h6 h7
    rw [h6] at h7
    simp at h7
  have e6 := three_set h6 u0 u1 u2
  have e7 := ((h7.far (a := ⟨b6, 0, none⟩) hne u0).far (a := ⟨b6, 1, none⟩) hne u1).far (a := ⟨b6, 2, none⟩) hne u2
  have f1 := FrBx.setT hf h6 (by decide) (by decide) (by decide) 0 u0
  have f2 := FrBx.setT f1 (h6.set 0 u0) (by decide) (by decide) (by decide) 1 u1
  have f3 := FrBx.setT f2 ((h6.set 0 u0).set 1 u1) (by decide) (by decide) (by decide) 2 u2
  have g1 := FrBx.setT f3 e7 (by decide) (by decide) (by decide) 0 t0
  have g2 := FrBx.setT g1 (e7.set 0 t0) (by decide) (by decide) (by decide) 1 t1
  have g3 := FrBx.setT g2 ((e7.set 0 t0).set 1 t1) (by decide) (by decide) (by decide) 2 t2
  have g4 := FrBx.setT g3 (((e7.set 0 t0).set 1 t1).set 2 t2) (by decide) (by decide) (by decide) 3 t3
  have g5 := FrBx.setT g4 ((((e7.set 0 t0).set 1 t1).set 2 t2).set 3 t3) (by decide) (by decide) (by decide) 4 t4
  have g6 := FrBx.setT g5 (((((e7.set 0 t0).set 1 t1).set 2 t2).set 3 t3).set 4 t4) (by decide) (by decide) (by decide) 5 t5
  have g7 := FrBx.setT g6 ((((((e7.set 0 t0).set 1 t1).set 2 t2).set 3 t3).set 4 t4).set 5 t5) (by decide) (by decide) (by decide) 6 t6
  refine ⟨?_, seven_put e7 t0 t1 t2 t3 t4 t5 t6, g7, (((((((((hb.setCell l6 _).setCell l6 _).setCell l6 _).setCell l7 _).setCell l7 _).setCell l7 _).setCell l7 _).setCell l7 _).setCell l7 _).setCell l7 _⟩
  have hne' := hne.symm
  exact (((((((e6.far (a := ⟨b7, 0, none⟩) hne' t0).far (a := ⟨b7, 1, none⟩) hne' t1).far (a := ⟨b7, 2, none⟩) hne' t2).far (a := ⟨b7, 3, none⟩) hne' t3).far (a := ⟨b7, 4, none⟩) hne' t4).far (a := ⟨b7, 5, none⟩) hne' t5).far (a := ⟨b7, 6, none⟩) hne' t6)

/-- A variable that was made since. -/
def Mk (W w : World) (b : Nat) (t : TypeId) (l : List Value) : Prop := W.heap.size ≤ b ∧ Blk w b t l
theorem Mk.ge {W w : World} {b : Nat} {t : TypeId} {l : List Value} (h : Mk W w b t l) : W.heap.size ≤ b := h.1
theorem Mk.later' {W w w' : World} {b : Nat} {t : TypeId} {l : List Value} (hb : Below w.heap.size w w') (h : Mk W w b t l) : Mk W w' b t l := ⟨h.1, h.2.below hb⟩
theorem Mk.alloc {W w : World} {b : Nat} {t : TypeId} {l : List Value} (h : Mk W w b t l) (o : Obj) : Mk W (w.alloc o) b t l := ⟨h.1, h.2.below ((Below.refl _ _).alloc (Nat.le_refl _) _)⟩
theorem Mk.newL {W w : World} (z : W.heap.size ≤ w.heap.size) (l : List Value) (t : TypeId) : Mk W (w.alloc (.cells ⟨l⟩ t)) w.heap.size t l := ⟨z, Blk.newL w l t⟩
theorem Mk.newL1 {W w : World} (z : W.heap.size ≤ w.heap.size) (o : Obj) (l : List Value) (t : TypeId) : Mk W ((w.alloc o).alloc (.cells ⟨l⟩ t)) (w.heap.size + 1) t l := ⟨by omega, Blk.newL1 w o l t⟩
theorem Mk.three {W X : World} {b : Nat} {t : TypeId} {x0 x1 x2 : Value} (h : Mk W X b t [x0, x1, x2]) : (X.cell? ⟨b, 0, none⟩ = some x0 ∧ X.cell? ⟨b, 1, none⟩ = some x1 ∧ X.cell? ⟨b, 2, none⟩ = some x2) ∧ (X.frozen? ⟨b, 0, none⟩ = false ∧ X.frozen? ⟨b, 1, none⟩ = false ∧ X.frozen? ⟨b, 2, none⟩ = false) := three_all h.2
theorem Mk.seven {W X : World} {b7 : Nat} {t : TypeId} {z0 z1 z2 z3 z4 z5 z6 : Value} (h : Mk W X b7 t [z0, z1, z2, z3, z4, z5, z6]) :
    (X.cell? ⟨b7, 0, none⟩ = some z0 ∧ X.cell? ⟨b7, 1, none⟩ = some z1 ∧ X.cell? ⟨b7, 2, none⟩ = some z2 ∧ X.cell? ⟨b7, 3, none⟩ = some z3 ∧ X.cell? ⟨b7, 4, none⟩ = some z4 ∧ X.cell? ⟨b7, 5, none⟩ = some z5 ∧ X.cell? ⟨b7, 6, none⟩ = some z6) ∧ (X.frozen? ⟨b7, 0, none⟩ = false ∧ X.frozen? ⟨b7, 1, none⟩ = false ∧ X.frozen? ⟨b7, 2, none⟩ = false ∧ X.frozen? ⟨b7, 3, none⟩ = false ∧ X.frozen? ⟨b7, 4, none⟩ = false ∧ X.frozen? ⟨b7, 5, none⟩ = false ∧ X.frozen? ⟨b7, 6, none⟩ = false) := ⟨seven_all h.2, seven_froz h.2⟩
/-- What the second store finds behind the first one. -/
theorem Mk.behind {W X : World} {b6 b7 : Nat} {x0 x1 x2 z0 z1 z2 z3 z4 z5 z6 : Value} (h6 : Mk W X b6 30 [x0, x1, x2]) (h7 : Mk W X b7 55 [z0, z1, z2, z3, z4, z5, z6]) (u0 u1 u2 : Value) :
    ((((X.setCell ⟨b6, 0, none⟩ u0).setCell ⟨b6, 1, none⟩ u1).setCell ⟨b6, 2, none⟩ u2).cell? ⟨b7, 0, none⟩ = some z0 ∧ (((X.setCell ⟨b6, 0, none⟩ u0).setCell ⟨b6, 1, none⟩ u1).setCell ⟨b6, 2, none⟩ u2).cell? ⟨b7, 1, none⟩ = some z1 ∧ (((X.setCell ⟨b6, 0, none⟩ u0).setCell ⟨b6, 1, none⟩ u1).setCell ⟨b6, 2, none⟩ u2).cell? ⟨b7, 2, none⟩ = some z2 ∧ (((X.setCell ⟨b6, 0, none⟩ u0).setCell ⟨b6, 1, none⟩ u1).setCell ⟨b6, 2, none⟩ u2).cell? ⟨b7, 3, none⟩ = some z3 ∧ (((X.setCell ⟨b6, 0, none⟩ u0).setCell ⟨b6, 1, none⟩ u1).setCell ⟨b6, 2, none⟩ u2).cell? ⟨b7, 4, none⟩ = some z4 ∧ (((X.setCell ⟨b6, 0, none⟩ u0).setCell ⟨b6, 1, none⟩ u1).setCell ⟨b6, 2, none⟩ u2).cell? ⟨b7, 5, none⟩ = some z5 ∧ (((X.setCell ⟨b6, 0, none⟩ u0).setCell ⟨b6, 1, none⟩ u1).setCell ⟨b6, 2, none⟩ u2).cell? ⟨b7, 6, none⟩ = some z6) ∧ ((((X.setCell ⟨b6, 0, none⟩ u0).setCell ⟨b6, 1, none⟩ u1).setCell ⟨b6, 2, none⟩ u2).frozen? ⟨b7, 0, none⟩ = false ∧ (((X.setCell ⟨b6, 0, none⟩ u0).setCell ⟨b6, 1, none⟩ u1).setCell ⟨b6, 2, none⟩ u2).frozen? ⟨b7, 1, none⟩ = false ∧ (((X.setCell ⟨b6, 0, none⟩ u0).setCell ⟨b6, 1, none⟩ u1).setCell ⟨b6, 2, none⟩ u2).frozen? ⟨b7, 2, none⟩ = false ∧ (((X.setCell ⟨b6, 0, none⟩ u0).setCell ⟨b6, 1, none⟩ u1).setCell ⟨b6, 2, none⟩ u2).frozen? ⟨b7, 3, none⟩ = false ∧ (((X.setCell ⟨b6, 0, none⟩ u0).setCell ⟨b6, 1, none⟩ u1).setCell ⟨b6, 2, none⟩ u2).frozen? ⟨b7, 4, none⟩ = false ∧ (((X.setCell ⟨b6, 0, none⟩ u0).setCell ⟨b6, 1, none⟩ u1).setCell ⟨b6, 2, none⟩ u2).frozen? ⟨b7, 5, none⟩ = false ∧ (((X.setCell ⟨b6, 0, none⟩ u0).setCell ⟨b6, 1, none⟩ u1).setCell ⟨b6, 2, none⟩ u2).frozen? ⟨b7, 6, none⟩ = false) ∧ (X.frozen? ⟨b7, 0, none⟩ = false ∧ X.frozen? ⟨b7, 1, none⟩ = false ∧ X.frozen? ⟨b7, 2, none⟩ = false ∧ X.frozen? ⟨b7, 3, none⟩ = false ∧ X.frozen? ⟨b7, 4, none⟩ = false ∧ X.frozen? ⟨b7, 5, none⟩ = false ∧ X.frozen? ⟨b7, 6, none⟩ = false) := by
  have hne : b6 ≠ b7 := by
    rintro rfl
    have a := h6.2
    have b := h7.2
    unfold Blk at a b
    rw [a] at b
    simp at b
  have e7 := ((h7.2.far (a := ⟨b6, 0, none⟩) hne u0).far (a := ⟨b6, 1, none⟩) hne u1).far (a := ⟨b6, 2, none⟩) hne u2
  exact ⟨seven_all e7, seven_froz e7, seven_froz h7.2⟩
theorem Mk.new7 {W w : World} (z : W.heap.size ≤ w.heap.size) (z0 z1 z2 z3 z4 z5 z6 : Value) (t : TypeId) : Mk W (w.alloc (.cells #[z0, z1, z2, z3, z4, z5, z6] t)) w.heap.size t [z0, z1, z2, z3, z4, z5, z6] := Mk.newL z _ t
/-- What an answer of BoxTurn's leaves in the law's three variables. -/
def Fin (ws : World) (ub : Bx) (r0 r1 r2 r3 r4 r5 : Int) (rs : ByteArray) (bb : Bool) (s6 s7 s8 : Value) (wx : World) : Prop := ∃ d6 d7 v0 v1 v2, s6 = .pointer (some ⟨d6, 0, none⟩) ∧ s7 = .pointer (some ⟨d7, 0, none⟩) ∧ s8 = .bool bb ∧ ws.heap.size ≤ d6 ∧ ws.heap.size ≤ d7 ∧ Blk wx d6 30 [v0, v1, v2] ∧ Blk wx d7 55 [.int .i64 r0, .int .i64 r1, .int .i64 r2, .int .i64 r3, .int .i64 r4, .int .i64 r5, .string rs] ∧ FrBx wx ws.heap.size (.agg #[v0, v1, v2]) ub ∧ Below ws.heap.size ws wx
theorem fin1 {ws w : World} {b6 b7 : Nat} {u0 u1 u2 : Value} {ub : Bx} {r0 r1 r2 r3 r4 r5 : Int} {rs : ByteArray} {bb : Bool} {x0 x1 x2 z0 z1 z2 z3 z4 z5 z6 : Value} (h6 : Mk ws w b6 30 [x0, x1, x2]) (h7 : Mk ws w b7 55 [z0, z1, z2, z3, z4, z5, z6]) (hf : FrBx w ws.heap.size (.agg #[u0, u1, u2]) ub) (hb : Below ws.heap.size ws w) :
    Fin ws ub r0 r1 r2 r3 r4 r5 rs bb (.pointer (some ⟨b6, 0, none⟩)) (.pointer (some ⟨b7, 0, none⟩)) (.bool bb) ((((((((((w.setCell ⟨b6, 0, none⟩ u0).setCell ⟨b6, 1, none⟩ u1).setCell ⟨b6, 2, none⟩ u2).setCell ⟨b7, 0, none⟩ (.int .i64 r0)).setCell ⟨b7, 1, none⟩ (.int .i64 r1)).setCell ⟨b7, 2, none⟩ (.int .i64 r2)).setCell ⟨b7, 3, none⟩ (.int .i64 r3)).setCell ⟨b7, 4, none⟩ (.int .i64 r4)).setCell ⟨b7, 5, none⟩ (.int .i64 r5)).setCell ⟨b7, 6, none⟩ (.string rs)) := by
  obtain ⟨e1, e2, e3, e4⟩ := put37_all (t0 := .int .i64 r0) (t1 := .int .i64 r1) (t2 := .int .i64 r2) (t3 := .int .i64 r3) (t4 := .int .i64 r4) (t5 := .int .i64 r5) (t6 := .string rs) h6.2 h7.2 hf hb h6.1 h7.1
  exact ⟨_, _, _, _, _, rfl, rfl, rfl, h6.1, h7.1, e1, e2, e3, e4⟩
theorem fin3 {ws w : World} {b7 : Nat} {u0 u1 u2 : Value} {ub : Bx} {r0 r1 r2 r3 r4 r5 : Int} {rs : ByteArray} {bb : Bool} {z0 z1 z2 z3 z4 z5 z6 : Value} (z : ws.heap.size ≤ w.heap.size) (h7 : Mk ws w b7 55 [z0, z1, z2, z3, z4, z5, z6]) (hf : FrBx w ws.heap.size (.agg #[u0, u1, u2]) ub) (hb : Below ws.heap.size ws w) :
    Fin ws ub r0 r1 r2 r3 r4 r5 rs bb (.pointer (some ⟨w.heap.size, 0, none⟩)) (.pointer (some ⟨b7, 0, none⟩)) (.bool bb) ((((((((w.alloc (.cells #[u0, u1, u2] 30)).setCell ⟨b7, 0, none⟩ (.int .i64 r0)).setCell ⟨b7, 1, none⟩ (.int .i64 r1)).setCell ⟨b7, 2, none⟩ (.int .i64 r2)).setCell ⟨b7, 3, none⟩ (.int .i64 r3)).setCell ⟨b7, 4, none⟩ (.int .i64 r4)).setCell ⟨b7, 5, none⟩ (.int .i64 r5)).setCell ⟨b7, 6, none⟩ (.string rs)) := by
  have h6 := Mk.newL (W := ws) z [u0, u1, u2] 30
  have g7 := Mk.alloc h7 (.cells ⟨[u0, u1, u2]⟩ 30)
  have hf' := FrBx.later hf ((Below.refl _ _).alloc (Nat.le_refl _) (.cells ⟨[u0, u1, u2]⟩ 30))
  have hb' := hb.alloc z (.cells ⟨[u0, u1, u2]⟩ 30)
  have hne : w.heap.size ≠ b7 := by have := h7.2.lt; omega
  have hne' := hne.symm
  have e7 := g7.2
  have g1 := FrBx.setT hf' e7 (by decide) (by decide) (by decide) 0 (.int .i64 r0)
  have g2 := FrBx.setT g1 (e7.set 0 (.int .i64 r0)) (by decide) (by decide) (by decide) 1 (.int .i64 r1)
  have g3 := FrBx.setT g2 ((e7.set 0 (.int .i64 r0)).set 1 (.int .i64 r1)) (by decide) (by decide) (by decide) 2 (.int .i64 r2)
  have g4 := FrBx.setT g3 (((e7.set 0 (.int .i64 r0)).set 1 (.int .i64 r1)).set 2 (.int .i64 r2)) (by decide) (by decide) (by decide) 3 (.int .i64 r3)
  have g5 := FrBx.setT g4 ((((e7.set 0 (.int .i64 r0)).set 1 (.int .i64 r1)).set 2 (.int .i64 r2)).set 3 (.int .i64 r3)) (by decide) (by decide) (by decide) 4 (.int .i64 r4)
  have g6 := FrBx.setT g5 (((((e7.set 0 (.int .i64 r0)).set 1 (.int .i64 r1)).set 2 (.int .i64 r2)).set 3 (.int .i64 r3)).set 4 (.int .i64 r4)) (by decide) (by decide) (by decide) 5 (.int .i64 r5)
  have g8 := FrBx.setT g6 ((((((e7.set 0 (.int .i64 r0)).set 1 (.int .i64 r1)).set 2 (.int .i64 r2)).set 3 (.int .i64 r3)).set 4 (.int .i64 r4)).set 5 (.int .i64 r5)) (by decide) (by decide) (by decide) 6 (.string rs)
  have l7 := h7.1
  exact ⟨_, _, _, _, _, rfl, rfl, rfl, z, h7.1, ((((((h6.2.far (a := ⟨b7, 0, none⟩) hne' _).far (a := ⟨b7, 1, none⟩) hne' _).far (a := ⟨b7, 2, none⟩) hne' _).far (a := ⟨b7, 3, none⟩) hne' _).far (a := ⟨b7, 4, none⟩) hne' _).far (a := ⟨b7, 5, none⟩) hne' _).far (a := ⟨b7, 6, none⟩) hne' _, seven_put e7 _ _ _ _ _ _ _, g8, ((((((hb'.setCell l7 _).setCell l7 _).setCell l7 _).setCell l7 _).setCell l7 _).setCell l7 _).setCell l7 _⟩
theorem fin4 {ws w : World} {u0 u1 u2 : Value} {ub : Bx} {r0 r1 r2 r3 r4 r5 : Int} {rs : ByteArray} {bb : Bool} (z : ws.heap.size ≤ w.heap.size) (hf : FrBx w ws.heap.size (.agg #[u0, u1, u2]) ub) (hb : Below ws.heap.size ws w) :
    Fin ws ub r0 r1 r2 r3 r4 r5 rs bb (.pointer (some ⟨w.heap.size, 0, none⟩)) (.pointer (some ⟨w.heap.size + 1, 0, none⟩)) (.bool bb) ((w.alloc (.cells #[u0, u1, u2] 30)).alloc (.cells #[.int .i64 r0, .int .i64 r1, .int .i64 r2, .int .i64 r3, .int .i64 r4, .int .i64 r5, .string rs] 55)) :=
  ⟨_, _, _, _, _, rfl, rfl, rfl, z, Nat.le_succ_of_le z, (Mk.alloc (Mk.newL (W := ws) z [u0, u1, u2] 30) _).2, (Mk.newL1 (W := ws) z _ [.int .i64 r0, .int .i64 r1, .int .i64 r2, .int .i64 r3, .int .i64 r4, .int .i64 r5, .string rs] 55).2, FrBx.later hf (Ups.alloc (Ups.alloc (Below.refl _ _) _) _), (hb.alloc z _).alloc (Nat.le_trans z (by simp)) _⟩
theorem fin5 {ws w : World} {u0 u1 u2 : Value} {ub : Bx} {r0 r1 r2 r3 r4 r5 : Int} {rs : ByteArray} {bb : Bool} (z : ws.heap.size ≤ w.heap.size) (hf : FrBx w ws.heap.size (.agg #[u0, u1, u2]) ub) (hb : Below ws.heap.size ws w) :
    Fin ws ub r0 r1 r2 r3 r4 r5 rs bb (.pointer (some ⟨w.heap.size + 1, 0, none⟩)) (.pointer (some ⟨w.heap.size, 0, none⟩)) (.bool bb) ((w.alloc (.cells #[.int .i64 r0, .int .i64 r1, .int .i64 r2, .int .i64 r3, .int .i64 r4, .int .i64 r5, .string rs] 55)).alloc (.cells #[u0, u1, u2] 30)) :=
  ⟨_, _, _, _, _, rfl, rfl, rfl, Nat.le_succ_of_le z, z, (Mk.newL1 (W := ws) z _ [u0, u1, u2] 30).2, (Mk.alloc (Mk.newL (W := ws) z [.int .i64 r0, .int .i64 r1, .int .i64 r2, .int .i64 r3, .int .i64 r4, .int .i64 r5, .string rs] 55) _).2, FrBx.later hf (Ups.alloc (Ups.alloc (Below.refl _ _) _) _), (hb.alloc z _).alloc (Nat.le_trans z (by simp)) _⟩

/-- What the law's region keeps: all that was there, and two variables that it reads. -/
def Sd (m n : Nat) (W : World) (y0 y1 y2 c0 c1 c2 c3 c4 c5 c6 : Value) (w' : World) : Prop := Below W.heap.size W w' ∧ w'.cell? ⟨m, 0, none⟩ = some y0 ∧ w'.cell? ⟨m, 1, none⟩ = some y1 ∧ w'.cell? ⟨m, 2, none⟩ = some y2 ∧ w'.cell? ⟨n, 0, none⟩ = some c0 ∧ w'.cell? ⟨n, 1, none⟩ = some c1 ∧ w'.cell? ⟨n, 2, none⟩ = some c2 ∧ w'.cell? ⟨n, 3, none⟩ = some c3 ∧ w'.cell? ⟨n, 4, none⟩ = some c4 ∧ w'.cell? ⟨n, 5, none⟩ = some c5 ∧ w'.cell? ⟨n, 6, none⟩ = some c6
section
variable {m n : Nat} {W w' w'' : World} {y0 y1 y2 c0 c1 c2 c3 c4 c5 c6 : Value}
theorem Sd.drew (h : Sd m n W y0 y1 y2 c0 c1 c2 c3 c4 c5 c6 w') : Sd m n W y0 y1 y2 c0 c1 c2 c3 c4 c5 c6 w'.drew := ⟨h.1.drew, h.2⟩
theorem Sd.keep (h : Sd m n W y0 y1 y2 c0 c1 c2 c3 c4 c5 c6 w') (hb : Below W.heap.size W w'') (k : ∀ o, w''.cell? ⟨m, o, none⟩ = w'.cell? ⟨m, o, none⟩) (l : ∀ o, w''.cell? ⟨n, o, none⟩ = w'.cell? ⟨n, o, none⟩) : Sd m n W y0 y1 y2 c0 c1 c2 c3 c4 c5 c6 w'' := by
  obtain ⟨h0, x0, x1, x2, z0, z1, z2, z3, z4, z5, z6⟩ := h
  exact ⟨hb, (k _).trans x0, (k _).trans x1, (k _).trans x2, (l _).trans z0, (l _).trans z1, (l _).trans z2, (l _).trans z3, (l _).trans z4, (l _).trans z5, (l _).trans z6⟩
theorem Sd.call (h : Sd m n W y0 y1 y2 c0 c1 c2 c3 c4 c5 c6 w') (k : Below w'.heap.size w' w'') : Sd m n W y0 y1 y2 c0 c1 c2 c3 c4 c5 c6 w'' :=
  h.keep (h.1.trans (k.mono h.1.size)) (fun o => k.cell (p := ⟨m, o, none⟩) (World.block_lt_of_cell? w' ⟨m, 0, .none⟩ h.2.1)) (fun o => k.cell (p := ⟨n, o, none⟩) (World.block_lt_of_cell? w' ⟨n, 0, .none⟩ h.2.2.2.2.1))
theorem Sd.alloc (h : Sd m n W y0 y1 y2 c0 c1 c2 c3 c4 c5 c6 w') (o : Obj) : Sd m n W y0 y1 y2 c0 c1 c2 c3 c4 c5 c6 (w'.alloc o) := h.call ((Below.refl _ _).alloc (Nat.le_refl _) _)
theorem Sd.set (h : Sd m n W y0 y1 y2 c0 c1 c2 c3 c4 c5 c6 w') (hm : m < W.heap.size) (hn : n < W.heap.size) {b : Nat} (hb : W.heap.size ≤ b) (o : Nat) (u : Value) : Sd m n W y0 y1 y2 c0 c1 c2 c3 c4 c5 c6 (w'.setCell ⟨b, o, none⟩ u) :=
  h.keep (h.1.setCell hb _) (fun o' => World.cell?_setCell_far _ _ _ _ (by simp; omega)) (fun o' => World.cell?_setCell_far _ _ _ _ (by simp; omega))
end
theorem Sd.of {m n : Nat} {W : World} {y0 y1 y2 c0 c1 c2 c3 c4 c5 c6 : Value} {t1 t2 : TypeId} (h1 : Blk W m t1 [y0, y1, y2]) (h2 : Blk W n t2 [c0, c1, c2, c3, c4, c5, c6]) : Sd m n W y0 y1 y2 c0 c1 c2 c3 c4 c5 c6 W :=
  ⟨Below.refl _ _, (h1.cell 0 _ rfl).1, (h1.cell 1 _ rfl).1, (h1.cell 2 _ rfl).1, (h2.cell 0 _ rfl).1, (h2.cell 1 _ rfl).1, (h2.cell 2 _ rfl).1, (h2.cell 3 _ rfl).1, (h2.cell 4 _ rfl).1, (h2.cell 5 _ rfl).1, (h2.cell 6 _ rfl).1⟩

end Go.Proofs.YtglpijjkihpeeaaGreatDoor

/- A box is marked: whatever is none of its rows stays. Condition: at most 2^22 rules, ends and streams each. -/
namespace Go.Proofs.YtglpijjkihpeeaaGreatDoor
open Go.RowKit Go.Sort

/-- A block that is none of the box's rows. -/
def OffBx (v : Value) (b : Bx) (k : Nat) : Prop := ∀ r t c, v = .agg #[r, t, c] → (0 < b.rs.length → r.ownBlock ≠ some k) ∧ (0 < b.es.length → t.ownBlock ≠ some k) ∧ (0 < b.cs.length → c.ownBlock ≠ some k)
theorem FrL.off {α : Type} {t tR : TypeId} {k R : Nat} {c : α → List Value} {w : World} {B : Nat} {v : Value} {xs : List α} {l : List Value} (h : FrL t k c w B v xs) (hR : Blk w R tR l) (hne : tR ≠ t) (hn : 0 < xs.length) : v.ownBlock ≠ some R := by
  intro e
  obtain ⟨g, cap, cur, rfl, _, _, _, hg, _⟩ := FrL.block h hn
  simp [Value.ownBlock] at e
  subst e
  unfold Blk at hR
  rw [hR] at hg
  injection hg with h1
  injection h1 with _ h2 _
  exact hne h2
theorem FrBx.off {w : World} {B R : Nat} {tR : TypeId} {v : Value} {b : Bx} {l : List Value} (h : FrBx w B v b) (hR : Blk w R tR l) (h1 : tR ≠ 35) (h2 : tR ≠ 53) (h3 : tR ≠ 87) : OffBx v b R := by
  obtain ⟨r, t, c, rfl, x1, x2, x3⟩ := h
  intro r' t' c' e
  simp at e
  obtain ⟨rfl, rfl, rfl⟩ := e
  exact ⟨FrL.off x1 hR h1, FrL.off x2 hR h2, FrL.off x3 hR h3⟩
theorem UpBx.off {U k : Nat} {v : Value} {b : Bx} (h : UpBx U v b) (hk : U ≤ k) : OffBx v b k := by
  intro r t c e
  obtain ⟨h1, h2, h3⟩ := h r t c e
  exact ⟨fun hn e => by have := h1 hn _ e; omega, fun hn e => by have := h2 hn _ e; omega, fun hn e => by have := h3 hn _ e; omega⟩

set_option maxRecDepth 100000 in
set_option maxHeartbeats 1600000 in
theorem markBoxO_any (B : Nat) (v : Value) (b : Bx) (w : World) (hr : b.rs.length ≤ 4194304) (he : b.es.length ≤ 4194304) (hc : b.cs.length ≤ 4194304) (hB : B ≤ w.heap.size) (h : FrBx w B v b) :
    Calls Tryz.prog 22 #[v, .int .i64 1] w fun e w' => e = .returned (.int .i64 (bxN b : Nat)) ∧ MkBx w' v b ∧ Below B w w' ∧ ∀ k, OffBx v b k → k < w.heap.size → w'.heap[k]? = w.heap[k]? := by
  obtain ⟨r, t, c, rfl, h1, h2, h3⟩ := h
  obtain ⟨W0, hW0⟩ : ∃ W, W = w.alloc (.cells #[r, t, c] 30) := ⟨_, rfl⟩
  have hB0 : Below w.heap.size w W0 := by rw [hW0]; exact (Below.refl _ _).alloc (Nat.le_refl _) _
  have hs0 : W0.heap.size = w.heap.size + 1 := by rw [hW0]; simp
  have K0 : Hid (Blk W0 w.heap.size 30 [r, t, c]) := by rw [hW0]; exact three_new w r t c _
  have F1 := Lib.hid (FrL.later h1 hB0)
  have F2 := Lib.hid (FrL.later h2 hB0)
  have F3 := Lib.hid (FrL.later h3 hB0)
  have n12 : Hid (0 < b.rs.length → 0 < b.es.length → ∀ g, r.ownBlock = some g → t.ownBlock ≠ some g) := fun x y => FrL.apart h1 h2 (by decide) x y
  have n13 : Hid (0 < b.rs.length → 0 < b.cs.length → ∀ g, r.ownBlock = some g → c.ownBlock ≠ some g) := fun x y => FrL.apart h1 h3 (by decide) x y
  have n23 : Hid (0 < b.es.length → 0 < b.cs.length → ∀ g, t.ownBlock = some g → c.ownBlock ≠ some g) := fun x y => FrL.apart h2 h3 (by decide) x y
  obtain ⟨a1, k1, rfl, _⟩ := FrL.form h1
  obtain ⟨a2, k2, rfl, _⟩ := FrL.form h2
  obtain ⟨a3, k3, rfl, _⟩ := FrL.form h3
  have BB := Lib.hid hB0
  obtain ⟨m1, e1⟩ : ∃ m : Nat, m = 1 + 7 * b.rs.length := ⟨_, rfl⟩
  obtain ⟨m2, e2⟩ : ∃ m : Nat, m = m1 + 2 * b.es.length := ⟨_, rfl⟩
  have q1 : m1 ≤ 100000000 := by omega
  have q2 : m2 ≤ 100000000 := by omega
  have p1 : 1 ≤ m1 := by omega
  have p2 : 1 ≤ m2 := by omega
  have E1 := Lib.hid e1
  have E2 := Lib.hid e2
  have C1 : Hid (∀ w, FrRl w B (.slice a1 b.rs.length k1) b.rs → Calls Tryz.prog 34 #[.slice a1 b.rs.length k1, .int .i64 1] w fun e w' => e = .returned (.int .i64 (m1 : Nat)) ∧ RcRl w' (.slice a1 b.rs.length k1) (marksR 1 b.rs.length) ∧ ∃ row, w.grownBy w' row ∧ ∀ j, row = some j → (Value.slice a1 b.rs.length k1).ownBlock = some j ∧ B ≤ j ∧ j < w.heap.size ∧ 0 < b.rs.length) := fun w h => by rw [e1]; exact markRuls_own 1 B _ b.rs w (by omega) h
  have C2 : Hid (∀ w, FrTb w B (.slice a2 b.es.length k2) b.es → Calls Tryz.prog 70 #[.agg #[.slice a2 b.es.length k2], .int .i64 (m1 : Nat)] w fun e w' => e = .returned (.int .i64 (m2 : Nat)) ∧ TabAt w' (.slice a2 b.es.length k2) (marksE m1 b.es.length) ∧ ∃ row, w.grownBy w' row ∧ ∀ j, row = some j → (Value.slice a2 b.es.length k2).ownBlock = some j ∧ B ≤ j ∧ j < w.heap.size ∧ 0 < b.es.length) := fun w h => by rw [e2]; exact markTb_own m1 B _ b.es w (by omega) h
  have C3 : Hid (∀ w, FrCn w B (.slice a3 b.cs.length k3) b.cs → Calls Tryz.prog 71 #[.slice a3 b.cs.length k3, .int .i64 (m2 : Nat)] w fun e w' => e = .returned (.int .i64 (bxN b : Nat)) ∧ RdCn w' (.slice a3 b.cs.length k3) (marksC m2 b.cs.length) ∧ ∃ row, w.grownBy w' row ∧ ∀ j, row = some j → (Value.slice a3 b.cs.length k3).ownBlock = some j ∧ B ≤ j ∧ j < w.heap.size ∧ 0 < b.cs.length) := fun w h => by
    have := markConns_own m2 B _ b.cs w p2 (by omega) h
    rwa [show m2 + 7 * b.cs.length = bxN b from by unfold bxN; omega] at this
  obtain ⟨n, hn⟩ : ∃ n, n = bxN b := ⟨_, rfl⟩
  rw [← hn] at C3 ⊢
  have hBk : w.heap.size ≠ w.heap.size → False := fun h => h rfl
  have hv1 : Hid (∀ j, (Value.slice a1 b.rs.length k1).ownBlock = some j → 0 < b.rs.length → j < w.heap.size) := fun j hj hn => by
    obtain ⟨g, _, _, e, _, _, hg, _⟩ := FrL.block h1 hn
    rw [e] at hj; simp [Value.ownBlock] at hj; omega
  have hv2 : Hid (∀ j, (Value.slice a2 b.es.length k2).ownBlock = some j → 0 < b.es.length → j < w.heap.size) := fun j hj hn => by
    obtain ⟨g, _, _, e, _, _, hg, _⟩ := FrL.block h2 hn
    rw [e] at hj; simp [Value.ownBlock] at hj; omega
  have HB := Lib.hid hB
  have HH : Hid (∀ k, k < w.heap.size → W0.heap[k]? = w.heap[k]?) := fun k hk => hB0.block k hk
  clear hn e1 e2 hB0 hBk h1 h2 h3
  subst hW0
  go_enter Tryz.func22, Tryz.ntmps22
  go_wp2_with fail
  (go_at_call 34; refine (C1.out _ F1.out).mono ?_; rintro e w1 ⟨rfl, rd1, row1, gr1, hr1⟩)
  have G1 := Lib.hid gr1
  have R1 := Lib.hid hr1
  have M1 := Lib.hid rd1
  have K1 : Hid (Blk w1 w.heap.size 30 [.slice a1 b.rs.length k1, .slice a2 b.es.length k2, .slice a3 b.cs.length k3]) := (gr1.block w.heap.size (by omega) (fun e => by obtain ⟨hj, _, _, hl⟩ := hr1 _ e.symm; have := hv1.out _ hj hl; omega)).trans K0.out
  have F21 : Hid (FrTb w1 B (.slice a2 b.es.length k2) b.es) := FrL.grown F2.out gr1 (fun hy g hg e => by obtain ⟨hj, _, _, hl⟩ := hr1 _ e; exact n12.out hl hy g hj hg)
  have F31 : Hid (FrCn w1 B (.slice a3 b.cs.length k3) b.cs) := FrL.grown F3.out gr1 (fun hy g hg e => by obtain ⟨hj, _, _, hl⟩ := hr1 _ e; exact n13.out hl hy g hj hg)
  clear gr1 hr1 rd1
  obtain ⟨⟨x0, x1, x2⟩, _⟩ := three_all K1.out
  go_wp2_with fail
  (go_at_call 70; refine (C2.out _ F21.out).mono ?_; rintro e w2 ⟨rfl, rd2, row2, gr2, hr2⟩)
  have G2 := Lib.hid gr2
  have R2 := Lib.hid hr2
  have M2 := Lib.hid rd2
  have M12 : Hid (RcRl w2 (.slice a1 b.rs.length k1) (marksR 1 b.rs.length)) := RdC.grown M1.out gr2 (fun hx g hg e => by obtain ⟨hj, _, _, hl⟩ := hr2 _ e; rw [marksR_len] at hx; exact n12.out hx hl g hg hj)
  have K2 : Hid (Blk w2 w.heap.size 30 [.slice a1 b.rs.length k1, .slice a2 b.es.length k2, .slice a3 b.cs.length k3]) := (gr2.block w.heap.size (by have := G1.out.size; omega) (fun e => by obtain ⟨hj, _, _, hl⟩ := hr2 _ e.symm; have := hv2.out _ hj hl; omega)).trans K1.out
  have F32 : Hid (FrCn w2 B (.slice a3 b.cs.length k3) b.cs) := FrL.grown F31.out gr2 (fun hy g hg e => by obtain ⟨hj, _, _, hl⟩ := hr2 _ e; exact n23.out hl hy g hj hg)
  clear gr2 hr2 rd2 x0 x1 x2
  obtain ⟨⟨x0, x1, x2⟩, _⟩ := three_all K2.out
  go_wp2_with fail
  (go_at_call 71; refine (C3.out _ F32.out).mono ?_; rintro e w3 ⟨rfl, rd3, row3, gr3, hr3⟩)
  have M3 := Lib.hid rd3
  have G3 := Lib.hid gr3
  have R3 := Lib.hid hr3
  have M13 : Hid (RcRl w3 (.slice a1 b.rs.length k1) (marksR 1 b.rs.length)) := RdC.grown M12.out gr3 (fun hx g hg e => by obtain ⟨hj, _, _, hl⟩ := hr3 _ e; rw [marksR_len] at hx; exact n13.out hx hl g hg hj)
  have M23 : Hid (TabAt w3 (.slice a2 b.es.length k2) (marksE m1 b.es.length)) := TabAt.grown M2.out gr3 (fun hx g hg e => by obtain ⟨hj, _, _, hl⟩ := hr3 _ e; rw [marksE_len] at hx; exact n23.out hx hl g hg hj)
  clear gr3 hr3 rd3 x0 x1 x2
  go_wp2_with fail
  go_ret
  refine ⟨rfl, ⟨_, _, _, rfl, M13.out, ?_, ?_⟩, ?_, fun k hU hk => ?_⟩
  · rw [← E1.out]; exact M23.out
  · rw [← E1.out, ← E2.out]; exact M3.out
  · refine (BB.out.mono HB.out).trans ((grown_two G1.out (fun j e => (R1.out j e).2.1) G2.out (fun j e => (R2.out j e).2.1) (by have := HB.out; omega)).trans (below_grown G3.out (fun j e => (R3.out j e).2.1) ?_))
    have := G1.out.size
    have := G2.out.size
    have := HB.out
    omega
  · have s1 := G1.out.size
    have s2 := G2.out.size
    have k1 := G1.out.block k (by simp; omega) (fun e => by obtain ⟨hj, _, _, hl⟩ := R1.out _ e.symm; exact (hU _ _ _ rfl).1 hl hj)
    have k2 := G2.out.block k (by simp at s1; omega) (fun e => by obtain ⟨hj, _, _, hl⟩ := R2.out _ e.symm; exact (hU _ _ _ rfl).2.1 hl hj)
    have k3 := G3.out.block k (by simp at s1; omega) (fun e => by obtain ⟨hj, _, _, hl⟩ := R3.out _ e.symm; exact (hU _ _ _ rfl).2.2 hl hj)
    exact k3.trans (k2.trans (k1.trans (HH.out k hk)))

end Go.Proofs.YtglpijjkihpeeaaGreatDoor

/- A box that came in, and one that became the program's, as structs of three slices. Condition: as for the copies. -/
namespace Go.Proofs.YtglpijjkihpeeaaGreatDoor
open Go.RowKit Go.Sort

theorem ArgBx.form {w : World} {v : Value} {b : Bx} (h : ArgBx w v b) : ∃ a1 k1 a2 k2 a3 k3, v = .agg #[.slice a1 b.rs.length k1, .slice a2 b.es.length k2, .slice a3 b.cs.length k3] := by
  obtain ⟨r, t, c, rfl, ⟨a1, k1, rfl, -⟩, ⟨a2, k2, rfl, -⟩, ⟨a3, k3, rfl, -⟩⟩ := h
  exact ⟨a1, k1, a2, k2, a3, k3, rfl⟩
/-- A box becomes the program's, in blocks of its own. -/
theorem toBox_form (v : Value) (b : Bx) (w : World) (hs : bxSz b) (hv : ArgBx w v b) :
    Calls Tryz.prog 17 #[v] w fun e w' => ∃ g1 g2 c2 g3, e = .returned (.agg #[.slice (some ⟨g1, 0, none⟩) b.rs.length b.rs.length, .slice (some ⟨g2, 0, none⟩) b.es.length c2, .slice (some ⟨g3, 0, none⟩) b.cs.length b.cs.length]) ∧ OwnBx w' w.heap.size (.agg #[.slice (some ⟨g1, 0, none⟩) b.rs.length b.rs.length, .slice (some ⟨g2, 0, none⟩) b.es.length c2, .slice (some ⟨g3, 0, none⟩) b.cs.length b.cs.length]) b ∧ Below w.heap.size w w' := by
  refine (toBox_any v b w hs hv).mono ?_
  rintro e w' ⟨u, rfl, ho, hb⟩
  obtain ⟨g1, g2, c2, g3, rfl, -⟩ := id ho
  exact ⟨g1, g2, c2, g3, rfl, ho, hb⟩

end Go.Proofs.YtglpijjkihpeeaaGreatDoor
