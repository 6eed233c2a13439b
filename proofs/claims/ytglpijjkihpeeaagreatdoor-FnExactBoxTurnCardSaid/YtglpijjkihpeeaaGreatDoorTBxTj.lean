/- BoxTurn of the specification at a box that is ok, and a segment that is not meant for it. Conditions: at most 2^20 rules, ends and streams each; at most 2^21 bytes. (Several texts, joined: TurnI, STurnN, Tag, CopyS, Segs, SegOk, TurnJ, STurnB.) -/
import Derived.Test.YtglpijjkihpeeaaGreatDoorTBxTi
import Derived.Test.YtglpijjkihpeeaaGreatDoorTBxTc
import Derived.Test.YtglpijjkihpeeaaGreatDoorTBxTd
import Derived.Test.YtglpijjkihpeeaaGreatDoorOwnEnds
import Derived.Test.YtglpijjkihpeeaaGreatDoorTBxTa
import Derived.Deep.RegionHeld3
import Derived.Test.YtglpijjkihpeeaaGreatDoorLines
import Derived.Test.YtglpijjkihpeeaaGreatDoorBase
import Derived.Test.YtglpijjkihpeeaaGreatDoorEnd
import Derived.Test.YtglpijjkihpeeaaGreatDoorTBxTe
import Derived.Test.YtglpijjkihpeeaaGreatDoorTBxTh

/- BoxTurn of the program. Conditions: at most 2^20 rules, ends and streams each; all numbers are ints. -/
namespace Go.Proofs.YtglpijjkihpeeaaGreatDoor
open Go.RowKit Go.Sort

/-- The call's four variables: the box, the segment, and the two that it answers. -/
def Q4 (w : World) (lb ls lr lq : List Value) (w' : World) : Prop := Below w.heap.size w w' ∧ Blk w' w.heap.size 30 lb ∧ Blk w' (w.heap.size + 1) 55 ls ∧ Blk w' (w.heap.size + 1 + 1) 30 lr ∧ Blk w' (w.heap.size + 1 + 1 + 1) 55 lq
theorem Q4.call {w w' w'' : World} {lb ls lr lq : List Value} (h : Q4 w lb ls lr lq w') (k : Below w'.heap.size w' w'') : Q4 w lb ls lr lq w'' := by
  obtain ⟨h0, h1, h2, h3, h4⟩ := h
  exact ⟨h0.trans (k.mono h0.size), h1.below k, h2.below k, h3.below k, h4.below k⟩
theorem Q4.drew {w w' : World} {lb ls lr lq : List Value} (h : Q4 w lb ls lr lq w') : Q4 w lb ls lr lq w'.drew := ⟨h.1.drew, h.2⟩
theorem Q4.new (w : World) (lb ls lr lq : List Value) : Q4 w lb ls lr lq ((((w.alloc (.cells ⟨lb⟩ 30)).alloc (.cells ⟨ls⟩ 55)).alloc (.cells ⟨lr⟩ 30)).alloc (.cells ⟨lq⟩ 55)) := by
  have n : ∀ (W : World) (k : Nat) (l : List Value) (t : TypeId), k = W.heap.size → Blk (W.alloc (.cells ⟨l⟩ t)) k t l := fun W k l t e => by subst e; exact heap_last3 W _
  have later : ∀ {W : World} {k : Nat} {l : List Value} {t : TypeId} (o : Obj), Blk W k t l → Blk (W.alloc o) k t l := fun o h => h.below ((Below.refl _ _).alloc (Nat.le_refl _) _)
  refine ⟨(((Below.refl _ _).alloc (Nat.le_refl _) _).alloc (by simp) _).alloc (by simp; omega) _ |>.alloc (by simp; omega) _, ?_, ?_, ?_, ?_⟩
  · exact later _ (later _ (later _ (n _ _ _ _ rfl)))
  · exact later _ (later _ (n _ _ _ _ (by simp)))
  · exact later _ (n _ _ _ _ (by simp))
  · exact n _ _ _ _ (by simp)
theorem seven_froz {w : World} {b : Nat} {t : TypeId} {x0 x1 x2 x3 x4 x5 x6 : Value} (h : Blk w b t [x0, x1, x2, x3, x4, x5, x6]) :
    w.frozen? ⟨b, 0, none⟩ = false ∧ w.frozen? ⟨b, 1, none⟩ = false ∧ w.frozen? ⟨b, 2, none⟩ = false ∧ w.frozen? ⟨b, 3, none⟩ = false ∧ w.frozen? ⟨b, 4, none⟩ = false ∧ w.frozen? ⟨b, 5, none⟩ = false ∧ w.frozen? ⟨b, 6, none⟩ = false :=
  ⟨(h.cell 0 x0 rfl).2, (h.cell 1 x1 rfl).2, (h.cell 2 x2 rfl).2, (h.cell 3 x3 rfl).2, (h.cell 4 x4 rfl).2, (h.cell 5 x5 rfl).2, (h.cell 6 x6 rfl).2⟩
theorem seven_put {w : World} {b : Nat} {t : TypeId} {x0 x1 x2 x3 x4 x5 x6 : Value} (h : Blk w b t [x0, x1, x2, x3, x4, x5, x6]) (u0 u1 u2 u3 u4 u5 u6 : Value) :
    Blk (((((((w.setCell ⟨b, 0, none⟩ u0).setCell ⟨b, 1, none⟩ u1).setCell ⟨b, 2, none⟩ u2).setCell ⟨b, 3, none⟩ u3).setCell ⟨b, 4, none⟩ u4).setCell ⟨b, 5, none⟩ u5).setCell ⟨b, 6, none⟩ u6) b t [u0, u1, u2, u3, u4, u5, u6] :=
  ((((((h.set 0 u0).set 1 u1).set 2 u2).set 3 u3).set 4 u4).set 5 u5).set 6 u6
/-- The two answers are laid into their variables. -/
def put10 (w : World) (n : Nat) (u0 u1 u2 t0 t1 t2 t3 t4 t5 t6 : Value) : World :=
  (((((((((((w.setCell ⟨n + 1 + 1, 0, none⟩ u0).setCell ⟨n + 1 + 1, 1, none⟩ u1).setCell ⟨n + 1 + 1, 2, none⟩ u2).setCell ⟨n + 1 + 1 + 1, 0, none⟩ t0).setCell ⟨n + 1 + 1 + 1, 1, none⟩ t1).setCell ⟨n + 1 + 1 + 1, 2, none⟩ t2).setCell ⟨n + 1 + 1 + 1, 3, none⟩ t3).setCell ⟨n + 1 + 1 + 1, 4, none⟩ t4).setCell ⟨n + 1 + 1 + 1, 5, none⟩ t5).setCell ⟨n + 1 + 1 + 1, 6, none⟩ t6))
theorem put10_box {w : World} {n : Nat} {t : TypeId} {x0 x1 x2 : Value} (h : Blk w (n + 1 + 1) t [x0, x1, x2]) (u0 u1 u2 t0 t1 t2 t3 t4 t5 t6 : Value) : Blk (put10 w n u0 u1 u2 t0 t1 t2 t3 t4 t5 t6) (n + 1 + 1) t [u0, u1, u2] :=
  (((((((three_set h u0 u1 u2).far (by simp) _).far (by simp) _).far (by simp) _).far (by simp) _).far (by simp) _).far (by simp) _).far (by simp) _
theorem put10_seg {w : World} {n : Nat} {t : TypeId} {x0 x1 x2 x3 x4 x5 x6 : Value} (h : Blk w (n + 1 + 1 + 1) t [x0, x1, x2, x3, x4, x5, x6]) (u0 u1 u2 t0 t1 t2 t3 t4 t5 t6 : Value) : Blk (put10 w n u0 u1 u2 t0 t1 t2 t3 t4 t5 t6) (n + 1 + 1 + 1) t [t0, t1, t2, t3, t4, t5, t6] :=
  seven_put (((h.far (a := ⟨n + 1 + 1, 0, none⟩) (by simp) u0).far (a := ⟨n + 1 + 1, 1, none⟩) (by simp) u1).far (a := ⟨n + 1 + 1, 2, none⟩) (by simp) u2) t0 t1 t2 t3 t4 t5 t6
theorem put10_below {w w1 : World} {B n : Nat} (h : Below B w w1) (hn : B ≤ n) (u0 u1 u2 t0 t1 t2 t3 t4 t5 t6 : Value) : Below B w (put10 w1 n u0 u1 u2 t0 t1 t2 t3 t4 t5 t6) :=
  have h1 : B ≤ n + 1 + 1 := by omega
  have h2 : B ≤ n + 1 + 1 + 1 := by omega
  (((((((((h.setCell h1 _).setCell h1 _).setCell h1 _).setCell h2 _).setCell h2 _).setCell h2 _).setCell h2 _).setCell h2 _).setCell h2 _).setCell h2 _
theorem put10_own {w : World} {n B : Nat} {v : Value} {b : Bx} (h : OwB w B v b) (hB : n + 1 + 1 + 1 < B) (u0 u1 u2 t0 t1 t2 t3 t4 t5 t6 : Value) : OwB (put10 w n u0 u1 u2 t0 t1 t2 t3 t4 t5 t6) B v b :=
  have h1 : n + 1 + 1 < B := by omega
  (((((((((h.setCell (a := ⟨n + 1 + 1, 0, none⟩) h1 _).setCell (a := ⟨n + 1 + 1, 1, none⟩) h1 _).setCell (a := ⟨n + 1 + 1, 2, none⟩) h1 _).setCell (a := ⟨n + 1 + 1 + 1, 0, none⟩) hB _).setCell (a := ⟨n + 1 + 1 + 1, 1, none⟩) hB _).setCell (a := ⟨n + 1 + 1 + 1, 2, none⟩) hB _).setCell (a := ⟨n + 1 + 1 + 1, 3, none⟩) hB _).setCell (a := ⟨n + 1 + 1 + 1, 4, none⟩) hB _).setCell (a := ⟨n + 1 + 1 + 1, 5, none⟩) hB _).setCell (a := ⟨n + 1 + 1 + 1, 6, none⟩) hB _
def zeroSg : List Value := [.int .i64 0, .int .i64 0, .int .i64 0, .int .i64 0, .int .i64 0, .int .i64 0, .string ByteArray.empty]

set_option maxRecDepth 100000 in
set_option maxHeartbeats 3200000 in
theorem implTurn_not (B : Nat) (v : Value) (b : Bx) (sa sp da dp sq ak : Int) (d : ByteArray) (w : World) (hs : bxSz b) (hwf : wfE b.es) (hcw : cnWf b.cs) (ho : OwnBx w B v b) (hv : VarsOk w) (htb : TabOk w) (hno : boxOkB b = false) :
    Calls Tryz.prog 19 #[v, .agg #[.int .i64 sa, .int .i64 sp, .int .i64 da, .int .i64 dp, .int .i64 sq, .int .i64 ak, .string d]] w fun e w' => e = .returned (.tuple #[.agg #[.slice none 0 0, .slice none 0 0, .slice none 0 0], .agg ⟨zeroSg⟩, .bool false]) ∧ Below w.heap.size w w' := by
  have HO : Hid (∀ w', Below w.heap.size w w' → Calls Tryz.prog 12 #[v] w' fun e w'' => e = .returned (.bool false) ∧ Below w'.heap.size w' w'') := fun w' h => by
    rw [← hno]
    exact implBoxOk_any B v b w' hs hwf hcw (ho.later h) (hv.below h) (htb.below h (Nat.le_refl _))
  obtain ⟨g1, g2, c2, g3, rfl, o1, o2, o3⟩ := ho
  clear o1 o2 o3 hno hs hwf hcw hv htb
  have QN := Lib.hid (Q4.new w [.slice (some ⟨g1, 0, none⟩) b.rs.length b.rs.length, .slice (some ⟨g2, 0, none⟩) b.es.length c2, .slice (some ⟨g3, 0, none⟩) b.cs.length b.cs.length] [.int .i64 sa, .int .i64 sp, .int .i64 da, .int .i64 dp, .int .i64 sq, .int .i64 ak, .string d] [.slice none 0 0, .slice none 0 0, .slice none 0 0] zeroSg)
  go_enter Tryz.func19, Tryz.ntmps19
  go_wp2_with (go_at_call 12; refine (HO.out _ QN.out.1).mono ?_; rintro e w1 ⟨rfl, b1⟩; have Q1 := Lib.hid (QN.out.call b1); obtain ⟨⟨r0, r1, r2⟩, f0, f1, f2⟩ := three_all Q1.out.2.2.2.1; have Z1 : Hid (Blk w1 (w.heap.size + 1 + 1 + 1) 55 [.int .i64 0, .int .i64 0, .int .i64 0, .int .i64 0, .int .i64 0, .int .i64 0, .string ByteArray.empty]) := Q1.out.2.2.2.2; obtain ⟨q0, q1, q2, q3, q4, q5, q6⟩ := seven_all Z1.out; obtain ⟨h0, h1, h2, h3, h4, h5, h6⟩ := seven_froz Z1.out)
  obtain ⟨⟨y0, y1, y2⟩, -⟩ := three_all (put10_box Q1.out.2.2.2.1 (.slice none 0 0) (.slice none 0 0) (.slice none 0 0) (.int .i64 0) (.int .i64 0) (.int .i64 0) (.int .i64 0) (.int .i64 0) (.int .i64 0) (.string ByteArray.empty))
  obtain ⟨z0, z1, z2, z3, z4, z5, z6⟩ := seven_all (put10_seg Z1.out (.slice none 0 0) (.slice none 0 0) (.slice none 0 0) (.int .i64 0) (.int .i64 0) (.int .i64 0) (.int .i64 0) (.int .i64 0) (.int .i64 0) (.string ByteArray.empty))
  have hB := put10_below Q1.out.1 (Nat.le_refl _) (.slice none 0 0) (.slice none 0 0) (.slice none 0 0) (.int .i64 0) (.int .i64 0) (.int .i64 0) (.int .i64 0) (.int .i64 0) (.int .i64 0) (.string ByteArray.empty)
  have hK : ByteArray.empty = { data := #[] } := rfl
  rw [hK] at y0 y1 y2 z0 z1 z2 z3 z4 z5 z6 hB
  obtain ⟨W, hW⟩ : ∃ W, W = put10 w1 w.heap.size (.slice none 0 0) (.slice none 0 0) (.slice none 0 0) (.int .i64 0) (.int .i64 0) (.int .i64 0) (.int .i64 0) (.int .i64 0) (.int .i64 0) (.string { data := #[] }) := ⟨_, rfl⟩
  rw [← hW] at y0 y1 y2 z0 z1 z2 z3 z4 z5 z6 hB
  unfold put10 at hW
  rw [← hW]
  refine bodyPost_ret (v := .tuple #[.agg #[.slice none 0 0, .slice none 0 0, .slice none 0 0], .agg ⟨zeroSg⟩, .bool false]) (by simp [results, Tryz.results19, go_sem, zeroSg, hK, y0, y1, y2, z0, z1, z2, z3, z4, z5, z6]) rfl ⟨rfl, hB⟩

end Go.Proofs.YtglpijjkihpeeaaGreatDoor

/- BoxTurn of the specification at a box that is not ok. Conditions: at most 2^20 rules, ends and streams each; all numbers are ints. -/
namespace Go.Proofs.YtglpijjkihpeeaaGreatDoor
open Go.RowKit Go.Sort

set_option maxRecDepth 100000 in
set_option maxHeartbeats 3200000 in
theorem specSame_not (v : Value) (w : World) (hv : ∃ a b c, v = .agg #[a, b, c]) (HO : Hid (∀ w', Below w.heap.size w w' → Calls Tryz.prog 51 #[v] w' fun e w'' => e = .returned (.bool false) ∧ Below w'.heap.size w' w'')) :
    Calls Tryz.prog 54 #[v] w fun e w' => e = .returned (.agg #[.slice none 0 0, .slice none 0 0, .slice none 0 0]) ∧ Below w.heap.size w w' := by
  obtain ⟨a, b, c, rfl⟩ := hv
  go_enter Tryz.func54, Tryz.ntmps54
  have BN : Hid (Below w.heap.size w ((w.alloc (.cells #[a, b, c] 30)).alloc (.cells #[.slice none 0 0, .slice none 0 0, .slice none 0 0] 30))) := ((Below.refl _ _).alloc (Nat.le_refl _) _).alloc (by simp) _
  have KN : Hid (Blk ((w.alloc (.cells #[a, b, c] 30)).alloc (.cells #[.slice none 0 0, .slice none 0 0, .slice none 0 0] 30)) (w.heap.size + 1) 30 [.slice none 0 0, .slice none 0 0, .slice none 0 0]) := by
    have h := three_new (w.alloc (.cells #[a, b, c] 30)) (.slice none 0 0) (.slice none 0 0) (.slice none 0 0) 30
    show Blk _ _ _ _
    simpa using h
  go_wp2_with (go_at_call 51; refine (HO.out _ BN.out).mono ?_; rintro e w1 ⟨rfl, b1⟩; have B1 : Hid (Below w.heap.size w w1) := BN.out.trans (b1.mono BN.out.size); have K1 := Lib.hid (KN.out.below b1); obtain ⟨⟨r0, r1, r2⟩, f0, f1, f2⟩ := three_all K1.out; clear b1)
  obtain ⟨⟨y0, y1, y2⟩, -⟩ := three_all (three_set K1.out (.slice none 0 0) (.slice none 0 0) (.slice none 0 0))
  refine bodyPost_ret (v := .agg #[.slice none 0 0, .slice none 0 0, .slice none 0 0]) (by simp [results, Tryz.results54, go_sem, y0, y1, y2]) rfl ⟨rfl, ((B1.out.setCell (by simp) _).setCell (by simp) _).setCell (by simp) _⟩

set_option maxRecDepth 100000 in
set_option maxHeartbeats 3200000 in
theorem specTurn_not (B : Nat) (v : Value) (b : Bx) (sa sp da dp sq ak : Int) (d : ByteArray) (w : World) (hs : bxSz b) (hB : B ≤ w.heap.size) (ho : OwnBx w B v b) (hno : boxOkB b = false) :
    Calls Tryz.prog 16 #[v, .agg #[.int .i64 sa, .int .i64 sp, .int .i64 da, .int .i64 dp, .int .i64 sq, .int .i64 ak, .string d]] w fun e w' => e = .returned (.tuple #[.agg #[.slice none 0 0, .slice none 0 0, .slice none 0 0], .agg ⟨zeroSg⟩, .bool false]) ∧ Below w.heap.size w w' := by
  have HO : Hid (∀ w', Below w.heap.size w w' → Calls Tryz.prog 51 #[v] w' fun e w'' => e = .returned (.bool false) ∧ Below w'.heap.size w' w'') := fun w' h => by
    rw [← hno]
    exact specBoxOk_any B v b w' hs (Nat.le_trans hB h.size) (ho.later h)
  obtain ⟨g1, g2, c2, g3, rfl, o1, o2, o3⟩ := ho
  have HS : Hid (∀ w', Below w.heap.size w w' → Calls Tryz.prog 54 #[.agg #[.slice (some ⟨g1, 0, none⟩) b.rs.length b.rs.length, .slice (some ⟨g2, 0, none⟩) b.es.length c2, .slice (some ⟨g3, 0, none⟩) b.cs.length b.cs.length]] w' fun e w'' => e = .returned (.agg #[.slice none 0 0, .slice none 0 0, .slice none 0 0]) ∧ Below w'.heap.size w' w'') := fun w' h =>
    specSame_not _ w' ⟨_, _, _, rfl⟩ (fun w'' h2 => HO.out w'' (h.trans (h2.mono h.size)))
  clear o1 o2 o3 hno hs hB
  have QN := Lib.hid (Q4.new w [.slice (some ⟨g1, 0, none⟩) b.rs.length b.rs.length, .slice (some ⟨g2, 0, none⟩) b.es.length c2, .slice (some ⟨g3, 0, none⟩) b.cs.length b.cs.length] [.int .i64 sa, .int .i64 sp, .int .i64 da, .int .i64 dp, .int .i64 sq, .int .i64 ak, .string d] [.slice none 0 0, .slice none 0 0, .slice none 0 0] zeroSg)
  go_enter Tryz.func16, Tryz.ntmps16
  go_wp2_with (go_at_call 51; refine (HO.out _ QN.out.1).mono ?_; rintro e w1 ⟨rfl, b1⟩; have Q1 := Lib.hid (QN.out.call b1); obtain ⟨⟨p0, p1, p2⟩, -⟩ := three_all Q1.out.2.1; clear b1)
  go_wp2_with (go_at_call 54; refine (HS.out _ Q1.out.1).mono ?_; rintro e w2 ⟨rfl, b2⟩; have Q2 := Lib.hid (Q1.out.call b2); obtain ⟨⟨r0, r1, r2⟩, f0, f1, f2⟩ := three_all Q2.out.2.2.2.1; have Z2 : Hid (Blk w2 (w.heap.size + 1 + 1 + 1) 55 [.int .i64 0, .int .i64 0, .int .i64 0, .int .i64 0, .int .i64 0, .int .i64 0, .string ByteArray.empty]) := Q2.out.2.2.2.2; obtain ⟨q0, q1, q2, q3, q4, q5, q6⟩ := seven_all Z2.out; obtain ⟨h0, h1, h2, h3, h4, h5, h6⟩ := seven_froz Z2.out; clear b2)
  obtain ⟨⟨y0, y1, y2⟩, -⟩ := three_all (put10_box Q2.out.2.2.2.1 (.slice none 0 0) (.slice none 0 0) (.slice none 0 0) (.int .i64 0) (.int .i64 0) (.int .i64 0) (.int .i64 0) (.int .i64 0) (.int .i64 0) (.string ByteArray.empty))
  obtain ⟨z0, z1, z2, z3, z4, z5, z6⟩ := seven_all (put10_seg Z2.out (.slice none 0 0) (.slice none 0 0) (.slice none 0 0) (.int .i64 0) (.int .i64 0) (.int .i64 0) (.int .i64 0) (.int .i64 0) (.int .i64 0) (.string ByteArray.empty))
  have hB := put10_below Q2.out.1 (Nat.le_refl _) (.slice none 0 0) (.slice none 0 0) (.slice none 0 0) (.int .i64 0) (.int .i64 0) (.int .i64 0) (.int .i64 0) (.int .i64 0) (.int .i64 0) (.string ByteArray.empty)
  have hK : ByteArray.empty = { data := #[] } := rfl
  rw [hK] at y0 y1 y2 z0 z1 z2 z3 z4 z5 z6 hB
  obtain ⟨W, hW⟩ : ∃ W, W = put10 w2 w.heap.size (.slice none 0 0) (.slice none 0 0) (.slice none 0 0) (.int .i64 0) (.int .i64 0) (.int .i64 0) (.int .i64 0) (.int .i64 0) (.int .i64 0) (.string { data := #[] }) := ⟨_, rfl⟩
  rw [← hW] at y0 y1 y2 z0 z1 z2 z3 z4 z5 z6 hB
  unfold put10 at hW
  rw [← hW]
  refine bodyPost_ret (v := .tuple #[.agg #[.slice none 0 0, .slice none 0 0, .slice none 0 0], .agg ⟨zeroSg⟩, .bool false]) (by simp [results, Tryz.results16, go_sem, zeroSg, hK, y0, y1, y2, z0, z1, z2, z3, z4, z5, z6]) rfl ⟨rfl, hB⟩

end Go.Proofs.YtglpijjkihpeeaaGreatDoor

/- Blocks that hold structs of one type: a table's row lies in none of them. No condition. -/
namespace Go.Proofs.YtglpijjkihpeeaaGreatDoor
open Go.RowKit

/-- A block of cells of this type. -/
def TagT (w : World) (b : Nat) (t : TypeId) : Prop := ∃ cs fz, w.heap[b]? = some (.cells cs t fz)
theorem TagT.later {w w' : World} {b : Nat} {t : TypeId} (h : TagT w b t) (hb : Below w.heap.size w w') : TagT w' b t := by
  obtain ⟨cs, fz, h⟩ := h
  exact ⟨cs, fz, (hb.block b (Array.getElem?_eq_some_iff.1 h).1).trans h⟩
theorem TagT.new (w : World) (cs : Array Value) (t : TypeId) : TagT (w.alloc (.cells cs t)) w.heap.size t := ⟨cs, _, heap_alloc_new w (.cells cs t)⟩
theorem OwnTab.setTagT {w : World} {B : Nat} {v : Value} {es : List (Int × Int)} {t : TypeId} (h : OwnTab w B v es) {a : Addr} (ht : TagT w a.block t) (hne : t ≠ 53) (u : Value) : OwnTab (w.setCell a u) B v es := by
  refine ⟨h.1, ?_⟩
  rcases h.2 with h2 | ⟨g, cap, cur, hv, hB, hg, r⟩
  · exact .inl h2
  · refine .inr ⟨g, cap, cur, hv, hB, ?_, r⟩
    rw [Below.heap_setCell _ _ _ _ fun e => ?_]
    · exact hg
    · obtain ⟨cs, fz, h1⟩ := ht
      rw [← e, hg] at h1
      injection h1 with h1
      injection h1 with _ h2 _
      exact hne h2.symm
theorem tabT_ne : (27 : TypeId) ≠ 53 := by decide
theorem TagT.setCell {w : World} {b : Nat} {t : TypeId} (h : TagT w b t) (a : Addr) (u : Value) : TagT (w.setCell a u) b t := by
  obtain ⟨cs, fz, h⟩ := h
  by_cases e : b = a.block
  · subst e
    refine ⟨if a.spot.isSome then cs else cs.setIfInBounds a.off u, fz, ?_⟩
    show (w.heap.modify a.block _)[a.block]? = _
    rw [Array.getElem?_modify]
    simp [h]
  · exact ⟨cs, fz, (Below.heap_setCell _ _ _ _ e).trans h⟩

end Go.Proofs.YtglpijjkihpeeaaGreatDoor

/- A box in memory of its own, as the specification copies it. Condition: at most 2^20 rules, ends and streams each. -/
namespace Go.Proofs.YtglpijjkihpeeaaGreatDoor
open Go.RowKit Go.Sort

theorem Blk.newE {w : World} {t : TypeId} {g : Nat} (hg : g = w.heap.size) : Blk (w.alloc (.cells #[] t)) g t [] := by
  subst hg
  exact heap_last w _
theorem Blk.new1 (w : World) (o : Obj) (t : TypeId) : Blk ((w.alloc o).alloc (.cells #[] t)) (w.heap.size + 1) t [] := Blk.newE (by simp)
theorem Blk.alloc {w : World} {g : Nat} {t : TypeId} {l : List Value} (h : Blk w g t l) (o : Obj) : Blk (w.alloc o) g t l := h.below ((Below.refl _ _).alloc (Nat.le_refl _) _)
theorem Blk.drew {w : World} {g : Nat} {t : TypeId} {l : List Value} (h : Blk w g t l) : Blk w.drew g t l := h
theorem Blk.grown {w w' : World} {g R : Nat} {t : TypeId} {l : List Value} (h : Blk w g t l) (hg : w.grownBy w' (some R)) (hne : g ≠ R) : Blk w' g t l := (hg.block g h.lt (fun e => hne (by injection e))).trans h
theorem Blk.empty {w : World} {B g k : Nat} {t : TypeId} (h : Blk w g t []) (hB : B ≤ g) : w.ownsRow B t k (.slice (some ⟨g, 0, .none⟩) 0 0) 0 [] :=
  ⟨by simp, .inr ⟨g, 0, #[], rfl, hB, h, Nat.le_refl _, Nat.zero_le _, by simp, by simp⟩⟩
/-- An own row outlives the growth of a block of another type. -/
theorem own_apart {w w' : World} {B k n R : Nat} {t tR : TypeId} {v : Value} {xs l : List Value} (h : w.ownsRow B t k v n xs) (hR : Blk w R tR l) (hg : w.grownBy w' (some R)) (hne : tR ≠ t) : w'.ownsRow B t k v n xs := by
  refine ⟨h.1, ?_⟩
  rcases h.2 with h2 | ⟨g, cap, cur, hv, hB, hgg, r⟩
  · exact .inl h2
  · refine .inr ⟨g, cap, cur, hv, hB, (hg.block g (Array.getElem?_eq_some_iff.1 hgg).1 (fun e => ?_)).trans hgg, r⟩
    have e : g = R := by injection e
    subst e
    rw [hR] at hgg
    injection hgg with h1
    injection h1 with _ h2 _
    exact hne h2
theorem Cp.alloc {w w' : World} {a b c : Value} (h : Cp w a b c w') (o : Obj) : Cp w a b c (w'.alloc o) := h.call ((Below.refl _ _).alloc (Nat.le_refl _) _)
theorem Cp.grown {w w' w'' : World} {a b c : Value} {R : Nat} (h : Cp w a b c w') (hg : w'.grownBy w'' (some R)) (hR : w.heap.size + 1 + 1 ≤ R) : Cp w a b c w'' := by
  obtain ⟨l, g, y0, y1, y2⟩ := h
  have hc : ∀ o, w''.cell? ⟨w.heap.size, o, none⟩ = w'.cell? ⟨w.heap.size, o, none⟩ := fun o => World.cell?_of_block (a := ⟨w.heap.size, o, .none⟩) (hg.block w.heap.size (by omega) (fun e => by injection e; omega))
  exact ⟨l.grown hg (by omega) (fun k hk => by injection hk; omega), Nat.le_trans g hg.size, (hc 0).trans y0, (hc 1).trans y1, (hc 2).trans y2⟩

set_option maxRecDepth 100000 in
set_option maxHeartbeats 3200000 in
theorem specCopy7_at (x1 x2 x3 : Addr) (c1 c2 c3 : Nat) (b : Bx) (w : World) (hs : bxSz b) (h1 : RdRl w (.slice (some x1) b.rs.length c1) b.rs) (h2 : TabAt w (.slice (some x2) b.es.length c2) b.es) (h3 : RdCn w (.slice (some x3) b.cs.length c3) b.cs) :
    Calls Tryz.prog 55 #[.agg #[.slice (some x1) b.rs.length c1, .slice (some x2) b.es.length c2, .slice (some x3) b.cs.length c3]] w fun e w' => ∃ u, e = .returned u ∧ OwB w' w.heap.size u b ∧ Below w.heap.size w w' := by
  obtain ⟨m1, m2, m3, -⟩ := hs
  obtain ⟨i0, hi, hz0, hz1, hz2⟩ := info_parts infoRl
  obtain ⟨i3, hj, hy0, hy1, hy2⟩ := info_parts infoCn
  obtain ⟨W, hW⟩ : ∃ W, W = (w.alloc (.cells #[.slice (some x1) b.rs.length c1, .slice (some x2) b.es.length c2, .slice (some x3) b.cs.length c3] 30)).alloc (.cells #[.slice none 0 0, .slice none 0 0, .slice none 0 0] 30) := ⟨_, rfl⟩
  have hB : Below w.heap.size w W := by rw [hW]; exact ((Below.refl _ _).alloc (Nat.le_refl _) _).alloc (by simp) _
  have hs0 : W.heap.size = w.heap.size + 1 + 1 := by rw [hW]; simp
  have K0 : Hid (Blk W w.heap.size 30 [.slice (some x1) b.rs.length c1, .slice (some x2) b.es.length c2, .slice (some x3) b.cs.length c3]) := by
    show Blk W _ _ _
    rw [hW]; exact (three_new w _ _ _ _).below ((Below.refl _ _).alloc (Nat.le_refl _) _)
  have K1 : Hid (Blk W (w.heap.size + 1) 30 [.slice none 0 0, .slice none 0 0, .slice none 0 0]) := by
    have h := three_new (w.alloc (.cells #[.slice (some x1) b.rs.length c1, .slice (some x2) b.es.length c2, .slice (some x3) b.cs.length c3] 30)) (.slice none 0 0) (.slice none 0 0) (.slice none 0 0) 30
    show Blk W (w.heap.size + 1) 30 _
    rw [hW]
    simpa using h
  have CP : Hid (Cp w (.slice (some x1) b.rs.length c1) (.slice (some x2) b.es.length c2) (.slice (some x3) b.cs.length c3) W) := by
    obtain ⟨⟨k0, k1, k2⟩, -⟩ := three_all K0.out
    exact ⟨hB, by omega, k0, k1, k2⟩
  have H1 : Hid (∀ w', Below w.heap.size w w' → ∀ (j : Nat) (u : Value), (flatC rlC b.rs)[j]? = some u → w'.cell? (x1.add j) = some u) := fun w' h => rul_news (h1.below h)
  have H2 : Hid (∀ w', Below w.heap.size w w' → Calls Tryz.prog 112 #[.agg #[.slice (some x2) b.es.length c2]] w' fun e w'' => ∃ g c, e = .returned (.agg #[.slice (some g) b.es.length c]) ∧ OwnTab w'' w'.heap.size (.slice (some g) b.es.length c) b.es ∧ Below w'.heap.size w' w'') := fun w' h => specCopy_any _ b.es w' (by omega) (h2.below h)
  have H3 : Hid (∀ w', Below w.heap.size w w' → ∀ (j : Nat) (u : Value), (flatC cnC b.cs)[j]? = some u → w'.cell? (x3.add j) = some u) := fun w' h => rdc_news cnC_len (RdC.below cnC_len (by decide) h3 h)
  have n1 : b.rs.length ≤ 4194304 := by omega
  have n3 : b.cs.length ≤ 4194304 := by omega
  clear h1 h2 h3 m1 m2 m3 K0 hB
  subst hW
  go_enter Tryz.func55, Tryz.ntmps55
  go_wp2_with fail
  obtain ⟨W, hW⟩ : ∃ W, W = (w.alloc (.cells #[.slice (some x1) b.rs.length c1, .slice (some x2) b.es.length c2, .slice (some x3) b.cs.length c3] 30)).alloc (.cells #[.slice none 0 0, .slice none 0 0, .slice none 0 0] 30) := ⟨_, rfl⟩
  rw [← hW]
  rw [← hW] at K1 CP hs0
  clear hW
  have HS := Lib.hid hs0
  clear hs0
  go_region_held3 (fun w' => Below w.heap.size w w' ∧ w.heap.size + 1 + 1 ≤ w'.heap.size ∧ w'.cell? ⟨w.heap.size, 0, none⟩ = some (.slice (some x1) b.rs.length c1) ∧ w'.cell? ⟨w.heap.size, 1, none⟩ = some (.slice (some x2) b.es.length c2) ∧ w'.cell? ⟨w.heap.size, 2, none⟩ = some (.slice (some x3) b.cs.length c3))
    (first
      | (show Cp w (.slice (some x1) b.rs.length c1) (.slice (some x2) b.es.length c2) (.slice (some x3) b.cs.length c3) _; repeat (first | with_reducible exact cc | with_reducible exact CP.out | with_reducible refine Cp.drew ?_ | with_reducible refine Cp.alloc ?_ _ | with_reducible refine Cp.set ?_ _ _))
      | (trace_state; fail))
    (first
      | (go_at_call 112
         have hS : Cp w (.slice (some x1) b.rs.length c1) (.slice (some x2) b.es.length c2) (.slice (some x3) b.cs.length c3) _ := (by assumption : Below w.heap.size w _ ∧ _)
         refine (H2.out _ hS.1).mono ?_
         rintro e wB ⟨gB, cB, rfl, oB, bB⟩
         have cc := hS.call bB
         have OB : Hid (OwnTab wB (w.heap.size + 1 + 1) (.slice (some gB) b.es.length cB) b.es) := OwnTab.mono oB hS.2.1
         have OA2 : Hid (OwnRl wB (w.heap.size + 1 + 1) (.slice (some ⟨gA, 0, none⟩) b.rs.length cA) b.rs) := (by first | exact own_later OA.out bB | exact own_later (World.ownsRow.drew OA.out) bB | exact own_later (World.ownsRow.alloc OA.out _) bB | exact own_later (World.ownsRow.drew (World.ownsRow.alloc OA.out _)) bB)
         have KB : Hid (Blk wB (w.heap.size + 1) 30 [.slice none 0 0, .slice none 0 0, .slice none 0 0]) := Blk.below (by (repeat (first | with_reducible exact KA.out | with_reducible refine Blk.drew ?_ | with_reducible refine Blk.alloc ?_ _)); done) bB
         first
           | (have EC2 := Lib.hid (EC.out.below bB))
           | (have EC2 := Lib.hid (Blk.below (Blk.drew EC.out) bB))
           | (have EC2 := Lib.hid (Blk.below (Blk.newE (w := wA) (t := 87) rfl) bB))
           | (have EC2 := Lib.hid (Blk.below (Blk.drew (Blk.newE (w := wA) (t := 87) rfl)) bB))
           | skip
         have ZB : Hid (w.heap.size + 1 + 1 ≤ wB.heap.size) := cc.2.1
         clear oB bB)
      | (have hS : Cp w (.slice (some x1) b.rs.length c1) (.slice (some x2) b.es.length c2) (.slice (some x3) b.cs.length c3) _ := (by assumption : Below w.heap.size w _ ∧ _)
         refine step_append_some _ (by rfl) (.tmp 3) (.tmp 5) 23 rfl (w.heap.size + 1 + 1) 35 i0 (.agg #[.bool false, .int .i64 0, .int .i64 0, .int .i64 0, .int .i64 0, .int .i64 0, .int .i64 0]) 7 56 Tryz.underlying23 hi hz0 hz1 hz2 rfl (by decide) (.slice (some ⟨_, 0, none⟩) 0 0) 0 [] (by rfl) (Blk.empty (by (repeat (first | with_reducible exact Blk.newE (by (simp; done)) | with_reducible refine Blk.drew ?_ | with_reducible refine Blk.alloc ?_ _)); done) (by have := HS.out; simp; omega)) (by simp) x1 b.rs.length c1 (flatC rlC b.rs) (by rfl) (flatC_len rlC_len b.rs) (H1.out _ hS.1) (flatC_one rlC_one b.rs) (by unfold maxLen; omega) (by omega) hS.2.1 ?_
         intro gA cA wA hown hgrow hg
         have OA : Hid (OwnRl wA (w.heap.size + 1 + 1) (.slice (some ⟨gA, 0, none⟩) b.rs.length cA) b.rs) := (by show World.ownsRow _ _ _ _ _ _ _; simpa using hown)
         have cc : Cp w (.slice (some x1) b.rs.length c1) (.slice (some x2) b.es.length c2) (.slice (some x3) b.cs.length c3) wA := Cp.grown hS hgrow (by have := HS.out; simp; omega)
         have KA : Hid (Blk wA (w.heap.size + 1) 30 [.slice none 0 0, .slice none 0 0, .slice none 0 0]) := Blk.grown (by (repeat (first | with_reducible exact K1.out | with_reducible refine Blk.drew ?_ | with_reducible refine Blk.alloc ?_ _)); done) hgrow (by have := HS.out; simp; omega)
         first
           | (have EC := Lib.hid (Blk.grown (Blk.drew (Blk.new1 W _ 87)) hgrow (Nat.succ_ne_self _)))
           | (have EC := Lib.hid (Blk.grown (Blk.new1 W _ 87) hgrow (Nat.succ_ne_self _)))
           | (have EC := Lib.hid (Blk.grown (Blk.drew (Blk.alloc (Blk.newE (w := W) (t := 87) rfl) _)) hgrow (Nat.succ_ne_self _).symm))
           | (have EC := Lib.hid (Blk.grown (Blk.alloc (Blk.newE (w := W) (t := 87) rfl) _) hgrow (Nat.succ_ne_self _).symm))
           | skip
         have ZA : Hid (w.heap.size + 1 + 1 ≤ wA.heap.size) := cc.2.1
         clear hown hgrow hg)
      | (have hS : Cp w (.slice (some x1) b.rs.length c1) (.slice (some x2) b.es.length c2) (.slice (some x3) b.cs.length c3) _ := (by assumption : Below w.heap.size w _ ∧ _)
         refine step_append_some _ (by rfl) (.tmp 10) (.tmp 12) 28 rfl (w.heap.size + 1 + 1) 87 i3 (.agg #[.int .i64 0, .int .i64 0, .int .i64 0, .int .i64 0, .string ⟨#[]⟩, .string ⟨#[]⟩, .string ⟨#[]⟩]) 7 80 Tryz.underlying28 hj hy0 hy1 hy2 rfl (by decide) (.slice (some ⟨_, 0, none⟩) 0 0) 0 [] (by rfl) (Blk.empty (by (repeat (first | with_reducible exact EC2.out | with_reducible exact Blk.newE (by (simp; done)) | with_reducible refine Blk.drew ?_ | with_reducible refine Blk.alloc ?_ _)); done) (by have := HS.out; have := hS.2.1; have := ZA.out; have := ZB.out; first | omega | (simp; omega))) (by simp) x3 b.cs.length c3 (flatC cnC b.cs) (by rfl) (flatC_len cnC_len b.cs) (H3.out _ hS.1) (flatC_one cnC_one b.cs) (by unfold maxLen; omega) (by omega) hS.2.1 ?_
         intro gC cC wC hown hgrow hg
         have OC : Hid (OwnCn wC (w.heap.size + 1 + 1) (.slice (some ⟨gC, 0, none⟩) b.cs.length cC) b.cs) := (by show World.ownsRow _ _ _ _ _ _ _; simpa using hown)
         have cc : Cp w (.slice (some x1) b.rs.length c1) (.slice (some x2) b.es.length c2) (.slice (some x3) b.cs.length c3) wC := Cp.grown hS hgrow (by have := HS.out; have := hS.2.1; have := ZA.out; have := ZB.out; first | omega | (simp; omega))
         first
           | (have OA3 : Hid (OwnRl wC (w.heap.size + 1 + 1) (.slice (some ⟨gA, 0, none⟩) b.rs.length cA) b.rs) := own_apart OA2.out EC2.out hgrow (by decide)
              have OB3 : Hid (OwnTab wC (w.heap.size + 1 + 1) (.slice (some gB) b.es.length cB) b.es) := own_apart OB.out EC2.out hgrow (by decide)
              have KC : Hid (Blk wC (w.heap.size + 1) 30 [.slice none 0 0, .slice none 0 0, .slice none 0 0]) := Blk.grown KB.out hgrow (by have := HS.out; have := ZA.out; have := ZB.out; simp; omega))
           | (have OA3 : Hid (OwnRl wC (w.heap.size + 1 + 1) (.slice (some ⟨gA, 0, none⟩) b.rs.length cA) b.rs) := own_apart (World.ownsRow.alloc OA2.out _) (Blk.newE (t := 87) rfl) hgrow (by decide)
              have OB3 : Hid (OwnTab wC (w.heap.size + 1 + 1) (.slice (some gB) b.es.length cB) b.es) := own_apart (World.ownsRow.alloc OB.out _) (Blk.newE (t := 87) rfl) hgrow (by decide)
              have KC : Hid (Blk wC (w.heap.size + 1) 30 [.slice none 0 0, .slice none 0 0, .slice none 0 0]) := Blk.grown (Blk.alloc KB.out _) hgrow (by have := HS.out; have := hS.2.1; have := KB.out.lt; simp; omega))
           | (trace_state; fail)
         obtain ⟨⟨r0, r1, r2⟩, f0, f1, f2⟩ := three_all KC.out
         clear hown hgrow hg))
  all_goals
    go_wp2_with fail
    have hB3 := three_set KC.out (.slice (some ⟨gA, 0, none⟩) b.rs.length cA) (.slice (some gB) b.es.length cB) (.slice (some ⟨gC, 0, none⟩) b.cs.length cC)
    obtain ⟨⟨q0, q1, q2⟩, -⟩ := three_all hB3
    refine bodyPost_ret (v := .agg #[.slice (some ⟨gA, 0, none⟩) b.rs.length cA, .slice (some gB) b.es.length cB, .slice (some ⟨gC, 0, none⟩) b.cs.length cC]) (by simp [results, Tryz.results55, go_sem, q0, q1, q2]) rfl ⟨_, rfl, ?_, ?_⟩
    · have hb : w.heap.size ≤ w.heap.size + 1 + 1 := by omega
      have hl : w.heap.size + 1 < w.heap.size + 1 + 1 := by omega
      have o : OwB wC (w.heap.size + 1 + 1) (.agg #[.slice (some ⟨gA, 0, none⟩) b.rs.length cA, .slice (some gB) b.es.length cB, .slice (some ⟨gC, 0, none⟩) b.cs.length cC]) b := ⟨_, _, _, _, _, _, rfl, OA3.out, own_ends OB3.out, OC.out⟩
      exact (((o.setCell hl _).setCell hl _).setCell hl _).base hb
    · exact (((cc.set _ _).set _ _).set _ _).1

theorem specCopy7_any (B : Nat) (v : Value) (b : Bx) (w : World) (hs : bxSz b) (ho : OwnBx w B v b) :
    Calls Tryz.prog 55 #[v] w fun e w' => ∃ u, e = .returned u ∧ OwB w' w.heap.size u b ∧ Below w.heap.size w w' := by
  obtain ⟨g1, g2, c2, g3, rfl, o1, o2, o3⟩ := ho
  exact specCopy7_at _ _ _ _ _ _ b w hs o1.rd (OwnTab.tab (B := B) o2) o3.rd

end Go.Proofs.YtglpijjkihpeeaaGreatDoor

/- Plain facts on segments: which are ok, their sums, their bytes, and what bytes are read as. No program. No condition. -/
namespace Go.Proofs.YtglpijjkihpeeaaGreatDoor

/-- A byte that may stand in a segment. -/
def dataB (c : UInt8) : Bool := byteB c || decide (c = 59)
def segTxB (l : List UInt8) : Bool := decide (l.length ≤ 12) && l.all dataB
/-- A segment as data. -/
structure Sg where
  sa : Int
  sp : Int
  da : Int
  dp : Int
  seq : Int
  ack : Int
  data : List UInt8
deriving DecidableEq
def segOkB (s : Sg) : Bool := endB s.sa s.sp && endB s.da s.dp && inB s.seq 0 240 && inB s.ack 0 240 && segTxB s.data

theorem fold_data (l : List UInt8) : ∀ x : List (List UInt8) × List UInt8, ((l.foldl stl x).1.all (fun y => y.all byteB) && (l.foldl stl x).2.all byteB) = (x.1.all (fun y => y.all byteB) && x.2.all byteB && l.all dataB) := by
  induction l with
  | nil => intro x; simp
  | cons c r ih =>
    intro x
    rw [List.foldl_cons, ih]
    unfold stl
    by_cases h : c = 59
    · simp [h, dataB]
    · simp only [h, if_false, List.all_append, List.all_cons, List.all_nil, dataB, decide_false, Bool.or_false, Bool.and_true]
      cases (x.1.all fun y => y.all byteB) <;> cases (x.2.all byteB) <;> cases (byteB c) <;> simp
/-- A short text is a stream just if each of its bytes may stand in one. -/
theorem strB_data {l : List UInt8} (h : l.length ≤ 12) : strB l = l.all dataB := by
  have hf := fold_data l ([], [])
  have h1 : (linesL l).all linB = (linesL l).all (fun y => y.all byteB) := by
    rw [Bool.eq_iff_iff, List.all_eq_true, List.all_eq_true]
    constructor
    · intro hh x hx
      have := hh x hx
      unfold linB at this
      simp only [Bool.and_eq_true] at this
      exact this.2
    · intro hh x hx
      have h3 := line_len hx
      unfold linB
      rw [hh x hx, decide_eq_true (by omega)]; rfl
  have h2 : linB (restL l) = (restL l).all byteB := by
    have h3 := rest_le l
    unfold linB
    rw [decide_eq_true (by omega)]; simp
  unfold strB
  rw [h1, h2, decide_eq_true (by omega), Bool.true_and]
  unfold linesL restL linesF
  rw [hf]; simp
theorem segTx_str (l : List UInt8) : segTxB l = (decide (l.length ≤ 12) && strB l) := by
  unfold segTxB
  by_cases h : l.length ≤ 12
  · rw [strB_data h]
  · simp [h]

/-- The sum. -/
def sumStp (n : Nat) (c : UInt8) : Nat := (n * 257 + c.toNat) % 65521
def sumL (l : List UInt8) : Nat := l.foldl sumStp 1
theorem sumL_snoc (l : List UInt8) (c : UInt8) : sumL (l ++ [c]) = sumStp (sumL l) c := by simp [sumL]
theorem sumStp_lt (n : Nat) (c : UInt8) : sumStp n c < 65521 := Nat.mod_lt _ (by decide)
theorem sumF_lt (l : List UInt8) : ∀ n, n < 65521 → l.foldl sumStp n < 65521 := by
  induction l with
  | nil => intro n h; exact h
  | cons c r ih => intro n _; exact ih _ (sumStp_lt n c)
theorem sumL_lt (l : List UInt8) : sumL l < 65521 := sumF_lt l 1 (by decide)
theorem sumStp_inj {n m : Nat} {c : UInt8} (hn : n < 65521) (hm : m < 65521) (h : sumStp n c = sumStp m c) : n = m := by
  unfold sumStp at h; omega
theorem sumStp_ne {n : Nat} {c d : UInt8} (h : sumStp n c = sumStp n d) : c = d := by
  unfold sumStp at h
  have h1 := c.toNat_lt
  have h2 := d.toNat_lt
  exact UInt8.toNat_inj.1 (by omega)
theorem sumF_inj (l : List UInt8) : ∀ n m, n < 65521 → m < 65521 → l.foldl sumStp n = l.foldl sumStp m → n = m := by
  induction l with
  | nil => intro n m _ _ h; exact h
  | cons c r ih =>
    intro n m hn hm h
    exact sumStp_inj hn hm (ih _ _ (sumStp_lt _ _) (sumStp_lt _ _) h)
theorem sumF_set (l : List UInt8) : ∀ (n i : Nat) (c : UInt8) (hi : i < l.length), n < 65521 → (l.set i c).foldl sumStp n = l.foldl sumStp n → c = l[i] := by
  induction l with
  | nil => intro n i c hi; simp at hi
  | cons d r ih =>
    intro n i c hi hn h
    cases i with
    | zero =>
      simp only [List.set_cons_zero, List.foldl_cons] at h
      exact sumStp_ne (sumF_inj r _ _ (sumStp_lt _ _) (sumStp_lt _ _) h)
    | succ i =>
      simp only [List.set_cons_succ, List.foldl_cons] at h
      exact ih _ i c (by simpa using hi) (sumStp_lt _ _) h
/-- With one byte turned it is another one. -/
theorem sumL_set {l : List UInt8} {i : Nat} {c : UInt8} (hi : i < l.length) (h : c ≠ l[i]) : sumL (l.set i c) ≠ sumL l :=
  fun e => h (sumF_set l 1 i c hi (by decide) e)

/-- A number in two bytes; the number that two bytes are. -/
def wordL (n : Nat) : List UInt8 := [UInt8.ofNat (n / 256), UInt8.ofNat n]
def numAt (l : List UInt8) (i : Nat) : Nat := (l[i]?.getD 0).toNat * 256 + (l[i + 1]?.getD 0).toNat
theorem numAt_lt (l : List UInt8) (i : Nat) : numAt l i < 65536 := by
  unfold numAt
  have h1 := (l[i]?.getD 0).toNat_lt
  have h2 := (l[i + 1]?.getD 0).toNat_lt
  omega
theorem wordL_num {l : List UInt8} {i : Nat} (h : i + 2 ≤ l.length) : wordL (numAt l i) = (l.drop i).take 2 := by
  rw [List.drop_eq_getElem_cons (by omega), List.drop_eq_getElem_cons (i := i + 1) (by omega)]
  simp only [List.take_succ_cons, List.take_zero, wordL, numAt, List.getElem?_eq_getElem (show i < l.length by omega), List.getElem?_eq_getElem (show i + 1 < l.length by omega), Option.getD_some]
  have h1 := l[i].toNat_lt
  have h2 := l[i + 1].toNat_lt
  congr 1
  · apply UInt8.toNat_inj.1
    simp only [UInt8.toNat_ofNat']
    omega
  · congr 1
    apply UInt8.toNat_inj.1
    simp only [UInt8.toNat_ofNat']
    omega
theorem wordL_inj {n m : Nat} (hn : n < 65536) (hm : m < 65536) (h : wordL n = wordL m) : n = m := by
  unfold wordL at h
  simp only [List.cons.injEq, and_true] at h
  have h1 := congrArg UInt8.toNat h.1
  have h2 := congrArg UInt8.toNat h.2
  simp only [UInt8.toNat_ofNat'] at h1 h2
  omega

/-- A segment's bytes, but for its sum; all of them. -/
def headL (s : Sg) : List UInt8 := wordL s.sa.toNat ++ wordL s.sp.toNat ++ wordL s.da.toNat ++ wordL s.dp.toNat ++ wordL s.seq.toNat ++ wordL s.ack.toNat
def bodyL (s : Sg) : List UInt8 := headL s ++ [UInt8.ofNat s.data.length] ++ s.data
def segL (s : Sg) : List UInt8 := bodyL s ++ wordL (sumL (bodyL s))
def segBytesL (s : Sg) : List UInt8 := if segOkB s = true then segL s else []
theorem headL_len (s : Sg) : (headL s).length = 12 := rfl
theorem bodyL_len (s : Sg) : (bodyL s).length = 13 + s.data.length := by simp [bodyL, headL_len]; omega
theorem segL_len (s : Sg) : (segL s).length = 15 + s.data.length := by simp [segL, bodyL_len, wordL]; omega

/-- What bytes say, if they are as many. -/
def sayL (l : List UInt8) : Sg := ⟨numAt l 0, numAt l 2, numAt l 4, numAt l 6, numAt l 8, numAt l 10, (l.drop 13).take (l.length - 15)⟩
/-- The segment that bytes are. -/
def fitB (l : List UInt8) : Bool := decide (15 ≤ l.length) && decide (l.length ≤ 27) && decide ((l[12]?.getD 0).toNat = l.length - 15) && decide (numAt l (l.length - 2) = sumL (l.take (l.length - 2)))
def readL (l : List UInt8) : Option Sg := if fitB l = true ∧ segOkB (sayL l) = true then some (sayL l) else none

theorem segOk_bounds {s : Sg} (h : segOkB s = true) : (0 ≤ s.sa ∧ s.sa < 65536 ∧ 0 ≤ s.sp ∧ s.sp < 65536 ∧ 0 ≤ s.da ∧ s.da < 65536 ∧ 0 ≤ s.dp ∧ s.dp < 65536) ∧ (0 ≤ s.seq ∧ s.seq ≤ 240 ∧ 0 ≤ s.ack ∧ s.ack ≤ 240) ∧ s.data.length ≤ 12 := by
  unfold segOkB at h
  simp only [Bool.and_eq_true] at h
  obtain ⟨⟨⟨⟨h1, h2⟩, h3⟩, h4⟩, h5⟩ := h
  unfold endB insB outB boxB inB at h1 h2
  unfold inB at h3 h4
  unfold segTxB at h5
  simp only [Bool.or_eq_true, Bool.and_eq_true, decide_eq_true_eq] at h1 h2 h3 h4 h5
  omega
theorem head_at (a b c d e f : Nat) (r : List UInt8) (ha : a < 65536) (hb : b < 65536) (hc : c < 65536) (hd : d < 65536) (he : e < 65536) (hf : f < 65536) :
    numAt (wordL a ++ wordL b ++ wordL c ++ wordL d ++ wordL e ++ wordL f ++ r) 0 = a ∧ numAt (wordL a ++ wordL b ++ wordL c ++ wordL d ++ wordL e ++ wordL f ++ r) 2 = b ∧ numAt (wordL a ++ wordL b ++ wordL c ++ wordL d ++ wordL e ++ wordL f ++ r) 4 = c ∧
    numAt (wordL a ++ wordL b ++ wordL c ++ wordL d ++ wordL e ++ wordL f ++ r) 6 = d ∧ numAt (wordL a ++ wordL b ++ wordL c ++ wordL d ++ wordL e ++ wordL f ++ r) 8 = e ∧ numAt (wordL a ++ wordL b ++ wordL c ++ wordL d ++ wordL e ++ wordL f ++ r) 10 = f := by
  simp only [numAt, wordL, List.cons_append, List.nil_append, List.getElem?_cons_succ, List.getElem?_cons_zero, Option.getD_some, UInt8.toNat_ofNat', Nat.reduceAdd]
  omega
theorem numAt_end (l : List UInt8) (n : Nat) (h : n < 65536) : numAt (l ++ wordL n) l.length = n := by
  unfold numAt
  rw [List.getElem?_append_right (Nat.le_refl _), List.getElem?_append_right (by omega)]
  simp only [Nat.sub_self, Nat.add_sub_cancel_left, wordL, List.getElem?_cons_succ, List.getElem?_cons_zero, Option.getD_some, UInt8.toNat_ofNat']
  omega
/-- A segment's bytes are read as it. -/
theorem readL_seg {s : Sg} (h : segOkB s = true) : readL (segL s) = some s := by
  obtain ⟨⟨a1, a2, b1, b2, c1, c2, d1, d2⟩, ⟨e1, e2, f1, f2⟩, hd⟩ := segOk_bounds h
  have hl := segL_len s
  have hb := bodyL_len s
  have hh := head_at s.sa.toNat s.sp.toNat s.da.toNat s.dp.toNat s.seq.toNat s.ack.toNat ([UInt8.ofNat s.data.length] ++ s.data ++ wordL (sumL (bodyL s))) (by omega) (by omega) (by omega) (by omega) (by omega) (by omega)
  have e0 : segL s = wordL s.sa.toNat ++ wordL s.sp.toNat ++ wordL s.da.toNat ++ wordL s.dp.toNat ++ wordL s.seq.toNat ++ wordL s.ack.toNat ++ ([UInt8.ofNat s.data.length] ++ s.data ++ wordL (sumL (bodyL s))) := by
    unfold segL
    show headL s ++ [UInt8.ofNat s.data.length] ++ s.data ++ wordL (sumL (bodyL s)) = headL s ++ ([UInt8.ofNat s.data.length] ++ s.data ++ wordL (sumL (bodyL s)))
    simp
  rw [← e0] at hh
  obtain ⟨h0, h2, h4, h6, h8, h10⟩ := hh
  have hdata : ((segL s).drop 13).take ((segL s).length - 15) = s.data := by
    rw [hl, show 15 + s.data.length - 15 = s.data.length by omega]
    have : (segL s).drop 13 = s.data ++ wordL (sumL (bodyL s)) := by
      unfold segL bodyL
      rw [show headL s ++ [UInt8.ofNat s.data.length] ++ s.data ++ wordL (sumL (headL s ++ [UInt8.ofNat s.data.length] ++ s.data)) = (headL s ++ [UInt8.ofNat s.data.length]) ++ (s.data ++ wordL (sumL (headL s ++ [UInt8.ofNat s.data.length] ++ s.data))) by simp]
      rw [List.drop_left' (by simp [headL_len])]
    rw [this, List.take_left' rfl]
  have hsay : sayL (segL s) = s := by
    unfold sayL
    rw [h0, h2, h4, h6, h8, h10, hdata]
    cases s
    simp only [Sg.mk.injEq, and_true] at *
    omega
  have h12 : ((segL s)[12]?.getD 0).toNat = s.data.length := by
    unfold segL bodyL
    rw [List.append_assoc, List.append_assoc, List.getElem?_append_right (by rw [headL_len]; omega)]
    simp only [headL_len, Nat.sub_self, List.cons_append, List.nil_append, List.getElem?_cons_zero, Option.getD_some, UInt8.toNat_ofNat']
    omega
  have hsum : numAt (segL s) ((segL s).length - 2) = sumL ((segL s).take ((segL s).length - 2)) := by
    have h2 : (segL s).length - 2 = (bodyL s).length := by omega
    rw [h2]
    unfold segL
    rw [List.take_left' rfl]
    exact numAt_end _ _ (by have := sumL_lt (bodyL s); omega)
  have hfit : fitB (segL s) = true := by
    unfold fitB
    rw [hsum, h12, hl]
    simp
    omega
  unfold readL
  rw [if_pos ⟨hfit, by rw [hsay]; exact h⟩, hsay]
theorem drop_two {l : List UInt8} {i : Nat} (h : i + 2 ≤ l.length) : l.drop i = wordL (numAt l i) ++ l.drop (i + 2) := by
  rw [wordL_num h]
  have := (List.take_append_drop 2 (l.drop i)).symm
  rw [List.drop_drop] at this
  exact this
/-- What is read is a segment, and has these bytes. -/
theorem readL_some {l : List UInt8} {s : Sg} (h : readL l = some s) : segOkB s = true ∧ segL s = l := by
  unfold readL at h
  by_cases hc : fitB l = true ∧ segOkB (sayL l) = true
  · rw [if_pos hc] at h
    cases h
    refine ⟨hc.2, ?_⟩
    have hf := hc.1
    unfold fitB at hf
    simp only [Bool.and_eq_true, decide_eq_true_eq] at hf
    obtain ⟨⟨⟨h15, h27⟩, h12⟩, hs⟩ := hf
    have hdl : ((l.drop 13).take (l.length - 15)).length = l.length - 15 := by rw [List.length_take, List.length_drop]; omega
    have hbody : bodyL (sayL l) = l.take (l.length - 2) := by
      have h13 : l[12]? = some (UInt8.ofNat (l.length - 15)) := by
        rw [List.getElem?_eq_getElem (by omega)] at h12 ⊢
        simp only [Option.getD_some] at h12
        rw [← h12]; simp
      have e : l = wordL (numAt l 0) ++ wordL (numAt l 2) ++ wordL (numAt l 4) ++ wordL (numAt l 6) ++ wordL (numAt l 8) ++ wordL (numAt l 10) ++ [UInt8.ofNat (l.length - 15)] ++ l.drop 13 := by
        have d0 := drop_two (l := l) (i := 0) (by omega)
        have d1 := drop_two (l := l) (i := 2) (by omega)
        have d2 := drop_two (l := l) (i := 4) (by omega)
        have d3 := drop_two (l := l) (i := 6) (by omega)
        have d4 := drop_two (l := l) (i := 8) (by omega)
        have d5 := drop_two (l := l) (i := 10) (by omega)
        have d6 : l.drop 12 = UInt8.ofNat (l.length - 15) :: l.drop 13 := by
          rw [List.drop_eq_getElem_cons (i := 12) (by omega)]
          congr 1
          rw [List.getElem?_eq_getElem (by omega)] at h13
          exact Option.some.inj h13
        simp only [List.drop_zero, Nat.reduceAdd] at d0 d1 d2 d3 d4 d5
        conv => lhs; rw [d0, d1, d2, d3, d4, d5, d6]
        simp
      have hE : bodyL (sayL l) = wordL (numAt l 0) ++ wordL (numAt l 2) ++ wordL (numAt l 4) ++ wordL (numAt l 6) ++ wordL (numAt l 8) ++ wordL (numAt l 10) ++ [UInt8.ofNat (l.length - 15)] ++ (l.drop 13).take (l.length - 15) := by
        unfold bodyL headL sayL
        simp only [Int.toNat_natCast, hdl]
      rw [hE]
      conv => rhs; rw [show l.length - 2 = 13 + (l.length - 15) by omega]
      conv => rhs; arg 2; rw [e]
      rw [show ∀ n, 13 + n = (wordL (numAt l 0) ++ wordL (numAt l 2) ++ wordL (numAt l 4) ++ wordL (numAt l 6) ++ wordL (numAt l 8) ++ wordL (numAt l 10) ++ [UInt8.ofNat (l.length - 15)]).length + n from fun n => rfl]
      rw [List.take_length_add_append]
    unfold segL
    rw [hbody, ← hs, wordL_num (by omega), List.take_of_length_le (l := l.drop (l.length - 2)) (by rw [List.length_drop]; omega), List.take_append_drop]
  · rw [if_neg hc] at h; cases h
theorem readL_inj {l m : List UInt8} {s : Sg} (h : readL l = some s) (h2 : readL m = some s) : l = m := by
  rw [← (readL_some h).2, ← (readL_some h2).2]

end Go.Proofs.YtglpijjkihpeeaaGreatDoor

/- SegOk of the specification and of the program, at every segment. Condition: its bytes are at most 2^21. -/
namespace Go.Proofs.YtglpijjkihpeeaaGreatDoor
open Go.RowKit

theorem segTx_no {l : List UInt8} {c : UInt8} (h : c ∈ l) (hc : dataB c = false) : segTxB l = false := by
  unfold segTxB
  rw [show l.all dataB = false from List.all_eq_false.2 ⟨c, h, by simp [hc]⟩]; simp

set_option maxRecDepth 100000 in
set_option maxHeartbeats 400000 in
theorem isPlace_any (n : Int) (w : World) :
    Calls Tryz.prog 120 #[.int .i64 n] w fun e w' => e = .returned (.bool (inB n 0 240)) ∧ w = w' := by
  go_enter Tryz.func120, Tryz.ntmps120
  go_wp2_with (go_at_call 122; refine (within_any _ _ _ _).mono ?_; rintro e w' ⟨rfl, rfl⟩)
  go_ret
  exact ⟨rfl, rfl⟩

set_option maxRecDepth 100000 in
set_option maxHeartbeats 400000 in
theorem isText_any (d : ByteArray) (w : World) (hd : d.size ≤ 2097152) :
    Calls Tryz.prog 121 #[.string d] w fun e w' => e = .returned (.bool (segTxB d.data.toList)) ∧ Below w.heap.size w w' := by
  have HT : Hid (segTxB d.data.toList = (decide (d.size ≤ 12) && strB d.data.toList)) := by rw [segTx_str, len_list]; rfl
  by_cases h : d.size ≤ 12
  · have ht2 : segTxB d.data.toList = strB d.data.toList := by have := HT.out; rw [decide_eq_true h] at this; simpa using this
    have HT2 := Lib.hid ht2
    clear ht2
    have HC : Hid (∀ w, Calls Tryz.prog 141 #[.string d] w fun e w' => e = .returned (.bool (segTxB d.data.toList)) ∧ Below w.heap.size w w') := fun w => by rw [HT2.out]; exact implStr_any d w hd
    obtain ⟨q, hq⟩ : ∃ q, q = segTxB d.data.toList := ⟨_, rfl⟩
    rw [← hq] at HC ⊢
    clear hq HT HT2
    cases q
    all_goals
      go_enter Tryz.func121, Tryz.ntmps121
      go_wp2_with (go_at_call 141; refine (HC.out _).mono ?_; rintro e w1 ⟨rfl, b1⟩)
      go_ret
      exact ⟨rfl, b1⟩
  · have ht2 : segTxB d.data.toList = false := by have := HT.out; rw [decide_eq_false h] at this; simpa using this
    have HT2 := Lib.hid ht2.symm
    clear HT ht2
    go_enter Tryz.func121, Tryz.ntmps121
    go_wp2_with fail
    go_ret
    exact ⟨ret_bool HT2.out, Below.refl _ _⟩

/-- What SegOk says, step by step. -/
theorem ok_fold (a b c d e : Bool) : (a && b && c && d && e) = (a && (b && (c && (d && e)))) := by cases a <;> cases b <;> cases c <;> cases d <;> rfl

set_option maxRecDepth 100000 in
set_option maxHeartbeats 3200000 in
theorem implSegOk_any (sa sp da dp sq ak : Int) (d : ByteArray) (w : World) (hd : d.size ≤ 2097152) :
    Calls Tryz.prog 62 #[.agg #[.int .i64 sa, .int .i64 sp, .int .i64 da, .int .i64 dp, .int .i64 sq, .int .i64 ak, .string d]] w fun e w' => e = .returned (.bool (segOkB ⟨sa, sp, da, dp, sq, ak, d.data.toList⟩)) ∧ Below w.heap.size w w' := by
  have HS : Hid (segOkB ⟨sa, sp, da, dp, sq, ak, d.data.toList⟩ = (endB sa sp && endB da dp && inB sq 0 240 && inB ak 0 240 && segTxB d.data.toList)) := rfl
  have HT : Hid (∀ w, Calls Tryz.prog 121 #[.string d] w fun e w' => e = .returned (.bool (segTxB d.data.toList)) ∧ Below w.heap.size w w') := fun w => isText_any d w hd
  obtain ⟨q, hq⟩ : ∃ q, q = segOkB ⟨sa, sp, da, dp, sq, ak, d.data.toList⟩ := ⟨_, rfl⟩
  rw [← hq] at HS ⊢
  clear hq
  obtain ⟨e5, he5⟩ : ∃ e5, e5 = segTxB d.data.toList := ⟨_, rfl⟩
  rw [← he5] at HS HT
  clear he5 hd
  have HC : Hid (∀ n (w : World), Calls Tryz.prog 120 #[.int .i64 n] w fun e w' => e = .returned (.bool (inB n 0 240)) ∧ w = w') := fun n w => isPlace_any n w
  cases h1 : endB sa sp
  rotate_left
  cases h2 : endB da dp
  rotate_left
  cases h3 : inB sq 0 240
  rotate_left
  cases h4 : inB ak 0 240
  rotate_left
  cases e5
  all_goals
    try rw [h1] at HS
    try rw [h2] at HS
    try rw [h3] at HS
    try rw [h4] at HS
    first
    | (have hq : q = true := by (have := HS.out; simpa using this)
       subst hq)
    | (have hq : q = false := by (have := HS.out; simpa using this)
       subst hq)
    clear HS
    go_enter Tryz.func62, Tryz.ntmps62
    go_wp2_with fail
    (go_at_call 119; refine (implOk_any sa sp _).mono ?_; rintro e w1 ⟨rfl, b1⟩; obtain ⟨c1, f1⟩ := bcell b1; have s1 : w.heap.size < w1.heap.size := by (have := b1.size; simp at this; omega))
    go_wp2_with (first
      | (go_at_call 119; refine (implOk_any da dp _).mono ?_; rintro e w2 ⟨rfl, b2⟩; obtain ⟨c2, f2⟩ := bcell b2; have s2 : w.heap.size < w2.heap.size := by (have := b2.size; omega))
      | (go_at_call 120; refine (HC.out _ _).mono ?_; rintro e w' ⟨rfl, rfl⟩)
      | (go_at_call 121; refine (HT.out _).mono ?_; rintro e w3 ⟨rfl, b3⟩))
    go_ret
    first
      | exact ⟨rfl, (below_box b1).trans ((b2.mono (by omega)).trans (b3.mono (by omega)))⟩
      | exact ⟨rfl, (below_box b1).trans (b2.mono (by omega))⟩
      | exact ⟨rfl, below_box b1⟩

theorem dataB_ne {c : UInt8} (h : byteB c = false) : dataB c = decide (c = 59) := by unfold dataB; rw [h]; rfl
theorem dataB_yes {c : UInt8} (h : byteB c = true) : dataB c = true := by unfold dataB; rw [h]; rfl
theorem byte59 (c : UInt8) : ((c.toNat : Int) == 59) = decide (c = 59) := by
  rw [Bool.eq_iff_iff]
  simp
  constructor
  · intro h
    have e59 : (59 : UInt8).toNat = 59 := rfl
    exact UInt8.toNat_inj.1 (by omega)
  · rintro rfl; rfl

set_option maxRecDepth 100000 in
set_option maxHeartbeats 3200000 in
theorem specSegOk_any (sa sp da dp sq ak : Int) (d : ByteArray) (w : World) (hd : d.size ≤ 2097152) :
    Calls Tryz.prog 52 #[.agg #[.int .i64 sa, .int .i64 sp, .int .i64 da, .int .i64 dp, .int .i64 sq, .int .i64 ak, .string d]] w fun e w' => e = .returned (.bool (segOkB ⟨sa, sp, da, dp, sq, ak, d.data.toList⟩)) ∧ Below w.heap.size w w' := by
  have HS : Hid (segOkB ⟨sa, sp, da, dp, sq, ak, d.data.toList⟩ = (endB sa sp && endB da dp && inB sq 0 240 && inB ak 0 240 && segTxB d.data.toList)) := rfl
  obtain ⟨q, hq⟩ : ∃ q, q = segOkB ⟨sa, sp, da, dp, sq, ak, d.data.toList⟩ := ⟨_, rfl⟩
  rw [← hq] at HS ⊢
  clear hq
  have HL : Hid (¬ d.size ≤ 12 → segTxB d.data.toList = false) := by
    intro h
    unfold segTxB
    rw [len_list, decide_eq_false h]; rfl
  cases h1 : endB sa sp
  rotate_left
  cases h2 : endB da dp
  rotate_left
  cases h3 : inB sq 0 240
  rotate_left
  cases h4 : inB ak 0 240
  rotate_left
  by_cases h5 : d.size ≤ 12
  rotate_left
  all_goals
    try rw [h1] at HS
    try rw [h2] at HS
    try rw [h3] at HS
    try rw [h4] at HS
    go_enter Tryz.func52, Tryz.ntmps52
    go_wp2_with fail
    (go_at_call 110; refine (specOk_any sa sp _).mono ?_; rintro e w1 ⟨rfl, b1⟩; obtain ⟨c1, f1⟩ := bcell b1; have s1 : w.heap.size < w1.heap.size := by (have := b1.size; simp at this; omega))
    go_wp2_with (first
      | (go_at_call 110; refine (specOk_any da dp _).mono ?_; rintro e w2 ⟨rfl, b2⟩; obtain ⟨c2, f2⟩ := bcell b2; have s2 : w.heap.size < w2.heap.size := by (have := b2.size; omega))
      | (go_at_call 44; refine (specIn_any _ _ _ _).mono ?_; rintro e w' ⟨rfl, rfl⟩))
    try
      go_ret
      first
        | exact ⟨ret_bool (by have := HS.out; simpa using this.symm), (below_box b1).trans (b2.mono (by omega))⟩
        | exact ⟨ret_bool (by have := HS.out; rw [HL.out h5] at this; simpa using this.symm), (below_box b1).trans (b2.mono (by omega))⟩
        | exact ⟨ret_bool (by have := HS.out; simpa using this.symm), below_box b1⟩
  clear h1 h2 h3 h4
  have b12 : Below w.heap.size w w2 := (below_box b1).trans (b2.mono (by omega))
  have k6 : w2.cell? ⟨w.heap.size, 6, none⟩ = some (.string d) := by rw [c2 _ _ s1, c1 _ _ (by simp)]; simp [go_sem]
  have HB := Lib.hid b12
  clear c1 f1 c2 f2 b1 b2 b12 HL
  go_loop [3] (fun i => ∃ k : Nat, k ≤ d.size ∧ i = .int .i64 k ∧ (∀ c ∈ d.data.toList.take k, dataB c = true)) (fun i => d.size - (intOf i).toNat)
  case atStart => exact ⟨0, Nat.zero_le _, rfl, by simp⟩
  case round =>
    obtain ⟨k, hk, rfl, hd2⟩ := hrel
    have HD := Lib.hid hd2
    clear hd2
    by_cases hlt : k < d.size
    · have HT : Hid (d.data.toList.take (k + 1) = d.data.toList.take k ++ [d[k]]) := take_snoc d k hlt
      have HM : Hid (d[k] ∈ d.data.toList) := mem_at d k hlt
      cases hb : byteB d[k]
      · have HN := Lib.hid (dataB_ne hb)
        have hlt2 : (k : Int) < (d.size : Int) := by omega
        by_cases h59 : d[k] = 59
        · have HQ : Hid (dataB d[k] = true) := by rw [HN.out]; exact decide_eq_true h59
          have e1 : (((d[k]).toNat : Int) == 59) = true := by rw [h59]; rfl
          have e2 : (((d[k]).toNat : Int) != 59) = false := by rw [h59]; rfl
          clear h59 HN
          go_wp2_with (go_at_call 111; refine (specByte_any _ _).mono ?_; rintro e w' ⟨rfl, rfl⟩)
          go_round
          case rel =>
            refine ⟨k + 1, by omega, by go_num, ?_⟩
            rw [HT.out]; intro c hc
            rcases List.mem_append.1 hc with hc | hc
            · exact HD.out c hc
            · simp at hc; subst hc; exact HQ.out
          case measure => simp [intOf]; omega
        · have HQ : Hid (segTxB d.data.toList = false) := segTx_no HM.out (by rw [HN.out]; exact decide_eq_false h59)
          have e1 : (((d[k]).toNat : Int) == 59) = false := by rw [byte59]; exact decide_eq_false h59
          have e2 : (((d[k]).toNat : Int) != 59) = true := by unfold bne; rw [e1]; rfl
          clear h59 HN
          go_wp2_with (go_at_call 111; refine (specByte_any _ _).mono ?_; rintro e w' ⟨rfl, rfl⟩)
          go_ret
          exact ⟨ret_bool (by have := HS.out; rw [HQ.out] at this; simpa using this.symm), HB.out⟩
      · have HQ := Lib.hid (dataB_yes hb)
        have hlt2 : (k : Int) < (d.size : Int) := by omega
        go_wp2_with (go_at_call 111; refine (specByte_any _ _).mono ?_; rintro e w' ⟨rfl, rfl⟩)
        go_round
        case rel =>
          refine ⟨k + 1, by omega, by go_num, ?_⟩
          rw [HT.out]; intro c hc
          rcases List.mem_append.1 hc with hc | hc
          · exact HD.out c hc
          · simp at hc; subst hc; exact HQ.out
        case measure => simp [intOf]; omega
    · have HQ : Hid (segTxB d.data.toList = true) := by
        have he : d.data.toList.take k = d.data.toList := List.take_of_length_le (by rw [len_list]; omega)
        show (_ && _) = true
        rw [len_list, decide_eq_true h5, ← he, List.all_eq_true.2 HD.out]; rfl
      go_wp2_with fail
      go_ret
      exact ⟨ret_bool (by have := HS.out; rw [HQ.out] at this; simpa using this.symm), HB.out⟩

end Go.Proofs.YtglpijjkihpeeaaGreatDoor

/- BoxTurn of the program at a box that is ok. Conditions: at most 2^20 rules, ends and streams each; all numbers are ints. -/
namespace Go.Proofs.YtglpijjkihpeeaaGreatDoor
open Go.RowKit Go.Sort

/-- The box's variable takes another box. -/
theorem Q4.turn {w w' : World} {x0 x1 x2 : Value} {ls lr lq : List Value} (h : Q4 w [x0, x1, x2] ls lr lq w') (u0 u1 u2 : Value) : Q4 w [u0, u1, u2] ls lr lq (((w'.setCell ⟨w.heap.size, 0, none⟩ u0).setCell ⟨w.heap.size, 1, none⟩ u1).setCell ⟨w.heap.size, 2, none⟩ u2) := by
  obtain ⟨h0, h1, h2, h3, h4⟩ := h
  exact ⟨((h0.setCell (Nat.le_refl _) _).setCell (Nat.le_refl _) _).setCell (Nat.le_refl _) _, three_set h1 u0 u1 u2, ((h2.far (by simp) _).far (by simp) _).far (by simp) _, ((h3.far (by simp; omega) _).far (by simp; omega) _).far (by simp; omega) _, ((h4.far (by simp; omega) _).far (by simp; omega) _).far (by simp; omega) _⟩

set_option maxRecDepth 100000 in
set_option maxHeartbeats 3200000 in
theorem implTurn_no (B : Nat) (v : Value) (b : Bx) (sa sp da dp sq ak : Int) (d : ByteArray) (w : World) (hs : bxSz b) (hcw : cnWf b.cs) (ho : OwnBx w B v b) (hv : VarsOk w) (htb : TabOk w) (hok : boxOkB b = true) (hd : d.size ≤ 2097152) (wd : (Lit.int .i64 dp).wf = true)
    (hwf : wfE b.es) (hno : (segOkB ⟨sa, sp, da, dp, sq, ak, d.data.toList⟩ && insB sa sp && boxB da dp && (endI b.es dp).isSome) = false) :
    Calls Tryz.prog 19 #[v, .agg #[.int .i64 sa, .int .i64 sp, .int .i64 da, .int .i64 dp, .int .i64 sq, .int .i64 ak, .string d]] w fun e w' => ∃ u, e = .returned (.tuple #[u, .agg ⟨zeroSg⟩, .bool false]) ∧ OwB w' w.heap.size u b ∧ Below w.heap.size w w' := by
  have HO : Hid (∀ w', Below w.heap.size w w' → Calls Tryz.prog 12 #[v] w' fun e w'' => e = .returned (.bool true) ∧ Below w'.heap.size w' w'') := fun w' h => by
    rw [← hok]
    exact implBoxOk_any B v b w' hs hwf hcw (ho.later h) (hv.below h) (htb.below h (Nat.le_refl _))
  have HC : Hid (∀ w', Below w.heap.size w w' → Calls Tryz.prog 60 #[v] w' fun e w'' => ∃ u, e = .returned u ∧ OwB w'' w'.heap.size u b ∧ Below w'.heap.size w' w'') := fun w' h => implCopy_any v b w' hs (ho.later h).owb.rd
  obtain ⟨es, hes⟩ : ∃ es, es = b.es := ⟨_, rfl⟩
  rw [← hes] at hwf hno
  have hn : es.length ≤ 4194304 := by rw [hes]; have := hs.2.1; omega
  have HM : Hid (∀ t w', TabAt w' t es → Calls Tryz.prog 61 #[.agg #[t], .int .i64 dp] w' fun e w'' => e = .returned (endV (endI es dp)) ∧ Below w'.heap.size w' w'') := fun t w' h => implMapEnd_any t es dp w' hn hwf wd h
  obtain ⟨bS, hbS⟩ : ∃ bS, bS = segOkB ⟨sa, sp, da, dp, sq, ak, d.data.toList⟩ := ⟨_, rfl⟩
  have HS : Hid (∀ w', Calls Tryz.prog 62 #[.agg #[.int .i64 sa, .int .i64 sp, .int .i64 da, .int .i64 dp, .int .i64 sq, .int .i64 ak, .string d]] w' fun e w'' => e = .returned (.bool bS) ∧ Below w'.heap.size w' w'') := fun w' => by rw [hbS]; exact implSegOk_any sa sp da dp sq ak d w' hd
  obtain ⟨bI, hbI⟩ : ∃ bI, bI = insB sa sp := ⟨_, rfl⟩
  have HI : Hid (∀ w', Calls Tryz.prog 63 #[.agg #[.int .i64 sa, .int .i64 sp]] w' fun e w'' => e = .returned (.bool bI) ∧ Below w'.heap.size w' w'') := fun w' => by rw [hbI]; exact implInside_any sa sp w'
  obtain ⟨bB, hbB⟩ : ∃ bB, bB = boxB da dp := ⟨_, rfl⟩
  have HB : Hid (∀ w', Calls Tryz.prog 64 #[.agg #[.int .i64 da, .int .i64 dp]] w' fun e w'' => e = .returned (.bool bB) ∧ Below w'.heap.size w' w'') := fun w' => by rw [hbB]; exact isBox_any da dp w'
  rw [← hbS, ← hbI, ← hbB] at hno
  obtain ⟨ta, tp, has, hE⟩ := endV_form' (endI es dp)
  rw [hE] at HM
  have hhas : (endI es dp).isSome = has := by
    revert hE
    rcases endI es dp with _ | ⟨a', p'⟩ <;> intro hE <;> simp [endV] at hE ⊢ <;> exact hE.2
  rw [hhas] at hno
  obtain ⟨g1, g2, c2, g3, rfl, o1, o2, o3⟩ := ho
  subst hes
  clear o1 o2 o3 hok hs hwf hcw hv htb hd wd hn hbS hbI hbB hE hhas
  have QN := Lib.hid (Q4.new w [.slice (some ⟨g1, 0, none⟩) b.rs.length b.rs.length, .slice (some ⟨g2, 0, none⟩) b.es.length c2, .slice (some ⟨g3, 0, none⟩) b.cs.length b.cs.length] [.int .i64 sa, .int .i64 sp, .int .i64 da, .int .i64 dp, .int .i64 sq, .int .i64 ak, .string d] [.slice none 0 0, .slice none 0 0, .slice none 0 0] zeroSg)
  go_enter Tryz.func19, Tryz.ntmps19
  go_wp2_with (go_at_call 12; refine (HO.out _ QN.out.1).mono ?_; rintro e w1 ⟨rfl, b1⟩; have Q1 := Lib.hid (QN.out.call b1); obtain ⟨⟨p0, p1, p2⟩, -⟩ := three_all Q1.out.2.1; clear b1)
  (go_at_call 60; refine (HC.out _ Q1.out.1).mono ?_; rintro e w2 ⟨u, rfl, oU, bU⟩; obtain ⟨x1, d1, x2, d2, x3, d3, rfl, m1, m2, m3⟩ := oU)
  have Q2 := Q1.out.call bU
  have z1 : w.heap.size < w1.heap.size := by have := Q1.out.2.1.lt; omega
  have z4 : w.heap.size + 1 + 1 + 1 < w1.heap.size := Q1.out.2.2.2.2.lt
  have hz1 : w.heap.size ≤ w1.heap.size := by omega
  have OU : OwB w2 w1.heap.size (.agg #[.slice (some x1) b.rs.length d1, .slice (some x2) b.es.length d2, .slice (some x3) b.cs.length d3]) b := ⟨_, _, _, _, _, _, rfl, m1, m2, m3⟩
  clear m1 m2 m3 bU p0 p1 p2
  obtain ⟨⟨p0, p1, p2⟩, f0, f1, f2⟩ := three_all Q2.2.1
  have Q3 := Lib.hid (Q2.turn (.slice (some x1) b.rs.length d1) (.slice (some x2) b.es.length d2) (.slice (some x3) b.cs.length d3))
  have OU3 := Lib.hid (((OU.setCell (a := ⟨w.heap.size, 0, none⟩) z1 (.slice (some x1) b.rs.length d1)).setCell (a := ⟨w.heap.size, 1, none⟩) z1 (.slice (some x2) b.es.length d2)).setCell (a := ⟨w.heap.size, 2, none⟩) z1 (.slice (some x3) b.cs.length d3))
  have TT := Lib.hid (show TabAt (((w2.setCell ⟨w.heap.size, 0, none⟩ (.slice (some x1) b.rs.length d1)).setCell ⟨w.heap.size, 1, none⟩ (.slice (some x2) b.es.length d2)).setCell ⟨w.heap.size, 2, none⟩ (.slice (some x3) b.cs.length d3)) (.slice (some x2) b.es.length d2) b.es from by
    have h : OwnTab w2 w1.heap.size (.slice (some x2) b.es.length d2) b.es := by
      obtain ⟨_, _, _, _, _, _, he, _, m2, _⟩ := OU
      simp only [Value.agg.injEq, Array.mk.injEq, List.cons.injEq, Value.slice.injEq] at he
      obtain ⟨-, ⟨e1, -, e2⟩, -⟩ := he
      rw [e1, e2]
      exact ends_own m2
    exact OwnTab.tab (B := w1.heap.size) (ownsRow_setCell_below (ownsRow_setCell_below (ownsRow_setCell_below h z1 _) z1 _) z1 _))
  obtain ⟨s0, s1, s2, s3, s4, s5, s6⟩ := seven_all Q3.out.2.2.1
  clear OU Q2
  go_wp2_with fail
  (go_at_call 61; refine (HM.out _ _ TT.out).mono ?_; rintro e w3 ⟨rfl, b3⟩)
  have a3 : Below w3.heap.size w3 (w3.alloc (.cells #[.int .i64 ta, .int .i64 tp] 53)) := (Below.refl _ _).alloc (Nat.le_refl _) _
  have Q4 := Lib.hid ((Q3.out.call b3).call a3)
  have OU4 := Lib.hid ((OU3.out.later b3).later a3)
  have ZZ := Lib.hid z4
  have HZ := Lib.hid hz1
  clear OU3 TT Q3 b3 a3 s0 s1 s2 s3 s4 s5 s6 p0 p1 p2 f0 f1 f2 HM HC HO QN hz1 z4 z1
  obtain ⟨⟨p0, p1, p2⟩, -⟩ := three_all Q4.out.2.1
  obtain ⟨s0, s1, s2, s3, s4, s5, s6⟩ := seven_all Q4.out.2.2.1
  obtain ⟨⟨r0, r1, r2⟩, f0, f1, f2⟩ := three_all Q4.out.2.2.2.1
  obtain ⟨q0, q1, q2, q3, q4, q5, q6⟩ := seven_all (show Blk _ _ _ [.int .i64 0, .int .i64 0, .int .i64 0, .int .i64 0, .int .i64 0, .int .i64 0, .string ByteArray.empty] from Q4.out.2.2.2.2)
  obtain ⟨h0, h1, h2, h3, h4, h5, h6⟩ := seven_froz (show Blk _ _ _ [.int .i64 0, .int .i64 0, .int .i64 0, .int .i64 0, .int .i64 0, .int .i64 0, .string ByteArray.empty] from Q4.out.2.2.2.2)
  cases bS <;> cases bI <;> cases bB <;> cases has <;> first | (exact absurd hno (by decide)) | skip
  all_goals clear hno
  all_goals
    go_wp2_with (first
      | (go_at_call 62; refine (HS.out _).mono ?_; rintro e w5 ⟨rfl, b5⟩; have Q5 := Lib.hid (Q4.out.call b5); have OU5 := Lib.hid (OU4.out.later b5); clear b5 p0 p1 p2 s0 s1 s2 s3 s4 s5 s6 r0 r1 r2 f0 f1 f2 q0 q1 q2 q3 q4 q5 q6 h0 h1 h2 h3 h4 h5 h6; obtain ⟨⟨p0, p1, p2⟩, -⟩ := three_all Q5.out.2.1; obtain ⟨s0, s1, s2, s3, s4, s5, s6⟩ := seven_all Q5.out.2.2.1; obtain ⟨⟨r0, r1, r2⟩, f0, f1, f2⟩ := three_all Q5.out.2.2.2.1; obtain ⟨q0, q1, q2, q3, q4, q5, q6⟩ := seven_all (show Blk _ _ _ [.int .i64 0, .int .i64 0, .int .i64 0, .int .i64 0, .int .i64 0, .int .i64 0, .string ByteArray.empty] from Q5.out.2.2.2.2); obtain ⟨h0, h1, h2, h3, h4, h5, h6⟩ := seven_froz (show Blk _ _ _ [.int .i64 0, .int .i64 0, .int .i64 0, .int .i64 0, .int .i64 0, .int .i64 0, .string ByteArray.empty] from Q5.out.2.2.2.2))
      | (go_at_call 63; refine (HI.out _).mono ?_; rintro e w6 ⟨rfl, b6⟩; have Q6 := Lib.hid (Q5.out.call b6); have OU6 := Lib.hid (OU5.out.later b6); clear b6 p0 p1 p2 s0 s1 s2 s3 s4 s5 s6 r0 r1 r2 f0 f1 f2 q0 q1 q2 q3 q4 q5 q6 h0 h1 h2 h3 h4 h5 h6; obtain ⟨⟨p0, p1, p2⟩, -⟩ := three_all Q6.out.2.1; obtain ⟨s0, s1, s2, s3, s4, s5, s6⟩ := seven_all Q6.out.2.2.1; obtain ⟨⟨r0, r1, r2⟩, f0, f1, f2⟩ := three_all Q6.out.2.2.2.1; obtain ⟨q0, q1, q2, q3, q4, q5, q6⟩ := seven_all (show Blk _ _ _ [.int .i64 0, .int .i64 0, .int .i64 0, .int .i64 0, .int .i64 0, .int .i64 0, .string ByteArray.empty] from Q6.out.2.2.2.2); obtain ⟨h0, h1, h2, h3, h4, h5, h6⟩ := seven_froz (show Blk _ _ _ [.int .i64 0, .int .i64 0, .int .i64 0, .int .i64 0, .int .i64 0, .int .i64 0, .string ByteArray.empty] from Q6.out.2.2.2.2))
      | (go_at_call 64; refine (HB.out _).mono ?_; rintro e w7 ⟨rfl, b7⟩; have Q7 := Lib.hid (Q6.out.call b7); have OU7 := Lib.hid (OU6.out.later b7); clear b7 p0 p1 p2 s0 s1 s2 s3 s4 s5 s6 r0 r1 r2 f0 f1 f2 q0 q1 q2 q3 q4 q5 q6 h0 h1 h2 h3 h4 h5 h6; obtain ⟨⟨p0, p1, p2⟩, -⟩ := three_all Q7.out.2.1; obtain ⟨s0, s1, s2, s3, s4, s5, s6⟩ := seven_all Q7.out.2.2.1; obtain ⟨⟨r0, r1, r2⟩, f0, f1, f2⟩ := three_all Q7.out.2.2.2.1; obtain ⟨q0, q1, q2, q3, q4, q5, q6⟩ := seven_all (show Blk _ _ _ [.int .i64 0, .int .i64 0, .int .i64 0, .int .i64 0, .int .i64 0, .int .i64 0, .string ByteArray.empty] from Q7.out.2.2.2.2); obtain ⟨h0, h1, h2, h3, h4, h5, h6⟩ := seven_froz (show Blk _ _ _ [.int .i64 0, .int .i64 0, .int .i64 0, .int .i64 0, .int .i64 0, .int .i64 0, .string ByteArray.empty] from Q7.out.2.2.2.2)))
    first
    | (obtain ⟨⟨y0, y1, y2⟩, -⟩ := three_all (put10_box Q7.out.2.2.2.1 (.slice (some x1) b.rs.length d1) (.slice (some x2) b.es.length d2) (.slice (some x3) b.cs.length d3) (.int .i64 0) (.int .i64 0) (.int .i64 0) (.int .i64 0) (.int .i64 0) (.int .i64 0) (.string ByteArray.empty))
       obtain ⟨z0, z1, z2, z3, z4, z5, z6⟩ := seven_all (put10_seg (show Blk _ _ _ [.int .i64 0, .int .i64 0, .int .i64 0, .int .i64 0, .int .i64 0, .int .i64 0, .string ByteArray.empty] from Q7.out.2.2.2.2) (.slice (some x1) b.rs.length d1) (.slice (some x2) b.es.length d2) (.slice (some x3) b.cs.length d3) (.int .i64 0) (.int .i64 0) (.int .i64 0) (.int .i64 0) (.int .i64 0) (.int .i64 0) (.string ByteArray.empty))
       have hB := put10_below Q7.out.1 (Nat.le_refl _) (.slice (some x1) b.rs.length d1) (.slice (some x2) b.es.length d2) (.slice (some x3) b.cs.length d3) (.int .i64 0) (.int .i64 0) (.int .i64 0) (.int .i64 0) (.int .i64 0) (.int .i64 0) (.string ByteArray.empty)
       have hO := put10_own OU7.out ZZ.out (.slice (some x1) b.rs.length d1) (.slice (some x2) b.es.length d2) (.slice (some x3) b.cs.length d3) (.int .i64 0) (.int .i64 0) (.int .i64 0) (.int .i64 0) (.int .i64 0) (.int .i64 0) (.string ByteArray.empty)
       have hK : ByteArray.empty = { data := #[] } := rfl
       rw [hK] at y0 y1 y2 z0 z1 z2 z3 z4 z5 z6 hB hO
       obtain ⟨W, hW⟩ : ∃ W, W = put10 w7 w.heap.size (.slice (some x1) b.rs.length d1) (.slice (some x2) b.es.length d2) (.slice (some x3) b.cs.length d3) (.int .i64 0) (.int .i64 0) (.int .i64 0) (.int .i64 0) (.int .i64 0) (.int .i64 0) (.string { data := #[] }) := ⟨_, rfl⟩
       rw [← hW] at y0 y1 y2 z0 z1 z2 z3 z4 z5 z6 hB hO
       unfold put10 at hW
       rw [← hW]
       refine bodyPost_ret (v := .tuple #[.agg #[.slice (some x1) b.rs.length d1, .slice (some x2) b.es.length d2, .slice (some x3) b.cs.length d3], .agg ⟨zeroSg⟩, .bool false]) (by simp [results, Tryz.results19, go_sem, zeroSg, hK, y0, y1, y2, z0, z1, z2, z3, z4, z5, z6]) rfl ⟨_, rfl, hO.base HZ.out, hB⟩)
    | (obtain ⟨⟨y0, y1, y2⟩, -⟩ := three_all (put10_box Q6.out.2.2.2.1 (.slice (some x1) b.rs.length d1) (.slice (some x2) b.es.length d2) (.slice (some x3) b.cs.length d3) (.int .i64 0) (.int .i64 0) (.int .i64 0) (.int .i64 0) (.int .i64 0) (.int .i64 0) (.string ByteArray.empty))
       obtain ⟨z0, z1, z2, z3, z4, z5, z6⟩ := seven_all (put10_seg (show Blk _ _ _ [.int .i64 0, .int .i64 0, .int .i64 0, .int .i64 0, .int .i64 0, .int .i64 0, .string ByteArray.empty] from Q6.out.2.2.2.2) (.slice (some x1) b.rs.length d1) (.slice (some x2) b.es.length d2) (.slice (some x3) b.cs.length d3) (.int .i64 0) (.int .i64 0) (.int .i64 0) (.int .i64 0) (.int .i64 0) (.int .i64 0) (.string ByteArray.empty))
       have hB := put10_below Q6.out.1 (Nat.le_refl _) (.slice (some x1) b.rs.length d1) (.slice (some x2) b.es.length d2) (.slice (some x3) b.cs.length d3) (.int .i64 0) (.int .i64 0) (.int .i64 0) (.int .i64 0) (.int .i64 0) (.int .i64 0) (.string ByteArray.empty)
       have hO := put10_own OU6.out ZZ.out (.slice (some x1) b.rs.length d1) (.slice (some x2) b.es.length d2) (.slice (some x3) b.cs.length d3) (.int .i64 0) (.int .i64 0) (.int .i64 0) (.int .i64 0) (.int .i64 0) (.int .i64 0) (.string ByteArray.empty)
       have hK : ByteArray.empty = { data := #[] } := rfl
       rw [hK] at y0 y1 y2 z0 z1 z2 z3 z4 z5 z6 hB hO
       obtain ⟨W, hW⟩ : ∃ W, W = put10 w6 w.heap.size (.slice (some x1) b.rs.length d1) (.slice (some x2) b.es.length d2) (.slice (some x3) b.cs.length d3) (.int .i64 0) (.int .i64 0) (.int .i64 0) (.int .i64 0) (.int .i64 0) (.int .i64 0) (.string { data := #[] }) := ⟨_, rfl⟩
       rw [← hW] at y0 y1 y2 z0 z1 z2 z3 z4 z5 z6 hB hO
       unfold put10 at hW
       rw [← hW]
       refine bodyPost_ret (v := .tuple #[.agg #[.slice (some x1) b.rs.length d1, .slice (some x2) b.es.length d2, .slice (some x3) b.cs.length d3], .agg ⟨zeroSg⟩, .bool false]) (by simp [results, Tryz.results19, go_sem, zeroSg, hK, y0, y1, y2, z0, z1, z2, z3, z4, z5, z6]) rfl ⟨_, rfl, hO.base HZ.out, hB⟩)
    | (obtain ⟨⟨y0, y1, y2⟩, -⟩ := three_all (put10_box Q5.out.2.2.2.1 (.slice (some x1) b.rs.length d1) (.slice (some x2) b.es.length d2) (.slice (some x3) b.cs.length d3) (.int .i64 0) (.int .i64 0) (.int .i64 0) (.int .i64 0) (.int .i64 0) (.int .i64 0) (.string ByteArray.empty))
       obtain ⟨z0, z1, z2, z3, z4, z5, z6⟩ := seven_all (put10_seg (show Blk _ _ _ [.int .i64 0, .int .i64 0, .int .i64 0, .int .i64 0, .int .i64 0, .int .i64 0, .string ByteArray.empty] from Q5.out.2.2.2.2) (.slice (some x1) b.rs.length d1) (.slice (some x2) b.es.length d2) (.slice (some x3) b.cs.length d3) (.int .i64 0) (.int .i64 0) (.int .i64 0) (.int .i64 0) (.int .i64 0) (.int .i64 0) (.string ByteArray.empty))
       have hB := put10_below Q5.out.1 (Nat.le_refl _) (.slice (some x1) b.rs.length d1) (.slice (some x2) b.es.length d2) (.slice (some x3) b.cs.length d3) (.int .i64 0) (.int .i64 0) (.int .i64 0) (.int .i64 0) (.int .i64 0) (.int .i64 0) (.string ByteArray.empty)
       have hO := put10_own OU5.out ZZ.out (.slice (some x1) b.rs.length d1) (.slice (some x2) b.es.length d2) (.slice (some x3) b.cs.length d3) (.int .i64 0) (.int .i64 0) (.int .i64 0) (.int .i64 0) (.int .i64 0) (.int .i64 0) (.string ByteArray.empty)
       have hK : ByteArray.empty = { data := #[] } := rfl
       rw [hK] at y0 y1 y2 z0 z1 z2 z3 z4 z5 z6 hB hO
       obtain ⟨W, hW⟩ : ∃ W, W = put10 w5 w.heap.size (.slice (some x1) b.rs.length d1) (.slice (some x2) b.es.length d2) (.slice (some x3) b.cs.length d3) (.int .i64 0) (.int .i64 0) (.int .i64 0) (.int .i64 0) (.int .i64 0) (.int .i64 0) (.string { data := #[] }) := ⟨_, rfl⟩
       rw [← hW] at y0 y1 y2 z0 z1 z2 z3 z4 z5 z6 hB hO
       unfold put10 at hW
       rw [← hW]
       refine bodyPost_ret (v := .tuple #[.agg #[.slice (some x1) b.rs.length d1, .slice (some x2) b.es.length d2, .slice (some x3) b.cs.length d3], .agg ⟨zeroSg⟩, .bool false]) (by simp [results, Tryz.results19, go_sem, zeroSg, hK, y0, y1, y2, z0, z1, z2, z3, z4, z5, z6]) rfl ⟨_, rfl, hO.base HZ.out, hB⟩)

end Go.Proofs.YtglpijjkihpeeaaGreatDoor

/- BoxTurn of the specification at a box that is ok, and a segment that is not meant for it. Conditions: at most 2^20 rules, ends and streams each; at most 2^21 bytes. -/
namespace Go.Proofs.YtglpijjkihpeeaaGreatDoor
open Go.RowKit Go.Sort

set_option maxRecDepth 100000 in
set_option maxHeartbeats 3200000 in
theorem specSame_yes (B : Nat) (v : Value) (b : Bx) (w : World) (hs : bxSz b) (hB : B ≤ w.heap.size) (ho : OwnBx w B v b) (hok : boxOkB b = true) :
    Calls Tryz.prog 54 #[v] w fun e w' => ∃ u, e = .returned u ∧ OwB w' w.heap.size u b ∧ Below w.heap.size w w' := by
  have HO : Hid (∀ w', Below w.heap.size w w' → Calls Tryz.prog 51 #[v] w' fun e w'' => e = .returned (.bool true) ∧ Below w'.heap.size w' w'') := fun w' h => by
    rw [← hok]
    exact specBoxOk_any B v b w' hs (Nat.le_trans hB h.size) (ho.later h)
  have HC : Hid (∀ w', Below w.heap.size w w' → Calls Tryz.prog 55 #[v] w' fun e w'' => ∃ u, e = .returned u ∧ OwB w'' w'.heap.size u b ∧ Below w'.heap.size w' w'') := fun w' h => specCopy7_any B v b w' hs (ho.later h)
  obtain ⟨g1, g2, c2, g3, rfl, o1, o2, o3⟩ := ho
  clear o1 o2 o3 hok hs hB
  have BN : Hid (Below w.heap.size w ((w.alloc (.cells #[.slice (some ⟨g1, 0, none⟩) b.rs.length b.rs.length, .slice (some ⟨g2, 0, none⟩) b.es.length c2, .slice (some ⟨g3, 0, none⟩) b.cs.length b.cs.length] 30)).alloc (.cells #[.slice none 0 0, .slice none 0 0, .slice none 0 0] 30))) := ((Below.refl _ _).alloc (Nat.le_refl _) _).alloc (by simp) _
  have KM : Hid (Blk ((w.alloc (.cells #[.slice (some ⟨g1, 0, none⟩) b.rs.length b.rs.length, .slice (some ⟨g2, 0, none⟩) b.es.length c2, .slice (some ⟨g3, 0, none⟩) b.cs.length b.cs.length] 30)).alloc (.cells #[.slice none 0 0, .slice none 0 0, .slice none 0 0] 30)) w.heap.size 30 [.slice (some ⟨g1, 0, none⟩) b.rs.length b.rs.length, .slice (some ⟨g2, 0, none⟩) b.es.length c2, .slice (some ⟨g3, 0, none⟩) b.cs.length b.cs.length]) :=
    (three_new w _ _ _ _).below ((Below.refl _ _).alloc (Nat.le_refl _) _)
  have KN : Hid (Blk ((w.alloc (.cells #[.slice (some ⟨g1, 0, none⟩) b.rs.length b.rs.length, .slice (some ⟨g2, 0, none⟩) b.es.length c2, .slice (some ⟨g3, 0, none⟩) b.cs.length b.cs.length] 30)).alloc (.cells #[.slice none 0 0, .slice none 0 0, .slice none 0 0] 30)) (w.heap.size + 1) 30 [.slice none 0 0, .slice none 0 0, .slice none 0 0]) := by
    have h := three_new (w.alloc (.cells #[.slice (some ⟨g1, 0, none⟩) b.rs.length b.rs.length, .slice (some ⟨g2, 0, none⟩) b.es.length c2, .slice (some ⟨g3, 0, none⟩) b.cs.length b.cs.length] 30)) (.slice none 0 0) (.slice none 0 0) (.slice none 0 0) 30
    show Blk _ _ _ _
    simpa using h
  go_enter Tryz.func54, Tryz.ntmps54
  go_wp2_with (go_at_call 51; refine (HO.out _ BN.out).mono ?_; rintro e w1 ⟨rfl, b1⟩; have B1 : Hid (Below w.heap.size w w1) := BN.out.trans (b1.mono BN.out.size); have K1 := Lib.hid (KN.out.below b1); obtain ⟨⟨p0, p1, p2⟩, -⟩ := three_all (KM.out.below b1); clear b1)
  (go_at_call 55; refine (HC.out _ B1.out).mono ?_; rintro e w2 ⟨u, rfl, oU, bU⟩; obtain ⟨x1, d1, x2, d2, x3, d3, rfl, m1, m2, m3⟩ := oU)
  have OU : Hid (OwB w2 w1.heap.size (.agg #[.slice (some x1) b.rs.length d1, .slice (some x2) b.es.length d2, .slice (some x3) b.cs.length d3]) b) := ⟨_, _, _, _, _, _, rfl, m1, m2, m3⟩
  have K2 := Lib.hid (K1.out.below bU)
  have B2 : Hid (Below w.heap.size w w2) := B1.out.trans (bU.mono B1.out.size)
  have hl : w.heap.size + 1 < w1.heap.size := K1.out.lt
  clear m1 m2 m3 bU p0 p1 p2
  obtain ⟨⟨r0, r1, r2⟩, f0, f1, f2⟩ := three_all K2.out
  go_wp2_with fail
  obtain ⟨⟨y0, y1, y2⟩, -⟩ := three_all (three_set K2.out (.slice (some x1) b.rs.length d1) (.slice (some x2) b.es.length d2) (.slice (some x3) b.cs.length d3))
  refine bodyPost_ret (v := .agg #[.slice (some x1) b.rs.length d1, .slice (some x2) b.es.length d2, .slice (some x3) b.cs.length d3]) (by simp [results, Tryz.results54, go_sem, y0, y1, y2]) rfl ⟨_, rfl, ?_, ((B2.out.setCell (by simp) _).setCell (by simp) _).setCell (by simp) _⟩
  exact (((OU.out.setCell (a := ⟨w.heap.size + 1, 0, none⟩) hl _).setCell (a := ⟨w.heap.size + 1, 1, none⟩) hl _).setCell (a := ⟨w.heap.size + 1, 2, none⟩) hl _).base (by omega)

set_option maxRecDepth 100000 in
set_option maxHeartbeats 6400000 in
theorem specTurn_stay (B : Nat) (v : Value) (b : Bx) (sa sp da dp sq ak : Int) (d : ByteArray) (w : World) (hs : bxSz b) (hB : B ≤ w.heap.size) (ho : OwnBx w B v b) (hok : boxOkB b = true) (hd : d.size ≤ 2097152)
    (hno : (segOkB ⟨sa, sp, da, dp, sq, ak, d.data.toList⟩ && insB sa sp && decide (da = 50)) = false) :
    Calls Tryz.prog 16 #[v, .agg #[.int .i64 sa, .int .i64 sp, .int .i64 da, .int .i64 dp, .int .i64 sq, .int .i64 ak, .string d]] w fun e w' => ∃ u, e = .returned (.tuple #[u, .agg ⟨zeroSg⟩, .bool false]) ∧ OwB w' w.heap.size u b ∧ Below w.heap.size w w' := by
  have HO : Hid (∀ w', Below w.heap.size w w' → Calls Tryz.prog 51 #[v] w' fun e w'' => e = .returned (.bool true) ∧ Below w'.heap.size w' w'') := fun w' h => by
    rw [← hok]
    exact specBoxOk_any B v b w' hs (Nat.le_trans hB h.size) (ho.later h)
  have HL : Hid (∀ w', Below w.heap.size w w' → Calls Tryz.prog 54 #[v] w' fun e w'' => ∃ u, e = .returned u ∧ OwB w'' w'.heap.size u b ∧ Below w'.heap.size w' w'') := fun w' h => specSame_yes B v b w' hs (Nat.le_trans hB h.size) (ho.later h) hok
  obtain ⟨bS, hbS⟩ : ∃ bS, bS = segOkB ⟨sa, sp, da, dp, sq, ak, d.data.toList⟩ := ⟨_, rfl⟩
  have HS : Hid (∀ w', Calls Tryz.prog 52 #[.agg #[.int .i64 sa, .int .i64 sp, .int .i64 da, .int .i64 dp, .int .i64 sq, .int .i64 ak, .string d]] w' fun e w'' => e = .returned (.bool bS) ∧ Below w'.heap.size w' w'') := fun w' => by rw [hbS]; exact specSegOk_any sa sp da dp sq ak d w' hd
  obtain ⟨bI, hbI⟩ : ∃ bI, bI = insB sa sp := ⟨_, rfl⟩
  have HI : Hid (∀ w', Calls Tryz.prog 53 #[.agg #[.int .i64 sa, .int .i64 sp]] w' fun e w'' => e = .returned (.bool bI) ∧ Below w'.heap.size w' w'') := fun w' => by rw [hbI]; exact specInside_any sa sp w'
  rw [← hbS, ← hbI] at hno
  obtain ⟨g1, g2, c2, g3, rfl, o1, o2, o3⟩ := ho
  clear o1 o2 o3 hok hs hB hd hbS hbI
  have QN := Lib.hid (Q4.new w [.slice (some ⟨g1, 0, none⟩) b.rs.length b.rs.length, .slice (some ⟨g2, 0, none⟩) b.es.length c2, .slice (some ⟨g3, 0, none⟩) b.cs.length b.cs.length] [.int .i64 sa, .int .i64 sp, .int .i64 da, .int .i64 dp, .int .i64 sq, .int .i64 ak, .string d] [.slice none 0 0, .slice none 0 0, .slice none 0 0] zeroSg)
  have key : bS = false ∨ (bS = true ∧ bI = false) ∨ (bS = true ∧ bI = true ∧ (da == 50) = false) := by
    cases bS <;> cases bI <;> simp at hno ⊢
    exact hno
  clear hno
  rcases key with rfl | ⟨rfl, rfl⟩ | ⟨rfl, rfl, hda⟩
  all_goals
    go_enter Tryz.func16, Tryz.ntmps16
    go_wp2_with (first
      | (go_at_call 51; refine (HO.out _ QN.out.1).mono ?_; rintro e w1 ⟨rfl, b1⟩; have QQ := Lib.hid (QN.out.call b1); obtain ⟨⟨p0, p1, p2⟩, -⟩ := three_all QQ.out.2.1; obtain ⟨s0, s1, s2, s3, s4, s5, s6⟩ := seven_all QQ.out.2.2.1; clear b1)
      | (go_at_call 52; refine (HS.out _).mono ?_; rintro e w5 ⟨rfl, b5⟩; have QQ := Lib.hid (QQ.out.call b5); clear b5 p0 p1 p2 s0 s1 s2 s3 s4 s5 s6; obtain ⟨⟨p0, p1, p2⟩, -⟩ := three_all QQ.out.2.1; obtain ⟨s0, s1, s2, s3, s4, s5, s6⟩ := seven_all QQ.out.2.2.1)
      | (go_at_call 53; refine (HI.out _).mono ?_; rintro e w6 ⟨rfl, b6⟩; have QQ := Lib.hid (QQ.out.call b6); clear b6 p0 p1 p2 s0 s1 s2 s3 s4 s5 s6; obtain ⟨⟨p0, p1, p2⟩, -⟩ := three_all QQ.out.2.1; obtain ⟨s0, s1, s2, s3, s4, s5, s6⟩ := seven_all QQ.out.2.2.1)
      | (go_at_call 54; have ZZ := Lib.hid QQ.out.2.2.2.2.lt; refine (HL.out _ QQ.out.1).mono ?_; rintro e wL ⟨u, rfl, oU, bU⟩; obtain ⟨x1, d1, x2, d2, x3, d3, rfl, m1, m2, m3⟩ := oU; have OU : Hid (OwB wL _ (.agg #[.slice (some x1) b.rs.length d1, .slice (some x2) b.es.length d2, .slice (some x3) b.cs.length d3]) b) := Lib.hid ⟨_, _, _, _, _, _, rfl, m1, m2, m3⟩; have QQ := Lib.hid (QQ.out.call bU); clear bU m1 m2 m3 p0 p1 p2 s0 s1 s2 s3 s4 s5 s6; obtain ⟨⟨r0, r1, r2⟩, f0, f1, f2⟩ := three_all QQ.out.2.2.2.1; have Z2 : Hid (Blk wL (w.heap.size + 1 + 1 + 1) 55 [.int .i64 0, .int .i64 0, .int .i64 0, .int .i64 0, .int .i64 0, .int .i64 0, .string ByteArray.empty]) := QQ.out.2.2.2.2; obtain ⟨q0, q1, q2, q3, q4, q5, q6⟩ := seven_all Z2.out; obtain ⟨h0, h1, h2, h3, h4, h5, h6⟩ := seven_froz Z2.out))
    have e1 := put10_box QQ.out.2.2.2.1 (.slice (some x1) b.rs.length d1) (.slice (some x2) b.es.length d2) (.slice (some x3) b.cs.length d3) (.int .i64 0) (.int .i64 0) (.int .i64 0) (.int .i64 0) (.int .i64 0) (.int .i64 0) (.string ByteArray.empty)
    obtain ⟨⟨y0, y1, y2⟩, -⟩ := three_all e1
    obtain ⟨z0, z1, z2, z3, z4, z5, z6⟩ := seven_all (put10_seg Z2.out (.slice (some x1) b.rs.length d1) (.slice (some x2) b.es.length d2) (.slice (some x3) b.cs.length d3) (.int .i64 0) (.int .i64 0) (.int .i64 0) (.int .i64 0) (.int .i64 0) (.int .i64 0) (.string ByteArray.empty))
    have hB := put10_below QQ.out.1 (Nat.le_refl _) (.slice (some x1) b.rs.length d1) (.slice (some x2) b.es.length d2) (.slice (some x3) b.cs.length d3) (.int .i64 0) (.int .i64 0) (.int .i64 0) (.int .i64 0) (.int .i64 0) (.int .i64 0) (.string ByteArray.empty)
    have hO := put10_own OU.out ZZ.out (.slice (some x1) b.rs.length d1) (.slice (some x2) b.es.length d2) (.slice (some x3) b.cs.length d3) (.int .i64 0) (.int .i64 0) (.int .i64 0) (.int .i64 0) (.int .i64 0) (.int .i64 0) (.string ByteArray.empty)
    have hK : ByteArray.empty = { data := #[] } := rfl
    rw [hK] at y0 y1 y2 z0 z1 z2 z3 z4 z5 z6 hB hO
    obtain ⟨W, hW⟩ : ∃ W, W = put10 wL w.heap.size (.slice (some x1) b.rs.length d1) (.slice (some x2) b.es.length d2) (.slice (some x3) b.cs.length d3) (.int .i64 0) (.int .i64 0) (.int .i64 0) (.int .i64 0) (.int .i64 0) (.int .i64 0) (.string { data := #[] }) := ⟨_, rfl⟩
    rw [← hW] at y0 y1 y2 z0 z1 z2 z3 z4 z5 z6 hB hO
    unfold put10 at hW
    rw [← hW]
    have HZ := ZZ.out
    refine bodyPost_ret (v := .tuple #[.agg #[.slice (some x1) b.rs.length d1, .slice (some x2) b.es.length d2, .slice (some x3) b.cs.length d3], .agg ⟨zeroSg⟩, .bool false]) (by simp [results, Tryz.results16, go_sem, zeroSg, hK, y0, y1, y2, z0, z1, z2, z3, z4, z5, z6]) rfl ⟨_, rfl, hO.base (by omega), hB⟩

end Go.Proofs.YtglpijjkihpeeaaGreatDoor
