/- The law of BoxTurn: the first of its regions that draw their order. Conditions: as the law's. (Several texts, joined: LawTurnA.) -/
import Derived.Test.YtglpijjkihpeeaaGreatDoorTBxTl

/- The law of BoxTurn: the first of its regions that draw their order. Conditions: as the law's. -/
namespace Go.Proofs.YtglpijjkihpeeaaGreatDoor
open Go.RowKit Go.Sort

set_option maxRecDepth 100000 in
set_option maxHeartbeats 64000000 in
theorem lawTurn1 : lawTurnS.A := by
  intro b sa sp da dp sq ak d w a1 k1 a2 k2 a3 k3 _ w1 z _ w1' y ub r0 r1 r2 r3 r4 r5 rs bb HT HG HM mb mu SD KW ZM ZN ZW _ Kr Jx Kx hJ hK
  go_region_held3 (fun w' => Below w1'.heap.size w1' w' ∧ w'.cell? ⟨w.heap.size, 0, none⟩ = some (.slice a1 b.rs.length k1) ∧ w'.cell? ⟨w.heap.size, 1, none⟩ = some (.slice a2 b.es.length k2) ∧ w'.cell? ⟨w.heap.size, 2, none⟩ = some (.slice a3 b.cs.length k3) ∧ w'.cell? ⟨w.heap.size + 1, 0, none⟩ = some (.int .i64 sa) ∧ w'.cell? ⟨w.heap.size + 1, 1, none⟩ = some (.int .i64 sp) ∧ w'.cell? ⟨w.heap.size + 1, 2, none⟩ = some (.int .i64 da) ∧ w'.cell? ⟨w.heap.size + 1, 3, none⟩ = some (.int .i64 dp) ∧ w'.cell? ⟨w.heap.size + 1, 4, none⟩ = some (.int .i64 sq) ∧ w'.cell? ⟨w.heap.size + 1, 5, none⟩ = some (.int .i64 ak) ∧ w'.cell? ⟨w.heap.size + 1, 6, none⟩ = some (.string d))
    (first
      | (show Sd w.heap.size (w.heap.size + 1) w1' (.slice a1 b.rs.length k1) (.slice a2 b.es.length k2) (.slice a3 b.cs.length k3) (.int .i64 sa) (.int .i64 sp) (.int .i64 da) (.int .i64 dp) (.int .i64 sq) (.int .i64 ak) (.string d) _; repeat (first | with_reducible exact cc | with_reducible exact SD.out | with_reducible refine Sd.drew ?_ | with_reducible refine Sd.alloc ?_ _ | with_reducible refine Sd.set ?_ ZM.out ZN.out (by first | exact K6.out.ge | exact K7.out.ge | exact ZC.out | exact Nat.le_succ_of_le ZC.out) _ _))
      | (trace_state; fail))
    (first
    | (go_at_call 17
       have hS : Sd w.heap.size (w.heap.size + 1) w1' (.slice a1 b.rs.length k1) (.slice a2 b.es.length k2) (.slice a3 b.cs.length k3) (.int .i64 sa) (.int .i64 sp) (.int .i64 da) (.int .i64 dp) (.int .i64 sq) (.int .i64 ak) (.string d) _ := (by assumption : Below w1'.heap.size w1' _ ∧ _)
       refine (HT.out _ (KW.out _ hS.1).1).mono ?_
       rintro e wA ⟨g1, g2, c2, g3, rfl, oA, bA⟩
       have cc := hS.call bA
       have OA := Lib.hid (oA.base hS.1.size)
       have ZA := Lib.hid cc.1.size
       first
         | (have K6 := Lib.hid (Mk.later' bA K6.out))
         | (have K6 := Lib.hid (Mk.later' bA (Mk.alloc K6.out _)))
         | (have K6 := Lib.hid (Mk.later' bA (Mk.newL ZW.out [.slice none 0 0, .slice none 0 0, .slice none 0 0] 30)))
         | (have K6 := Lib.hid (Mk.later' bA (Mk.alloc (Mk.newL ZW.out [.slice none 0 0, .slice none 0 0, .slice none 0 0] 30) _)))
         | (have K6 := Lib.hid (Mk.later' bA (Mk.newL1 ZW.out _ [.slice none 0 0, .slice none 0 0, .slice none 0 0] 30)))
         | skip
       first
         | (have K7 := Lib.hid (Mk.later' bA K7.out))
         | (have K7 := Lib.hid (Mk.later' bA (Mk.alloc K7.out _)))
         | (have K7 := Lib.hid (Mk.later' bA (Mk.newL ZW.out [.int .i64 0, .int .i64 0, .int .i64 0, .int .i64 0, .int .i64 0, .int .i64 0, .string ⟨#[]⟩] 55)))
         | (have K7 := Lib.hid (Mk.later' bA (Mk.alloc (Mk.newL ZW.out [.int .i64 0, .int .i64 0, .int .i64 0, .int .i64 0, .int .i64 0, .int .i64 0, .string ⟨#[]⟩] 55) _)))
         | (have K7 := Lib.hid (Mk.later' bA (Mk.newL1 ZW.out _ [.int .i64 0, .int .i64 0, .int .i64 0, .int .i64 0, .int .i64 0, .int .i64 0, .string ⟨#[]⟩] 55)))
         | skip
       clear oA bA)
    | (go_at_call 18
       have hS : Sd w.heap.size (w.heap.size + 1) w1' (.slice a1 b.rs.length k1) (.slice a2 b.es.length k2) (.slice a3 b.cs.length k3) (.int .i64 sa) (.int .i64 sp) (.int .i64 da) (.int .i64 dp) (.int .i64 sq) (.int .i64 ak) (.string d) _ := (by assumption : Below w1'.heap.size w1' _ ∧ _)
       refine (HG.out _).mono ?_
       rintro e wB ⟨rfl, bB⟩
       have cc := hS.call bB
       have OB := Lib.hid (OwnBx.later (OwnBx.later OA.out (by (repeat (first | with_reducible exact Below.refl _ _ | with_reducible refine Ups.drew ?_ | with_reducible refine Ups.alloc ?_ _)); done)) bB)
       have ZB := Lib.hid cc.1.size
       first
         | (have K6 := Lib.hid (Mk.later' bB K6.out))
         | (have K6 := Lib.hid (Mk.later' bB (Mk.alloc K6.out _)))
         | (have K6 := Lib.hid (Mk.later' bB (Mk.newL ZA.out [.slice none 0 0, .slice none 0 0, .slice none 0 0] 30)))
         | (have K6 := Lib.hid (Mk.later' bB (Mk.alloc (Mk.newL ZA.out [.slice none 0 0, .slice none 0 0, .slice none 0 0] 30) _)))
         | (have K6 := Lib.hid (Mk.later' bB (Mk.newL1 ZA.out _ [.slice none 0 0, .slice none 0 0, .slice none 0 0] 30)))
         | skip
       first
         | (have K7 := Lib.hid (Mk.later' bB K7.out))
         | (have K7 := Lib.hid (Mk.later' bB (Mk.alloc K7.out _)))
         | (have K7 := Lib.hid (Mk.later' bB (Mk.newL ZA.out [.int .i64 0, .int .i64 0, .int .i64 0, .int .i64 0, .int .i64 0, .int .i64 0, .string ⟨#[]⟩] 55)))
         | (have K7 := Lib.hid (Mk.later' bB (Mk.alloc (Mk.newL ZA.out [.int .i64 0, .int .i64 0, .int .i64 0, .int .i64 0, .int .i64 0, .int .i64 0, .string ⟨#[]⟩] 55) _)))
         | (have K7 := Lib.hid (Mk.later' bB (Mk.newL1 ZA.out _ [.int .i64 0, .int .i64 0, .int .i64 0, .int .i64 0, .int .i64 0, .int .i64 0, .string ⟨#[]⟩] 55)))
         | skip
       clear bB)
    | (go_at_call 16
       have hS : Sd w.heap.size (w.heap.size + 1) w1' (.slice a1 b.rs.length k1) (.slice a2 b.es.length k2) (.slice a3 b.cs.length k3) (.int .i64 sa) (.int .i64 sp) (.int .i64 da) (.int .i64 dp) (.int .i64 sq) (.int .i64 ak) (.string d) _ := (by assumption : Below w1'.heap.size w1' _ ∧ _)
       refine (HM.out _ _ _ hS.1.size (OwnBx.later OB.out (by (repeat (first | with_reducible exact Below.refl _ _ | with_reducible refine Ups.drew ?_ | with_reducible refine Ups.alloc ?_ _)); done))).mono ?_
       rintro e wC ⟨u, rfl, fu, bC⟩
       obtain ⟨p1, q1, p2, q2, p3, q3, rfl⟩ := fu.form
       have cc := hS.call bC
       have FC := Lib.hid (fu.base hS.1.size)
       have BC := Lib.hid cc.1
       have ZC := Lib.hid cc.1.size
       first
         | (have K6 := Lib.hid (Mk.later' bC K6.out))
         | (have K6 := Lib.hid (Mk.later' bC (Mk.alloc K6.out _)))
         | (have K6 := Lib.hid (Mk.later' bC (Mk.newL ZB.out [.slice none 0 0, .slice none 0 0, .slice none 0 0] 30)))
         | (have K6 := Lib.hid (Mk.later' bC (Mk.alloc (Mk.newL ZB.out [.slice none 0 0, .slice none 0 0, .slice none 0 0] 30) _)))
         | (have K6 := Lib.hid (Mk.later' bC (Mk.newL1 ZB.out _ [.slice none 0 0, .slice none 0 0, .slice none 0 0] 30)))
         | skip
       first
         | (have K7 := Lib.hid (Mk.later' bC K7.out))
         | (have K7 := Lib.hid (Mk.later' bC (Mk.alloc K7.out _)))
         | (have K7 := Lib.hid (Mk.later' bC (Mk.newL ZB.out [.int .i64 0, .int .i64 0, .int .i64 0, .int .i64 0, .int .i64 0, .int .i64 0, .string ⟨#[]⟩] 55)))
         | (have K7 := Lib.hid (Mk.later' bC (Mk.alloc (Mk.newL ZB.out [.int .i64 0, .int .i64 0, .int .i64 0, .int .i64 0, .int .i64 0, .int .i64 0, .string ⟨#[]⟩] 55) _)))
         | (have K7 := Lib.hid (Mk.later' bC (Mk.newL1 ZB.out _ [.int .i64 0, .int .i64 0, .int .i64 0, .int .i64 0, .int .i64 0, .int .i64 0, .string ⟨#[]⟩] 55)))
         | skip
       first
         | (have ST := Mk.three K6.out
            obtain ⟨⟨e0a, e1a, e2a⟩, f0a, f1a, f2a⟩ := ST
            have ST := Mk.behind K6.out K7.out (.slice p1 ub.rs.length q1) (.slice p2 ub.es.length q2) (.slice p3 ub.cs.length q3)
            obtain ⟨⟨i0b, i1b, i2b, i3b, i4b, i5b, i6b⟩, ⟨j0b, j1b, j2b, j3b, j4b, j5b, j6b⟩, l0b, l1b, l2b, l3b, l4b, l5b, l6b⟩ := ST)
         | (have ST := Mk.three (Mk.alloc K6.out (.cells #[.int .i64 0, .int .i64 0, .int .i64 0, .int .i64 0, .int .i64 0, .int .i64 0, .string ⟨#[]⟩] 55))
            obtain ⟨⟨e0a, e1a, e2a⟩, f0a, f1a, f2a⟩ := ST
            have ST := Mk.behind (Mk.alloc K6.out (.cells #[.int .i64 0, .int .i64 0, .int .i64 0, .int .i64 0, .int .i64 0, .int .i64 0, .string ⟨#[]⟩] 55)) (Mk.newL ZC.out [.int .i64 0, .int .i64 0, .int .i64 0, .int .i64 0, .int .i64 0, .int .i64 0, .string ⟨#[]⟩] 55) (.slice p1 ub.rs.length q1) (.slice p2 ub.es.length q2) (.slice p3 ub.cs.length q3)
            obtain ⟨⟨i0b, i1b, i2b, i3b, i4b, i5b, i6b⟩, ⟨j0b, j1b, j2b, j3b, j4b, j5b, j6b⟩, l0b, l1b, l2b, l3b, l4b, l5b, l6b⟩ := ST)
         | (have ST := Mk.seven (Mk.alloc K7.out (.cells #[.slice none 0 0, .slice none 0 0, .slice none 0 0] 30))
            obtain ⟨⟨i0a, i1a, i2a, i3a, i4a, i5a, i6a⟩, j0a, j1a, j2a, j3a, j4a, j5a, j6a⟩ := ST
            have ST := Mk.seven (Mk.alloc K7.out (.cells #[.slice p1 ub.rs.length q1, .slice p2 ub.es.length q2, .slice p3 ub.cs.length q3] 30))
            obtain ⟨⟨i0b, i1b, i2b, i3b, i4b, i5b, i6b⟩, j0b, j1b, j2b, j3b, j4b, j5b, j6b⟩ := ST
            have ST := Mk.three (Mk.newL ZC.out [.slice none 0 0, .slice none 0 0, .slice none 0 0] 30)
            obtain ⟨⟨e0c, e1c, e2c⟩, f0c, f1c, f2c⟩ := ST)
         | (have ST := Mk.three (Mk.alloc (Mk.newL ZC.out [.slice none 0 0, .slice none 0 0, .slice none 0 0] 30) (.cells #[.int .i64 0, .int .i64 0, .int .i64 0, .int .i64 0, .int .i64 0, .int .i64 0, .string ⟨#[]⟩] 55))
            obtain ⟨⟨e0a, e1a, e2a⟩, f0a, f1a, f2a⟩ := ST
            have ST := Mk.behind (Mk.alloc (Mk.newL ZC.out [.slice none 0 0, .slice none 0 0, .slice none 0 0] 30) (.cells #[.int .i64 0, .int .i64 0, .int .i64 0, .int .i64 0, .int .i64 0, .int .i64 0, .string ⟨#[]⟩] 55)) (Mk.newL1 ZC.out (.cells #[.slice none 0 0, .slice none 0 0, .slice none 0 0] 30) [.int .i64 0, .int .i64 0, .int .i64 0, .int .i64 0, .int .i64 0, .int .i64 0, .string ⟨#[]⟩] 55) (.slice p1 ub.rs.length q1) (.slice p2 ub.es.length q2) (.slice p3 ub.cs.length q3)
            obtain ⟨⟨i0b, i1b, i2b, i3b, i4b, i5b, i6b⟩, ⟨j0b, j1b, j2b, j3b, j4b, j5b, j6b⟩, l0b, l1b, l2b, l3b, l4b, l5b, l6b⟩ := ST
            have ST := Mk.three (Mk.newL1 ZC.out (.cells #[.int .i64 0, .int .i64 0, .int .i64 0, .int .i64 0, .int .i64 0, .int .i64 0, .string ⟨#[]⟩] 55) [.slice none 0 0, .slice none 0 0, .slice none 0 0] 30)
            obtain ⟨⟨e0c, e1c, e2c⟩, f0c, f1c, f2c⟩ := ST
            have ST := Mk.seven (Mk.alloc (Mk.newL ZC.out [.int .i64 0, .int .i64 0, .int .i64 0, .int .i64 0, .int .i64 0, .int .i64 0, .string ⟨#[]⟩] 55) (.cells #[.slice none 0 0, .slice none 0 0, .slice none 0 0] 30))
            obtain ⟨⟨i0d, i1d, i2d, i3d, i4d, i5d, i6d⟩, j0d, j1d, j2d, j3d, j4d, j5d, j6d⟩ := ST
            have ST := Mk.seven (Mk.alloc (Mk.newL ZC.out [.int .i64 0, .int .i64 0, .int .i64 0, .int .i64 0, .int .i64 0, .int .i64 0, .string ⟨#[]⟩] 55) (.cells #[.slice p1 ub.rs.length q1, .slice p2 ub.es.length q2, .slice p3 ub.cs.length q3] 30))
            obtain ⟨⟨i0e, i1e, i2e, i3e, i4e, i5e, i6e⟩, j0e, j1e, j2e, j3e, j4e, j5e, j6e⟩ := ST)
       clear fu bC))
  all_goals (go_wp2_with fail; go_meet)
  all_goals
    first
      | with_reducible exact fin1 K6.out K7.out FC.out BC.out
      | with_reducible exact fin4 ZC.out FC.out BC.out
      | with_reducible exact fin5 ZC.out FC.out BC.out
      | with_reducible exact fin3 ZC.out K7.out FC.out BC.out
      | with_reducible exact fin1 (Mk.alloc K6.out _) (Mk.new7 ZC.out _ _ _ _ _ _ _ _) (FrBx.later FC.out ((Below.refl _ _).alloc (Nat.le_refl _) _)) (BC.out.alloc ZC.out _)
      | (trace_state; fail)

end Go.Proofs.YtglpijjkihpeeaaGreatDoor
