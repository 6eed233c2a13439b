/- The segment, the bytes and the place that are drawn for the laws of SegCut. Condition: the code lies in memory. -/
import Derived.Test.YtjnhmobdigfpiaaDrawSeg
import Derived.Test.YtjnhmobdigfpiaaAt7b
import Derived.IntWalk
import Derived.Deep.RegionLaw
import Derived.Deep.RegionHeld3
import Derived.Deep.DeepCutAuto
namespace Go.Proofs.Ytjnhmobdigfpiaa
open Go.RowKit

theorem grownC {w w' : World} {row : Option Nat} (h : Below w.heap.size w w') : w.grownBy w' row := ⟨h.os, h.tape, h.output, h.size, fun k hk _ => h.block k hk⟩
theorem arr_cut (k1 k2 k : Nat) (h1 : k1 < 130) (h2 : k2 < 20) (h : k < 5) : ∃ q : Int, ((#[.int .i64 0, .int .i64 (k1 : Int), .int .i64 (-1), .int .i64 9223372036854775807, .int .i64 (k2 : Int)]) : Array Value)[k]? = some (.int .i64 q) ∧ (q = -1 ∨ q = 9223372036854775807 ∨ (0 ≤ q ∧ q < 130)) ∧ ∀ h, ([Value.int .i64 0, .int .i64 (k1 : Int), .int .i64 (-1), .int .i64 9223372036854775807, .int .i64 (k2 : Int)] : List Value)[k]'h = .int .i64 q := by
  match k, h with
  | 0, _ => exact ⟨_, rfl, by omega, fun _ => rfl⟩
  | 1, _ => exact ⟨_, rfl, by omega, fun _ => rfl⟩
  | 2, _ => exact ⟨_, rfl, by omega, fun _ => rfl⟩
  | 3, _ => exact ⟨_, rfl, by omega, fun _ => rfl⟩
  | 4, _ => exact ⟨_, rfl, by omega, fun _ => rfl⟩

theorem bodyPost_letter {P : Program} {f : Func} {Post : Ending → World → Prop} {x : Exit} {a : Act} {Q : World → Prop} {W : World} (h1 : Q W) (h2 : ∀ W, Q W → bodyPost P f Post x a W) : bodyPost P f Post x a W := h2 W h1

set_option maxRecDepth 100000 in
set_option maxHeartbeats 3200000 in
theorem drawSegCut_any (ao : Option Addr) (n cap : Nat) (w : World) (h : BytesIn w ao n) (hn : n ≤ cap) :
    Calls Try.prog 5 #[.slice ao n cap] w fun e w' => ∃ (sa sp da dp sq ak : Int) (d far : ByteArray) (q : Int), e = .returned (.tuple #[.agg #[.int .i64 sa, .int .i64 sp, .int .i64 da, .int .i64 dp, .int .i64 sq, .int .i64 ak, .string d], .string far, .int .i64 q]) ∧ SegD sq d ∧ far.size ≤ 120 ∧ (q = -1 ∨ q = 9223372036854775807 ∨ (0 ≤ q ∧ q < 130)) ∧ Below w.heap.size w w' := by
  have H := Lib.hid h
  clear h
  go_enter Try.func5, Try.ntmps5
  go_wp2_with fail
  (go_at_call 12; refine (open_any ao n cap _ (H.out.below ((Below.refl _ _).alloc (Nat.le_refl _) _)) hn).mono ?_; rintro e w1 ⟨R, rfl, hR, b1, r1⟩)
  have s1 := b1.size
  have A1 := (at7_new w (.int .i64 0) (.int .i64 0) (.int .i64 0) (.int .i64 0) (.int .i64 0) (.int .i64 0) (.string ⟨#[]⟩) 26).below b1
  simp only [World.size_alloc] at s1 hR r1
  have R1 := Lib.hid r1
  have B1 := Lib.hid b1
  have A1 := Lib.hid A1
  have hne1 : w.heap.size ≠ R := by omega
  have hRl := r1.lt
  clear r1 b1
  go_upto_region 2 with fail
  go_region_law (first
    | (have guard' := R5; clear guard'; go_simp; go_at_call 15; refine (pick_any 5 (w.heap.size + 1) R 142 _ (by first | exact R5.out | exact rd_alloc R5.out _) (by omega)).mono ?_; rintro e w6 ⟨k3, rfl, hk3, g6, r6⟩; obtain ⟨q, hq, hqw, hql⟩ := arr_cut k1 k2 k3 h130 h20 (by omega); have hk5 : k3 < 5 := (by omega); have hk6 : (k3 : Int) < 5 := (by omega); have G6 : Hid (w1.grownBy w6 (some R)) := (by first | exact G5.out.trans g6 | exact G5.out.trans ((World.grownBy_alloc _ _ _).trans g6)); have A6 := Lib.hid (A1.out.grown G6.out hne1); have z6 := G6.out.size; have hn1 : ¬ w.heap.size = w6.heap.size := (by omega); have hn2 : ¬ w.heap.size = w5.heap.size := (by omega); have hn3 : ¬ w6.heap.size = w.heap.size := (by omega); have HAL := Lib.hid (fun o => A6.out.alloc o); obtain ⟨_, ⟨c0, c1, c2, c3, c4, c5, c6⟩, f0, f1, f2, f3, f4, f5, f6⟩ := A6.out; have ca0 := (fun o => (HAL.out o).2.1.1); have ca1 := (fun o => (HAL.out o).2.1.2.1); have ca2 := (fun o => (HAL.out o).2.1.2.2.1); have ca3 := (fun o => (HAL.out o).2.1.2.2.2.1); have ca4 := (fun o => (HAL.out o).2.1.2.2.2.2.1); have ca5 := (fun o => (HAL.out o).2.1.2.2.2.2.2.1); have ca6 := (fun o => (HAL.out o).2.1.2.2.2.2.2.2); have fa0 := (fun o => (HAL.out o).2.2.1); have fa1 := (fun o => (HAL.out o).2.2.2.1); have fa2 := (fun o => (HAL.out o).2.2.2.2.1); have fa3 := (fun o => (HAL.out o).2.2.2.2.2.1); have fa4 := (fun o => (HAL.out o).2.2.2.2.2.2.1); have fa5 := (fun o => (HAL.out o).2.2.2.2.2.2.2.1); have fa6 := (fun o => (HAL.out o).2.2.2.2.2.2.2.2); have hB : ∀ t, (w6.alloc (.cells #[.int .i64 0, .int .i64 (k1 : Int), .int .i64 (-1), .int .i64 9223372036854775807, .int .i64 (k2 : Int)] t)).cell? ⟨w6.heap.size, k3, none⟩ = some (.int .i64 q) := (fun t => by rw [(cell_new _ _ _ _).1]; exact hq); (first | (have hA : w6.cell? ⟨w5.heap.size, k3, none⟩ = some (.int .i64 q) := (by rw [(gcell g6 (by simp) (by omega) k3).1, (cell_new _ _ _ _).1]; exact hq)) | skip); clear g6 r6 hk3)
    | (have guard' := R4; clear guard'; go_simp; go_at_call 15; refine (pick_any 20 (w.heap.size + 1) R 141 _ R4.out (by omega)).mono ?_; rintro e w5 ⟨k2, rfl, hk2, g5, r5⟩; have h20 : k2 < 20 := (by omega); have G5 := Lib.hid (G4.out.trans g5); have R5 := Lib.hid r5; have z5 := G5.out.size; clear g5 r5 hk2)
    | (have guard' := R3; clear guard'; go_simp; go_at_call 15; refine (pick_any 130 (w.heap.size + 1) R 140 _ R3.out (by omega)).mono ?_; rintro e w4 ⟨k1, rfl, hk1, g4, r4⟩; have h130 : k1 < 130 := (by omega); have G4 := Lib.hid (G3.out.trans g4); have R4 := Lib.hid r4; clear g4 r4 hk1)
    | (have guard' := R2; clear guard'; go_simp; go_at_call 14; refine (stream_any (w.heap.size + 1) R 90 _ R2.out (by omega)).mono ?_; rintro e w3 ⟨far, rfl, hf, g3, r3⟩; have G3 := Lib.hid (G2.out.trans g3); have R3 := Lib.hid r3; clear g3 r3)
    | (go_simp; go_at_call 13; refine (seg_any 9 (w.heap.size + 1) R 0 _ (rd_drew R1.out) (by omega) (by omega) (by omega)).mono ?_; rintro e w2 ⟨sa, sp, da, dp, sq, ak, d, rfl, hD, g2, r2⟩; have G2 : Hid (w1.grownBy w2 (some R)) := (grownC (Below.refl _ _).drew).trans g2; have HD := Lib.hid hD; have R2 := Lib.hid r2; clear g2 r2 hD))
  all_goals
    trace "ORDER"
    have HQ := Lib.hid hqw
    have BA : Hid (Below w.heap.size w w6) := ((Below.refl _ w).alloc (Nat.le_refl _) _).trans ((B1.out.mono (by simp)).grown G6.out (by omega) (fun k e => by cases e; omega))
    have AS := Lib.hid (And.intro (A6.out.all (.int .i64 sa) (.int .i64 sp) (.int .i64 da) (.int .i64 dp) (.int .i64 sq) (.int .i64 ak) (.string d)) ((((((((BA.out).setCell (p := ⟨w.heap.size, 0, none⟩) (Nat.le_refl _) (.int .i64 sa)).setCell (p := ⟨w.heap.size, 1, none⟩) (Nat.le_refl _) (.int .i64 sp)).setCell (p := ⟨w.heap.size, 2, none⟩) (Nat.le_refl _) (.int .i64 da)).setCell (p := ⟨w.heap.size, 3, none⟩) (Nat.le_refl _) (.int .i64 dp)).setCell (p := ⟨w.heap.size, 4, none⟩) (Nat.le_refl _) (.int .i64 sq)).setCell (p := ⟨w.heap.size, 5, none⟩) (Nat.le_refl _) (.int .i64 ak)).setCell (p := ⟨w.heap.size, 6, none⟩) (Nat.le_refl _) (.string d)))
    have AT := Lib.hid (fun o => And.intro ((HAL.out o).all (.int .i64 sa) (.int .i64 sp) (.int .i64 da) (.int .i64 dp) (.int .i64 sq) (.int .i64 ak) (.string d)) ((((((((BA.out.alloc BA.out.size o).setCell (p := ⟨w.heap.size, 0, none⟩) (Nat.le_refl _) (.int .i64 sa)).setCell (p := ⟨w.heap.size, 1, none⟩) (Nat.le_refl _) (.int .i64 sp)).setCell (p := ⟨w.heap.size, 2, none⟩) (Nat.le_refl _) (.int .i64 da)).setCell (p := ⟨w.heap.size, 3, none⟩) (Nat.le_refl _) (.int .i64 dp)).setCell (p := ⟨w.heap.size, 4, none⟩) (Nat.le_refl _) (.int .i64 sq)).setCell (p := ⟨w.heap.size, 5, none⟩) (Nat.le_refl _) (.int .i64 ak)).setCell (p := ⟨w.heap.size, 6, none⟩) (Nat.le_refl _) (.string d)))
    have AU := Lib.hid (fun o => And.intro ((A6.out.all (.int .i64 sa) (.int .i64 sp) (.int .i64 da) (.int .i64 dp) (.int .i64 sq) (.int .i64 ak) (.string d)).alloc o) (((((((((BA.out).setCell (p := ⟨w.heap.size, 0, none⟩) (Nat.le_refl _) (.int .i64 sa)).setCell (p := ⟨w.heap.size, 1, none⟩) (Nat.le_refl _) (.int .i64 sp)).setCell (p := ⟨w.heap.size, 2, none⟩) (Nat.le_refl _) (.int .i64 da)).setCell (p := ⟨w.heap.size, 3, none⟩) (Nat.le_refl _) (.int .i64 dp)).setCell (p := ⟨w.heap.size, 4, none⟩) (Nat.le_refl _) (.int .i64 sq)).setCell (p := ⟨w.heap.size, 5, none⟩) (Nat.le_refl _) (.int .i64 ak)).setCell (p := ⟨w.heap.size, 6, none⟩) (Nat.le_refl _) (.string d)).alloc (by have := BA.out.size; simp; omega) o))
    clear hqw HAL
    go_wp2_with fail
  all_goals
    refine bodyPost_letter (Q := fun W => At7 W w.heap.size (.int .i64 sa) (.int .i64 sp) (.int .i64 da) (.int .i64 dp) (.int .i64 sq) (.int .i64 ak) (.string d) ∧ Below w.heap.size w W) ?_ ?_
    · first
        | with_reducible exact AS.out
        | with_reducible exact AT.out _
        | with_reducible exact AU.out _
        | (trace_state; fail)
    · rintro W ⟨⟨_, ⟨q0, q1, q2, q3, q4, q5, q6⟩, _⟩, hb⟩
      exact bodyPost_ret (v := .tuple #[.agg #[.int .i64 sa, .int .i64 sp, .int .i64 da, .int .i64 dp, .int .i64 sq, .int .i64 ak, .string d], .string far, .int .i64 q]) (by simp [results, Try.results5, go_sem, q0, q1, q2, q3, q4, q5, q6]) rfl ⟨sa, sp, da, dp, sq, ak, d, far, q, rfl, HD.out, hf, HQ.out, hb⟩

end Go.Proofs.Ytjnhmobdigfpiaa
