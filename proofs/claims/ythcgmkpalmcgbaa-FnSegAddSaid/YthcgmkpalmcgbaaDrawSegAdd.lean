/- What is drawn for the law on what is known of a stream. Condition: the code lies in memory. -/
import Derived.Test.YthcgmkpalmcgbaaDrawSegOk
import Derived.RegionTactic
namespace Go.Proofs.Ythcgmkpalmcgbaa
open Go.RowKit

theorem below_dr {B : Nat} {W X : World} (h : Below B W X) : Below B W X.drew := h.trans ⟨rfl, rfl, rfl, Nat.le_refl _, fun _ _ => rfl⟩

set_option maxRecDepth 100000 in
set_option maxHeartbeats 3200000 in
theorem drawSegAdd_any (ao : Option Addr) (n cap : Nat) (w : World) (h : BytesIn w ao n) (hn : n ≤ cap) :
    Calls Try.prog 18 #[.slice ao n cap] w fun e w' => ∃ (kn : ByteArray) (sa sp da dp sq ak : Int) (d : ByteArray), e = .returned (.tuple #[.string kn, .agg #[.int .i64 sa, .int .i64 sp, .int .i64 da, .int .i64 dp, .int .i64 sq, .int .i64 ak, .string d]]) ∧ kn.size ≤ 120 ∧ SegD sq d ∧ Below w.heap.size w w' := by
  have H := Lib.hid h
  clear h
  go_enter Try.func18, Try.ntmps18
  go_wp2_with fail
  (go_at_call 29; refine (open_any ao n cap _ (H.out.below ((Below.refl _ _).alloc (Nat.le_refl _) _)) hn).mono ?_; rintro e w1 ⟨R, rfl, hR, b1, r1⟩)
  have s1 := b1.size
  have A1 := (at7_new w (.int .i64 0) (.int .i64 0) (.int .i64 0) (.int .i64 0) (.int .i64 0) (.int .i64 0) (.string ⟨#[]⟩) 29).below b1
  simp only [World.size_alloc] at s1 hR r1
  have R1 := Lib.hid r1
  have B1 := Lib.hid b1
  have A1 := Lib.hid A1
  have hne1 : w.heap.size ≠ R := by omega
  clear r1 b1
  go_wp2_with fail
  (go_at_call 31; refine (stream_any (w.heap.size + 1) R 0 _ R1.out (by omega)).mono ?_; rintro e w2 ⟨kn, rfl, hk, g2, r2⟩)
  have A2 := Lib.hid (A1.out.grown g2 hne1)
  have R2 := Lib.hid r2
  have G2 := Lib.hid g2
  clear r2 g2 R1 A1
  go_wp2_with fail
  (go_at_call 30; refine (seg_any 9 (w.heap.size + 1) R (0 + 50) _ R2.out (by omega) (by omega) (by omega)).mono ?_; rintro e w3 ⟨sa, sp, da, dp, sq, ak, d, rfl, hD, g3, r3⟩)
  have A3 := Lib.hid (A2.out.grown g3 hne1)
  have R3 := Lib.hid r3
  have G3 := Lib.hid (G2.out.trans g3)
  clear r3 g3 R2 A2 G2
  have hd := hD.2.2
  have lt3 := R3.out.lt
  obtain ⟨b2, hb2⟩ : ∃ b2, b2 = w3.heap.size := ⟨_, rfl⟩
  have hne2 : b2 ≠ R := by omega
  have hwb1 : w1.heap.size ≤ b2 := by have := G3.out.size; omega
  have hz3 : w.heap.size < w3.heap.size := A3.out.1
  have hne3 : w.heap.size ≠ b2 := by omega
  have hBb : w.heap.size + 1 ≤ b2 := by omega
  have e1 : IntKind.i64.wrap ((kn.size : Int) + 3) = (kn.size : Int) + 3 := IntWalk.i64_in _ (by omega)
  have e2 : IntKind.i64.wrap ((kn.size : Int) + 1) = (kn.size : Int) + 1 := IntWalk.i64_in _ (by omega)
  have e3 : IntKind.i64.wrap ((kn.size : Int) - 3) = (kn.size : Int) - 3 := IntWalk.i64_in _ (by omega)
  have A4 : Hid (At7 (w3.alloc (.cells #[.int .i64 sa, .int .i64 sp, .int .i64 da, .int .i64 dp, .int .i64 sq, .int .i64 ak, .string d] 29)) w.heap.size (.int .i64 0) (.int .i64 0) (.int .i64 0) (.int .i64 0) (.int .i64 0) (.int .i64 0) (.string ⟨#[]⟩)) := A3.out.alloc _
  have D4 : Hid (At7 (w3.alloc (.cells #[.int .i64 sa, .int .i64 sp, .int .i64 da, .int .i64 dp, .int .i64 sq, .int .i64 ak, .string d] 29)) b2 (.int .i64 sa) (.int .i64 sp) (.int .i64 da) (.int .i64 dp) (.int .i64 sq) (.int .i64 ak) (.string d)) := by rw [hb2]; exact at7_new w3 _ _ _ _ _ _ _ _
  have R4 := Lib.hid (rd_alloc R3.out (.cells #[.int .i64 sa, .int .i64 sp, .int .i64 da, .int .i64 dp, .int .i64 sq, .int .i64 ak, .string d] 29))
  have G4 := Lib.hid (grown_alloc G3.out (.cells #[.int .i64 sa, .int .i64 sp, .int .i64 da, .int .i64 dp, .int .i64 sq, .int .i64 ak, .string d] 29))
  clear R3 A3 G3 hD
  go_wp2_with fail
  rw [← hb2]
  (go_at_call 32; refine (pick_any ((kn.size : Int) + 3) (w.heap.size + 1) R (0 + 50 + 90) _ R4.out (by omega)).mono ?_; rintro e w5 ⟨k, rfl, hk5, g5, r5⟩)
  have hk6 : k ≤ 130 := by omega
  clear hb2
  have R5 := Lib.hid r5
  have A5 := Lib.hid (A4.out.grown g5 hne1)
  have D5 := Lib.hid (D4.out.grown g5 hne2)
  have G5 := Lib.hid (G4.out.trans g5)
  clear r5 g5 R4 A4 D4 G4 hk5
  by_cases h3 : (kn.size : Int) - 3 ≤ 0
  · have h4 : ¬ 0 < (kn.size : Int) - 3 := by omega
    have hm : max (0 : Int) ((kn.size : Int) - 3) = 0 := by omega
    go_wp2_with fail
    (go_at_call 32; refine (pick_any 5 (w.heap.size + 1) R (0 + 50 + 90 + 1) _ (rd_alloc R5.out (.cells #[.int .i64 (kn.size : Int), .int .i64 (k : Int), .int .i64 ((kn.size : Int) + 1), .int .i64 (-1), .int .i64 0] 3)) (by omega)).mono ?_; rintro e w6 ⟨r, rfl, hr, g6, r6⟩)
    have hr5 : r < 5 := by omega
    have lt5 := R5.out.lt
    have hS : w5.heap.size ≠ R := by omega
    have k0 : w6.cell? ⟨w5.heap.size, 0, none⟩ = some (.int .i64 (kn.size : Int)) := (gcell g6 (b := w5.heap.size) (by simp) hS 0).1.trans (cell_new w5 _ 3 0).1
    have k1 : w6.cell? ⟨w5.heap.size, 1, none⟩ = some (.int .i64 (k : Int)) := (gcell g6 (b := w5.heap.size) (by simp) hS 1).1.trans (cell_new w5 _ 3 1).1
    have k2 : w6.cell? ⟨w5.heap.size, 2, none⟩ = some (.int .i64 ((kn.size : Int) + 1)) := (gcell g6 (b := w5.heap.size) (by simp) hS 2).1.trans (cell_new w5 _ 3 2).1
    have k3 : w6.cell? ⟨w5.heap.size, 3, none⟩ = some (.int .i64 (-1)) := (gcell g6 (b := w5.heap.size) (by simp) hS 3).1.trans (cell_new w5 _ 3 3).1
    have k4 : w6.cell? ⟨w5.heap.size, 4, none⟩ = some (.int .i64 0) := (gcell g6 (b := w5.heap.size) (by simp) hS 4).1.trans (cell_new w5 _ 3 4).1
    have A6 := Lib.hid ((A5.out.alloc (.cells #[.int .i64 (kn.size : Int), .int .i64 (k : Int), .int .i64 ((kn.size : Int) + 1), .int .i64 (-1), .int .i64 0] 3)).grown g6 hne1)
    have D6 := Lib.hid ((D5.out.alloc (.cells #[.int .i64 (kn.size : Int), .int .i64 (k : Int), .int .i64 ((kn.size : Int) + 1), .int .i64 (-1), .int .i64 0] 3)).grown g6 hne2)
    have G6 := Lib.hid ((grown_alloc G5.out (.cells #[.int .i64 (kn.size : Int), .int .i64 (k : Int), .int .i64 ((kn.size : Int) + 1), .int .i64 (-1), .int .i64 0] 3)).trans g6)
    clear r6 g6 R5 A5 D5 G5 hr lt5 hS
    obtain ⟨tz, ⟨tc0, tc1, tc2, tc3, tc4, tc5, tc6⟩, tf0, tf1, tf2, tf3, tf4, tf5, tf6⟩ := D6.out
    obtain rfl | rfl | rfl | rfl | rfl : r = 0 ∨ r = 1 ∨ r = 2 ∨ r = 3 ∨ r = 4 := by omega
    · have A7 := Lib.hid (A6.out.put (i := 4) (.int .i64 (kn.size : Int)) hne3)
      have D7 := Lib.hid (D6.out.set4 (.int .i64 (kn.size : Int)))
      have G7 := Lib.hid (grown_new (b := b2) G6.out 4 (.int .i64 (kn.size : Int)) hwb1)
      go_wp2_with fail
      clear tz tc0 tc1 tc2 tc3 tc4 tc5 tc6 tf0 tf1 tf2 tf3 tf4 tf5 tf6 k0 k1 k2 k3 k4
      obtain ⟨W7, hW7⟩ : ∃ W7, W7 = w6.setCell ⟨b2, 4, none⟩ (.int .i64 (kn.size : Int)) := ⟨_, rfl⟩
      rw [← hW7] at A7 D7 G7 ⊢
      clear hW7 A6 D6 G6
      obtain ⟨uz, ⟨uc0, uc1, uc2, uc3, uc4, uc5, uc6⟩, uf0, uf1, uf2, uf3, uf4, uf5, uf6⟩ := A7.out
      obtain ⟨vz, ⟨vc0, vc1, vc2, vc3, vc4, vc5, vc6⟩, vf0, vf1, vf2, vf3, vf4, vf5, vf6⟩ := D7.out
      clear vf0 vf1 vf2 vf3 vf4 vf5 vf6 h3 h4 hm e1 e2 e3
      go_region
      all_goals go_wp2_with fail
      obtain ⟨_, ⟨q0, q1, q2, q3, q4, q5, q6⟩, _⟩ := A7.out.all (.int .i64 sa) (.int .i64 sp) (.int .i64 da) (.int .i64 dp) (.int .i64 (kn.size : Int)) (.int .i64 ak) (.string d)
      refine bodyPost_ret (v := .tuple #[.string kn, .agg #[.int .i64 sa, .int .i64 sp, .int .i64 da, .int .i64 dp, .int .i64 (kn.size : Int), .int .i64 ak, .string d]]) (by simp [results, Try.results18, go_sem, q0, q1, q2, q3, q4, q5, q6]) rfl ⟨_, _, _, _, _, _, _, _, rfl, hk, ⟨by omega, by omega, hd⟩, ?_⟩
      have BA : Below w.heap.size w W7 := ((Below.refl _ w).alloc (Nat.le_refl _) _).trans ((B1.out.mono (by simp)).grown G7.out (by omega) (fun k e => by cases e; omega))
      exact ((((((BA.setCell (Nat.le_refl _) _).setCell (Nat.le_refl _) _).setCell (Nat.le_refl _) _).setCell (Nat.le_refl _) _).setCell (Nat.le_refl _) _).setCell (Nat.le_refl _) _).setCell (Nat.le_refl _) _ |> below_dr
    · have A7 := Lib.hid (A6.out.put (i := 4) (.int .i64 (k : Int)) hne3)
      have D7 := Lib.hid (D6.out.set4 (.int .i64 (k : Int)))
      have G7 := Lib.hid (grown_new (b := b2) G6.out 4 (.int .i64 (k : Int)) hwb1)
      go_wp2_with fail
      clear tz tc0 tc1 tc2 tc3 tc4 tc5 tc6 tf0 tf1 tf2 tf3 tf4 tf5 tf6 k0 k1 k2 k3 k4
      obtain ⟨W7, hW7⟩ : ∃ W7, W7 = w6.setCell ⟨b2, 4, none⟩ (.int .i64 (k : Int)) := ⟨_, rfl⟩
      rw [← hW7] at A7 D7 G7 ⊢
      clear hW7 A6 D6 G6
      obtain ⟨uz, ⟨uc0, uc1, uc2, uc3, uc4, uc5, uc6⟩, uf0, uf1, uf2, uf3, uf4, uf5, uf6⟩ := A7.out
      obtain ⟨vz, ⟨vc0, vc1, vc2, vc3, vc4, vc5, vc6⟩, vf0, vf1, vf2, vf3, vf4, vf5, vf6⟩ := D7.out
      clear vf0 vf1 vf2 vf3 vf4 vf5 vf6 h3 h4 hm e1 e2 e3
      go_region
      all_goals go_wp2_with fail
      obtain ⟨_, ⟨q0, q1, q2, q3, q4, q5, q6⟩, _⟩ := A7.out.all (.int .i64 sa) (.int .i64 sp) (.int .i64 da) (.int .i64 dp) (.int .i64 (k : Int)) (.int .i64 ak) (.string d)
      refine bodyPost_ret (v := .tuple #[.string kn, .agg #[.int .i64 sa, .int .i64 sp, .int .i64 da, .int .i64 dp, .int .i64 (k : Int), .int .i64 ak, .string d]]) (by simp [results, Try.results18, go_sem, q0, q1, q2, q3, q4, q5, q6]) rfl ⟨_, _, _, _, _, _, _, _, rfl, hk, ⟨by omega, by omega, hd⟩, ?_⟩
      have BA : Below w.heap.size w W7 := ((Below.refl _ w).alloc (Nat.le_refl _) _).trans ((B1.out.mono (by simp)).grown G7.out (by omega) (fun k e => by cases e; omega))
      exact ((((((BA.setCell (Nat.le_refl _) _).setCell (Nat.le_refl _) _).setCell (Nat.le_refl _) _).setCell (Nat.le_refl _) _).setCell (Nat.le_refl _) _).setCell (Nat.le_refl _) _).setCell (Nat.le_refl _) _ |> below_dr
    · have A7 := Lib.hid (A6.out.put (i := 4) (.int .i64 ((kn.size : Int) + 1)) hne3)
      have D7 := Lib.hid (D6.out.set4 (.int .i64 ((kn.size : Int) + 1)))
      have G7 := Lib.hid (grown_new (b := b2) G6.out 4 (.int .i64 ((kn.size : Int) + 1)) hwb1)
      go_wp2_with fail
      clear tz tc0 tc1 tc2 tc3 tc4 tc5 tc6 tf0 tf1 tf2 tf3 tf4 tf5 tf6 k0 k1 k2 k3 k4
      obtain ⟨W7, hW7⟩ : ∃ W7, W7 = w6.setCell ⟨b2, 4, none⟩ (.int .i64 ((kn.size : Int) + 1)) := ⟨_, rfl⟩
      rw [← hW7] at A7 D7 G7 ⊢
      clear hW7 A6 D6 G6
      obtain ⟨uz, ⟨uc0, uc1, uc2, uc3, uc4, uc5, uc6⟩, uf0, uf1, uf2, uf3, uf4, uf5, uf6⟩ := A7.out
      obtain ⟨vz, ⟨vc0, vc1, vc2, vc3, vc4, vc5, vc6⟩, vf0, vf1, vf2, vf3, vf4, vf5, vf6⟩ := D7.out
      clear vf0 vf1 vf2 vf3 vf4 vf5 vf6 h3 h4 hm e1 e2 e3
      go_region
      all_goals go_wp2_with fail
      obtain ⟨_, ⟨q0, q1, q2, q3, q4, q5, q6⟩, _⟩ := A7.out.all (.int .i64 sa) (.int .i64 sp) (.int .i64 da) (.int .i64 dp) (.int .i64 ((kn.size : Int) + 1)) (.int .i64 ak) (.string d)
      refine bodyPost_ret (v := .tuple #[.string kn, .agg #[.int .i64 sa, .int .i64 sp, .int .i64 da, .int .i64 dp, .int .i64 ((kn.size : Int) + 1), .int .i64 ak, .string d]]) (by simp [results, Try.results18, go_sem, q0, q1, q2, q3, q4, q5, q6]) rfl ⟨_, _, _, _, _, _, _, _, rfl, hk, ⟨by omega, by omega, hd⟩, ?_⟩
      have BA : Below w.heap.size w W7 := ((Below.refl _ w).alloc (Nat.le_refl _) _).trans ((B1.out.mono (by simp)).grown G7.out (by omega) (fun k e => by cases e; omega))
      exact ((((((BA.setCell (Nat.le_refl _) _).setCell (Nat.le_refl _) _).setCell (Nat.le_refl _) _).setCell (Nat.le_refl _) _).setCell (Nat.le_refl _) _).setCell (Nat.le_refl _) _).setCell (Nat.le_refl _) _ |> below_dr
    · have A7 := Lib.hid (A6.out.put (i := 4) (.int .i64 (-1)) hne3)
      have D7 := Lib.hid (D6.out.set4 (.int .i64 (-1)))
      have G7 := Lib.hid (grown_new (b := b2) G6.out 4 (.int .i64 (-1)) hwb1)
      go_wp2_with fail
      clear tz tc0 tc1 tc2 tc3 tc4 tc5 tc6 tf0 tf1 tf2 tf3 tf4 tf5 tf6 k0 k1 k2 k3 k4
      obtain ⟨W7, hW7⟩ : ∃ W7, W7 = w6.setCell ⟨b2, 4, none⟩ (.int .i64 (-1)) := ⟨_, rfl⟩
      rw [← hW7] at A7 D7 G7 ⊢
      clear hW7 A6 D6 G6
      obtain ⟨uz, ⟨uc0, uc1, uc2, uc3, uc4, uc5, uc6⟩, uf0, uf1, uf2, uf3, uf4, uf5, uf6⟩ := A7.out
      obtain ⟨vz, ⟨vc0, vc1, vc2, vc3, vc4, vc5, vc6⟩, vf0, vf1, vf2, vf3, vf4, vf5, vf6⟩ := D7.out
      clear vf0 vf1 vf2 vf3 vf4 vf5 vf6 h3 h4 hm e1 e2 e3
      go_region
      all_goals go_wp2_with fail
      obtain ⟨_, ⟨q0, q1, q2, q3, q4, q5, q6⟩, _⟩ := A7.out.all (.int .i64 sa) (.int .i64 sp) (.int .i64 da) (.int .i64 dp) (.int .i64 (-1)) (.int .i64 ak) (.string d)
      refine bodyPost_ret (v := .tuple #[.string kn, .agg #[.int .i64 sa, .int .i64 sp, .int .i64 da, .int .i64 dp, .int .i64 (-1), .int .i64 ak, .string d]]) (by simp [results, Try.results18, go_sem, q0, q1, q2, q3, q4, q5, q6]) rfl ⟨_, _, _, _, _, _, _, _, rfl, hk, ⟨by omega, by omega, hd⟩, ?_⟩
      have BA : Below w.heap.size w W7 := ((Below.refl _ w).alloc (Nat.le_refl _) _).trans ((B1.out.mono (by simp)).grown G7.out (by omega) (fun k e => by cases e; omega))
      exact ((((((BA.setCell (Nat.le_refl _) _).setCell (Nat.le_refl _) _).setCell (Nat.le_refl _) _).setCell (Nat.le_refl _) _).setCell (Nat.le_refl _) _).setCell (Nat.le_refl _) _).setCell (Nat.le_refl _) _ |> below_dr
    · have A7 := Lib.hid (A6.out.put (i := 4) (.int .i64 0) hne3)
      have D7 := Lib.hid (D6.out.set4 (.int .i64 0))
      have G7 := Lib.hid (grown_new (b := b2) G6.out 4 (.int .i64 0) hwb1)
      go_wp2_with fail
      clear tz tc0 tc1 tc2 tc3 tc4 tc5 tc6 tf0 tf1 tf2 tf3 tf4 tf5 tf6 k0 k1 k2 k3 k4
      obtain ⟨W7, hW7⟩ : ∃ W7, W7 = w6.setCell ⟨b2, 4, none⟩ (.int .i64 0) := ⟨_, rfl⟩
      rw [← hW7] at A7 D7 G7 ⊢
      clear hW7 A6 D6 G6
      obtain ⟨uz, ⟨uc0, uc1, uc2, uc3, uc4, uc5, uc6⟩, uf0, uf1, uf2, uf3, uf4, uf5, uf6⟩ := A7.out
      obtain ⟨vz, ⟨vc0, vc1, vc2, vc3, vc4, vc5, vc6⟩, vf0, vf1, vf2, vf3, vf4, vf5, vf6⟩ := D7.out
      clear vf0 vf1 vf2 vf3 vf4 vf5 vf6 h3 h4 hm e1 e2 e3
      go_region
      all_goals go_wp2_with fail
      obtain ⟨_, ⟨q0, q1, q2, q3, q4, q5, q6⟩, _⟩ := A7.out.all (.int .i64 sa) (.int .i64 sp) (.int .i64 da) (.int .i64 dp) (.int .i64 0) (.int .i64 ak) (.string d)
      refine bodyPost_ret (v := .tuple #[.string kn, .agg #[.int .i64 sa, .int .i64 sp, .int .i64 da, .int .i64 dp, .int .i64 0, .int .i64 ak, .string d]]) (by simp [results, Try.results18, go_sem, q0, q1, q2, q3, q4, q5, q6]) rfl ⟨_, _, _, _, _, _, _, _, rfl, hk, ⟨by omega, by omega, hd⟩, ?_⟩
      have BA : Below w.heap.size w W7 := ((Below.refl _ w).alloc (Nat.le_refl _) _).trans ((B1.out.mono (by simp)).grown G7.out (by omega) (fun k e => by cases e; omega))
      exact ((((((BA.setCell (Nat.le_refl _) _).setCell (Nat.le_refl _) _).setCell (Nat.le_refl _) _).setCell (Nat.le_refl _) _).setCell (Nat.le_refl _) _).setCell (Nat.le_refl _) _).setCell (Nat.le_refl _) _ |> below_dr
  · have h4 : 0 < (kn.size : Int) - 3 := by omega
    have hm : max (0 : Int) ((kn.size : Int) - 3) = (kn.size : Int) - 3 := by omega
    go_wp2_with fail
    (go_at_call 32; refine (pick_any 5 (w.heap.size + 1) R (0 + 50 + 90 + 1) _ (rd_alloc R5.out (.cells #[.int .i64 (kn.size : Int), .int .i64 (k : Int), .int .i64 ((kn.size : Int) + 1), .int .i64 (-1), .int .i64 ((kn.size : Int) - 3)] 3)) (by omega)).mono ?_; rintro e w6 ⟨r, rfl, hr, g6, r6⟩)
    have hr5 : r < 5 := by omega
    have lt5 := R5.out.lt
    have hS : w5.heap.size ≠ R := by omega
    have k0 : w6.cell? ⟨w5.heap.size, 0, none⟩ = some (.int .i64 (kn.size : Int)) := (gcell g6 (b := w5.heap.size) (by simp) hS 0).1.trans (cell_new w5 _ 3 0).1
    have k1 : w6.cell? ⟨w5.heap.size, 1, none⟩ = some (.int .i64 (k : Int)) := (gcell g6 (b := w5.heap.size) (by simp) hS 1).1.trans (cell_new w5 _ 3 1).1
    have k2 : w6.cell? ⟨w5.heap.size, 2, none⟩ = some (.int .i64 ((kn.size : Int) + 1)) := (gcell g6 (b := w5.heap.size) (by simp) hS 2).1.trans (cell_new w5 _ 3 2).1
    have k3 : w6.cell? ⟨w5.heap.size, 3, none⟩ = some (.int .i64 (-1)) := (gcell g6 (b := w5.heap.size) (by simp) hS 3).1.trans (cell_new w5 _ 3 3).1
    have k4 : w6.cell? ⟨w5.heap.size, 4, none⟩ = some (.int .i64 ((kn.size : Int) - 3)) := (gcell g6 (b := w5.heap.size) (by simp) hS 4).1.trans (cell_new w5 _ 3 4).1
    have A6 := Lib.hid ((A5.out.alloc (.cells #[.int .i64 (kn.size : Int), .int .i64 (k : Int), .int .i64 ((kn.size : Int) + 1), .int .i64 (-1), .int .i64 ((kn.size : Int) - 3)] 3)).grown g6 hne1)
    have D6 := Lib.hid ((D5.out.alloc (.cells #[.int .i64 (kn.size : Int), .int .i64 (k : Int), .int .i64 ((kn.size : Int) + 1), .int .i64 (-1), .int .i64 ((kn.size : Int) - 3)] 3)).grown g6 hne2)
    have G6 := Lib.hid ((grown_alloc G5.out (.cells #[.int .i64 (kn.size : Int), .int .i64 (k : Int), .int .i64 ((kn.size : Int) + 1), .int .i64 (-1), .int .i64 ((kn.size : Int) - 3)] 3)).trans g6)
    clear r6 g6 R5 A5 D5 G5 hr lt5 hS
    obtain ⟨tz, ⟨tc0, tc1, tc2, tc3, tc4, tc5, tc6⟩, tf0, tf1, tf2, tf3, tf4, tf5, tf6⟩ := D6.out
    obtain rfl | rfl | rfl | rfl | rfl : r = 0 ∨ r = 1 ∨ r = 2 ∨ r = 3 ∨ r = 4 := by omega
    · have A7 := Lib.hid (A6.out.put (i := 4) (.int .i64 (kn.size : Int)) hne3)
      have D7 := Lib.hid (D6.out.set4 (.int .i64 (kn.size : Int)))
      have G7 := Lib.hid (grown_new (b := b2) G6.out 4 (.int .i64 (kn.size : Int)) hwb1)
      go_wp2_with fail
      clear tz tc0 tc1 tc2 tc3 tc4 tc5 tc6 tf0 tf1 tf2 tf3 tf4 tf5 tf6 k0 k1 k2 k3 k4
      obtain ⟨W7, hW7⟩ : ∃ W7, W7 = w6.setCell ⟨b2, 4, none⟩ (.int .i64 (kn.size : Int)) := ⟨_, rfl⟩
      rw [← hW7] at A7 D7 G7 ⊢
      clear hW7 A6 D6 G6
      obtain ⟨uz, ⟨uc0, uc1, uc2, uc3, uc4, uc5, uc6⟩, uf0, uf1, uf2, uf3, uf4, uf5, uf6⟩ := A7.out
      obtain ⟨vz, ⟨vc0, vc1, vc2, vc3, vc4, vc5, vc6⟩, vf0, vf1, vf2, vf3, vf4, vf5, vf6⟩ := D7.out
      clear vf0 vf1 vf2 vf3 vf4 vf5 vf6 h3 h4 hm e1 e2 e3
      go_region
      all_goals go_wp2_with fail
      obtain ⟨_, ⟨q0, q1, q2, q3, q4, q5, q6⟩, _⟩ := A7.out.all (.int .i64 sa) (.int .i64 sp) (.int .i64 da) (.int .i64 dp) (.int .i64 (kn.size : Int)) (.int .i64 ak) (.string d)
      refine bodyPost_ret (v := .tuple #[.string kn, .agg #[.int .i64 sa, .int .i64 sp, .int .i64 da, .int .i64 dp, .int .i64 (kn.size : Int), .int .i64 ak, .string d]]) (by simp [results, Try.results18, go_sem, q0, q1, q2, q3, q4, q5, q6]) rfl ⟨_, _, _, _, _, _, _, _, rfl, hk, ⟨by omega, by omega, hd⟩, ?_⟩
      have BA : Below w.heap.size w W7 := ((Below.refl _ w).alloc (Nat.le_refl _) _).trans ((B1.out.mono (by simp)).grown G7.out (by omega) (fun k e => by cases e; omega))
      exact ((((((BA.setCell (Nat.le_refl _) _).setCell (Nat.le_refl _) _).setCell (Nat.le_refl _) _).setCell (Nat.le_refl _) _).setCell (Nat.le_refl _) _).setCell (Nat.le_refl _) _).setCell (Nat.le_refl _) _ |> below_dr
    · have A7 := Lib.hid (A6.out.put (i := 4) (.int .i64 (k : Int)) hne3)
      have D7 := Lib.hid (D6.out.set4 (.int .i64 (k : Int)))
      have G7 := Lib.hid (grown_new (b := b2) G6.out 4 (.int .i64 (k : Int)) hwb1)
      go_wp2_with fail
      clear tz tc0 tc1 tc2 tc3 tc4 tc5 tc6 tf0 tf1 tf2 tf3 tf4 tf5 tf6 k0 k1 k2 k3 k4
      obtain ⟨W7, hW7⟩ : ∃ W7, W7 = w6.setCell ⟨b2, 4, none⟩ (.int .i64 (k : Int)) := ⟨_, rfl⟩
      rw [← hW7] at A7 D7 G7 ⊢
      clear hW7 A6 D6 G6
      obtain ⟨uz, ⟨uc0, uc1, uc2, uc3, uc4, uc5, uc6⟩, uf0, uf1, uf2, uf3, uf4, uf5, uf6⟩ := A7.out
      obtain ⟨vz, ⟨vc0, vc1, vc2, vc3, vc4, vc5, vc6⟩, vf0, vf1, vf2, vf3, vf4, vf5, vf6⟩ := D7.out
      clear vf0 vf1 vf2 vf3 vf4 vf5 vf6 h3 h4 hm e1 e2 e3
      go_region
      all_goals go_wp2_with fail
      obtain ⟨_, ⟨q0, q1, q2, q3, q4, q5, q6⟩, _⟩ := A7.out.all (.int .i64 sa) (.int .i64 sp) (.int .i64 da) (.int .i64 dp) (.int .i64 (k : Int)) (.int .i64 ak) (.string d)
      refine bodyPost_ret (v := .tuple #[.string kn, .agg #[.int .i64 sa, .int .i64 sp, .int .i64 da, .int .i64 dp, .int .i64 (k : Int), .int .i64 ak, .string d]]) (by simp [results, Try.results18, go_sem, q0, q1, q2, q3, q4, q5, q6]) rfl ⟨_, _, _, _, _, _, _, _, rfl, hk, ⟨by omega, by omega, hd⟩, ?_⟩
      have BA : Below w.heap.size w W7 := ((Below.refl _ w).alloc (Nat.le_refl _) _).trans ((B1.out.mono (by simp)).grown G7.out (by omega) (fun k e => by cases e; omega))
      exact ((((((BA.setCell (Nat.le_refl _) _).setCell (Nat.le_refl _) _).setCell (Nat.le_refl _) _).setCell (Nat.le_refl _) _).setCell (Nat.le_refl _) _).setCell (Nat.le_refl _) _).setCell (Nat.le_refl _) _ |> below_dr
    · have A7 := Lib.hid (A6.out.put (i := 4) (.int .i64 ((kn.size : Int) + 1)) hne3)
      have D7 := Lib.hid (D6.out.set4 (.int .i64 ((kn.size : Int) + 1)))
      have G7 := Lib.hid (grown_new (b := b2) G6.out 4 (.int .i64 ((kn.size : Int) + 1)) hwb1)
      go_wp2_with fail
      clear tz tc0 tc1 tc2 tc3 tc4 tc5 tc6 tf0 tf1 tf2 tf3 tf4 tf5 tf6 k0 k1 k2 k3 k4
      obtain ⟨W7, hW7⟩ : ∃ W7, W7 = w6.setCell ⟨b2, 4, none⟩ (.int .i64 ((kn.size : Int) + 1)) := ⟨_, rfl⟩
      rw [← hW7] at A7 D7 G7 ⊢
      clear hW7 A6 D6 G6
      obtain ⟨uz, ⟨uc0, uc1, uc2, uc3, uc4, uc5, uc6⟩, uf0, uf1, uf2, uf3, uf4, uf5, uf6⟩ := A7.out
      obtain ⟨vz, ⟨vc0, vc1, vc2, vc3, vc4, vc5, vc6⟩, vf0, vf1, vf2, vf3, vf4, vf5, vf6⟩ := D7.out
      clear vf0 vf1 vf2 vf3 vf4 vf5 vf6 h3 h4 hm e1 e2 e3
      go_region
      all_goals go_wp2_with fail
      obtain ⟨_, ⟨q0, q1, q2, q3, q4, q5, q6⟩, _⟩ := A7.out.all (.int .i64 sa) (.int .i64 sp) (.int .i64 da) (.int .i64 dp) (.int .i64 ((kn.size : Int) + 1)) (.int .i64 ak) (.string d)
      refine bodyPost_ret (v := .tuple #[.string kn, .agg #[.int .i64 sa, .int .i64 sp, .int .i64 da, .int .i64 dp, .int .i64 ((kn.size : Int) + 1), .int .i64 ak, .string d]]) (by simp [results, Try.results18, go_sem, q0, q1, q2, q3, q4, q5, q6]) rfl ⟨_, _, _, _, _, _, _, _, rfl, hk, ⟨by omega, by omega, hd⟩, ?_⟩
      have BA : Below w.heap.size w W7 := ((Below.refl _ w).alloc (Nat.le_refl _) _).trans ((B1.out.mono (by simp)).grown G7.out (by omega) (fun k e => by cases e; omega))
      exact ((((((BA.setCell (Nat.le_refl _) _).setCell (Nat.le_refl _) _).setCell (Nat.le_refl _) _).setCell (Nat.le_refl _) _).setCell (Nat.le_refl _) _).setCell (Nat.le_refl _) _).setCell (Nat.le_refl _) _ |> below_dr
    · have A7 := Lib.hid (A6.out.put (i := 4) (.int .i64 (-1)) hne3)
      have D7 := Lib.hid (D6.out.set4 (.int .i64 (-1)))
      have G7 := Lib.hid (grown_new (b := b2) G6.out 4 (.int .i64 (-1)) hwb1)
      go_wp2_with fail
      clear tz tc0 tc1 tc2 tc3 tc4 tc5 tc6 tf0 tf1 tf2 tf3 tf4 tf5 tf6 k0 k1 k2 k3 k4
      obtain ⟨W7, hW7⟩ : ∃ W7, W7 = w6.setCell ⟨b2, 4, none⟩ (.int .i64 (-1)) := ⟨_, rfl⟩
      rw [← hW7] at A7 D7 G7 ⊢
      clear hW7 A6 D6 G6
      obtain ⟨uz, ⟨uc0, uc1, uc2, uc3, uc4, uc5, uc6⟩, uf0, uf1, uf2, uf3, uf4, uf5, uf6⟩ := A7.out
      obtain ⟨vz, ⟨vc0, vc1, vc2, vc3, vc4, vc5, vc6⟩, vf0, vf1, vf2, vf3, vf4, vf5, vf6⟩ := D7.out
      clear vf0 vf1 vf2 vf3 vf4 vf5 vf6 h3 h4 hm e1 e2 e3
      go_region
      all_goals go_wp2_with fail
      obtain ⟨_, ⟨q0, q1, q2, q3, q4, q5, q6⟩, _⟩ := A7.out.all (.int .i64 sa) (.int .i64 sp) (.int .i64 da) (.int .i64 dp) (.int .i64 (-1)) (.int .i64 ak) (.string d)
      refine bodyPost_ret (v := .tuple #[.string kn, .agg #[.int .i64 sa, .int .i64 sp, .int .i64 da, .int .i64 dp, .int .i64 (-1), .int .i64 ak, .string d]]) (by simp [results, Try.results18, go_sem, q0, q1, q2, q3, q4, q5, q6]) rfl ⟨_, _, _, _, _, _, _, _, rfl, hk, ⟨by omega, by omega, hd⟩, ?_⟩
      have BA : Below w.heap.size w W7 := ((Below.refl _ w).alloc (Nat.le_refl _) _).trans ((B1.out.mono (by simp)).grown G7.out (by omega) (fun k e => by cases e; omega))
      exact ((((((BA.setCell (Nat.le_refl _) _).setCell (Nat.le_refl _) _).setCell (Nat.le_refl _) _).setCell (Nat.le_refl _) _).setCell (Nat.le_refl _) _).setCell (Nat.le_refl _) _).setCell (Nat.le_refl _) _ |> below_dr
    · have A7 := Lib.hid (A6.out.put (i := 4) (.int .i64 ((kn.size : Int) - 3)) hne3)
      have D7 := Lib.hid (D6.out.set4 (.int .i64 ((kn.size : Int) - 3)))
      have G7 := Lib.hid (grown_new (b := b2) G6.out 4 (.int .i64 ((kn.size : Int) - 3)) hwb1)
      go_wp2_with fail
      clear tz tc0 tc1 tc2 tc3 tc4 tc5 tc6 tf0 tf1 tf2 tf3 tf4 tf5 tf6 k0 k1 k2 k3 k4
      obtain ⟨W7, hW7⟩ : ∃ W7, W7 = w6.setCell ⟨b2, 4, none⟩ (.int .i64 ((kn.size : Int) - 3)) := ⟨_, rfl⟩
      rw [← hW7] at A7 D7 G7 ⊢
      clear hW7 A6 D6 G6
      obtain ⟨uz, ⟨uc0, uc1, uc2, uc3, uc4, uc5, uc6⟩, uf0, uf1, uf2, uf3, uf4, uf5, uf6⟩ := A7.out
      obtain ⟨vz, ⟨vc0, vc1, vc2, vc3, vc4, vc5, vc6⟩, vf0, vf1, vf2, vf3, vf4, vf5, vf6⟩ := D7.out
      clear vf0 vf1 vf2 vf3 vf4 vf5 vf6 h3 h4 hm e1 e2 e3
      go_region
      all_goals go_wp2_with fail
      obtain ⟨_, ⟨q0, q1, q2, q3, q4, q5, q6⟩, _⟩ := A7.out.all (.int .i64 sa) (.int .i64 sp) (.int .i64 da) (.int .i64 dp) (.int .i64 ((kn.size : Int) - 3)) (.int .i64 ak) (.string d)
      refine bodyPost_ret (v := .tuple #[.string kn, .agg #[.int .i64 sa, .int .i64 sp, .int .i64 da, .int .i64 dp, .int .i64 ((kn.size : Int) - 3), .int .i64 ak, .string d]]) (by simp [results, Try.results18, go_sem, q0, q1, q2, q3, q4, q5, q6]) rfl ⟨_, _, _, _, _, _, _, _, rfl, hk, ⟨by omega, by omega, hd⟩, ?_⟩
      have BA : Below w.heap.size w W7 := ((Below.refl _ w).alloc (Nat.le_refl _) _).trans ((B1.out.mono (by simp)).grown G7.out (by omega) (fun k e => by cases e; omega))
      exact ((((((BA.setCell (Nat.le_refl _) _).setCell (Nat.le_refl _) _).setCell (Nat.le_refl _) _).setCell (Nat.le_refl _) _).setCell (Nat.le_refl _) _).setCell (Nat.le_refl _) _).setCell (Nat.le_refl _) _ |> below_dr

end Go.Proofs.Ythcgmkpalmcgbaa
