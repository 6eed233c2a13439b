/- The ends that are drawn, and that their numbers are small. Conditions: the reader is there; its place is small. -/
import Derived.Test.YtjnhmobdigfpiaaDraw
namespace Go.Proofs.Ytjnhmobdigfpiaa
open Go.RowKit

/-- Numbers of at most a million. -/
def Sm (a p : Int) : Prop := -1000000 ≤ a ∧ a ≤ 1000000 ∧ -1000000 ≤ p ∧ p ≤ 1000000
theorem Sm.wf {a p : Int} (h : Sm a p) : (Lit.int .i64 a).wf = true ∧ (Lit.int .i64 p).wf = true := by
  unfold Sm at h
  exact ⟨WalkArith.wf_i64 (by omega), WalkArith.wf_i64 (by omega)⟩

set_option maxRecDepth 100000 in
set_option maxHeartbeats 3200000 in
theorem in_sm (B R L : Nat) (w : World) (h : Rd B R L w) (hL : L ≤ 999990) :
    Calls Try.prog 34 #[.pointer (some ⟨R, 0, none⟩)] w fun e w' => ∃ a p : Int, e = .returned (.agg #[.int .i64 a, .int .i64 p]) ∧ w.grownBy w' (some R) ∧ Rd B R (L + 3) w' ∧ Sm a p := by
  have hR := h.lt
  have hBR := h.base
  have H := Lib.hid h
  clear h
  go_enter Try.func34, Try.ntmps34
  go_wp2_with fail
  (go_at_call 15; refine (pick_any 4 B R L _ (rd_alloc H.out _) (by omega)).mono ?_; rintro e w1 ⟨k1, rfl, hk1, g1, r1⟩)
  have R1 := Lib.hid r1
  have G1 := Lib.hid g1
  have s1 := g1.size
  clear r1 g1
  go_wp2_with fail
  (go_at_call 15; refine (pick_any 40 B R (L + 1) _ R1.out (by omega)).mono ?_; rintro e w2 ⟨k2, rfl, hk2, g2, r2⟩)
  have R2 := Lib.hid r2
  have G2 := Lib.hid g2
  have s2 := g2.size
  clear r2 g2
  go_wp2_with fail
  (go_at_call 15; refine (pick_any 5 B R (L + 2) _ (rd_alloc R2.out _) (by omega)).mono ?_; rintro e w3 ⟨k3, rfl, hk3, g3, r3⟩)
  have hk5 : k3 < 5 := by omega
  simp only [World.size_alloc] at s1
  obtain ⟨v, hv, hsv⟩ : ∃ v : Int, w3.cell? ⟨w2.heap.size, k3, none⟩ = some (.int .i64 v) ∧ -1000000 ≤ v ∧ v ≤ 1000000 := by
    rw [(gcell g3 (by simp) (by omega) k3).1, (cell_new _ _ _ _).1]
    match k3, hk5 with
    | 0, _ => exact ⟨_, rfl, by first | omega | decide, by first | omega | decide⟩
    | 1, _ => exact ⟨_, rfl, by first | omega | decide, by first | omega | decide⟩
    | 2, _ => exact ⟨_, rfl, by first | omega | decide, by first | omega | decide⟩
    | 3, _ => exact ⟨_, rfl, by first | omega | decide, by first | omega | decide⟩
    | 4, _ => exact ⟨_, rfl, by first | omega | decide, by first | omega | decide⟩
  have gAll : w.grownBy w3 (some R) := (((World.grownBy_alloc w _ _).trans G1.out).trans G2.out).trans ((World.grownBy_alloc w2 _ _).trans g3)
  have q : ∀ i, w3.cell? ⟨w.heap.size, i, none⟩ = (w.alloc (.cells #[.int .i64 0, .int .i64 0] 24)).cell? ⟨w.heap.size, i, none⟩ ∧ w3.frozen? ⟨w.heap.size, i, none⟩ = (w.alloc (.cells #[.int .i64 0, .int .i64 0] 24)).frozen? ⟨w.heap.size, i, none⟩ := fun i =>
    gcell ((G1.out.trans G2.out).trans ((World.grownBy_alloc w2 _ _).trans g3)) (by simp) (by omega) i
  have c0 : w3.cell? ⟨w.heap.size, 0, none⟩ = some (.int .i64 0) := by rw [(q 0).1]; simp
  have c1 : w3.cell? ⟨w.heap.size, 1, none⟩ = some (.int .i64 0) := by rw [(q 1).1]; simp
  have f0 : w3.frozen? ⟨w.heap.size, 0, none⟩ = false := by rw [(q 0).2]; simp
  have f1 : w3.frozen? ⟨w.heap.size, 1, none⟩ = false := by rw [(q 1).2]; simp
  have R3 := Lib.hid r3
  have G3 := Lib.hid gAll
  have hk6 : (k3 : Int) < 5 := by omega
  clear r3 g3 gAll q hk3
  go_wp2_with fail
  obtain ⟨q0, q1, q2⟩ := set_two (w := w3) (b := w.heap.size) (x := .int .i64 0) (y := .int .i64 0) (.int .i64 (1 + (k1 : Int))) (.int .i64 v) c0 c1
  refine bodyPost_ret (v := .agg #[.int .i64 (1 + (k1 : Int)), .int .i64 v]) (by simp [results, Try.results34, go_sem, q1, q2]) rfl ⟨_, _, rfl, ?_, ?_, ?_⟩
  · exact grown_new (grown_new G3.out _ _ (Nat.le_refl _)) _ _ (Nat.le_refl _)
  · exact rd_put (rd_put R3.out _ (by omega) (by omega)) _ (by omega) (by omega)
  · first | exact hsm | (unfold Sm; omega)

set_option maxRecDepth 100000 in
set_option maxHeartbeats 3200000 in
theorem out_sm (B R L : Nat) (w : World) (h : Rd B R L w) (hL : L ≤ 999990) :
    Calls Try.prog 35 #[.pointer (some ⟨R, 0, none⟩)] w fun e w' => ∃ a p : Int, e = .returned (.agg #[.int .i64 a, .int .i64 p]) ∧ w.grownBy w' (some R) ∧ Rd B R (L + 2) w' ∧ Sm a p := by
  have hR := h.lt
  have hBR := h.base
  have H := Lib.hid h
  clear h
  go_enter Try.func35, Try.ntmps35
  go_wp2_with fail
  (go_at_call 15; refine (pick_any 3 B R L _ (rd_alloc H.out _) (by omega)).mono ?_; rintro e w2 ⟨k1, rfl, hk1, g2, r2⟩)
  have R2 := Lib.hid r2
  have G2 := Lib.hid g2
  have s2 := g2.size
  clear r2 g2
  go_wp2_with fail
  (go_at_call 15; refine (pick_any 4 B R (L + 1) _ (rd_alloc R2.out _) (by omega)).mono ?_; rintro e w3 ⟨k3, rfl, hk3, g3, r3⟩)
  have hk5 : k3 < 4 := by omega
  simp only [World.size_alloc] at s2
  obtain ⟨v, hv, hsv⟩ : ∃ v : Int, w3.cell? ⟨w2.heap.size, k3, none⟩ = some (.int .i64 v) ∧ -1000000 ≤ v ∧ v ≤ 1000000 := by
    rw [(gcell g3 (by simp) (by omega) k3).1, (cell_new _ _ _ _).1]
    match k3, hk5 with
    | 0, _ => exact ⟨_, rfl, by first | omega | decide, by first | omega | decide⟩
    | 1, _ => exact ⟨_, rfl, by first | omega | decide, by first | omega | decide⟩
    | 2, _ => exact ⟨_, rfl, by first | omega | decide, by first | omega | decide⟩
    | 3, _ => exact ⟨_, rfl, by first | omega | decide, by first | omega | decide⟩
  have gAll : w.grownBy w3 (some R) := ((World.grownBy_alloc w _ _).trans G2.out).trans ((World.grownBy_alloc w2 _ _).trans g3)
  have q : ∀ i, w3.cell? ⟨w.heap.size, i, none⟩ = (w.alloc (.cells #[.int .i64 0, .int .i64 0] 24)).cell? ⟨w.heap.size, i, none⟩ ∧ w3.frozen? ⟨w.heap.size, i, none⟩ = (w.alloc (.cells #[.int .i64 0, .int .i64 0] 24)).frozen? ⟨w.heap.size, i, none⟩ := fun i =>
    gcell (G2.out.trans ((World.grownBy_alloc w2 _ _).trans g3)) (by simp) (by omega) i
  have c0 : w3.cell? ⟨w.heap.size, 0, none⟩ = some (.int .i64 0) := by rw [(q 0).1]; simp
  have c1 : w3.cell? ⟨w.heap.size, 1, none⟩ = some (.int .i64 0) := by rw [(q 1).1]; simp
  have f0 : w3.frozen? ⟨w.heap.size, 0, none⟩ = false := by rw [(q 0).2]; simp
  have f1 : w3.frozen? ⟨w.heap.size, 1, none⟩ = false := by rw [(q 1).2]; simp
  have R3 := Lib.hid r3
  have G3 := Lib.hid gAll
  have hk6 : (k3 : Int) < 4 := by omega
  clear r3 g3 gAll q hk3
  go_wp2_with fail
  obtain ⟨q0, q1, q2⟩ := set_two (w := w3) (b := w.heap.size) (x := .int .i64 0) (y := .int .i64 0) (.int .i64 (100 + (k1 : Int))) (.int .i64 v) c0 c1
  refine bodyPost_ret (v := .agg #[.int .i64 (100 + (k1 : Int)), .int .i64 v]) (by simp [results, Try.results35, go_sem, q1, q2]) rfl ⟨_, _, rfl, ?_, ?_, ?_⟩
  · exact grown_new (grown_new G3.out _ _ (Nat.le_refl _)) _ _ (Nat.le_refl _)
  · exact rd_put (rd_put R3.out _ (by omega) (by omega)) _ (by omega) (by omega)
  · first | exact hsm | (unfold Sm; omega)

set_option maxRecDepth 100000 in
set_option maxHeartbeats 3200000 in
theorem end_sm (m : Int) (B R L : Nat) (w : World) (h : Rd B R L w) (hL : L ≤ 999900) (hm : 0 ≤ m) (hm2 : m ≤ 1000000) :
    Calls Try.prog 24 #[.pointer (some ⟨R, 0, none⟩), .int .i64 m] w fun e w' => ∃ a p : Int, e = .returned (.agg #[.int .i64 a, .int .i64 p]) ∧ w.grownBy w' (some R) ∧ Rd B R (L + 8) w' ∧ Sm a p := by
  have hR := h.lt
  have hBR := h.base
  have H := Lib.hid h
  clear h
  go_enter Try.func24, Try.ntmps24
  go_wp2_with fail
  (go_at_call 26; refine (odd_any m B R L _ (rd_alloc H.out _) (by omega) hm hm2).mono ?_; rintro e w1 ⟨b, rfl, g1, r1⟩)
  have R1 := Lib.hid r1
  have G1 := Lib.hid g1
  have s1 := g1.size
  simp only [World.size_alloc] at s1
  clear r1 g1
  cases b
  · go_wp2_with fail
    (go_at_call 34; refine (in_sm B R (L + 1) _ R1.out (by omega)).mono ?_; rintro e w2 ⟨a1, p1, rfl, g2, r2, Q1⟩)
    have R2 := Lib.hid r2
    have G2 := Lib.hid g2
    have s2 := g2.size
    clear r2 g2
    go_wp2_with fail
    (go_at_call 35; refine (out_sm B R (L + 4) _ R2.out (by omega)).mono ?_; rintro e w4 ⟨a2, p2, rfl, g4, r4, Q2⟩)
    have R4 := Lib.hid r4
    have G4 := Lib.hid g4
    have s4 := g4.size
    clear r4 g4
    go_wp2_with fail
    (go_at_call 15; refine (pick_any 7 B R (L + 6) _ R4.out (by omega)).mono ?_; rintro e w5 ⟨k5, rfl, hk5, g5, r5⟩)
    have R5 := Lib.hid r5
    have G5 := Lib.hid g5
    have s5 := g5.size
    clear r5 g5
    go_wp2_with fail
    (go_at_call 15; refine (pick_any 3 B R (L + 7) _ (rd_alloc R5.out _) (by omega)).mono ?_; rintro e w3 ⟨k3, rfl, hk3, g3, r3⟩)
    have hk7 : k3 < 3 := by omega
    obtain ⟨a, p, ha, hp, hsm⟩ : ∃ a p : Int, w3.cell? ⟨w5.heap.size, k3 * 2, none⟩ = some (.int .i64 a) ∧ w3.cell? ⟨w5.heap.size, k3 * 2 + 1, none⟩ = some (.int .i64 p) ∧ Sm a p := by
      rw [(gcell g3 (by simp) (by omega) (k3 * 2)).1, (gcell g3 (by simp) (by omega) (k3 * 2 + 1)).1, (cell_new _ _ _ _).1, (cell_new _ _ _ _).1]
      match k3, hk7 with
      | 0, _ => exact ⟨_, _, rfl, rfl, by first | exact Q1 | exact Q2 | (unfold Sm; omega) | (unfold Sm; decide)⟩
      | 1, _ => exact ⟨_, _, rfl, rfl, by first | exact Q1 | exact Q2 | (unfold Sm; omega) | (unfold Sm; decide)⟩
      | 2, _ => exact ⟨_, _, rfl, rfl, by first | exact Q1 | exact Q2 | (unfold Sm; omega) | (unfold Sm; decide)⟩
    have gT := ((G2.out.trans G4.out).trans G5.out).trans ((World.grownBy_alloc w5 _ _).trans g3)
    have gAll : w.grownBy w3 (some R) := ((World.grownBy_alloc w _ _).trans G1.out).trans gT
    have q : ∀ i, w3.cell? ⟨w.heap.size, i, none⟩ = (w.alloc (.cells #[.int .i64 0, .int .i64 0] 24)).cell? ⟨w.heap.size, i, none⟩ ∧ w3.frozen? ⟨w.heap.size, i, none⟩ = (w.alloc (.cells #[.int .i64 0, .int .i64 0] 24)).frozen? ⟨w.heap.size, i, none⟩ := fun i =>
      gcell (G1.out.trans gT) (by simp) (by omega) i
    have c0 : w3.cell? ⟨w.heap.size, 0, none⟩ = some (.int .i64 0) := by rw [(q 0).1]; simp
    have c1 : w3.cell? ⟨w.heap.size, 1, none⟩ = some (.int .i64 0) := by rw [(q 1).1]; simp
    have f0 : w3.frozen? ⟨w.heap.size, 0, none⟩ = false := by rw [(q 0).2]; simp
    have f1 : w3.frozen? ⟨w.heap.size, 1, none⟩ = false := by rw [(q 1).2]; simp
    have R3 := Lib.hid r3
    have G3 := Lib.hid gAll
    have hk6 : (k3 : Int) < 3 := by omega
    clear r3 g3 gAll gT q hk3
    go_wp2_with fail
    obtain ⟨q0, q1, q2⟩ := set_two (w := w3) (b := w.heap.size) (x := .int .i64 0) (y := .int .i64 0) (.int .i64 a) (.int .i64 p) c0 c1
    refine bodyPost_ret (v := .agg #[.int .i64 a, .int .i64 p]) (by simp [results, Try.results24, go_sem, q1, q2]) rfl ⟨_, _, rfl, ?_, ?_, ?_⟩
    · exact grown_new (grown_new G3.out _ _ (Nat.le_refl _)) _ _ (Nat.le_refl _)
    · exact rd_put (rd_put R3.out _ (by omega) (by omega)) _ (by omega) (by omega)
    · first | exact hsm | (unfold Sm; omega)
  · go_wp2_with fail
    (go_at_call 15; refine (pick_any 6 B R (L + 1) _ (rd_alloc R1.out _) (by omega)).mono ?_; rintro e w3 ⟨k3, rfl, hk3, g3, r3⟩)
    have hk5 : k3 < 6 := by omega
    obtain ⟨a, p, ha, hp, hsm⟩ : ∃ a p : Int, w3.cell? ⟨w1.heap.size, k3 * 2, none⟩ = some (.int .i64 a) ∧ w3.cell? ⟨w1.heap.size, k3 * 2 + 1, none⟩ = some (.int .i64 p) ∧ Sm a p := by
      rw [(gcell g3 (by simp) (by omega) (k3 * 2)).1, (gcell g3 (by simp) (by omega) (k3 * 2 + 1)).1, (cell_new _ _ _ _).1, (cell_new _ _ _ _).1]
      match k3, hk5 with
      | 0, _ => exact ⟨_, _, rfl, rfl, by first | exact Q1 | exact Q2 | (unfold Sm; omega) | (unfold Sm; decide)⟩
      | 1, _ => exact ⟨_, _, rfl, rfl, by first | exact Q1 | exact Q2 | (unfold Sm; omega) | (unfold Sm; decide)⟩
      | 2, _ => exact ⟨_, _, rfl, rfl, by first | exact Q1 | exact Q2 | (unfold Sm; omega) | (unfold Sm; decide)⟩
      | 3, _ => exact ⟨_, _, rfl, rfl, by first | exact Q1 | exact Q2 | (unfold Sm; omega) | (unfold Sm; decide)⟩
      | 4, _ => exact ⟨_, _, rfl, rfl, by first | exact Q1 | exact Q2 | (unfold Sm; omega) | (unfold Sm; decide)⟩
      | 5, _ => exact ⟨_, _, rfl, rfl, by first | exact Q1 | exact Q2 | (unfold Sm; omega) | (unfold Sm; decide)⟩
    have gAll : w.grownBy w3 (some R) := ((World.grownBy_alloc w _ _).trans G1.out).trans ((World.grownBy_alloc w1 _ _).trans g3)
    have q : ∀ i, w3.cell? ⟨w.heap.size, i, none⟩ = (w.alloc (.cells #[.int .i64 0, .int .i64 0] 24)).cell? ⟨w.heap.size, i, none⟩ ∧ w3.frozen? ⟨w.heap.size, i, none⟩ = (w.alloc (.cells #[.int .i64 0, .int .i64 0] 24)).frozen? ⟨w.heap.size, i, none⟩ := fun i =>
      gcell (G1.out.trans ((World.grownBy_alloc w1 _ _).trans g3)) (by simp) (by omega) i
    have c0 : w3.cell? ⟨w.heap.size, 0, none⟩ = some (.int .i64 0) := by rw [(q 0).1]; simp
    have c1 : w3.cell? ⟨w.heap.size, 1, none⟩ = some (.int .i64 0) := by rw [(q 1).1]; simp
    have f0 : w3.frozen? ⟨w.heap.size, 0, none⟩ = false := by rw [(q 0).2]; simp
    have f1 : w3.frozen? ⟨w.heap.size, 1, none⟩ = false := by rw [(q 1).2]; simp
    have R3 := Lib.hid r3
    have G3 := Lib.hid gAll
    have hk6 : (k3 : Int) < 6 := by omega
    clear r3 g3 gAll q hk3
    go_wp2_with fail
    obtain ⟨q0, q1, q2⟩ := set_two (w := w3) (b := w.heap.size) (x := .int .i64 0) (y := .int .i64 0) (.int .i64 a) (.int .i64 p) c0 c1
    refine bodyPost_ret (v := .agg #[.int .i64 a, .int .i64 p]) (by simp [results, Try.results24, go_sem, q1, q2]) rfl ⟨_, _, rfl, ?_, ?_, ?_⟩
    · exact grown_new (grown_new G3.out _ _ (Nat.le_refl _)) _ _ (Nat.le_refl _)
    · exact rd_put (rd_put (R3.out.mono (by omega)) _ (by omega) (by omega)) _ (by omega) (by omega)
    · first | exact hsm | (unfold Sm; omega)

end Go.Proofs.Ytjnhmobdigfpiaa
