/- The ends that are drawn, and that their numbers are small. Conditions: the reader is there; its place is small. -/
import Derived.Test.YtbhpogddnpaacaaDraw
namespace Go.Proofs.Ytbhpogddnpaacaa
open Go.RowKit

/-- Numbers of at most a million. -/
def Sm (a p : Int) : Prop := -1000000 ≤ a ∧ a ≤ 1000000 ∧ -1000000 ≤ p ∧ p ≤ 1000000
theorem Sm.wf {a p : Int} (h : Sm a p) : (Lit.int .i64 a).wf = true ∧ (Lit.int .i64 p).wf = true := by
  unfold Sm at h
  exact ⟨WalkArith.wf_i64 (by omega), WalkArith.wf_i64 (by omega)⟩

set_option maxRecDepth 100000 in
set_option maxHeartbeats 3200000 in
theorem in_sm (B R L : Nat) (w : World) (h : Rd B R L w) (hL : L ≤ 999990) :
    Calls Try.prog 43 #[.pointer (some ⟨R, 0, none⟩)] w fun e w' => ∃ a p : Int, e = .returned (.agg #[.int .i64 a, .int .i64 p]) ∧ w.grownBy w' (some R) ∧ Rd B R (L + 3) w' ∧ Sm a p := by
  have hR := h.lt
  have hBR := h.base
  have H := Lib.hid h
  clear h
  go_enter Try.func43, Try.ntmps43
  go_wp2_with fail
  (go_at_call 16; refine (pick_any 4 B R L _ (rd_alloc H.out _) (by omega)).mono ?_; rintro e w1 ⟨k1, rfl, hk1, g1, r1⟩)
  have R1 := Lib.hid r1
  have G1 := Lib.hid g1
  have s1 := g1.size
  clear r1 g1
  go_wp2_with fail
  (go_at_call 16; refine (pick_any 40 B R (L + 1) _ R1.out (by omega)).mono ?_; rintro e w2 ⟨k2, rfl, hk2, g2, r2⟩)
  have R2 := Lib.hid r2
  have G2 := Lib.hid g2
  have s2 := g2.size
  clear r2 g2
  go_wp2_with fail
  (go_at_call 16; refine (pick_any 5 B R (L + 2) _ (rd_alloc R2.out _) (by omega)).mono ?_; rintro e w3 ⟨k3, rfl, hk3, g3, r3⟩)
  have hk5 : k3 < 5 := by omega
  simp only [World.size_alloc] at s1
  obtain ⟨v, hv, hsv⟩ : ∃ v : Int, w3.cell? ⟨w2.heap.size, k3, none⟩ = some (.int .i64 v) ∧ -1000000 ≤ v ∧ v ≤ 1000000 := by
    rw [(gcell g3 (by simp) (by omega) k3).1, (cell_new _ _ _ _).1]
    match k3, hk5 with
    | 0, _ => exact ⟨_, rfl, by first | omega | decide, by first | omega | decide⟩
    | 1, _ => exact ⟨_, rfl, by first | omega | decide, by first | omega | decide⟩
    | 2, _ => exact ⟨_, rfl, by first | omega | decide, by first | omega | decide⟩
    | 3, _ => exact ⟨_, rfl, by first | omega | decide, by first | omega | decide⟩
    | 4, _ => exact ⟨_, rfl, by first | omega | decide, by first | omega | decide⟩
  have gAll : w.grownBy w3 (some R) := (((World.grownBy_alloc w _ _).trans G1.out).trans G2.out).trans ((World.grownBy_alloc w2 _ _).trans g3)
  have q : ∀ i, w3.cell? ⟨w.heap.size, i, none⟩ = (w.alloc (.cells #[.int .i64 0, .int .i64 0] 39)).cell? ⟨w.heap.size, i, none⟩ ∧ w3.frozen? ⟨w.heap.size, i, none⟩ = (w.alloc (.cells #[.int .i64 0, .int .i64 0] 39)).frozen? ⟨w.heap.size, i, none⟩ := fun i =>
    gcell ((G1.out.trans G2.out).trans ((World.grownBy_alloc w2 _ _).trans g3)) (by simp) (by omega) i
  have c0 : w3.cell? ⟨w.heap.size, 0, none⟩ = some (.int .i64 0) := by rw [(q 0).1]; simp
  have c1 : w3.cell? ⟨w.heap.size, 1, none⟩ = some (.int .i64 0) := by rw [(q 1).1]; simp
  have f0 : w3.frozen? ⟨w.heap.size, 0, none⟩ = false := by rw [(q 0).2]; simp
  have f1 : w3.frozen? ⟨w.heap.size, 1, none⟩ = false := by rw [(q 1).2]; simp
  have R3 := Lib.hid r3
  have G3 := Lib.hid gAll
  have hk6 : (k3 : Int) < 5 := by omega
  clear r3 g3 gAll q hk3
  go_wp2_with fail
  obtain ⟨q0, q1, q2⟩ := set_two (w := w3) (b := w.heap.size) (x := .int .i64 0) (y := .int .i64 0) (.int .i64 (1 + (k1 : Int))) (.int .i64 v) c0 c1
  refine bodyPost_ret (v := .agg #[.int .i64 (1 + (k1 : Int)), .int .i64 v]) (by simp [results, Try.results43, go_sem, q1, q2]) rfl ⟨_, _, rfl, ?_, ?_, ?_⟩
  · exact grown_new (grown_new G3.out _ _ (Nat.le_refl _)) _ _ (Nat.le_refl _)
  · exact rd_put (rd_put R3.out _ (by omega) (by omega)) _ (by omega) (by omega)
  · first | exact hsm | (unfold Sm; omega)

set_option maxRecDepth 100000 in
set_option maxHeartbeats 3200000 in
theorem out_sm (B R L : Nat) (w : World) (h : Rd B R L w) (hL : L ≤ 999990) :
    Calls Try.prog 45 #[.pointer (some ⟨R, 0, none⟩)] w fun e w' => ∃ a p : Int, e = .returned (.agg #[.int .i64 a, .int .i64 p]) ∧ w.grownBy w' (some R) ∧ Rd B R (L + 2) w' ∧ Sm a p := by
  have hR := h.lt
  have hBR := h.base
  have H := Lib.hid h
  clear h
  go_enter Try.func45, Try.ntmps45
  go_wp2_with fail
  (go_at_call 16; refine (pick_any 3 B R L _ (rd_alloc H.out _) (by omega)).mono ?_; rintro e w2 ⟨k1, rfl, hk1, g2, r2⟩)
  have R2 := Lib.hid r2
  have G2 := Lib.hid g2
  have s2 := g2.size
  clear r2 g2
  go_wp2_with fail
  (go_at_call 16; refine (pick_any 4 B R (L + 1) _ (rd_alloc R2.out _) (by omega)).mono ?_; rintro e w3 ⟨k3, rfl, hk3, g3, r3⟩)
  have hk5 : k3 < 4 := by omega
  simp only [World.size_alloc] at s2
  obtain ⟨v, hv, hsv⟩ : ∃ v : Int, w3.cell? ⟨w2.heap.size, k3, none⟩ = some (.int .i64 v) ∧ -1000000 ≤ v ∧ v ≤ 1000000 := by
    rw [(gcell g3 (by simp) (by omega) k3).1, (cell_new _ _ _ _).1]
    match k3, hk5 with
    | 0, _ => exact ⟨_, rfl, by first | omega | decide, by first | omega | decide⟩
    | 1, _ => exact ⟨_, rfl, by first | omega | decide, by first | omega | decide⟩
    | 2, _ => exact ⟨_, rfl, by first | omega | decide, by first | omega | decide⟩
    | 3, _ => exact ⟨_, rfl, by first | omega | decide, by first | omega | decide⟩
  have gAll : w.grownBy w3 (some R) := ((World.grownBy_alloc w _ _).trans G2.out).trans ((World.grownBy_alloc w2 _ _).trans g3)
  have q : ∀ i, w3.cell? ⟨w.heap.size, i, none⟩ = (w.alloc (.cells #[.int .i64 0, .int .i64 0] 39)).cell? ⟨w.heap.size, i, none⟩ ∧ w3.frozen? ⟨w.heap.size, i, none⟩ = (w.alloc (.cells #[.int .i64 0, .int .i64 0] 39)).frozen? ⟨w.heap.size, i, none⟩ := fun i =>
    gcell (G2.out.trans ((World.grownBy_alloc w2 _ _).trans g3)) (by simp) (by omega) i
  have c0 : w3.cell? ⟨w.heap.size, 0, none⟩ = some (.int .i64 0) := by rw [(q 0).1]; simp
  have c1 : w3.cell? ⟨w.heap.size, 1, none⟩ = some (.int .i64 0) := by rw [(q 1).1]; simp
  have f0 : w3.frozen? ⟨w.heap.size, 0, none⟩ = false := by rw [(q 0).2]; simp
  have f1 : w3.frozen? ⟨w.heap.size, 1, none⟩ = false := by rw [(q 1).2]; simp
  have R3 := Lib.hid r3
  have G3 := Lib.hid gAll
  have hk6 : (k3 : Int) < 4 := by omega
  clear r3 g3 gAll q hk3
  go_wp2_with fail
  obtain ⟨q0, q1, q2⟩ := set_two (w := w3) (b := w.heap.size) (x := .int .i64 0) (y := .int .i64 0) (.int .i64 (100 + (k1 : Int))) (.int .i64 v) c0 c1
  refine bodyPost_ret (v := .agg #[.int .i64 (100 + (k1 : Int)), .int .i64 v]) (by simp [results, Try.results45, go_sem, q1, q2]) rfl ⟨_, _, rfl, ?_, ?_, ?_⟩
  · exact grown_new (grown_new G3.out _ _ (Nat.le_refl _)) _ _ (Nat.le_refl _)
  · exact rd_put (rd_put R3.out _ (by omega) (by omega)) _ (by omega) (by omega)
  · first | exact hsm | (unfold Sm; omega)

end Go.Proofs.Ytbhpogddnpaacaa
