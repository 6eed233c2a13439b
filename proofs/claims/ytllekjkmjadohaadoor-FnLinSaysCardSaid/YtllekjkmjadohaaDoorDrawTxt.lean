/- The ends and texts that are drawn for the laws on texts of ends, and on lines that name them. Condition: the code lies in memory. -/
import Derived.Test.YtllekjkmjadohaaDoorDrawLin
import Derived.Test.YtllekjkmjadohaaDoorSText
namespace Go.Proofs.YtllekjkmjadohaaDoor
open Go.RowKit

set_option maxRecDepth 100000 in
set_option maxHeartbeats 1600000 in
theorem drawEndText_any (ao : Option Addr) (n cap : Nat) (w : World) (h : BytesIn w ao n) (hn : n ≤ cap) :
    Calls Tryd.prog 8 #[.slice ao n cap] w fun e w' => ∃ a p : Int, e = .returned (.agg #[.int .i64 a, .int .i64 p]) ∧ Below w.heap.size w w' := by
  have H := Lib.hid h
  clear h
  go_enter Tryd.func8, Tryd.ntmps8
  go_wp2_with fail
  (go_at_call 31; refine (open_any ao n cap _ (H.out.below ((Below.refl _ _).alloc (Nat.le_refl _) _)) hn).mono ?_; rintro e w1 ⟨R, rfl, hR, b1, r1⟩)
  have s1 := b1.size
  simp only [World.size_alloc] at s1 hR r1
  have R1 := Lib.hid r1
  have B1 := Lib.hid b1
  clear r1 b1
  go_wp2_with fail
  (go_at_call 30; refine (end_any 4 (w.heap.size + 1) R 0 _ R1.out (by omega) (by omega) (by omega)).mono ?_; rintro e w2 ⟨a, p, rfl, g2, r2⟩)
  have bAll : Below w.heap.size w w2 := ((Below.refl _ w).alloc (Nat.le_refl _) _).trans ((B1.out.mono (by simp)).grown g2 (by omega) (fun k e => by cases e; omega))
  have q : ∀ i, w2.cell? ⟨w.heap.size, i, none⟩ = (w.alloc (.cells #[.int .i64 0, .int .i64 0] 24)).cell? ⟨w.heap.size, i, none⟩ ∧ w2.frozen? ⟨w.heap.size, i, none⟩ = (w.alloc (.cells #[.int .i64 0, .int .i64 0] 24)).frozen? ⟨w.heap.size, i, none⟩ := fun i => by
    obtain ⟨q1, q2⟩ := gcell g2 (b := w.heap.size) (by omega) (by omega) i
    obtain ⟨c1, f1⟩ := bcell B1.out
    rw [q1, q2]; exact ⟨c1 _ _ (by simp), f1 _ _ (by simp)⟩
  have c0 : w2.cell? ⟨w.heap.size, 0, none⟩ = some (.int .i64 0) := by rw [(q 0).1]; simp
  have c1 : w2.cell? ⟨w.heap.size, 1, none⟩ = some (.int .i64 0) := by rw [(q 1).1]; simp
  have f0 : w2.frozen? ⟨w.heap.size, 0, none⟩ = false := by rw [(q 0).2]; simp
  have f1 : w2.frozen? ⟨w.heap.size, 1, none⟩ = false := by rw [(q 1).2]; simp
  have BA := Lib.hid bAll
  clear bAll q g2 r2
  go_wp2_with fail
  obtain ⟨q0, q1, q2⟩ := set_two (w := w2) (b := w.heap.size) (x := .int .i64 0) (y := .int .i64 0) (.int .i64 a) (.int .i64 p) c0 c1
  refine bodyPost_ret (v := .agg #[.int .i64 a, .int .i64 p]) (by simp [results, Tryd.results8, go_sem, q1, q2]) rfl ⟨_, _, rfl, ?_⟩
  exact (BA.out.setCell (Nat.le_refl _) _).setCell (Nat.le_refl _) _

set_option maxRecDepth 100000 in
set_option maxHeartbeats 1600000 in
theorem drawLinPort_any (ao : Option Addr) (n cap : Nat) (w : World) (h : BytesIn w ao n) (hn : n ≤ cap) :
    Calls Tryd.prog 18 #[.slice ao n cap] w fun e w' => ∃ a p : Int, e = .returned (.agg #[.int .i64 a, .int .i64 p]) ∧ Below w.heap.size w w' := by
  have H := Lib.hid h
  clear h
  go_enter Tryd.func18, Tryd.ntmps18
  go_wp2_with fail
  (go_at_call 31; refine (open_any ao n cap _ (H.out.below ((Below.refl _ _).alloc (Nat.le_refl _) _)) hn).mono ?_; rintro e w1 ⟨R, rfl, hR, b1, r1⟩)
  have s1 := b1.size
  simp only [World.size_alloc] at s1 hR r1
  have R1 := Lib.hid r1
  have B1 := Lib.hid b1
  clear r1 b1
  go_wp2_with fail
  (go_at_call 30; refine (end_any 5 (w.heap.size + 1) R 0 _ R1.out (by omega) (by omega) (by omega)).mono ?_; rintro e w2 ⟨a, p, rfl, g2, r2⟩)
  have bAll : Below w.heap.size w w2 := ((Below.refl _ w).alloc (Nat.le_refl _) _).trans ((B1.out.mono (by simp)).grown g2 (by omega) (fun k e => by cases e; omega))
  have q : ∀ i, w2.cell? ⟨w.heap.size, i, none⟩ = (w.alloc (.cells #[.int .i64 0, .int .i64 0] 24)).cell? ⟨w.heap.size, i, none⟩ ∧ w2.frozen? ⟨w.heap.size, i, none⟩ = (w.alloc (.cells #[.int .i64 0, .int .i64 0] 24)).frozen? ⟨w.heap.size, i, none⟩ := fun i => by
    obtain ⟨q1, q2⟩ := gcell g2 (b := w.heap.size) (by omega) (by omega) i
    obtain ⟨c1, f1⟩ := bcell B1.out
    rw [q1, q2]; exact ⟨c1 _ _ (by simp), f1 _ _ (by simp)⟩
  have c0 : w2.cell? ⟨w.heap.size, 0, none⟩ = some (.int .i64 0) := by rw [(q 0).1]; simp
  have c1 : w2.cell? ⟨w.heap.size, 1, none⟩ = some (.int .i64 0) := by rw [(q 1).1]; simp
  have f0 : w2.frozen? ⟨w.heap.size, 0, none⟩ = false := by rw [(q 0).2]; simp
  have f1 : w2.frozen? ⟨w.heap.size, 1, none⟩ = false := by rw [(q 1).2]; simp
  have BA := Lib.hid bAll
  clear bAll q g2 r2
  go_wp2_with fail
  obtain ⟨q0, q1, q2⟩ := set_two (w := w2) (b := w.heap.size) (x := .int .i64 0) (y := .int .i64 0) (.int .i64 a) (.int .i64 p) c0 c1
  refine bodyPost_ret (v := .agg #[.int .i64 a, .int .i64 p]) (by simp [results, Tryd.results18, go_sem, q1, q2]) rfl ⟨_, _, rfl, ?_⟩
  exact (BA.out.setCell (Nat.le_refl _) _).setCell (Nat.le_refl _) _

set_option maxRecDepth 100000 in
set_option maxHeartbeats 3200000 in
theorem drawEndRead_any (ao : Option Addr) (n cap : Nat) (w : World) (h : BytesIn w ao n) (hn : n ≤ cap) :
    Calls Tryd.prog 9 #[.slice ao n cap] w fun e w' => ∃ s : ByteArray, e = .returned (.string s) ∧ s.size ≤ 60 ∧ Below w.heap.size w w' := by
  have H := Lib.hid h
  clear h
  go_enter Tryd.func9, Tryd.ntmps9
  go_wp2_with fail
  (go_at_call 31; refine (open_any ao n cap _ H.out hn).mono ?_; rintro e w1 ⟨R, rfl, hR, b1, r1⟩)
  have s1 := b1.size
  have hRl := r1.lt
  have R1 := Lib.hid r1
  have B1 := Lib.hid b1
  clear r1 b1
  go_wp2_with fail
  (go_at_call 30; refine (end_any 99999 w.heap.size R 0 _ R1.out (by omega) (by omega) (by omega)).mono ?_; rintro e w2 ⟨a, p, rfl, g2, r2⟩)
  have s2 := g2.size
  have R2 := Lib.hid r2
  have B2 := Lib.hid (below_grown B1.out g2 hR)
  clear r2 g2
  go_wp2_with fail
  (go_at_call 13; refine (specText_all a p _).mono ?_; rintro e w5 ⟨rfl, b5⟩)
  obtain ⟨s, hse⟩ : ∃ s : ByteArray, s = ⟨(etL a p).toArray⟩ := ⟨_, rfl⟩
  have hs : s.size ≤ 20 := by rw [hse]; exact etL_len a p
  rw [← hse]
  have s5 := b5.size
  have R5 := Lib.hid (rd_below R2.out b5 (Nat.le_refl _))
  have B5 := Lib.hid (B2.out.trans (b5.mono B2.out.size))
  clear b5 hse
  go_wp2_with fail
  (go_at_call 32; refine (pick_any 4 w.heap.size R 8 _ R5.out (by omega)).mono ?_; rintro e w3 ⟨k1, rfl, hk1, g3, r3⟩)
  have s3 := g3.size
  have R3 := Lib.hid r3
  have B3 := Lib.hid (below_grown B5.out g3 hR)
  clear r3 g3 hk1
  by_cases h0 : k1 = 0
  · have e0 : ((k1 : Int) == 0) = true := by simp [h0]
    clear h0
    go_wp2_with fail
    (go_at_call 32; refine (pick_any 8 w.heap.size R 9 _ (rd_alloc R3.out _) (by omega)).mono ?_; rintro e w4 ⟨k3, rfl, hk3, g4, r4⟩)
    have hk5 : k3 < 8 := by omega
    obtain ⟨x, hx, hxs⟩ : ∃ x : ByteArray, w4.cell? ⟨w3.heap.size, k3, none⟩ = some (.string x) ∧ x.size ≤ 60 := by
      rw [(gcell g4 (by simp) (by omega) k3).1, (cell_new _ _ _ _).1]
      match k3, hk5 with
      | 0, _ => exact ⟨_, rfl, by decide⟩
      | 1, _ => exact ⟨_, rfl, by decide⟩
      | 2, _ => exact ⟨_, rfl, by decide⟩
      | 3, _ => exact ⟨_, rfl, by decide⟩
      | 4, _ => exact ⟨_, rfl, by decide⟩
      | 5, _ => exact ⟨_, rfl, by decide⟩
      | 6, _ => exact ⟨_, rfl, by decide⟩
      | 7, _ => exact ⟨_, rfl, by decide⟩
    have hk6 : (k3 : Int) < 8 := by omega
    have B4 := Lib.hid (below_grown (B3.out.alloc B3.out.size _) g4 hR)
    clear r4 g4 hk3
    go_wp2_with fail
    go_ret
    exact ⟨x, rfl, hxs, B4.out⟩
  · have e0 : ((k1 : Int) == 0) = false := by simp [h0]
    by_cases h1 : k1 = 1
    · have e1 : ((k1 : Int) == 1) = true := by simp [h1]
      clear h0 h1
      go_wp2_with fail
      (go_at_call 33; refine (bent_any s (by omega) w.heap.size R 9 _ R3.out (by omega)).mono ?_; rintro e w4 ⟨t, rfl, ht, g4, r4⟩)
      go_wp2_with fail
      go_ret
      exact ⟨t, rfl, by omega, below_grown B3.out g4 hR⟩
    · have e1 : ((k1 : Int) == 1) = false := by (simp; omega)
      clear h0 h1
      go_wp2_with fail
      go_ret
      exact ⟨s, rfl, by omega, B3.out⟩

end Go.Proofs.YtllekjkmjadohaaDoor
