/- The end that is drawn for the law on sides. Condition: the code lies in memory. -/
import Derived.Test.YtllekjkmjadohaaDraw
namespace Go.Proofs.Ytllekjkmjadohaa
open Go.RowKit

set_option maxRecDepth 100000 in
set_option maxHeartbeats 1600000 in
theorem drawEndOk_any (ao : Option Addr) (n cap : Nat) (w : World) (h : BytesIn w ao n) (hn : n ≤ cap) :
    Calls Try.prog 9 #[.slice ao n cap] w fun e w' => ∃ a p : Int, e = .returned (.agg #[.int .i64 a, .int .i64 p]) ∧ Below w.heap.size w w' := by
  have H := Lib.hid h
  clear h
  go_enter Try.func9, Try.ntmps9
  go_wp2_with fail
  (go_at_call 28; refine (open_any ao n cap _ (H.out.below ((Below.refl _ _).alloc (Nat.le_refl _) _)) hn).mono ?_; rintro e w1 ⟨R, rfl, hR, b1, r1⟩)
  have s1 := b1.size
  simp only [World.size_alloc] at s1 hR r1
  have R1 := Lib.hid r1
  have B1 := Lib.hid b1
  clear r1 b1
  go_wp2_with fail
  (go_at_call 27; refine (end_any 2 (w.heap.size + 1) R 0 _ R1.out (by omega) (by omega) (by omega)).mono ?_; rintro e w2 ⟨a, p, rfl, g2, r2⟩)
  have bAll : Below w.heap.size w w2 := ((Below.refl _ w).alloc (Nat.le_refl _) _).trans ((B1.out.mono (by simp)).grown g2 (by omega) (fun k e => by cases e; omega))
  have q : ∀ i, w2.cell? ⟨w.heap.size, i, none⟩ = (w.alloc (.cells #[.int .i64 0, .int .i64 0] 24)).cell? ⟨w.heap.size, i, none⟩ ∧ w2.frozen? ⟨w.heap.size, i, none⟩ = (w.alloc (.cells #[.int .i64 0, .int .i64 0] 24)).frozen? ⟨w.heap.size, i, none⟩ := fun i => by
    obtain ⟨q1, q2⟩ := gcell g2 (b := w.heap.size) (by omega) (by omega) i
    obtain ⟨c1, f1⟩ := bcell B1.out
    rw [q1, q2]; exact ⟨c1 _ _ (by simp), f1 _ _ (by simp)⟩
  have c0 : w2.cell? ⟨w.heap.size, 0, none⟩ = some (.int .i64 0) := by rw [(q 0).1]; simp
  have c1 : w2.cell? ⟨w.heap.size, 1, none⟩ = some (.int .i64 0) := by rw [(q 1).1]; simp
  have f0 : w2.frozen? ⟨w.heap.size, 0, none⟩ = false := by rw [(q 0).2]; simp
  have f1 : w2.frozen? ⟨w.heap.size, 1, none⟩ = false := by rw [(q 1).2]; simp
  have BA := Lib.hid bAll
  clear bAll q g2 r2
  go_wp2_with fail
  obtain ⟨q0, q1, q2⟩ := set_two (w := w2) (b := w.heap.size) (x := .int .i64 0) (y := .int .i64 0) (.int .i64 a) (.int .i64 p) c0 c1
  refine bodyPost_ret (v := .agg #[.int .i64 a, .int .i64 p]) (by simp [results, Try.results9, go_sem, q1, q2]) rfl ⟨_, _, rfl, ?_⟩
  exact (BA.out.setCell (Nat.le_refl _) _).setCell (Nat.le_refl _) _

end Go.Proofs.Ytllekjkmjadohaa
