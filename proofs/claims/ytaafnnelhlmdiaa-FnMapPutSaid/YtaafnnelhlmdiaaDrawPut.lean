/- The table and the end that are drawn for the law of MapPut. Condition: the code lies in memory. -/
import Derived.Test.YtaafnnelhlmdiaaDrawMaps
namespace Go.Proofs.Ytaafnnelhlmdiaa
open Go.RowKit

set_option maxRecDepth 100000 in
set_option maxHeartbeats 1600000 in
theorem drawMapPut_any (ao : Option Addr) (n cap : Nat) (w : World) (h : BytesIn w ao n) (hn : n ≤ cap) :
    Calls Try.prog 7 #[.slice ao n cap] w fun e w' => ∃ g c us a p, e = .returned (.tuple #[.agg #[.slice g (us : List (Int × Int)).length c], .agg #[.int .i64 a, .int .i64 p]]) ∧ OwnTab w' w.heap.size (.slice g us.length c) us ∧ (us.length ≤ 8 ∧ SmE us) ∧ Sm a p ∧ Below w.heap.size w w' := by
  have H := Lib.hid h
  clear h
  go_enter Try.func7, Try.ntmps7
  go_wp2_with fail
  (go_at_call 19; refine (drawMapPort_any ao n cap _ (H.out.below (((Below.refl _ _).alloc (Nat.le_refl _) _).alloc (by simp) _)) hn).mono ?_; rintro e w1 ⟨g, c, us, a, p, rfl, ho, hu, hs, b1⟩)
  have s1 := b1.size
  simp only [World.size_alloc] at s1 ho
  have x1 : w1.cell? ⟨w.heap.size, 0, none⟩ = some (.slice none 0 0) := by rw [b1.cell (by simp; omega)]; simp
  have y1 : w1.cell? ⟨w.heap.size + 1, 0, none⟩ = some (.int .i64 0) := by rw [b1.cell (by simp)]; simp
  have v1 : w1.cell? ⟨w.heap.size + 1, 1, none⟩ = some (.int .i64 0) := by rw [b1.cell (by simp)]; simp
  have fx1 : w1.frozen? ⟨w.heap.size, 0, none⟩ = false := by rw [b1.frozen (by simp; omega)]; simp
  have fy1 : w1.frozen? ⟨w.heap.size + 1, 0, none⟩ = false := by rw [b1.frozen (by simp)]; simp
  have fv1 : w1.frozen? ⟨w.heap.size + 1, 1, none⟩ = false := by rw [b1.frozen (by simp)]; simp
  have bA : Below w.heap.size w w1 := (((Below.refl _ w).alloc (Nat.le_refl _) _).alloc (by simp) _).trans (b1.mono (by simp; omega))
  have FA := Lib.hid (fin_a a p x1 y1 v1 ho (by omega) bA)
  have HU := Lib.hid hu
  have QQ := Lib.hid hs
  clear ho hu hs b1 bA
  go_wp2_with fail
  exact bodyPost_ret (v := .tuple #[.agg #[.slice g us.length c], .agg #[.int .i64 a, .int .i64 p]]) (by simp [results, Try.results7, go_sem, FA.out.1.1, FA.out.1.2.1, FA.out.1.2.2]) rfl ⟨_, _, us, a, p, rfl, FA.out.2.1, HU.out, QQ.out, FA.out.2.2⟩

end Go.Proofs.Ytaafnnelhlmdiaa
