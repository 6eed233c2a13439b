/- The table that is drawn for the law of tables' lines. Condition: the code lies in memory. -/
import Derived.Test.YtilfpefccklebaaDoorDrawTab
namespace Go.Proofs.YtilfpefccklebaaDoor
open Go.RowKit

set_option maxRecDepth 100000 in
set_option maxHeartbeats 1600000 in
theorem drawDskTable_any (ao : Option Addr) (n cap : Nat) (w : World) (h : BytesIn w ao n) (hn : n ≤ cap) :
    Calls Tryd.prog 22 #[.slice ao n cap] w fun e w' => ∃ g c us, e = .returned (.agg #[.slice g (us : List (Int × Int)).length c]) ∧ OwnTab w' w.heap.size (.slice g us.length c) us ∧ (us.length ≤ 8 ∧ SmE us) ∧ Below w.heap.size w w' := by
  have H := Lib.hid h
  clear h
  go_enter Tryd.func22, Tryd.ntmps22
  go_wp2_with fail
  (go_at_call 44; refine (open_any ao n cap _ (H.out.below ((Below.refl _ _).alloc (Nat.le_refl _) _)) hn).mono ?_; rintro e w1 ⟨R, rfl, hR, b1, r1⟩)
  have s1 := b1.size
  simp only [World.size_alloc] at s1 hR r1
  have R1 := Lib.hid r1
  have B1 := Lib.hid b1
  have x1 : w1.cell? ⟨w.heap.size, 0, none⟩ = some (.slice none 0 0) := by rw [b1.cell (by simp)]; simp
  clear r1 b1
  go_wp2_with fail
  (go_at_call 49; refine (table_any 5 (w.heap.size + 1) R 0 _ R1.out (by omega) (by omega) (by omega)).mono ?_; rintro e w2 ⟨g, c, us, rfl, ho, hu, g2, r2⟩)
  have x2 := gbox x1 g2 (by omega)
  have f2 : w2.frozen? ⟨w.heap.size, 0, none⟩ = false := gboxf x1 (by rw [B1.out.frozen (by simp)]; exact (cell_new w _ _ 0).2) g2 (by omega)
  have bAll : Below w.heap.size w w2 := ((Below.refl _ w).alloc (Nat.le_refl _) _).trans ((B1.out.mono (by simp)).grown g2 (by omega) (fun k e => by cases e; omega))
  have BA := Lib.hid bAll
  have HO := Lib.hid ho
  have HU := Lib.hid hu
  clear bAll g2 r2 ho hu
  go_wp2_with fail
  refine bodyPost_ret (v := .agg #[.slice g us.length c]) (by simp [results, Tryd.results22, go_sem, World.cell?_setCell_same _ _ _ x2]) rfl ⟨_, _, us, rfl, ?_, HU.out, ?_⟩
  · exact OwnTab.mono (ownsRow_setCell_below (a := ⟨w.heap.size, 0, none⟩) HO.out (by simp; omega) _) (by omega)
  · exact BA.out.setCell (Nat.le_refl _) _

end Go.Proofs.YtilfpefccklebaaDoor
