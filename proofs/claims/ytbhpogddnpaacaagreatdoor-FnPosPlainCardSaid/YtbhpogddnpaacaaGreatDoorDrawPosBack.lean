/- The table, the stream and the place that are drawn for the law of what comes back. Condition: the code lies in memory. -/
import Derived.Test.YtbhpogddnpaacaaGreatDoorDrawPosOut
import Derived.Below
namespace Go.Proofs.YtbhpogddnpaacaaGreatDoor
open Go.RowKit Go.Sort

set_option maxRecDepth 100000 in
set_option maxHeartbeats 1600000 in
theorem drawPosBack_any (ao : Option Addr) (n cap : Nat) (w : World) (h : BytesIn w ao n) (hn : n ≤ cap) :
    Calls Tryz.prog 4 #[.slice ao n cap] w fun e w' => ∃ g c us s q, e = .returned (.tuple #[.agg #[.slice g (us : List (Int × Int)).length c], .string (s : ByteArray), .int .i64 q]) ∧ OwnTab w' w.heap.size (.slice g us.length c) us ∧ (us.length ≤ 8 ∧ SmE us) ∧ s.size ≤ 200 ∧ (Lit.int .i64 q).wf = true ∧ Below w.heap.size w w' := by
  have H := Lib.hid h
  clear h
  go_enter Tryz.func4, Tryz.ntmps4
  go_wp2_with fail
  (go_at_call 13; refine (drawPosOut_any ao n cap _ (by first | exact H.out | exact H.out.below ((Below.refl _ _).alloc (Nat.le_refl _) _)) hn).mono ?_; rintro e w1 ⟨g, c, us, s, q, rfl, ho, hu, hs, hq, hb⟩)
  have x1 : w1.cell? ⟨w.heap.size, 0, none⟩ = some (.slice none 0 0) := by rw [hb.cell (by simp)]; simp
  have f1 : w1.frozen? ⟨w.heap.size, 0, none⟩ = false := by rw [hb.frozen (by simp)]; exact (cell_new w _ _ 0).2
  have BA : Below w.heap.size w w1 := ((Below.refl _ w).alloc (Nat.le_refl _) _).trans (hb.mono (by simp))
  have OA : OwnTab w1 (w.heap.size + 1) (.slice g us.length c) us := by simpa using ho
  clear hb ho
  go_wp2_with fail
  exact bodyPost_ret (v := .tuple #[.agg #[.slice g us.length c], .string s, .int .i64 q]) (by simp [results, Tryz.results4, go_sem, World.cell?_setCell_same _ _ _ x1]) rfl ⟨_, _, us, s, q, rfl, OwnTab.mono (ownsRow_setCell_below (a := ⟨w.heap.size, 0, none⟩) OA (by simp) _) (by omega), hu, hs, hq, BA.setCell (Nat.le_refl _) _⟩

end Go.Proofs.YtbhpogddnpaacaaGreatDoor
