/- The table and the stream that are drawn for the laws of streams. Condition: the code lies in memory. -/
import Derived.Test.YtbhpogddnpaacaaGreatDoorDrawTab
import Derived.Test.YtbhpogddnpaacaaGreatDoorDrawStr
namespace Go.Proofs.YtbhpogddnpaacaaGreatDoor
open Go.RowKit Go.Sort

set_option maxRecDepth 100000 in
set_option maxHeartbeats 1600000 in
theorem drawRwrStream_any (ao : Option Addr) (n cap : Nat) (w : World) (h : BytesIn w ao n) (hn : n ≤ cap) :
    Calls Tryz.prog 36 #[.slice ao n cap] w fun e w' => ∃ g c us s, e = .returned (.tuple #[.agg #[.slice g (us : List (Int × Int)).length c], .string (s : ByteArray)]) ∧ OwnTab w' w.heap.size (.slice g us.length c) us ∧ (us.length ≤ 8 ∧ SmE us) ∧ s.size ≤ 200 ∧ Below w.heap.size w w' := by
  have H := Lib.hid h
  clear h
  go_enter Tryz.func36, Tryz.ntmps36
  go_wp2_with fail
  (go_at_call 35; refine (open_any ao n cap _ (H.out.below ((Below.refl _ _).alloc (Nat.le_refl _) _)) hn).mono ?_; rintro e w1 ⟨R, rfl, hR, b1, r1⟩)
  have s1 := b1.size
  simp only [World.size_alloc] at s1 hR r1
  have R1 := Lib.hid r1
  have B1 := Lib.hid b1
  have hRl := r1.lt
  have x1 : w1.cell? ⟨w.heap.size, 0, none⟩ = some (.slice none 0 0) := by rw [b1.cell (by simp)]; simp
  have f1 : w1.frozen? ⟨w.heap.size, 0, none⟩ = false := by rw [b1.frozen (by simp)]; exact (cell_new w _ _ 0).2
  have bW : Hid (∀ w', w1.grownBy w' (some R) → Below w.heap.size w w' ∧ w'.cell? ⟨w.heap.size, 0, none⟩ = some (.slice none 0 0) ∧ w'.frozen? ⟨w.heap.size, 0, none⟩ = false) := fun w' hg => ⟨((Below.refl _ w).alloc (Nat.le_refl _) _).trans ((B1.out.mono (by simp)).grown hg (by omega) (fun k e => by cases e; omega)), gbox x1 hg (by omega), gboxf x1 f1 hg (by omega)⟩
  clear r1 b1
  go_wp2_with fail
  (go_at_call 63; refine (table_any 14 (w.heap.size + 1) R 0 _ R1.out (by omega) (by omega) (by omega)).mono ?_; rintro e w2 ⟨g, c, us, rfl, ho, hu, g2, r2⟩; have G2 := Lib.hid g2; have HO := Lib.hid ho; have HU := Lib.hid hu; have R2 := Lib.hid r2; clear ho hu r2 g2)
  go_wp2_with fail
  (go_at_call 64; refine (streamOr_any 9 (by omega) (by omega) (w.heap.size + 1) R 90 _ R2.out (by omega)).mono ?_; rintro e w3 ⟨s, rfl, hs, g3, r3⟩; have G3 := Lib.hid (G2.out.trans g3); have HO3 := Lib.hid (HO.out.grown g3 hRl); have x3 := (bW.out _ G3.out).2.1; have f3 := (bW.out _ G3.out).2.2; have B3 := Lib.hid (bW.out _ G3.out).1; clear g3 r3)
  go_wp2_with fail
  exact bodyPost_ret (v := .tuple #[.agg #[.slice g us.length c], .string s]) (by simp [results, Tryz.results36, go_sem, World.cell?_setCell_same _ _ _ x3]) rfl ⟨_, _, us, s, rfl, OwnTab.mono (ownsRow_setCell_below (a := ⟨w.heap.size, 0, none⟩) HO3.out (by simp; omega) _) (by omega), HU.out, hs, B3.out.setCell (Nat.le_refl _) _⟩

end Go.Proofs.YtbhpogddnpaacaaGreatDoor
