/- The table and the line that are drawn for the laws of lines that go outside, and inside. Condition: the code lies in memory. -/
import Derived.Test.YtoidmmedpefjfaaGreatDoorDrawTab
import Derived.Test.YtoidmmedpefjfaaGreatDoorDrawLin
namespace Go.Proofs.YtoidmmedpefjfaaGreatDoor
open Go.RowKit Go.Sort

set_option maxRecDepth 100000 in
set_option maxHeartbeats 1600000 in
theorem drawRwrLine_any (ao : Option Addr) (n cap : Nat) (w : World) (h : BytesIn w ao n) (hn : n ≤ cap) :
    Calls Tryz.prog 13 #[.slice ao n cap] w fun e w' => ∃ g c us s, e = .returned (.tuple #[.agg #[.slice g (us : List (Int × Int)).length c], .string (s : ByteArray)]) ∧ OwnTab w' w.heap.size (.slice g us.length c) us ∧ (us.length ≤ 8 ∧ SmE us) ∧ s.size ≤ 60 ∧ Below w.heap.size w w' := by
  have H := Lib.hid h
  clear h
  go_enter Tryz.func13, Tryz.ntmps13
  go_wp2_with fail
  (go_at_call 46; refine (open_any ao n cap _ (H.out.below ((Below.refl _ _).alloc (Nat.le_refl _) _)) hn).mono ?_; rintro e w1 ⟨R, rfl, hR, b1, r1⟩)
  have s1 := b1.size
  simp only [World.size_alloc] at s1 hR r1
  have R1 := Lib.hid r1
  have B1 := Lib.hid b1
  have hRl := r1.lt
  have x1 : w1.cell? ⟨w.heap.size, 0, none⟩ = some (.slice none 0 0) := by rw [b1.cell (by simp)]; simp
  have f1 : w1.frozen? ⟨w.heap.size, 0, none⟩ = false := by rw [b1.frozen (by simp)]; exact (cell_new w _ _ 0).2
  have bW : Hid (∀ w', w1.grownBy w' (some R) → Below w.heap.size w w' ∧ w'.cell? ⟨w.heap.size, 0, none⟩ = some (.slice none 0 0) ∧ w'.frozen? ⟨w.heap.size, 0, none⟩ = false) := fun w' hg => ⟨((Below.refl _ w).alloc (Nat.le_refl _) _).trans ((B1.out.mono (by simp)).grown hg (by omega) (fun k e => by cases e; omega)), gbox x1 hg (by omega), gboxf x1 f1 hg (by omega)⟩
  clear r1 b1
  go_wp2_with fail
  (go_at_call 47; refine (table_any 12 (w.heap.size + 1) R 0 _ R1.out (by omega) (by omega) (by omega)).mono ?_; rintro e w2 ⟨g, c, us, rfl, ho, hu, g2, r2⟩)
  obtain ⟨W3, hW3⟩ : ∃ W3, W3 = w2.alloc (.cells #[.slice g us.length c] 25) := ⟨_, rfl⟩
  obtain ⟨T, hT⟩ : ∃ T, T = w2.heap.size := ⟨_, rfl⟩
  have z2 := g2.size
  have gW : Hid (w1.grownBy W3 (some R)) := by rw [hW3]; exact g2.trans (World.grownBy_alloc _ _ _)
  have t3 : W3.cell? ⟨T, 0, none⟩ = some (.slice g us.length c) := by rw [hW3, hT]; exact (cell_new w2 _ _ 0).1
  have O3 : Hid (OwnTab W3 w1.heap.size (.slice g us.length c) us) := by rw [hW3]; exact ho.below ((Below.refl _ _).alloc (Nat.le_refl _) _)
  have R3 : Hid (Rd (w.heap.size + 1) R 90 W3) := by rw [hW3]; exact rd_alloc r2 _
  have HU := Lib.hid hu
  have hTR : T ≠ R := by omega
  clear ho hu g2 r2 x1 f1
  go_wp2_with fail
  rw [← hW3, ← hT]
  clear hW3 hT
  (go_at_call 48; refine (line_any (w.heap.size + 1) R 90 _ R3.out (by omega)).mono ?_; rintro e w4 ⟨s, rfl, hs, g4, r4⟩)
  have t4 := gbox t3 g4 hTR
  have O4 := Lib.hid (O3.out.grown g4 hRl)
  have R4 := Lib.hid r4
  have G4 := Lib.hid (gW.out.trans g4)
  clear g4 r4 t3 O3 R3 gW
  go_wp2_with fail
  (go_at_call 49; refine (odd_any 9 (w.heap.size + 1) R 94 _ R4.out (by omega) (by omega) (by omega)).mono ?_; rintro e w5 ⟨b, rfl, g5, r5⟩)
  have t5 := gbox t4 g5 hTR
  have O5 := Lib.hid (O4.out.grown g5 hRl)
  have R5 := Lib.hid r5
  have G5 := Lib.hid (G4.out.trans g5)
  clear g5 r5 t4 O4 R4 G4
  cases b
  · have x5 := (bW.out _ G5.out).2.1
    have f5 := (bW.out _ G5.out).2.2
    have B5 := Lib.hid (bW.out _ G5.out).1
    go_wp2_with fail
    exact bodyPost_ret (v := .tuple #[.agg #[.slice g us.length c], .string s]) (by simp [results, Tryz.results13, go_sem, World.cell?_setCell_same _ _ _ x5]) rfl ⟨_, _, us, s, rfl, OwnTab.mono (ownsRow_setCell_below (a := ⟨w.heap.size, 0, none⟩) O5.out (by simp; omega) _) (by omega), HU.out, by omega, B5.out.setCell (Nat.le_refl _) _⟩
  · go_wp2_with fail
    (go_at_call 50; refine (bent_any s (by omega) (w.heap.size + 1) R 95 _ R5.out (by omega)).mono ?_; rintro e w6 ⟨t, rfl, ht, g6, r6⟩)
    have t6 := gbox t5 g6 hTR
    have O6 := Lib.hid (O5.out.grown g6 hRl)
    have G6 := Lib.hid (G5.out.trans g6)
    have x5 := (bW.out _ G6.out).2.1
    have f5 := (bW.out _ G6.out).2.2
    have B5 := Lib.hid (bW.out _ G6.out).1
    clear g6 r6 t5 O5 R5 G5
    go_wp2_with fail
    exact bodyPost_ret (v := .tuple #[.agg #[.slice g us.length c], .string t]) (by simp [results, Tryz.results13, go_sem, World.cell?_setCell_same _ _ _ x5]) rfl ⟨_, _, us, t, rfl, OwnTab.mono (ownsRow_setCell_below (a := ⟨w.heap.size, 0, none⟩) O6.out (by simp; omega) _) (by omega), HU.out, by omega, B5.out.setCell (Nat.le_refl _) _⟩

end Go.Proofs.YtoidmmedpefjfaaGreatDoor
