/- The table and the line that are drawn for the laws of lines that go inside. Condition: the code lies in memory. -/
import Derived.Test.YtoidmmedpefjfaaGreatDoorDrawTab
import Derived.Test.YtoidmmedpefjfaaGreatDoorDrawLin
namespace Go.Proofs.YtoidmmedpefjfaaGreatDoor
open Go.RowKit Go.Sort

set_option maxRecDepth 100000 in
set_option maxHeartbeats 1600000 in
theorem drawBakLine_any (ao : Option Addr) (n cap : Nat) (w : World) (h : BytesIn w ao n) (hn : n ≤ cap) :
    Calls Tryz.prog 41 #[.slice ao n cap] w fun e w' => ∃ g c us s, e = .returned (.tuple #[.agg #[.slice g (us : List (Int × Int)).length c], .string (s : ByteArray)]) ∧ OwnTab w' w.heap.size (.slice g us.length c) us ∧ (us.length ≤ 8 ∧ SmE us) ∧ s.size ≤ 60 ∧ Below w.heap.size w w' := by
  have H := Lib.hid h
  clear h
  go_enter Tryz.func41, Tryz.ntmps41
  go_wp2_with fail
  (go_at_call 46; refine (open_any ao n cap _ (H.out.below ((Below.refl _ _).alloc (Nat.le_refl _) _)) hn).mono ?_; rintro e w1 ⟨R, rfl, hR, b1, r1⟩)
  have s1 := b1.size
  simp only [World.size_alloc] at s1 hR r1
  have R1 := Lib.hid r1
  have B1 := Lib.hid b1
  have hRl := r1.lt
  have x1 : w1.cell? ⟨w.heap.size, 0, none⟩ = some (.slice none 0 0) := by rw [b1.cell (by simp)]; simp
  have f1 : w1.frozen? ⟨w.heap.size, 0, none⟩ = false := by rw [b1.frozen (by simp)]; exact (cell_new w _ _ 0).2
  have bW : Hid (∀ w', w1.grownBy w' (some R) → Below w.heap.size w w' ∧ w'.cell? ⟨w.heap.size, 0, none⟩ = some (.slice none 0 0) ∧ w'.frozen? ⟨w.heap.size, 0, none⟩ = false) := fun w' hg => ⟨((Below.refl _ w).alloc (Nat.le_refl _) _).trans ((B1.out.mono (by simp)).grown hg (by omega) (fun k e => by cases e; omega)), gbox x1 hg (by omega), gboxf x1 f1 hg (by omega)⟩
  clear r1 b1
  go_wp2_with fail
  (go_at_call 47; refine (table_any 12 (w.heap.size + 1) R 0 _ R1.out (by omega) (by omega) (by omega)).mono ?_; rintro e w2 ⟨g, c, us, rfl, ho, hu, g2, r2⟩)
  obtain ⟨W3, hW3⟩ : ∃ W3, W3 = w2.alloc (.cells #[.slice g us.length c] 25) := ⟨_, rfl⟩
  obtain ⟨T, hT⟩ : ∃ T, T = w2.heap.size := ⟨_, rfl⟩
  have z2 := g2.size
  have gW : Hid (w1.grownBy W3 (some R)) := by rw [hW3]; exact g2.trans (World.grownBy_alloc _ _ _)
  have t3 : W3.cell? ⟨T, 0, none⟩ = some (.slice g us.length c) := by rw [hW3, hT]; exact (cell_new w2 _ _ 0).1
  have O3 : Hid (OwnTab W3 w1.heap.size (.slice g us.length c) us) := by rw [hW3]; exact ho.below ((Below.refl _ _).alloc (Nat.le_refl _) _)
  have R3 : Hid (Rd (w.heap.size + 1) R 90 W3) := by rw [hW3]; exact rd_alloc r2 _
  have HU := Lib.hid hu
  have hTR : T ≠ R := by omega
  clear ho hu g2 r2 x1 f1
  go_wp2_with fail
  rw [← hW3, ← hT]
  clear hW3 hT
  (go_at_call 78; refine (pick_any 3 (w.heap.size + 1) R 90 _ R3.out (by omega)).mono ?_; rintro e w5 ⟨k5, rfl, hk5, g5, r5⟩)
  have t5 := gbox t3 g5 hTR
  have O5 := Lib.hid (O3.out.grown g5 hRl)
  have R5 := Lib.hid r5
  have G5 := Lib.hid (gW.out.trans g5)
  clear g5 r5 t3 O3 R3 gW
  have M : Hid (∀ w', w5.grownBy w' (some R) → w'.cell? ⟨T, 0, none⟩ = some (.slice g us.length c) ∧ w'.cell? ⟨w.heap.size, 0, none⟩ = some (.slice none 0 0) ∧ w'.frozen? ⟨w.heap.size, 0, none⟩ = false ∧ OwnTab w' w1.heap.size (.slice g us.length c) us ∧ Below w.heap.size w w') := fun w' hg => ⟨gbox t5 hg hTR, (bW.out _ (G5.out.trans hg)).2.1, (bW.out _ (G5.out.trans hg)).2.2, O5.out.grown hg hRl, (bW.out _ (G5.out.trans hg)).1⟩
  by_cases h0 : 0 < k5
  · have h0i : (0 : Int) < (k5 : Int) := by omega
    go_upto_region 4 with fail
    go_region_law (first
      | (go_simp; go_at_call 78; refine (pick_any 8 (w.heap.size + 1) R 91 _ (rd_drew R5.out) (by omega)).mono ?_; rintro e w6 ⟨k6, rfl, hk6, g6, r6⟩; have hk7 : k6 < 8 := (by omega); have hk8 : (k6 : Int) < 8 := (by omega); have hw6 : IntKind.wrap .i64 (500 + (k6 : Int)) = 500 + (k6 : Int) := (IntWalk.i64_in _ (by omega)); have G6 := Lib.hid ((grownB (Below.refl _ _).drew).trans g6); have M6 := Lib.hid (M.out w6 G6.out); have t6 := M6.out.1; have x6 := M6.out.2.1; have f6 := M6.out.2.2.1; clear g6 r6 hk6)
      | (go_simp; go_at_call 83; (first | with_reducible refine (specLinPort_any 50 (500 + (k6 : Int)) _).mono ?_ | (trace_state; fail)); rintro e w7 ⟨rfl, b7⟩; have M7 := Lib.hid (M.out w7 (G6.out.trans (grownB b7))); have t7 := M7.out.1; have x7 := M7.out.2.1; have f7 := M7.out.2.2.1; clear b7))
    all_goals
      go_wp2_with fail
      exact bodyPost_ret (v := .tuple #[.agg #[.slice g us.length c], .string ⟨(lpL 50 (500 + (k6 : Int))).toArray⟩]) (by simp [results, Tryz.results41, go_sem, World.cell?_setCell_same _ _ _ x7]) rfl ⟨_, _, us, _, rfl, OwnTab.mono (ownsRow_setCell_below (a := ⟨w.heap.size, 0, none⟩) M7.out.2.2.2.1 (by simp; omega) _) (by omega), HU.out, (by have e := lpL_len 50 (500 + (k6 : Int)); show (lpL 50 (500 + (k6 : Int))).length ≤ 60; omega), M7.out.2.2.2.2.setCell (Nat.le_refl _) _⟩
  · have h0i : ¬ (0 : Int) < (k5 : Int) := by omega
    have HD : Hid (BytesIn w5.drew ao n) := (H.out.below (bW.out _ G5.out).1).below (Below.refl _ _).drew
    go_upto_region 5 with fail
    go_region_law (go_simp; go_at_call 84; refine (drawLinOk_any ao n cap _ HD.out hn).mono ?_; rintro e w7 ⟨s, rfl, hs, b7⟩; have M7 := Lib.hid (M.out w7 ((grownB (Below.refl _ _).drew).trans (grownB b7))); have t7 := M7.out.1; have x7 := M7.out.2.1; have f7 := M7.out.2.2.1; clear b7)
    all_goals
      go_wp2_with fail
      exact bodyPost_ret (v := .tuple #[.agg #[.slice g us.length c], .string s]) (by simp [results, Tryz.results41, go_sem, World.cell?_setCell_same _ _ _ x7]) rfl ⟨_, _, us, _, rfl, OwnTab.mono (ownsRow_setCell_below (a := ⟨w.heap.size, 0, none⟩) M7.out.2.2.2.1 (by simp; omega) _) (by omega), HU.out, hs, M7.out.2.2.2.2.setCell (Nat.le_refl _) _⟩

end Go.Proofs.YtoidmmedpefjfaaGreatDoor
