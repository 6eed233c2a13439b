/- The tables that are drawn for the laws of chapter 3. Condition: the code lies in memory. -/
import Derived.Test.YtaafnnelhlmdiaaDrawTab
namespace Go.Proofs.Ytaafnnelhlmdiaa
open Go.RowKit

set_option maxRecDepth 100000 in
set_option maxHeartbeats 1600000 in
theorem drawMapOk_any (ao : Option Addr) (n cap : Nat) (w : World) (h : BytesIn w ao n) (hn : n ≤ cap) :
    Calls Try.prog 22 #[.slice ao n cap] w fun e w' => ∃ g c us, e = .returned (.agg #[.slice g (us : List (Int × Int)).length c]) ∧ OwnTab w' w.heap.size (.slice g us.length c) us ∧ (us.length ≤ 8 ∧ SmE us) ∧ Below w.heap.size w w' := by
  have H := Lib.hid h
  clear h
  go_enter Try.func22, Try.ntmps22
  go_wp2_with fail
  (go_at_call 36; refine (open_any ao n cap _ (H.out.below ((Below.refl _ _).alloc (Nat.le_refl _) _)) hn).mono ?_; rintro e w1 ⟨R, rfl, hR, b1, r1⟩)
  have s1 := b1.size
  simp only [World.size_alloc] at s1 hR r1
  have R1 := Lib.hid r1
  have B1 := Lib.hid b1
  have x1 : w1.cell? ⟨w.heap.size, 0, none⟩ = some (.slice none 0 0) := by rw [b1.cell (by simp)]; simp
  clear r1 b1
  go_wp2_with fail
  (go_at_call 37; refine (table_any 2 (w.heap.size + 1) R 0 _ R1.out (by omega) (by omega) (by omega)).mono ?_; rintro e w2 ⟨g, c, us, rfl, ho, hu, g2, r2⟩)
  have x2 := gbox x1 g2 (by omega)
  have f2 : w2.frozen? ⟨w.heap.size, 0, none⟩ = false := gboxf x1 (by rw [B1.out.frozen (by simp)]; exact (cell_new w _ _ 0).2) g2 (by omega)
  have bAll : Below w.heap.size w w2 := ((Below.refl _ w).alloc (Nat.le_refl _) _).trans ((B1.out.mono (by simp)).grown g2 (by omega) (fun k e => by cases e; omega))
  have BA := Lib.hid bAll
  have HO := Lib.hid ho
  have HU := Lib.hid hu
  clear bAll g2 r2 ho hu
  go_wp2_with fail
  refine bodyPost_ret (v := .agg #[.slice g us.length c]) (by simp [results, Try.results22, go_sem, World.cell?_setCell_same _ _ _ x2]) rfl ⟨_, _, us, rfl, ?_, HU.out, ?_⟩
  · exact OwnTab.mono (ownsRow_setCell_below (a := ⟨w.heap.size, 0, none⟩) HO.out (by simp; omega) _) (by omega)
  · exact BA.out.setCell (Nat.le_refl _) _

theorem fin_a {w0 w : World} {C c : Nat} {g : Option Addr} {us : List (Int × Int)} {x y v : Value} (a p : Int) (hx : w.cell? ⟨w0.heap.size, 0, none⟩ = some x) (hy : w.cell? ⟨w0.heap.size + 1, 0, none⟩ = some y) (hv : w.cell? ⟨w0.heap.size + 1, 1, none⟩ = some v) (ho : OwnTab w C (.slice g us.length c) us) (hC : w0.heap.size + 2 ≤ C) (hb : Below w0.heap.size w0 w) :
    ((((w.setCell ⟨w0.heap.size, 0, none⟩ (.slice g us.length c)).setCell ⟨w0.heap.size + 1, 0, none⟩ (.int .i64 a)).setCell ⟨w0.heap.size + 1, 1, none⟩ (.int .i64 p)).cell? ⟨w0.heap.size, 0, none⟩ = some (.slice g us.length c) ∧ (((w.setCell ⟨w0.heap.size, 0, none⟩ (.slice g us.length c)).setCell ⟨w0.heap.size + 1, 0, none⟩ (.int .i64 a)).setCell ⟨w0.heap.size + 1, 1, none⟩ (.int .i64 p)).cell? ⟨w0.heap.size + 1, 0, none⟩ = some (.int .i64 a) ∧ (((w.setCell ⟨w0.heap.size, 0, none⟩ (.slice g us.length c)).setCell ⟨w0.heap.size + 1, 0, none⟩ (.int .i64 a)).setCell ⟨w0.heap.size + 1, 1, none⟩ (.int .i64 p)).cell? ⟨w0.heap.size + 1, 1, none⟩ = some (.int .i64 p)) ∧ OwnTab (((w.setCell ⟨w0.heap.size, 0, none⟩ (.slice g us.length c)).setCell ⟨w0.heap.size + 1, 0, none⟩ (.int .i64 a)).setCell ⟨w0.heap.size + 1, 1, none⟩ (.int .i64 p)) w0.heap.size (.slice g us.length c) us ∧ Below w0.heap.size w0 (((w.setCell ⟨w0.heap.size, 0, none⟩ (.slice g us.length c)).setCell ⟨w0.heap.size + 1, 0, none⟩ (.int .i64 a)).setCell ⟨w0.heap.size + 1, 1, none⟩ (.int .i64 p)) := by
  have n1 : (⟨w0.heap.size + 1, 0, none⟩ : Addr) ≠ ⟨w0.heap.size, 0, none⟩ := by simp
  have n2 : (⟨w0.heap.size + 1, 1, none⟩ : Addr) ≠ ⟨w0.heap.size, 0, none⟩ := by simp
  have hy' : (w.setCell ⟨w0.heap.size, 0, none⟩ (.slice g us.length c)).cell? ⟨w0.heap.size + 1, 0, none⟩ = some y := (World.cell?_setCell_other _ _ _ _ n1.symm).trans hy
  have hv' : (w.setCell ⟨w0.heap.size, 0, none⟩ (.slice g us.length c)).cell? ⟨w0.heap.size + 1, 1, none⟩ = some v := (World.cell?_setCell_other _ _ _ _ n2.symm).trans hv
  obtain ⟨_, q1, q2⟩ := set_two (w := w.setCell ⟨w0.heap.size, 0, none⟩ (.slice g us.length c)) (b := w0.heap.size + 1) (x := y) (y := v) (.int .i64 a) (.int .i64 p) hy' hv'
  refine ⟨⟨?_, q1, q2⟩, ?_, ?_⟩
  · rw [World.cell?_setCell_other _ _ _ _ n2, World.cell?_setCell_other _ _ _ _ n1]; exact World.cell?_setCell_same _ _ _ hx
  · exact OwnTab.mono (B := C) (ownsRow_setCell_below (a := ⟨w0.heap.size + 1, 1, none⟩) (ownsRow_setCell_below (a := ⟨w0.heap.size + 1, 0, none⟩) (ownsRow_setCell_below (a := ⟨w0.heap.size, 0, none⟩) (ho) (by simp; omega) _) (by simp; omega) _) (by simp; omega) _) (by omega)
  · exact (((hb).setCell (by simp) _).setCell (by simp) _).setCell (by simp) _

theorem fin_b {w0 w : World} {C c : Nat} {g : Option Addr} {us : List (Int × Int)} {x y v : Value} (a p : Int) (hx : w.cell? ⟨w0.heap.size, 0, none⟩ = some x) (hy : w.cell? ⟨w0.heap.size + 1, 0, none⟩ = some y) (hv : w.cell? ⟨w0.heap.size + 1, 1, none⟩ = some v) (ho : OwnTab w C (.slice g us.length c) us) (hC : w0.heap.size + 2 ≤ C) (hb : Below w0.heap.size w0 w) :
    ((((w.setCell ⟨w0.heap.size + 1, 0, none⟩ (.int .i64 a)).setCell ⟨w0.heap.size + 1, 1, none⟩ (.int .i64 p)).setCell ⟨w0.heap.size, 0, none⟩ (.slice g us.length c)).cell? ⟨w0.heap.size, 0, none⟩ = some (.slice g us.length c) ∧ (((w.setCell ⟨w0.heap.size + 1, 0, none⟩ (.int .i64 a)).setCell ⟨w0.heap.size + 1, 1, none⟩ (.int .i64 p)).setCell ⟨w0.heap.size, 0, none⟩ (.slice g us.length c)).cell? ⟨w0.heap.size + 1, 0, none⟩ = some (.int .i64 a) ∧ (((w.setCell ⟨w0.heap.size + 1, 0, none⟩ (.int .i64 a)).setCell ⟨w0.heap.size + 1, 1, none⟩ (.int .i64 p)).setCell ⟨w0.heap.size, 0, none⟩ (.slice g us.length c)).cell? ⟨w0.heap.size + 1, 1, none⟩ = some (.int .i64 p)) ∧ OwnTab (((w.setCell ⟨w0.heap.size + 1, 0, none⟩ (.int .i64 a)).setCell ⟨w0.heap.size + 1, 1, none⟩ (.int .i64 p)).setCell ⟨w0.heap.size, 0, none⟩ (.slice g us.length c)) w0.heap.size (.slice g us.length c) us ∧ Below w0.heap.size w0 (((w.setCell ⟨w0.heap.size + 1, 0, none⟩ (.int .i64 a)).setCell ⟨w0.heap.size + 1, 1, none⟩ (.int .i64 p)).setCell ⟨w0.heap.size, 0, none⟩ (.slice g us.length c)) := by
  have n1 : (⟨w0.heap.size + 1, 0, none⟩ : Addr) ≠ ⟨w0.heap.size, 0, none⟩ := by simp
  have n2 : (⟨w0.heap.size + 1, 1, none⟩ : Addr) ≠ ⟨w0.heap.size, 0, none⟩ := by simp
  obtain ⟨_, q1, q2⟩ := set_two (w := w) (b := w0.heap.size + 1) (x := y) (y := v) (.int .i64 a) (.int .i64 p) hy hv
  refine ⟨⟨?_, ?_, ?_⟩, ?_, ?_⟩
  · exact World.cell?_setCell_same _ _ _ (((World.cell?_setCell_other _ _ _ _ n2).trans (World.cell?_setCell_other _ _ _ _ n1)).trans hx)
  · exact (World.cell?_setCell_other _ _ _ _ n1.symm).trans q1
  · exact (World.cell?_setCell_other _ _ _ _ n2.symm).trans q2
  · exact OwnTab.mono (B := C) (ownsRow_setCell_below (a := ⟨w0.heap.size, 0, none⟩) (ownsRow_setCell_below (a := ⟨w0.heap.size + 1, 1, none⟩) (ownsRow_setCell_below (a := ⟨w0.heap.size + 1, 0, none⟩) (ho) (by simp; omega) _) (by simp; omega) _) (by simp; omega) _) (by omega)
  · exact (((hb).setCell (by simp) _).setCell (by simp) _).setCell (by simp) _

theorem own_at {w : World} {B g c : Nat} {us : List (Int × Int)} {k : Nat} {a p : Int} (h : OwnTab w B (.slice (some ⟨g, 0, none⟩) us.length c) us) (hk : k < us.length) (e : (a, p) = us[k]) : w.cell? ⟨g, k * 2, none⟩ = some (.int .i64 a) ∧ w.cell? ⟨g, k * 2 + 1, none⟩ = some (.int .i64 p) := by
  obtain ⟨x, cap, e1, _, hrow⟩ := h.tab
  simp at e1
  obtain ⟨g', e2, hat⟩ := hrow (by omega)
  rw [← e1.1] at e2
  simp at e2
  subst e2
  have := hat k hk
  rw [← e] at this
  exact this
theorem own_some {w : World} {B c : Nat} {g : Option Addr} {us : List (Int × Int)} (h : OwnTab w B (.slice g us.length c) us) (h0 : 0 < us.length) : ∃ g0, g = some ⟨g0, 0, none⟩ := by
  obtain ⟨x, cap, e1, _, hrow⟩ := h.tab
  simp at e1
  obtain ⟨g', e2, _⟩ := hrow h0
  exact ⟨g', e1.1.trans e2⟩

set_option maxRecDepth 100000 in
set_option maxHeartbeats 3200000 in
theorem drawMapPort_any (ao : Option Addr) (n cap : Nat) (w : World) (h : BytesIn w ao n) (hn : n ≤ cap) :
    Calls Try.prog 19 #[.slice ao n cap] w fun e w' => ∃ g c us a p, e = .returned (.tuple #[.agg #[.slice g (us : List (Int × Int)).length c], .agg #[.int .i64 a, .int .i64 p]]) ∧ OwnTab w' w.heap.size (.slice g us.length c) us ∧ (us.length ≤ 8 ∧ SmE us) ∧ Sm a p ∧ Below w.heap.size w w' := by
  have H := Lib.hid h
  clear h
  go_enter Try.func19, Try.ntmps19
  go_wp2_with fail
  (go_at_call 36; refine (open_any ao n cap _ (H.out.below (((Below.refl _ _).alloc (Nat.le_refl _) _).alloc (by simp) _)) hn).mono ?_; rintro e w1 ⟨R, rfl, hR, b1, r1⟩)
  have s1 := b1.size
  simp only [World.size_alloc] at s1 hR r1
  have R1 := Lib.hid r1
  have B1 := Lib.hid b1
  have x1 : w1.cell? ⟨w.heap.size, 0, none⟩ = some (.slice none 0 0) := by rw [b1.cell (by simp; omega)]; simp
  have y1 : w1.cell? ⟨w.heap.size + 1, 0, none⟩ = some (.int .i64 0) := by rw [b1.cell (by simp)]; simp
  have v1 : w1.cell? ⟨w.heap.size + 1, 1, none⟩ = some (.int .i64 0) := by rw [b1.cell (by simp)]; simp
  have fx1 : w1.frozen? ⟨w.heap.size, 0, none⟩ = false := by rw [b1.frozen (by simp; omega)]; simp
  have fy1 : w1.frozen? ⟨w.heap.size + 1, 0, none⟩ = false := by rw [b1.frozen (by simp)]; simp
  have fv1 : w1.frozen? ⟨w.heap.size + 1, 1, none⟩ = false := by rw [b1.frozen (by simp)]; simp
  clear r1 b1
  go_wp2_with fail
  (go_at_call 37; refine (table_any 9 (w.heap.size + 1 + 1) R 0 _ R1.out (by omega) (by omega) (by omega)).mono ?_; rintro e w2 ⟨g, c, us, rfl, ho, hu, g2, r2⟩)
  obtain ⟨W3, hW3⟩ : ∃ W3, W3 = w2.alloc (.cells #[.slice g us.length c] 25) := ⟨_, rfl⟩
  obtain ⟨T, hT⟩ : ∃ T, T = w2.heap.size := ⟨_, rfl⟩
  have z2 := g2.size
  have gW : w1.grownBy W3 (some R) := by rw [hW3]; exact g2.trans (World.grownBy_alloc _ _ _)
  have t3 : W3.cell? ⟨T, 0, none⟩ = some (.slice g us.length c) := by rw [hW3, hT]; exact (cell_new w2 _ _ 0).1
  have O3 : OwnTab W3 w1.heap.size (.slice g us.length c) us := by rw [hW3]; exact ho.below ((Below.refl _ _).alloc (Nat.le_refl _) _)
  have R3 : Hid (Rd (w.heap.size + 1 + 1) R 90 W3) := by rw [hW3]; exact rd_alloc r2 _
  have bAll : Below w.heap.size w W3 := (((Below.refl _ w).alloc (Nat.le_refl _) _).alloc (by simp) _).trans ((B1.out.mono (by simp; omega)).grown gW (by omega) (fun k e => by cases e; omega))
  have mk : Hid (∀ w', W3.grownBy w' (some R) → ((w'.cell? ⟨w.heap.size, 0, none⟩ = some (.slice none 0 0) ∧ w'.frozen? ⟨w.heap.size, 0, none⟩ = false) ∧ (w'.cell? ⟨w.heap.size + 1, 0, none⟩ = some (.int .i64 0) ∧ w'.frozen? ⟨w.heap.size + 1, 0, none⟩ = false) ∧ (w'.cell? ⟨w.heap.size + 1, 1, none⟩ = some (.int .i64 0) ∧ w'.frozen? ⟨w.heap.size + 1, 1, none⟩ = false)) ∧ w'.cell? ⟨T, 0, none⟩ = some (.slice g us.length c) ∧ OwnTab w' w1.heap.size (.slice g us.length c) us ∧ Below w.heap.size w w') := fun w' hg => by
    have hl := R1.out.lt
    exact ⟨⟨⟨gbox x1 (gW.trans hg) (by omega), gboxf x1 fx1 (gW.trans hg) (by omega)⟩, ⟨gbox y1 (gW.trans hg) (by omega), gboxf y1 fy1 (gW.trans hg) (by omega)⟩, ⟨gbox v1 (gW.trans hg) (by omega), gboxf v1 fv1 (gW.trans hg) (by omega)⟩⟩, gbox t3 hg (by omega), O3.grown hg hl, bAll.grown hg bAll.size (fun k e => by cases e; omega)⟩
  have HU := Lib.hid hu
  have hu8 := hu.1
  go_upto_region 3 with fail
  rw [← hW3, ← hT]
  have hT1 : ¬ w.heap.size = T := by omega
  have hT2 : ¬ w.heap.size + 1 = T := by omega
  clear hW3 hT ho hu g2 r2 gW O3 bAll x1 y1 v1 fx1 fy1 fv1 z2
  by_cases h0 : 0 < us.length
  · have h0i : (0 : Int) < (us.length : Int) := by omega
    obtain ⟨g0, rfl⟩ := own_some (mk.out W3 (World.grownBy.refl _ _)).2.2.1 h0
    go_wp2_with fail
    (go_at_call 38; refine (pick_any 2 (w.heap.size + 1 + 1) R 90 _ R3.out (by omega)).mono ?_; rintro e w4 ⟨k4, rfl, hk4, g4, r4⟩)
    have R4 := Lib.hid r4
    have G4 := Lib.hid g4
    have t4 := (mk.out w4 g4).2.1
    clear r4 g4 t3
    rcases (show k4 = 0 ∨ k4 = 1 by omega) with rfl | rfl
    · have hlm : (us.length : Int) ≤ 8 := by omega
      have hge : w1.heap.size ≤ g0 := (mk.out w4 G4.out).2.2.1.ge g0 rfl
      have hn1 : ¬ w.heap.size = g0 := by omega
      have hn2 : ¬ w.heap.size + 1 = g0 := by omega
      go_upto_region 4 with fail
      go_region_law (go_simp; go_at_call 38; refine (pick_any (us.length : Int) (w.heap.size + 1 + 1) R 91 _ (rd_drew R4.out) (by omega)).mono ?_; rintro e w5 ⟨k5, rfl, hk5, g5, r5⟩; have hk6 : k5 < us.length := (by omega); have hk7 : (k5 : Int) < (us.length : Int) := (by omega); have M5 := Lib.hid (mk.out w5 (G4.out.trans ((grownB (Below.refl _ _).drew).trans g5))); obtain ⟨⟨a, p⟩, hap⟩ : ∃ x, x = us[k5] := ⟨_, rfl⟩; obtain ⟨ca, cb⟩ := own_at M5.out.2.2.1 hk6 hap; have QQ : Hid (Sm a p) := (HU.out.2 (a, p) (by rw [hap]; exact List.getElem_mem _)); have x5 := M5.out.1.1.1; have fx5 := M5.out.1.1.2; have y5 := M5.out.1.2.1.1; have fy5 := M5.out.1.2.1.2; have v5 := M5.out.1.2.2.1; have fv5 := M5.out.1.2.2.2; have t5 := M5.out.2.1; clear g5 r5 hk5 hap)
      all_goals
        have hcv : w.heap.size + 2 ≤ w1.heap.size := by omega
        have FA := Lib.hid (fin_a a p M5.out.1.1.1 M5.out.1.2.1.1 M5.out.1.2.2.1 M5.out.2.2.1 hcv M5.out.2.2.2)
        have FB := Lib.hid (fin_b a p M5.out.1.1.1 M5.out.1.2.1.1 M5.out.1.2.2.1 M5.out.2.2.1 hcv M5.out.2.2.2)
        go_wp2_with fail
      all_goals (first
        | exact bodyPost_ret (v := .tuple #[.agg #[.slice (some ⟨g0, 0, none⟩) us.length c], .agg #[.int .i64 a, .int .i64 p]]) (by simp [results, Try.results19, go_sem, FA.out.1.1, FA.out.1.2.1, FA.out.1.2.2]) rfl ⟨_, _, us, a, p, rfl, FA.out.2.1, HU.out, QQ.out, FA.out.2.2⟩
        | exact bodyPost_ret (v := .tuple #[.agg #[.slice (some ⟨g0, 0, none⟩) us.length c], .agg #[.int .i64 a, .int .i64 p]]) (by simp [results, Try.results19, go_sem, FB.out.1.1, FB.out.1.2.1, FB.out.1.2.2]) rfl ⟨_, _, us, a, p, rfl, FB.out.2.1, HU.out, QQ.out, FB.out.2.2⟩
        | (trace_state; fail))
    · skip
      go_upto_region 5 with fail
      go_region_law (go_simp; go_at_call 39; refine (end_sm 9 (w.heap.size + 1 + 1) R 91 _ (rd_drew R4.out) (by omega) (by omega) (by omega)).mono ?_; rintro e w5 ⟨a, p, rfl, g5, r5, Q5⟩; have M5 := Lib.hid (mk.out w5 (G4.out.trans ((grownB (Below.refl _ _).drew).trans g5))); have QQ := Lib.hid Q5; have x5 := M5.out.1.1.1; have fx5 := M5.out.1.1.2; have y5 := M5.out.1.2.1.1; have fy5 := M5.out.1.2.1.2; have v5 := M5.out.1.2.2.1; have fv5 := M5.out.1.2.2.2; have t5 := M5.out.2.1; clear g5 r5 Q5)
      all_goals
        have hcv : w.heap.size + 2 ≤ w1.heap.size := by omega
        have FA := Lib.hid (fin_a a p M5.out.1.1.1 M5.out.1.2.1.1 M5.out.1.2.2.1 M5.out.2.2.1 hcv M5.out.2.2.2)
        have FB := Lib.hid (fin_b a p M5.out.1.1.1 M5.out.1.2.1.1 M5.out.1.2.2.1 M5.out.2.2.1 hcv M5.out.2.2.2)
        go_wp2_with fail
      all_goals (first
        | exact bodyPost_ret (v := .tuple #[.agg #[.slice (some ⟨g0, 0, none⟩) us.length c], .agg #[.int .i64 a, .int .i64 p]]) (by simp [results, Try.results19, go_sem, FA.out.1.1, FA.out.1.2.1, FA.out.1.2.2]) rfl ⟨_, _, us, a, p, rfl, FA.out.2.1, HU.out, QQ.out, FA.out.2.2⟩
        | exact bodyPost_ret (v := .tuple #[.agg #[.slice (some ⟨g0, 0, none⟩) us.length c], .agg #[.int .i64 a, .int .i64 p]]) (by simp [results, Try.results19, go_sem, FB.out.1.1, FB.out.1.2.1, FB.out.1.2.2]) rfl ⟨_, _, us, a, p, rfl, FB.out.2.1, HU.out, QQ.out, FB.out.2.2⟩
        | (trace_state; fail))
  · have h0i : ¬ (0 : Int) < (us.length : Int) := by omega
    have R4 := Lib.hid (R3.out.mono (Nat.le_succ 90))
    go_upto_region 5 with fail
    go_region_law (go_simp; go_at_call 39; refine (end_sm 9 (w.heap.size + 1 + 1) R 91 _ (rd_drew R4.out) (by omega) (by omega) (by omega)).mono ?_; rintro e w5 ⟨a, p, rfl, g5, r5, Q5⟩; have M5 := Lib.hid (mk.out w5 ((grownB (Below.refl _ _).drew).trans g5)); have QQ := Lib.hid Q5; have x5 := M5.out.1.1.1; have fx5 := M5.out.1.1.2; have y5 := M5.out.1.2.1.1; have fy5 := M5.out.1.2.1.2; have v5 := M5.out.1.2.2.1; have fv5 := M5.out.1.2.2.2; have t5 := M5.out.2.1; clear g5 r5 Q5)
    all_goals
      have hcv : w.heap.size + 2 ≤ w1.heap.size := by omega
      have FA := Lib.hid (fin_a a p M5.out.1.1.1 M5.out.1.2.1.1 M5.out.1.2.2.1 M5.out.2.2.1 hcv M5.out.2.2.2)
      have FB := Lib.hid (fin_b a p M5.out.1.1.1 M5.out.1.2.1.1 M5.out.1.2.2.1 M5.out.2.2.1 hcv M5.out.2.2.2)
      go_wp2_with fail
    all_goals (first
      | exact bodyPost_ret (v := .tuple #[.agg #[.slice g us.length c], .agg #[.int .i64 a, .int .i64 p]]) (by simp [results, Try.results19, go_sem, FA.out.1.1, FA.out.1.2.1, FA.out.1.2.2]) rfl ⟨_, _, us, a, p, rfl, FA.out.2.1, HU.out, QQ.out, FA.out.2.2⟩
      | exact bodyPost_ret (v := .tuple #[.agg #[.slice g us.length c], .agg #[.int .i64 a, .int .i64 p]]) (by simp [results, Try.results19, go_sem, FB.out.1.1, FB.out.1.2.1, FB.out.1.2.2]) rfl ⟨_, _, us, a, p, rfl, FB.out.2.1, HU.out, QQ.out, FB.out.2.2⟩
      | (trace_state; fail))

end Go.Proofs.Ytaafnnelhlmdiaa
