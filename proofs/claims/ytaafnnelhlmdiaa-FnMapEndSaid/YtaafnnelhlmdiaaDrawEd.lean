/- The table and the port that are drawn for the law of MapEnd. Condition: the code lies in memory. -/
import Derived.Test.YtaafnnelhlmdiaaDrawMaps
import Derived.IntWalk
namespace Go.Proofs.Ytaafnnelhlmdiaa
open Go.RowKit

theorem arr_at (k3 k4 : Nat) (h3 : k3 < 8) (h4 : k4 < 6) : ∃ q : Int, (#[Value.int .i64 (500 + (k3 : Int)), .int .i64 499, .int .i64 0, .int .i64 (-1), .int .i64 9223372036854775807, .int .i64 500] : Array Value)[k4]? = some (.int .i64 q) ∧ (Lit.int .i64 q).wf = true ∧ ∀ h, ([Value.int .i64 (500 + (k3 : Int)), .int .i64 499, .int .i64 0, .int .i64 (-1), .int .i64 9223372036854775807, .int .i64 500] : List Value)[k4]'h = .int .i64 q := by
  match k4, h4 with
  | 0, _ => exact ⟨_, rfl, WalkArith.wf_i64 (by omega), fun _ => rfl⟩
  | 1, _ => exact ⟨_, rfl, WalkArith.wf_i64 (by omega), fun _ => rfl⟩
  | 2, _ => exact ⟨_, rfl, WalkArith.wf_i64 (by omega), fun _ => rfl⟩
  | 3, _ => exact ⟨_, rfl, WalkArith.wf_i64 (by omega), fun _ => rfl⟩
  | 4, _ => exact ⟨_, rfl, WalkArith.wf_i64 (by omega), fun _ => rfl⟩
  | 5, _ => exact ⟨_, rfl, WalkArith.wf_i64 (by omega), fun _ => rfl⟩

set_option maxRecDepth 100000 in
set_option maxHeartbeats 1600000 in
theorem drawMapEnd_any (ao : Option Addr) (n cap : Nat) (w : World) (h : BytesIn w ao n) (hn : n ≤ cap) :
    Calls Try.prog 18 #[.slice ao n cap] w fun e w' => ∃ g c us q, e = .returned (.tuple #[.agg #[.slice g (us : List (Int × Int)).length c], .int .i64 q]) ∧ OwnTab w' w.heap.size (.slice g us.length c) us ∧ (us.length ≤ 8 ∧ SmE us) ∧ (Lit.int .i64 q).wf = true ∧ Below w.heap.size w w' := by
  have H := Lib.hid h
  clear h
  go_enter Try.func18, Try.ntmps18
  go_wp2_with fail
  (go_at_call 36; refine (open_any ao n cap _ (H.out.below ((Below.refl _ _).alloc (Nat.le_refl _) _)) hn).mono ?_; rintro e w1 ⟨R, rfl, hR, b1, r1⟩)
  have s1 := b1.size
  simp only [World.size_alloc] at s1 hR r1
  have R1 := Lib.hid r1
  have B1 := Lib.hid b1
  have hRl := r1.lt
  have x1 : w1.cell? ⟨w.heap.size, 0, none⟩ = some (.slice none 0 0) := by rw [b1.cell (by simp)]; simp
  have f1 : w1.frozen? ⟨w.heap.size, 0, none⟩ = false := by rw [b1.frozen (by simp)]; exact (cell_new w _ _ 0).2
  have bW : Hid (∀ w', w1.grownBy w' (some R) → Below w.heap.size w w' ∧ w'.cell? ⟨w.heap.size, 0, none⟩ = some (.slice none 0 0) ∧ w'.frozen? ⟨w.heap.size, 0, none⟩ = false) := fun w' hg => ⟨((Below.refl _ w).alloc (Nat.le_refl _) _).trans ((B1.out.mono (by simp)).grown hg (by omega) (fun k e => by cases e; omega)), gbox x1 hg (by omega), gboxf x1 f1 hg (by omega)⟩
  clear r1 b1
  go_upto_region 2 with fail
  go_region_law (first
    | (go_simp; go_at_call 37; refine (table_any 9 (w.heap.size + 1) R 0 _ (rd_drew R1.out) (by omega) (by omega) (by omega)).mono ?_; rintro e w2 ⟨g, c, us, rfl, ho, hu, g2, r2⟩; have G2 : Hid (w1.grownBy w2 (some R)) := (grownB (Below.refl _ _).drew).trans g2; have HO := Lib.hid ho; have HU := Lib.hid hu; have R2 := Lib.hid r2; have x2 := (bW.out _ G2.out).2.1; have f2 := (bW.out _ G2.out).2.2; have z2 := G2.out.size; clear ho hu r2 g2)
    | (go_simp; go_at_call 38; have R3' := R3; refine (pick_any 6 (w.heap.size + 1) R 91 _ (by first | exact R3.out | exact rd_alloc R3.out _) (by omega)).mono ?_; rintro e w4 ⟨k4, rfl, hk4, g4, r4⟩; obtain ⟨q, hq, hqw, hql⟩ := arr_at k3 k4 (by omega) (by omega); have hk5 : k4 < 6 := (by omega); have hk6 : (k4 : Int) < 6 := (by omega); have G4 : Hid (w1.grownBy w4 (some R)) := (by first | exact G3.out.trans g4 | exact G3.out.trans ((World.grownBy_alloc _ _ _).trans g4)); have x4 := (bW.out _ G4.out).2.1; have f4 := (bW.out _ G4.out).2.2; have z4 := G4.out.size; have xB : ∀ o, (w4.alloc o).cell? ⟨w.heap.size, 0, none⟩ = some (.slice none 0 0) := (fun o => (boxDB x4 f4 ((Below.refl _ _).alloc (Nat.le_refl _) o)).1); have fB : ∀ o, (w4.alloc o).frozen? ⟨w.heap.size, 0, none⟩ = false := (fun o => (boxDB x4 f4 ((Below.refl _ _).alloc (Nat.le_refl _) o)).2); have hn1 : ¬ w.heap.size = w4.heap.size := (by omega); have hn2 : ¬ w.heap.size = w3.heap.size := (by omega); have hn3 : ¬ w4.heap.size = w.heap.size := (by omega); have hO4 : Hid (OwnTab w4 w1.heap.size (.slice g us.length c) us) := (by first | exact HO3.out.grown g4 hRl | exact HO3.out.grown ((World.grownBy_alloc _ _ _).trans g4) hRl); have hB : ∀ t, (w4.alloc (.cells #[.int .i64 (500 + (k3 : Int)), .int .i64 499, .int .i64 0, .int .i64 (-1), .int .i64 9223372036854775807, .int .i64 500] t)).cell? ⟨w4.heap.size, k4, none⟩ = some (.int .i64 q) := (fun t => by rw [(cell_new _ _ _ _).1]; exact hq); (first | (have hA : w4.cell? ⟨w3.heap.size, k4, none⟩ = some (.int .i64 q) := (by rw [(gcell g4 (by simp) (by omega) k4).1, (cell_new _ _ _ _).1]; exact hq)) | skip); clear g4 r4 hk4)
    | (go_simp; go_at_call 38; refine (pick_any 8 (w.heap.size + 1) R 90 _ R2.out (by omega)).mono ?_; rintro e w3 ⟨k3, rfl, hk3, g3, r3⟩; have G3 : Hid (w1.grownBy w3 (some R)) := G2.out.trans g3; have R3 := Lib.hid r3; have HO3 : Hid (OwnTab w3 w1.heap.size (.slice g us.length c) us) := HO.out.grown g3 hRl; have x3 := (bW.out _ G3.out).2.1; have f3 := (bW.out _ G3.out).2.2; have z3 := G3.out.size; have hk8 : (k3 : Int) < 8 := (by omega); have hwr : IntKind.i64.wrap (500 + (k3 : Int)) = 500 + (k3 : Int) := IntWalk.i64_in _ (by omega); clear g3 r3 hk3))
  all_goals
    have B4 := Lib.hid (bW.out _ G4.out).1
    have HQ := Lib.hid hqw
    have hS : ∀ o, ((w4.setCell ⟨w.heap.size, 0, none⟩ (.slice g us.length c)).alloc o).cell? ⟨w.heap.size, 0, none⟩ = some (.slice g us.length c) := fun o => (boxDB (World.cell?_setCell_same _ _ _ x4) (by rw [World.frozen?_setCell]; exact f4) ((Below.refl _ _).alloc (Nat.le_refl _) o)).1
    have HS := Lib.hid hS
    clear hqw hS
    go_wp2_with fail
  all_goals (first
    | exact bodyPost_ret (v := .tuple #[.agg #[.slice g us.length c], .int .i64 q]) (by simp [results, Try.results18, go_sem, World.cell?_setCell_same _ _ _ x4]) rfl ⟨_, _, us, q, rfl, OwnTab.mono (ownsRow_setCell_below (a := ⟨w.heap.size, 0, none⟩) hO4.out (by simp; omega) _) (by omega), HU.out, HQ.out, B4.out.setCell (Nat.le_refl _) _⟩
    | exact bodyPost_ret (v := .tuple #[.agg #[.slice g us.length c], .int .i64 q]) (by simp [results, Try.results18, go_sem, World.cell?_setCell_same _ _ _ (xB _)]) rfl ⟨_, _, us, q, rfl, OwnTab.mono (ownsRow_setCell_below (a := ⟨w.heap.size, 0, none⟩) (OwnTab.below hO4.out ((Below.refl _ _).alloc (Nat.le_refl _) _)) (by simp; omega) _) (by omega), HU.out, HQ.out, (B4.out.alloc (by omega) _).setCell (Nat.le_refl _) _⟩
    | exact bodyPost_ret (v := .tuple #[.agg #[.slice g us.length c], .int .i64 q]) (by simp [results, Try.results18, go_sem, HS.out]) rfl ⟨_, _, us, q, rfl, OwnTab.mono (OwnTab.below (ownsRow_setCell_below (a := ⟨w.heap.size, 0, none⟩) hO4.out (by simp; omega) _) ((Below.refl _ _).alloc (Nat.le_refl _) _)) (by omega), HU.out, HQ.out, (B4.out.setCell (Nat.le_refl _) _).alloc (by simp; omega) _⟩
    | (trace_state; fail))

end Go.Proofs.Ytaafnnelhlmdiaa
