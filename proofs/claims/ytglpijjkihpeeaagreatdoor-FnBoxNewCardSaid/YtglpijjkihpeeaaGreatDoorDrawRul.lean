/- The rule that is drawn: some rule. No condition. -/
import Derived.Test.YtglpijjkihpeeaaGreatDoorDraw
import Derived.Test.YtglpijjkihpeeaaGreatDoorAt7b
import Derived.Test.YtglpijjkihpeeaaGreatDoorRul
import Derived.Deep.DeepCutAuto
import Derived.Deep.RegionLaw
import Derived.Lib.SmallJoins
namespace Go.Proofs.YtglpijjkihpeeaaGreatDoor
open Go.RowKit

theorem grD {w w' : World} {R : Nat} (h : w.grownBy w' (some R)) : w.grownBy w'.drew (some R) := h.trans ⟨rfl, rfl, rfl, Nat.le_refl _, fun _ _ _ => rfl⟩
theorem at7_drew {w : World} {b : Nat} {x0 x1 x2 x3 x4 x5 x6 : Value} (h : At7 w b x0 x1 x2 x3 x4 x5 x6) : At7 w.drew b x0 x1 x2 x3 x4 x5 x6 := h
theorem wp_letter {P : Program} {c : Code} {Q : Exit → Act → World → Prop} {a : Act} {w : World} (S : World → Prop) (h : S w) (k : ∀ wx, S wx → Code.wp P c Q a wx) : Code.wp P c Q a w := k w h
theorem gW0 (W : World) {R : Nat} : W.grownBy W.drew (some R) := grD ⟨rfl, rfl, rfl, Nat.le_refl _, fun _ _ _ => rfl⟩
theorem gW2 (W : World) (o : Obj) {R : Nat} : W.grownBy (W.drew.alloc o) (some R) := (gW0 W).trans (World.grownBy_alloc _ _ (some R))
theorem gW3 (W : World) (o : Obj) {R : Nat} : W.grownBy (W.alloc o).drew (some R) := grD (World.grownBy_alloc _ _ (some R))
theorem lit_at3 (W : World) (a b c : Int) (k : Nat) (hk : k < 3) : ∃ pv : Int, (W.alloc (.cells #[.int .i64 a, .int .i64 b, .int .i64 c] 3)).cell? ⟨W.heap.size, k, none⟩ = some (.int .i64 pv) ∧ (#[.int .i64 a, .int .i64 b, .int .i64 c] : Array Value)[k]? = some (.int .i64 pv) := by
  obtain rfl | rfl | rfl : k = 0 ∨ k = 1 ∨ k = 2 := by omega
  · exact ⟨a, (cell_new W _ _ 0).1, rfl⟩
  · exact ⟨b, (cell_new W _ _ 1).1, rfl⟩
  · exact ⟨c, (cell_new W _ _ 2).1, rfl⟩
theorem lit_at2 (W : World) (a b : Int) (k : Nat) (hk : k < 2) : ∃ pv : Int, (W.alloc (.cells #[.int .i64 a, .int .i64 b] 3)).cell? ⟨W.heap.size, k, none⟩ = some (.int .i64 pv) ∧ (#[.int .i64 a, .int .i64 b] : Array Value)[k]? = some (.int .i64 pv) := by
  obtain rfl | rfl : k = 0 ∨ k = 1 := by omega
  · exact ⟨a, (cell_new W _ _ 0).1, rfl⟩
  · exact ⟨b, (cell_new W _ _ 1).1, rfl⟩
/-- The rule that is being drawn, in its box; the result's box; the reader. -/
def RulSt (w : World) (B R L b : Nat) (wx : World) : Prop := b < wx.heap.size ∧ ∃ (al : Bool) (i it o ot p pt : Int), At7 wx b (.bool al) (.int .i64 i) (.int .i64 it) (.int .i64 o) (.int .i64 ot) (.int .i64 p) (.int .i64 pt) ∧ At7 wx w.heap.size (.bool false) (.int .i64 0) (.int .i64 0) (.int .i64 0) (.int .i64 0) (.int .i64 0) (.int .i64 0) ∧ w.grownBy wx (some R) ∧ Rd B R L wx

set_option maxRecDepth 100000 in
set_option maxHeartbeats 1600000 in
theorem rule_any (m : Int) (B R L : Nat) (w : World) (h : Rd B R L w) (hL : L ≤ 990000) (hm : 0 ≤ m) (hm2 : m ≤ 1000000) :
    Calls Tryz.prog 91 #[.pointer (some ⟨R, 0, none⟩), .int .i64 m] w fun e w' => ∃ (al : Bool) (i it o ot p pt : Int), e = .returned (.agg #[.bool al, .int .i64 i, .int .i64 it, .int .i64 o, .int .i64 ot, .int .i64 p, .int .i64 pt]) ∧ w.grownBy w' (some R) ∧ Rd B R (L + 20) w' := by
  have hR := h.lt
  have hBR := h.base
  have H := Lib.hid h
  clear h
  go_enter Tryz.func91, Tryz.ntmps91
  go_wp2_with fail
  (go_at_call 90; refine (pick_any 2 B R L _ (rd_alloc H.out _) (by omega)).mono ?_; rintro e w1 ⟨k1, rfl, h1, g1, r1⟩)
  have R1 := Lib.hid r1
  have G1 := Lib.hid g1
  have s1 := g1.size
  simp only [World.size_alloc] at s1
  clear r1 g1
  go_wp2_with fail
  (go_at_call 90; refine (pick_any 4 B R (L + 1) _ R1.out (by omega)).mono ?_; rintro e w2 ⟨k2, rfl, h2, g2, r2⟩)
  have R2 := Lib.hid r2
  have G2 := Lib.hid (G1.out.trans g2)
  clear r2 g2 G1 R1
  go_wp2_with fail
  (go_at_call 90; refine (pick_any 4 B R (L + 2) _ R2.out (by omega)).mono ?_; rintro e w3 ⟨k3, rfl, h3, g3, r3⟩)
  have R3 := Lib.hid r3
  have G3 := Lib.hid (G2.out.trans g3)
  clear r3 g3 G2 R2
  go_wp2_with fail
  (go_at_call 90; refine (pick_any 3 B R (L + 3) _ (rd_alloc R3.out _) (by omega)).mono ?_; rintro e w4 ⟨k4, rfl, h4, g4, r4⟩)
  have h43 : k4 < 3 := by omega
  have lt3 := R3.out.lt
  have hS : w3.heap.size ≠ R := by omega
  have z3 : w.heap.size + 1 ≤ w3.heap.size := by have := G3.out.size; simpa using this
  have cA0 : w4.cell? ⟨w3.heap.size, 0, none⟩ = some (.int .i64 1) := (gcell g4 (b := w3.heap.size) (by simp) hS 0).1.trans (cell_new w3 _ 3 0).1
  have cA1 : w4.cell? ⟨w3.heap.size, 1, none⟩ = some (.int .i64 21) := (gcell g4 (b := w3.heap.size) (by simp) hS 1).1.trans (cell_new w3 _ 3 1).1
  have cA2 : w4.cell? ⟨w3.heap.size, 2, none⟩ = some (.int .i64 7) := (gcell g4 (b := w3.heap.size) (by simp) hS 2).1.trans (cell_new w3 _ 3 2).1
  obtain ⟨pv, hpv⟩ : ∃ pv : Int, w4.cell? ⟨w3.heap.size, k4, none⟩ = some (.int .i64 pv) := by
    obtain rfl | rfl | rfl : k4 = 0 ∨ k4 = 1 ∨ k4 = 2 := by omega
    · exact ⟨_, cA0⟩
    · exact ⟨_, cA1⟩
    · exact ⟨_, cA2⟩
  clear cA0 cA1 cA2 h4
  have G4 := Lib.hid (((World.grownBy_alloc w (.cells #[.bool false, .int .i64 0, .int .i64 0, .int .i64 0, .int .i64 0, .int .i64 0, .int .i64 0] 35) (some R)).trans (grown_alloc G3.out (.cells #[.int .i64 1, .int .i64 21, .int .i64 7] 3))).trans g4)
  have A4 : Hid (At7 w4 w.heap.size (.bool false) (.int .i64 0) (.int .i64 0) (.int .i64 0) (.int .i64 0) (.int .i64 0) (.int .i64 0)) := (at7_new w _ _ _ _ _ _ _ _).grown ((grown_alloc G3.out (.cells #[.int .i64 1, .int .i64 21, .int .i64 7] 3)).trans g4) (by omega)
  have R4 := Lib.hid r4
  have z4 : w3.heap.size + 1 ≤ w4.heap.size := by have := g4.size; simpa using this
  have k43 : (k4 : Int) < 3 := by omega
  clear r4 g4 R3 G3 lt3 hS
  go_wp2_with fail
  obtain ⟨b, hb⟩ : ∃ b, b = w4.heap.size := ⟨_, rfl⟩
  obtain ⟨W5, hW5⟩ : ∃ W5, W5 = w4.alloc (.cells #[.bool ((k1 : Int) == 0), .int .i64 (1 + (k2 : Int)), .int .i64 0, .int .i64 (100 + (k3 : Int)), .int .i64 0, .int .i64 pv, .int .i64 0] 35) := ⟨_, rfl⟩
  have S5 : Hid (RulSt w B R (L + 4) b W5) := by
    rw [hb, hW5]
    exact ⟨by simp, _, _, _, _, _, _, _, at7_new w4 _ _ _ _ _ _ _ _, A4.out.grown (World.grownBy_alloc w4 _ (some R)) (by omega), grown_alloc G4.out _, (rd_alloc R4.out _)⟩
  have hne1 : w.heap.size ≠ R := by omega
  have hne2 : b ≠ R := by omega
  have hne3 : w.heap.size ≠ b := by omega
  have hwb : w.heap.size ≤ b := by omega
  have hBb : B ≤ b := by omega
  have hB1 : B ≤ w.heap.size := by omega
  rw [← hb, ← hW5]
  clear hW5 hb A4 G4 R4 hpv k43 h43 z3 z4 s1 h1 h2 h3
  go_cut [] (fun wx => RulSt w B R (L + 5) b wx)
  case first =>
    obtain ⟨zb, al, i, it, o, ot, p, pt, hA, hZ, hG, hRd⟩ := S5.out
    have HA := Lib.hid hA
    have HZ := Lib.hid hZ
    have HG := Lib.hid hG
    have HRd := Lib.hid hRd
    have zb2 : ¬ b = W5.heap.size := by omega
    have zR : ¬ W5.heap.size = R := by have := hRd.lt; omega
    obtain ⟨uz, ⟨uc0, uc1, uc2, uc3, uc4, uc5, uc6⟩, uf0, uf1, uf2, uf3, uf4, uf5, uf6⟩ := hA
    clear hZ hG hRd
    go_wp2_with fail
    go_region_law (go_simp; go_at_call 90; refine (pick_any 3 B R (L + 4) _ (by first | exact HRd.out | exact rd_drew HRd.out | exact rd_alloc HRd.out _ | exact rd_alloc (rd_drew HRd.out) _ | exact rd_drew (rd_alloc HRd.out _)) (by omega)).mono ?_; rintro e wN ⟨k, rfl, hk, gN, rN⟩; have hA2 : At7 wN b (.bool al) (.int .i64 i) (.int .i64 it) (.int .i64 o) (.int .i64 ot) (.int .i64 p) (.int .i64 pt) := HA.out.grown (by first | exact gN | exact (gW0 _).trans gN | exact (World.grownBy_alloc _ _ (some R)).trans gN | exact (gW2 _ _).trans gN | exact (gW3 _ _).trans gN) hne2; have HA2 := Lib.hid hA2; have HZ2 := Lib.hid (HZ.out.grown (by first | exact gN | exact (gW0 _).trans gN | exact (World.grownBy_alloc _ _ (some R)).trans gN | exact (gW2 _ _).trans gN | exact (gW3 _ _).trans gN) hne1); have HG2 := Lib.hid (HG.out.trans (by first | exact gN | exact (gW0 _).trans gN | exact (World.grownBy_alloc _ _ (some R)).trans gN | exact (gW2 _ _).trans gN | exact (gW3 _ _).trans gN)); have HR2 := Lib.hid rN; have hbN : b < wN.heap.size := hA2.1; have hbN2 : ¬ b = wN.heap.size := (by omega); obtain ⟨vz, ⟨vc0, vc1, vc2, vc3, vc4, vc5, vc6⟩, vf0, vf1, vf2, vf3, vf4, vf5, vf6⟩ := hA2; clear gN rN)
    all_goals
      go_wp2_with fail
      go_meet
      first
        | exact ⟨(HA2.out.set2 _).1, _, _, _, _, _, _, _, HA2.out.set2 _, HZ2.out.put (i := 2) _ hne3, grown_new HG2.out 2 _ hwb, rd_put HR2.out (i := 2) _ hBb hne2⟩
        | exact ⟨((HA2.out.set2 _).alloc _).1, _, _, _, _, _, _, _, (HA2.out.set2 _).alloc _, (HZ2.out.put (i := 2) _ hne3).alloc _, grown_alloc (grown_new HG2.out 2 _ hwb) _, rd_alloc (rd_put HR2.out (i := 2) _ hBb hne2) _⟩
        | (trace_state; fail)
  case rest =>
  have S6 := Lib.hid hcut
  go_upto_region 3 with fail
  go_cut [] (fun wx => RulSt w B R (L + 6) b wx)
  case first =>
    obtain ⟨zb, al, i, it, o, ot, p, pt, hA, hZ, hG, hRd⟩ := S6.out
    have HA := Lib.hid hA
    have HZ := Lib.hid hZ
    have HG := Lib.hid hG
    have HRd := Lib.hid hRd
    have zb2 : ¬ b = wc.heap.size := by omega
    have zR : ¬ wc.heap.size = R := by have := hRd.lt; omega
    obtain ⟨uz, ⟨uc0, uc1, uc2, uc3, uc4, uc5, uc6⟩, uf0, uf1, uf2, uf3, uf4, uf5, uf6⟩ := hA
    clear hZ hG hRd
    go_wp2_with fail
    go_region_law (go_simp; go_at_call 90; refine (pick_any 3 B R (L + 5) _ (by first | exact HRd.out | exact rd_drew HRd.out | exact rd_alloc HRd.out _ | exact rd_alloc (rd_drew HRd.out) _ | exact rd_drew (rd_alloc HRd.out _)) (by omega)).mono ?_; rintro e wN ⟨k, rfl, hk, gN, rN⟩; have hA2 : At7 wN b (.bool al) (.int .i64 i) (.int .i64 it) (.int .i64 o) (.int .i64 ot) (.int .i64 p) (.int .i64 pt) := HA.out.grown (by first | exact gN | exact (gW0 _).trans gN | exact (World.grownBy_alloc _ _ (some R)).trans gN | exact (gW2 _ _).trans gN | exact (gW3 _ _).trans gN) hne2; have HA2 := Lib.hid hA2; have HZ2 := Lib.hid (HZ.out.grown (by first | exact gN | exact (gW0 _).trans gN | exact (World.grownBy_alloc _ _ (some R)).trans gN | exact (gW2 _ _).trans gN | exact (gW3 _ _).trans gN) hne1); have HG2 := Lib.hid (HG.out.trans (by first | exact gN | exact (gW0 _).trans gN | exact (World.grownBy_alloc _ _ (some R)).trans gN | exact (gW2 _ _).trans gN | exact (gW3 _ _).trans gN)); have HR2 := Lib.hid rN; have hbN : b < wN.heap.size := hA2.1; have hbN2 : ¬ b = wN.heap.size := (by omega); obtain ⟨vz, ⟨vc0, vc1, vc2, vc3, vc4, vc5, vc6⟩, vf0, vf1, vf2, vf3, vf4, vf5, vf6⟩ := hA2; clear gN rN)
    all_goals
      go_wp2_with fail
      go_meet
      first
        | exact ⟨(HA2.out.set4 _).1, _, _, _, _, _, _, _, HA2.out.set4 _, HZ2.out.put (i := 4) _ hne3, grown_new HG2.out 4 _ hwb, rd_put HR2.out (i := 4) _ hBb hne2⟩
        | exact ⟨((HA2.out.set4 _).alloc _).1, _, _, _, _, _, _, _, (HA2.out.set4 _).alloc _, (HZ2.out.put (i := 4) _ hne3).alloc _, grown_alloc (grown_new HG2.out 4 _ hwb) _, rd_alloc (rd_put HR2.out (i := 4) _ hBb hne2) _⟩
        | (trace_state; fail)
  case rest =>
  have S7 := Lib.hid hcut
  go_upto_region 4 with fail
  go_cut [] (fun wx => RulSt w B R (L + 7) b wx)
  case first =>
    obtain ⟨zb, al, i, it, o, ot, p, pt, hA, hZ, hG, hRd⟩ := S7.out
    have HA := Lib.hid hA
    have HZ := Lib.hid hZ
    have HG := Lib.hid hG
    have HRd := Lib.hid hRd
    have zb2 : ¬ b = wc.heap.size := by omega
    have zR : ¬ wc.heap.size = R := by have := hRd.lt; omega
    obtain ⟨uz, ⟨uc0, uc1, uc2, uc3, uc4, uc5, uc6⟩, uf0, uf1, uf2, uf3, uf4, uf5, uf6⟩ := hA
    clear hZ hG hRd
    go_wp2_with fail
    go_region_law (go_simp; go_at_call 90; refine (pick_any 3 B R (L + 6) _ (by first | exact HRd.out | exact rd_drew HRd.out | exact rd_alloc HRd.out _ | exact rd_alloc (rd_drew HRd.out) _ | exact rd_drew (rd_alloc HRd.out _)) (by omega)).mono ?_; rintro e wN ⟨k, rfl, hk, gN, rN⟩; have hA2 : At7 wN b (.bool al) (.int .i64 i) (.int .i64 it) (.int .i64 o) (.int .i64 ot) (.int .i64 p) (.int .i64 pt) := HA.out.grown (by first | exact gN | exact (gW0 _).trans gN | exact (World.grownBy_alloc _ _ (some R)).trans gN | exact (gW2 _ _).trans gN | exact (gW3 _ _).trans gN) hne2; have HA2 := Lib.hid hA2; have HZ2 := Lib.hid (HZ.out.grown (by first | exact gN | exact (gW0 _).trans gN | exact (World.grownBy_alloc _ _ (some R)).trans gN | exact (gW2 _ _).trans gN | exact (gW3 _ _).trans gN) hne1); have HG2 := Lib.hid (HG.out.trans (by first | exact gN | exact (gW0 _).trans gN | exact (World.grownBy_alloc _ _ (some R)).trans gN | exact (gW2 _ _).trans gN | exact (gW3 _ _).trans gN)); have HR2 := Lib.hid rN; have hbN : b < wN.heap.size := hA2.1; have hbN2 : ¬ b = wN.heap.size := (by omega); obtain ⟨vz, ⟨vc0, vc1, vc2, vc3, vc4, vc5, vc6⟩, vf0, vf1, vf2, vf3, vf4, vf5, vf6⟩ := hA2; have hkn : k < 3 := (by omega); have hki : (k : Int) < 3 := (by omega); obtain ⟨pv, hpv, hpa⟩ := lit_at3 wN 999 21 p k hkn; (first | (have hpq := (gcell gN (b := wc.heap.size) (by simp) zR k).1.trans ((cell_new _ #[.int .i64 999, .int .i64 21, .int .i64 p] 3 k).1.trans hpa)) | (have hpq := (gcell gN (b := wc.heap.size) (by simp) zR k).1.trans ((cell_new wc.drew #[.int .i64 999, .int .i64 21, .int .i64 p] 3 k).1.trans hpa)) | skip); clear gN rN)
    all_goals
      go_wp2_with fail
      go_meet
      first
        | exact ⟨(HA2.out.set6 _).1, _, _, _, _, _, _, _, HA2.out.set6 _, HZ2.out.put (i := 6) _ hne3, grown_new HG2.out 6 _ hwb, rd_put HR2.out (i := 6) _ hBb hne2⟩
        | exact ⟨((HA2.out.set6 _).alloc _).1, _, _, _, _, _, _, _, (HA2.out.set6 _).alloc _, (HZ2.out.put (i := 6) _ hne3).alloc _, grown_alloc (grown_new HG2.out 6 _ hwb) _, rd_alloc (rd_put HR2.out (i := 6) _ hBb hne2) _⟩
        | (trace_state; fail)
  case rest =>
  have S8 := Lib.hid hcut
  obtain ⟨zb, al, i, it, o, ot, p, pt, hA, hZ, hG, hRd⟩ := S8.out
  have HA := Lib.hid hA
  have HZ := Lib.hid hZ
  have HG := Lib.hid hG
  have HRd := Lib.hid hRd
  obtain ⟨uz, ⟨uc0, uc1, uc2, uc3, uc4, uc5, uc6⟩, uf0, uf1, uf2, uf3, uf4, uf5, uf6⟩ := hA
  clear hZ hG hRd
  have tail : ∀ wx, RulSt w B R (L + 7) b wx → True := fun _ _ => trivial
  clear tail
  by_cases hlt : pt < p
  · go_upto_region 7 with fail
    refine wp_letter (RulSt w B R (L + 7) b) ⟨(HA.out.set6 _).1, _, _, _, _, _, _, _, HA.out.set6 _, HZ.out.put (i := 6) _ hne3, grown_new HG.out 6 _ hwb, rd_put HRd.out (i := 6) _ hBb hne2⟩ ?_
    clear HA HZ HG HRd uz uc0 uc1 uc2 uc3 uc4 uc5 uc6 uf0 uf1 uf2 uf3 uf4 uf5 uf6 hlt
    intro wc S9
    clear zb
    obtain ⟨zb, al, i, it, o, ot, p, pt, hA, hZ, hG, hRd⟩ := S9
    have HA := Lib.hid hA
    have HZ := Lib.hid hZ
    have HG := Lib.hid hG
    have HRd := Lib.hid hRd
    clear hA hZ hG hRd
    go_wp2_with fail
    (go_at_call 92; refine (odd_any m B R (L + 7) _ HRd.out (by omega) hm hm2).mono ?_; rintro e w6 ⟨bo, rfl, g6, r6⟩)
    have HA6 := Lib.hid (HA.out.grown g6 hne2)
    have HZ6 := Lib.hid (HZ.out.grown g6 hne1)
    have HG6 := Lib.hid (HG.out.trans g6)
    have HR6 := Lib.hid r6
    clear g6 r6 HA HZ HG HRd
    cases bo
    · go_upto_region 16 with fail
      refine wp_letter (RulSt w B R (L + 12) b) ?_ ?_
      · exact ⟨HA6.out.1, _, _, _, _, _, _, _, HA6.out, HZ6.out, HG6.out, HR6.out.mono (by omega)⟩
      · intro wx S10
        obtain ⟨zb, al, i, it, o, ot, p, pt, hA, hZ, hG, hRd⟩ := S10
        have HZ := Lib.hid hZ
        have HG := Lib.hid hG
        have HRd := Lib.hid hRd
        obtain ⟨uz, ⟨uc0, uc1, uc2, uc3, uc4, uc5, uc6⟩, uf0, uf1, uf2, uf3, uf4, uf5, uf6⟩ := hA
        obtain ⟨vz, ⟨vc0, vc1, vc2, vc3, vc4, vc5, vc6⟩, vf0, vf1, vf2, vf3, vf4, vf5, vf6⟩ := hZ
        clear hG hRd
        go_wp2_with fail
        obtain ⟨_, ⟨q0, q1, q2, q3, q4, q5, q6⟩, _⟩ := HZ.out.all (.bool al) (.int .i64 i) (.int .i64 it) (.int .i64 o) (.int .i64 ot) (.int .i64 p) (.int .i64 pt)
        refine bodyPost_ret (v := .agg #[.bool al, .int .i64 i, .int .i64 it, .int .i64 o, .int .i64 ot, .int .i64 p, .int .i64 pt]) (by simp [results, Tryz.results91, go_sem, q0, q1, q2, q3, q4, q5, q6]) rfl ⟨_, _, _, _, _, _, _, rfl, ?_, ?_⟩
        · exact grown_puts HG.out _ _ _ _ _ _ _ (Nat.le_refl _)
        · exact (rd_puts HRd.out _ _ _ _ _ _ _ hB1 hne1).mono (by omega)
    · go_wp2_with fail
      (go_at_call 90; refine (pick_any 4 B R (L + 8) _ HR6.out (by omega)).mono ?_; rintro e w8 ⟨c, rfl, hc, g8, r8⟩)
      have HA := Lib.hid (HA6.out.grown g8 hne2)
      have HZ := Lib.hid (HZ6.out.grown g8 hne1)
      have HG := Lib.hid (HG6.out.trans g8)
      have HRd := Lib.hid r8
      clear zb
      have zb : b < w8.heap.size := HA.out.1
      have zb2 : ¬ b = w8.heap.size := by omega
      have zR : ¬ w8.heap.size = R := by have := r8.lt; omega
      clear g8 r8 HA6 HZ6 HG6 HR6
      obtain ⟨uz, ⟨uc0, uc1, uc2, uc3, uc4, uc5, uc6⟩, uf0, uf1, uf2, uf3, uf4, uf5, uf6⟩ := HA.out
      by_cases c0 : c = 0
      · have e0 : ((c : Int) == 0) = true := by simp [c0]
        clear c0
        go_wp2_with fail
        (go_at_call 90; refine (pick_any 3 B R (L + 9) _ (by first | exact HRd.out | exact rd_drew HRd.out | exact rd_alloc HRd.out _ | exact rd_alloc (rd_drew HRd.out) _ | exact rd_drew (rd_alloc HRd.out _)) (by omega)).mono ?_; rintro e wN ⟨k, rfl, hk, gN, rN⟩; have hA2 : At7 wN b (.bool al) (.int .i64 i) (.int .i64 it) (.int .i64 o) (.int .i64 ot) (.int .i64 p) (.int .i64 pt) := HA.out.grown (by first | exact gN | exact (gW0 _).trans gN | exact (World.grownBy_alloc _ _ (some R)).trans gN | exact (gW2 _ _).trans gN | exact (gW3 _ _).trans gN) hne2; have HA2 := Lib.hid hA2; have HZ2 := Lib.hid (HZ.out.grown (by first | exact gN | exact (gW0 _).trans gN | exact (World.grownBy_alloc _ _ (some R)).trans gN | exact (gW2 _ _).trans gN | exact (gW3 _ _).trans gN) hne1); have HG2 := Lib.hid (HG.out.trans (by first | exact gN | exact (gW0 _).trans gN | exact (World.grownBy_alloc _ _ (some R)).trans gN | exact (gW2 _ _).trans gN | exact (gW3 _ _).trans gN)); have HR2 := Lib.hid rN; have hbN : b < wN.heap.size := hA2.1; have hbN2 : ¬ b = wN.heap.size := (by omega); obtain ⟨vz, ⟨vc0, vc1, vc2, vc3, vc4, vc5, vc6⟩, vf0, vf1, vf2, vf3, vf4, vf5, vf6⟩ := hA2; have hkn : k < 3 := (by omega); have hki : (k : Int) < 3 := (by omega); obtain ⟨pv, hpv, hpa⟩ := lit_at3 wN 0 9 (-1) k hkn; (first | (have hpq := (gcell gN (b := w8.heap.size) (by simp) zR k).1.trans ((cell_new _ #[.int .i64 0, .int .i64 9, .int .i64 (-1)] 3 k).1.trans hpa)) | (have hpq := (gcell gN (b := w8.heap.size) (by simp) zR k).1.trans ((cell_new w8.drew #[.int .i64 0, .int .i64 9, .int .i64 (-1)] 3 k).1.trans hpa)) | skip); clear gN rN)
        go_upto_region 16 with fail
        refine wp_letter (RulSt w B R (L + 12) b) ?_ ?_
        · first
            | exact ⟨(HA2.out.set1 _).1, _, _, _, _, _, _, _, HA2.out.set1 _, HZ2.out.put (i := 1) _ hne3, grown_new HG2.out 1 _ hwb, rd_put (HR2.out.mono (show L + 9 + 1 ≤ L + 12 by omega)) (i := 1) _ hBb hne2⟩
            | exact ⟨((HA2.out.set1 _).alloc _).1, _, _, _, _, _, _, _, (HA2.out.set1 _).alloc _, (HZ2.out.put (i := 1) _ hne3).alloc _, grown_alloc (grown_new HG2.out 1 _ hwb) _, rd_alloc (rd_put (HR2.out.mono (show L + 9 + 1 ≤ L + 12 by omega)) (i := 1) _ hBb hne2) _⟩
            | (trace_state; fail)
        · intro wx S10
          obtain ⟨zb, al, i, it, o, ot, p, pt, hA, hZ, hG, hRd⟩ := S10
          have HZ := Lib.hid hZ
          have HG := Lib.hid hG
          have HRd := Lib.hid hRd
          obtain ⟨uz, ⟨uc0, uc1, uc2, uc3, uc4, uc5, uc6⟩, uf0, uf1, uf2, uf3, uf4, uf5, uf6⟩ := hA
          obtain ⟨vz, ⟨vc0, vc1, vc2, vc3, vc4, vc5, vc6⟩, vf0, vf1, vf2, vf3, vf4, vf5, vf6⟩ := hZ
          clear hG hRd
          go_wp2_with fail
          obtain ⟨_, ⟨q0, q1, q2, q3, q4, q5, q6⟩, _⟩ := HZ.out.all (.bool al) (.int .i64 i) (.int .i64 it) (.int .i64 o) (.int .i64 ot) (.int .i64 p) (.int .i64 pt)
          refine bodyPost_ret (v := .agg #[.bool al, .int .i64 i, .int .i64 it, .int .i64 o, .int .i64 ot, .int .i64 p, .int .i64 pt]) (by simp [results, Tryz.results91, go_sem, q0, q1, q2, q3, q4, q5, q6]) rfl ⟨_, _, _, _, _, _, _, rfl, ?_, ?_⟩
          · exact grown_puts HG.out _ _ _ _ _ _ _ (Nat.le_refl _)
          · exact (rd_puts HRd.out _ _ _ _ _ _ _ hB1 hne1).mono (by omega)
      · have e0 : ((c : Int) == 0) = false := by rw [beq_eq_false_iff_ne]; omega
        clear c0
        by_cases c1 : c = 1
        · have e1 : ((c : Int) == 1) = true := by simp [c1]
          clear c1
          go_wp2_with fail
          (go_at_call 90; refine (pick_any 2 B R (L + 9) _ (by first | exact HRd.out | exact rd_drew HRd.out | exact rd_alloc HRd.out _ | exact rd_alloc (rd_drew HRd.out) _ | exact rd_drew (rd_alloc HRd.out _)) (by omega)).mono ?_; rintro e wN ⟨k, rfl, hk, gN, rN⟩; have hA2 : At7 wN b (.bool al) (.int .i64 i) (.int .i64 it) (.int .i64 o) (.int .i64 ot) (.int .i64 p) (.int .i64 pt) := HA.out.grown (by first | exact gN | exact (gW0 _).trans gN | exact (World.grownBy_alloc _ _ (some R)).trans gN | exact (gW2 _ _).trans gN | exact (gW3 _ _).trans gN) hne2; have HA2 := Lib.hid hA2; have HZ2 := Lib.hid (HZ.out.grown (by first | exact gN | exact (gW0 _).trans gN | exact (World.grownBy_alloc _ _ (some R)).trans gN | exact (gW2 _ _).trans gN | exact (gW3 _ _).trans gN) hne1); have HG2 := Lib.hid (HG.out.trans (by first | exact gN | exact (gW0 _).trans gN | exact (World.grownBy_alloc _ _ (some R)).trans gN | exact (gW2 _ _).trans gN | exact (gW3 _ _).trans gN)); have HR2 := Lib.hid rN; have hbN : b < wN.heap.size := hA2.1; have hbN2 : ¬ b = wN.heap.size := (by omega); obtain ⟨vz, ⟨vc0, vc1, vc2, vc3, vc4, vc5, vc6⟩, vf0, vf1, vf2, vf3, vf4, vf5, vf6⟩ := hA2; have hkn : k < 2 := (by omega); have hki : (k : Int) < 2 := (by omega); obtain ⟨pv, hpv, hpa⟩ := lit_at2 wN 110 99 k hkn; (first | (have hpq := (gcell gN (b := w8.heap.size) (by simp) zR k).1.trans ((cell_new _ #[.int .i64 110, .int .i64 99] 3 k).1.trans hpa)) | (have hpq := (gcell gN (b := w8.heap.size) (by simp) zR k).1.trans ((cell_new w8.drew #[.int .i64 110, .int .i64 99] 3 k).1.trans hpa)) | skip); clear gN rN)
          go_upto_region 16 with fail
          refine wp_letter (RulSt w B R (L + 12) b) ?_ ?_
          · first
              | exact ⟨(HA2.out.set4 _).1, _, _, _, _, _, _, _, HA2.out.set4 _, HZ2.out.put (i := 4) _ hne3, grown_new HG2.out 4 _ hwb, rd_put (HR2.out.mono (show L + 9 + 1 ≤ L + 12 by omega)) (i := 4) _ hBb hne2⟩
              | exact ⟨((HA2.out.set4 _).alloc _).1, _, _, _, _, _, _, _, (HA2.out.set4 _).alloc _, (HZ2.out.put (i := 4) _ hne3).alloc _, grown_alloc (grown_new HG2.out 4 _ hwb) _, rd_alloc (rd_put (HR2.out.mono (show L + 9 + 1 ≤ L + 12 by omega)) (i := 4) _ hBb hne2) _⟩
              | (trace_state; fail)
          · intro wx S10
            obtain ⟨zb, al, i, it, o, ot, p, pt, hA, hZ, hG, hRd⟩ := S10
            have HZ := Lib.hid hZ
            have HG := Lib.hid hG
            have HRd := Lib.hid hRd
            obtain ⟨uz, ⟨uc0, uc1, uc2, uc3, uc4, uc5, uc6⟩, uf0, uf1, uf2, uf3, uf4, uf5, uf6⟩ := hA
            obtain ⟨vz, ⟨vc0, vc1, vc2, vc3, vc4, vc5, vc6⟩, vf0, vf1, vf2, vf3, vf4, vf5, vf6⟩ := hZ
            clear hG hRd
            go_wp2_with fail
            obtain ⟨_, ⟨q0, q1, q2, q3, q4, q5, q6⟩, _⟩ := HZ.out.all (.bool al) (.int .i64 i) (.int .i64 it) (.int .i64 o) (.int .i64 ot) (.int .i64 p) (.int .i64 pt)
            refine bodyPost_ret (v := .agg #[.bool al, .int .i64 i, .int .i64 it, .int .i64 o, .int .i64 ot, .int .i64 p, .int .i64 pt]) (by simp [results, Tryz.results91, go_sem, q0, q1, q2, q3, q4, q5, q6]) rfl ⟨_, _, _, _, _, _, _, rfl, ?_, ?_⟩
            · exact grown_puts HG.out _ _ _ _ _ _ _ (Nat.le_refl _)
            · exact (rd_puts HRd.out _ _ _ _ _ _ _ hB1 hne1).mono (by omega)
        · have e1 : ((c : Int) == 1) = false := by rw [beq_eq_false_iff_ne]; omega
          clear c1
          by_cases c2 : c = 2
          · have e2 : ((c : Int) == 2) = true := by simp [c2]
            clear c2
            go_wp2_with fail
            (go_at_call 90; refine (pick_any 2 B R (L + 9) _ (by first | exact HRd.out | exact rd_drew HRd.out | exact rd_alloc HRd.out _ | exact rd_alloc (rd_drew HRd.out) _ | exact rd_drew (rd_alloc HRd.out _)) (by omega)).mono ?_; rintro e wN ⟨k, rfl, hk, gN, rN⟩; have hA2 : At7 wN b (.bool al) (.int .i64 i) (.int .i64 it) (.int .i64 o) (.int .i64 ot) (.int .i64 p) (.int .i64 pt) := HA.out.grown (by first | exact gN | exact (gW0 _).trans gN | exact (World.grownBy_alloc _ _ (some R)).trans gN | exact (gW2 _ _).trans gN | exact (gW3 _ _).trans gN) hne2; have HA2 := Lib.hid hA2; have HZ2 := Lib.hid (HZ.out.grown (by first | exact gN | exact (gW0 _).trans gN | exact (World.grownBy_alloc _ _ (some R)).trans gN | exact (gW2 _ _).trans gN | exact (gW3 _ _).trans gN) hne1); have HG2 := Lib.hid (HG.out.trans (by first | exact gN | exact (gW0 _).trans gN | exact (World.grownBy_alloc _ _ (some R)).trans gN | exact (gW2 _ _).trans gN | exact (gW3 _ _).trans gN)); have HR2 := Lib.hid rN; have hbN : b < wN.heap.size := hA2.1; have hbN2 : ¬ b = wN.heap.size := (by omega); obtain ⟨vz, ⟨vc0, vc1, vc2, vc3, vc4, vc5, vc6⟩, vf0, vf1, vf2, vf3, vf4, vf5, vf6⟩ := hA2; have hkn : k < 2 := (by omega); have hki : (k : Int) < 2 := (by omega); obtain ⟨pv, hpv, hpa⟩ := lit_at2 wN 0 1000 k hkn; (first | (have hpq := (gcell gN (b := w8.heap.size) (by simp) zR k).1.trans ((cell_new _ #[.int .i64 0, .int .i64 1000] 3 k).1.trans hpa)) | (have hpq := (gcell gN (b := w8.heap.size) (by simp) zR k).1.trans ((cell_new w8.drew #[.int .i64 0, .int .i64 1000] 3 k).1.trans hpa)) | skip); clear gN rN)
            go_upto_region 16 with fail
            refine wp_letter (RulSt w B R (L + 12) b) ?_ ?_
            · first
                | exact ⟨(HA2.out.set6 _).1, _, _, _, _, _, _, _, HA2.out.set6 _, HZ2.out.put (i := 6) _ hne3, grown_new HG2.out 6 _ hwb, rd_put (HR2.out.mono (show L + 9 + 1 ≤ L + 12 by omega)) (i := 6) _ hBb hne2⟩
                | exact ⟨((HA2.out.set6 _).alloc _).1, _, _, _, _, _, _, _, (HA2.out.set6 _).alloc _, (HZ2.out.put (i := 6) _ hne3).alloc _, grown_alloc (grown_new HG2.out 6 _ hwb) _, rd_alloc (rd_put (HR2.out.mono (show L + 9 + 1 ≤ L + 12 by omega)) (i := 6) _ hBb hne2) _⟩
                | (trace_state; fail)
            · intro wx S10
              obtain ⟨zb, al, i, it, o, ot, p, pt, hA, hZ, hG, hRd⟩ := S10
              have HZ := Lib.hid hZ
              have HG := Lib.hid hG
              have HRd := Lib.hid hRd
              obtain ⟨uz, ⟨uc0, uc1, uc2, uc3, uc4, uc5, uc6⟩, uf0, uf1, uf2, uf3, uf4, uf5, uf6⟩ := hA
              obtain ⟨vz, ⟨vc0, vc1, vc2, vc3, vc4, vc5, vc6⟩, vf0, vf1, vf2, vf3, vf4, vf5, vf6⟩ := hZ
              clear hG hRd
              go_wp2_with fail
              obtain ⟨_, ⟨q0, q1, q2, q3, q4, q5, q6⟩, _⟩ := HZ.out.all (.bool al) (.int .i64 i) (.int .i64 it) (.int .i64 o) (.int .i64 ot) (.int .i64 p) (.int .i64 pt)
              refine bodyPost_ret (v := .agg #[.bool al, .int .i64 i, .int .i64 it, .int .i64 o, .int .i64 ot, .int .i64 p, .int .i64 pt]) (by simp [results, Tryz.results91, go_sem, q0, q1, q2, q3, q4, q5, q6]) rfl ⟨_, _, _, _, _, _, _, rfl, ?_, ?_⟩
              · exact grown_puts HG.out _ _ _ _ _ _ _ (Nat.le_refl _)
              · exact (rd_puts HRd.out _ _ _ _ _ _ _ hB1 hne1).mono (by omega)
          · have e2 : ((c : Int) == 2) = false := by rw [beq_eq_false_iff_ne]; omega
            clear c2
            go_upto_region 16 with fail
            refine wp_letter (RulSt w B R (L + 12) b) ?_ ?_
            · first
                | exact ⟨(HA.out.set2 _).1, _, _, _, _, _, _, _, HA.out.set2 _, HZ.out.put (i := 2) _ hne3, grown_new HG.out 2 _ hwb, rd_put (HRd.out.mono (show L + 8 + 1 ≤ L + 12 by omega)) (i := 2) _ hBb hne2⟩
                | exact ⟨((HA.out.set2 _).alloc _).1, _, _, _, _, _, _, _, (HA.out.set2 _).alloc _, (HZ.out.put (i := 2) _ hne3).alloc _, grown_alloc (grown_new HG.out 2 _ hwb) _, rd_alloc (rd_put (HRd.out.mono (show L + 8 + 1 ≤ L + 12 by omega)) (i := 2) _ hBb hne2) _⟩
                | (trace_state; fail)
            · intro wx S10
              obtain ⟨zb, al, i, it, o, ot, p, pt, hA, hZ, hG, hRd⟩ := S10
              have HZ := Lib.hid hZ
              have HG := Lib.hid hG
              have HRd := Lib.hid hRd
              obtain ⟨uz, ⟨uc0, uc1, uc2, uc3, uc4, uc5, uc6⟩, uf0, uf1, uf2, uf3, uf4, uf5, uf6⟩ := hA
              obtain ⟨vz, ⟨vc0, vc1, vc2, vc3, vc4, vc5, vc6⟩, vf0, vf1, vf2, vf3, vf4, vf5, vf6⟩ := hZ
              clear hG hRd
              go_wp2_with fail
              obtain ⟨_, ⟨q0, q1, q2, q3, q4, q5, q6⟩, _⟩ := HZ.out.all (.bool al) (.int .i64 i) (.int .i64 it) (.int .i64 o) (.int .i64 ot) (.int .i64 p) (.int .i64 pt)
              refine bodyPost_ret (v := .agg #[.bool al, .int .i64 i, .int .i64 it, .int .i64 o, .int .i64 ot, .int .i64 p, .int .i64 pt]) (by simp [results, Tryz.results91, go_sem, q0, q1, q2, q3, q4, q5, q6]) rfl ⟨_, _, _, _, _, _, _, rfl, ?_, ?_⟩
              · exact grown_puts HG.out _ _ _ _ _ _ _ (Nat.le_refl _)
              · exact (rd_puts HRd.out _ _ _ _ _ _ _ hB1 hne1).mono (by omega)
  · go_upto_region 7 with fail
    refine wp_letter (RulSt w B R (L + 7) b) ⟨HA.out.1, _, _, _, _, _, _, _, HA.out, HZ.out, HG.out, HRd.out⟩ ?_
    clear HA HZ HG HRd uz uc0 uc1 uc2 uc3 uc4 uc5 uc6 uf0 uf1 uf2 uf3 uf4 uf5 uf6 hlt
    intro wc S9
    clear zb
    obtain ⟨zb, al, i, it, o, ot, p, pt, hA, hZ, hG, hRd⟩ := S9
    have HA := Lib.hid hA
    have HZ := Lib.hid hZ
    have HG := Lib.hid hG
    have HRd := Lib.hid hRd
    clear hA hZ hG hRd
    go_wp2_with fail
    (go_at_call 92; refine (odd_any m B R (L + 7) _ HRd.out (by omega) hm hm2).mono ?_; rintro e w6 ⟨bo, rfl, g6, r6⟩)
    have HA6 := Lib.hid (HA.out.grown g6 hne2)
    have HZ6 := Lib.hid (HZ.out.grown g6 hne1)
    have HG6 := Lib.hid (HG.out.trans g6)
    have HR6 := Lib.hid r6
    clear g6 r6 HA HZ HG HRd
    cases bo
    · go_upto_region 16 with fail
      refine wp_letter (RulSt w B R (L + 12) b) ?_ ?_
      · exact ⟨HA6.out.1, _, _, _, _, _, _, _, HA6.out, HZ6.out, HG6.out, HR6.out.mono (by omega)⟩
      · intro wx S10
        obtain ⟨zb, al, i, it, o, ot, p, pt, hA, hZ, hG, hRd⟩ := S10
        have HZ := Lib.hid hZ
        have HG := Lib.hid hG
        have HRd := Lib.hid hRd
        obtain ⟨uz, ⟨uc0, uc1, uc2, uc3, uc4, uc5, uc6⟩, uf0, uf1, uf2, uf3, uf4, uf5, uf6⟩ := hA
        obtain ⟨vz, ⟨vc0, vc1, vc2, vc3, vc4, vc5, vc6⟩, vf0, vf1, vf2, vf3, vf4, vf5, vf6⟩ := hZ
        clear hG hRd
        go_wp2_with fail
        obtain ⟨_, ⟨q0, q1, q2, q3, q4, q5, q6⟩, _⟩ := HZ.out.all (.bool al) (.int .i64 i) (.int .i64 it) (.int .i64 o) (.int .i64 ot) (.int .i64 p) (.int .i64 pt)
        refine bodyPost_ret (v := .agg #[.bool al, .int .i64 i, .int .i64 it, .int .i64 o, .int .i64 ot, .int .i64 p, .int .i64 pt]) (by simp [results, Tryz.results91, go_sem, q0, q1, q2, q3, q4, q5, q6]) rfl ⟨_, _, _, _, _, _, _, rfl, ?_, ?_⟩
        · exact grown_puts HG.out _ _ _ _ _ _ _ (Nat.le_refl _)
        · exact (rd_puts HRd.out _ _ _ _ _ _ _ hB1 hne1).mono (by omega)
    · go_wp2_with fail
      (go_at_call 90; refine (pick_any 4 B R (L + 8) _ HR6.out (by omega)).mono ?_; rintro e w8 ⟨c, rfl, hc, g8, r8⟩)
      have HA := Lib.hid (HA6.out.grown g8 hne2)
      have HZ := Lib.hid (HZ6.out.grown g8 hne1)
      have HG := Lib.hid (HG6.out.trans g8)
      have HRd := Lib.hid r8
      clear zb
      have zb : b < w8.heap.size := HA.out.1
      have zb2 : ¬ b = w8.heap.size := by omega
      have zR : ¬ w8.heap.size = R := by have := r8.lt; omega
      clear g8 r8 HA6 HZ6 HG6 HR6
      obtain ⟨uz, ⟨uc0, uc1, uc2, uc3, uc4, uc5, uc6⟩, uf0, uf1, uf2, uf3, uf4, uf5, uf6⟩ := HA.out
      by_cases c0 : c = 0
      · have e0 : ((c : Int) == 0) = true := by simp [c0]
        clear c0
        go_wp2_with fail
        (go_at_call 90; refine (pick_any 3 B R (L + 9) _ (by first | exact HRd.out | exact rd_drew HRd.out | exact rd_alloc HRd.out _ | exact rd_alloc (rd_drew HRd.out) _ | exact rd_drew (rd_alloc HRd.out _)) (by omega)).mono ?_; rintro e wN ⟨k, rfl, hk, gN, rN⟩; have hA2 : At7 wN b (.bool al) (.int .i64 i) (.int .i64 it) (.int .i64 o) (.int .i64 ot) (.int .i64 p) (.int .i64 pt) := HA.out.grown (by first | exact gN | exact (gW0 _).trans gN | exact (World.grownBy_alloc _ _ (some R)).trans gN | exact (gW2 _ _).trans gN | exact (gW3 _ _).trans gN) hne2; have HA2 := Lib.hid hA2; have HZ2 := Lib.hid (HZ.out.grown (by first | exact gN | exact (gW0 _).trans gN | exact (World.grownBy_alloc _ _ (some R)).trans gN | exact (gW2 _ _).trans gN | exact (gW3 _ _).trans gN) hne1); have HG2 := Lib.hid (HG.out.trans (by first | exact gN | exact (gW0 _).trans gN | exact (World.grownBy_alloc _ _ (some R)).trans gN | exact (gW2 _ _).trans gN | exact (gW3 _ _).trans gN)); have HR2 := Lib.hid rN; have hbN : b < wN.heap.size := hA2.1; have hbN2 : ¬ b = wN.heap.size := (by omega); obtain ⟨vz, ⟨vc0, vc1, vc2, vc3, vc4, vc5, vc6⟩, vf0, vf1, vf2, vf3, vf4, vf5, vf6⟩ := hA2; have hkn : k < 3 := (by omega); have hki : (k : Int) < 3 := (by omega); obtain ⟨pv, hpv, hpa⟩ := lit_at3 wN 0 9 (-1) k hkn; (first | (have hpq := (gcell gN (b := w8.heap.size) (by simp) zR k).1.trans ((cell_new _ #[.int .i64 0, .int .i64 9, .int .i64 (-1)] 3 k).1.trans hpa)) | (have hpq := (gcell gN (b := w8.heap.size) (by simp) zR k).1.trans ((cell_new w8.drew #[.int .i64 0, .int .i64 9, .int .i64 (-1)] 3 k).1.trans hpa)) | skip); clear gN rN)
        go_upto_region 16 with fail
        refine wp_letter (RulSt w B R (L + 12) b) ?_ ?_
        · first
            | exact ⟨(HA2.out.set1 _).1, _, _, _, _, _, _, _, HA2.out.set1 _, HZ2.out.put (i := 1) _ hne3, grown_new HG2.out 1 _ hwb, rd_put (HR2.out.mono (show L + 9 + 1 ≤ L + 12 by omega)) (i := 1) _ hBb hne2⟩
            | exact ⟨((HA2.out.set1 _).alloc _).1, _, _, _, _, _, _, _, (HA2.out.set1 _).alloc _, (HZ2.out.put (i := 1) _ hne3).alloc _, grown_alloc (grown_new HG2.out 1 _ hwb) _, rd_alloc (rd_put (HR2.out.mono (show L + 9 + 1 ≤ L + 12 by omega)) (i := 1) _ hBb hne2) _⟩
            | (trace_state; fail)
        · intro wx S10
          obtain ⟨zb, al, i, it, o, ot, p, pt, hA, hZ, hG, hRd⟩ := S10
          have HZ := Lib.hid hZ
          have HG := Lib.hid hG
          have HRd := Lib.hid hRd
          obtain ⟨uz, ⟨uc0, uc1, uc2, uc3, uc4, uc5, uc6⟩, uf0, uf1, uf2, uf3, uf4, uf5, uf6⟩ := hA
          obtain ⟨vz, ⟨vc0, vc1, vc2, vc3, vc4, vc5, vc6⟩, vf0, vf1, vf2, vf3, vf4, vf5, vf6⟩ := hZ
          clear hG hRd
          go_wp2_with fail
          obtain ⟨_, ⟨q0, q1, q2, q3, q4, q5, q6⟩, _⟩ := HZ.out.all (.bool al) (.int .i64 i) (.int .i64 it) (.int .i64 o) (.int .i64 ot) (.int .i64 p) (.int .i64 pt)
          refine bodyPost_ret (v := .agg #[.bool al, .int .i64 i, .int .i64 it, .int .i64 o, .int .i64 ot, .int .i64 p, .int .i64 pt]) (by simp [results, Tryz.results91, go_sem, q0, q1, q2, q3, q4, q5, q6]) rfl ⟨_, _, _, _, _, _, _, rfl, ?_, ?_⟩
          · exact grown_puts HG.out _ _ _ _ _ _ _ (Nat.le_refl _)
          · exact (rd_puts HRd.out _ _ _ _ _ _ _ hB1 hne1).mono (by omega)
      · have e0 : ((c : Int) == 0) = false := by rw [beq_eq_false_iff_ne]; omega
        clear c0
        by_cases c1 : c = 1
        · have e1 : ((c : Int) == 1) = true := by simp [c1]
          clear c1
          go_wp2_with fail
          (go_at_call 90; refine (pick_any 2 B R (L + 9) _ (by first | exact HRd.out | exact rd_drew HRd.out | exact rd_alloc HRd.out _ | exact rd_alloc (rd_drew HRd.out) _ | exact rd_drew (rd_alloc HRd.out _)) (by omega)).mono ?_; rintro e wN ⟨k, rfl, hk, gN, rN⟩; have hA2 : At7 wN b (.bool al) (.int .i64 i) (.int .i64 it) (.int .i64 o) (.int .i64 ot) (.int .i64 p) (.int .i64 pt) := HA.out.grown (by first | exact gN | exact (gW0 _).trans gN | exact (World.grownBy_alloc _ _ (some R)).trans gN | exact (gW2 _ _).trans gN | exact (gW3 _ _).trans gN) hne2; have HA2 := Lib.hid hA2; have HZ2 := Lib.hid (HZ.out.grown (by first | exact gN | exact (gW0 _).trans gN | exact (World.grownBy_alloc _ _ (some R)).trans gN | exact (gW2 _ _).trans gN | exact (gW3 _ _).trans gN) hne1); have HG2 := Lib.hid (HG.out.trans (by first | exact gN | exact (gW0 _).trans gN | exact (World.grownBy_alloc _ _ (some R)).trans gN | exact (gW2 _ _).trans gN | exact (gW3 _ _).trans gN)); have HR2 := Lib.hid rN; have hbN : b < wN.heap.size := hA2.1; have hbN2 : ¬ b = wN.heap.size := (by omega); obtain ⟨vz, ⟨vc0, vc1, vc2, vc3, vc4, vc5, vc6⟩, vf0, vf1, vf2, vf3, vf4, vf5, vf6⟩ := hA2; have hkn : k < 2 := (by omega); have hki : (k : Int) < 2 := (by omega); obtain ⟨pv, hpv, hpa⟩ := lit_at2 wN 110 99 k hkn; (first | (have hpq := (gcell gN (b := w8.heap.size) (by simp) zR k).1.trans ((cell_new _ #[.int .i64 110, .int .i64 99] 3 k).1.trans hpa)) | (have hpq := (gcell gN (b := w8.heap.size) (by simp) zR k).1.trans ((cell_new w8.drew #[.int .i64 110, .int .i64 99] 3 k).1.trans hpa)) | skip); clear gN rN)
          go_upto_region 16 with fail
          refine wp_letter (RulSt w B R (L + 12) b) ?_ ?_
          · first
              | exact ⟨(HA2.out.set4 _).1, _, _, _, _, _, _, _, HA2.out.set4 _, HZ2.out.put (i := 4) _ hne3, grown_new HG2.out 4 _ hwb, rd_put (HR2.out.mono (show L + 9 + 1 ≤ L + 12 by omega)) (i := 4) _ hBb hne2⟩
              | exact ⟨((HA2.out.set4 _).alloc _).1, _, _, _, _, _, _, _, (HA2.out.set4 _).alloc _, (HZ2.out.put (i := 4) _ hne3).alloc _, grown_alloc (grown_new HG2.out 4 _ hwb) _, rd_alloc (rd_put (HR2.out.mono (show L + 9 + 1 ≤ L + 12 by omega)) (i := 4) _ hBb hne2) _⟩
              | (trace_state; fail)
          · intro wx S10
            obtain ⟨zb, al, i, it, o, ot, p, pt, hA, hZ, hG, hRd⟩ := S10
            have HZ := Lib.hid hZ
            have HG := Lib.hid hG
            have HRd := Lib.hid hRd
            obtain ⟨uz, ⟨uc0, uc1, uc2, uc3, uc4, uc5, uc6⟩, uf0, uf1, uf2, uf3, uf4, uf5, uf6⟩ := hA
            obtain ⟨vz, ⟨vc0, vc1, vc2, vc3, vc4, vc5, vc6⟩, vf0, vf1, vf2, vf3, vf4, vf5, vf6⟩ := hZ
            clear hG hRd
            go_wp2_with fail
            obtain ⟨_, ⟨q0, q1, q2, q3, q4, q5, q6⟩, _⟩ := HZ.out.all (.bool al) (.int .i64 i) (.int .i64 it) (.int .i64 o) (.int .i64 ot) (.int .i64 p) (.int .i64 pt)
            refine bodyPost_ret (v := .agg #[.bool al, .int .i64 i, .int .i64 it, .int .i64 o, .int .i64 ot, .int .i64 p, .int .i64 pt]) (by simp [results, Tryz.results91, go_sem, q0, q1, q2, q3, q4, q5, q6]) rfl ⟨_, _, _, _, _, _, _, rfl, ?_, ?_⟩
            · exact grown_puts HG.out _ _ _ _ _ _ _ (Nat.le_refl _)
            · exact (rd_puts HRd.out _ _ _ _ _ _ _ hB1 hne1).mono (by omega)
        · have e1 : ((c : Int) == 1) = false := by rw [beq_eq_false_iff_ne]; omega
          clear c1
          by_cases c2 : c = 2
          · have e2 : ((c : Int) == 2) = true := by simp [c2]
            clear c2
            go_wp2_with fail
            (go_at_call 90; refine (pick_any 2 B R (L + 9) _ (by first | exact HRd.out | exact rd_drew HRd.out | exact rd_alloc HRd.out _ | exact rd_alloc (rd_drew HRd.out) _ | exact rd_drew (rd_alloc HRd.out _)) (by omega)).mono ?_; rintro e wN ⟨k, rfl, hk, gN, rN⟩; have hA2 : At7 wN b (.bool al) (.int .i64 i) (.int .i64 it) (.int .i64 o) (.int .i64 ot) (.int .i64 p) (.int .i64 pt) := HA.out.grown (by first | exact gN | exact (gW0 _).trans gN | exact (World.grownBy_alloc _ _ (some R)).trans gN | exact (gW2 _ _).trans gN | exact (gW3 _ _).trans gN) hne2; have HA2 := Lib.hid hA2; have HZ2 := Lib.hid (HZ.out.grown (by first | exact gN | exact (gW0 _).trans gN | exact (World.grownBy_alloc _ _ (some R)).trans gN | exact (gW2 _ _).trans gN | exact (gW3 _ _).trans gN) hne1); have HG2 := Lib.hid (HG.out.trans (by first | exact gN | exact (gW0 _).trans gN | exact (World.grownBy_alloc _ _ (some R)).trans gN | exact (gW2 _ _).trans gN | exact (gW3 _ _).trans gN)); have HR2 := Lib.hid rN; have hbN : b < wN.heap.size := hA2.1; have hbN2 : ¬ b = wN.heap.size := (by omega); obtain ⟨vz, ⟨vc0, vc1, vc2, vc3, vc4, vc5, vc6⟩, vf0, vf1, vf2, vf3, vf4, vf5, vf6⟩ := hA2; have hkn : k < 2 := (by omega); have hki : (k : Int) < 2 := (by omega); obtain ⟨pv, hpv, hpa⟩ := lit_at2 wN 0 1000 k hkn; (first | (have hpq := (gcell gN (b := w8.heap.size) (by simp) zR k).1.trans ((cell_new _ #[.int .i64 0, .int .i64 1000] 3 k).1.trans hpa)) | (have hpq := (gcell gN (b := w8.heap.size) (by simp) zR k).1.trans ((cell_new w8.drew #[.int .i64 0, .int .i64 1000] 3 k).1.trans hpa)) | skip); clear gN rN)
            go_upto_region 16 with fail
            refine wp_letter (RulSt w B R (L + 12) b) ?_ ?_
            · first
                | exact ⟨(HA2.out.set6 _).1, _, _, _, _, _, _, _, HA2.out.set6 _, HZ2.out.put (i := 6) _ hne3, grown_new HG2.out 6 _ hwb, rd_put (HR2.out.mono (show L + 9 + 1 ≤ L + 12 by omega)) (i := 6) _ hBb hne2⟩
                | exact ⟨((HA2.out.set6 _).alloc _).1, _, _, _, _, _, _, _, (HA2.out.set6 _).alloc _, (HZ2.out.put (i := 6) _ hne3).alloc _, grown_alloc (grown_new HG2.out 6 _ hwb) _, rd_alloc (rd_put (HR2.out.mono (show L + 9 + 1 ≤ L + 12 by omega)) (i := 6) _ hBb hne2) _⟩
                | (trace_state; fail)
            · intro wx S10
              obtain ⟨zb, al, i, it, o, ot, p, pt, hA, hZ, hG, hRd⟩ := S10
              have HZ := Lib.hid hZ
              have HG := Lib.hid hG
              have HRd := Lib.hid hRd
              obtain ⟨uz, ⟨uc0, uc1, uc2, uc3, uc4, uc5, uc6⟩, uf0, uf1, uf2, uf3, uf4, uf5, uf6⟩ := hA
              obtain ⟨vz, ⟨vc0, vc1, vc2, vc3, vc4, vc5, vc6⟩, vf0, vf1, vf2, vf3, vf4, vf5, vf6⟩ := hZ
              clear hG hRd
              go_wp2_with fail
              obtain ⟨_, ⟨q0, q1, q2, q3, q4, q5, q6⟩, _⟩ := HZ.out.all (.bool al) (.int .i64 i) (.int .i64 it) (.int .i64 o) (.int .i64 ot) (.int .i64 p) (.int .i64 pt)
              refine bodyPost_ret (v := .agg #[.bool al, .int .i64 i, .int .i64 it, .int .i64 o, .int .i64 ot, .int .i64 p, .int .i64 pt]) (by simp [results, Tryz.results91, go_sem, q0, q1, q2, q3, q4, q5, q6]) rfl ⟨_, _, _, _, _, _, _, rfl, ?_, ?_⟩
              · exact grown_puts HG.out _ _ _ _ _ _ _ (Nat.le_refl _)
              · exact (rd_puts HRd.out _ _ _ _ _ _ _ hB1 hne1).mono (by omega)
          · have e2 : ((c : Int) == 2) = false := by rw [beq_eq_false_iff_ne]; omega
            clear c2
            go_upto_region 16 with fail
            refine wp_letter (RulSt w B R (L + 12) b) ?_ ?_
            · first
                | exact ⟨(HA.out.set2 _).1, _, _, _, _, _, _, _, HA.out.set2 _, HZ.out.put (i := 2) _ hne3, grown_new HG.out 2 _ hwb, rd_put (HRd.out.mono (show L + 8 + 1 ≤ L + 12 by omega)) (i := 2) _ hBb hne2⟩
                | exact ⟨((HA.out.set2 _).alloc _).1, _, _, _, _, _, _, _, (HA.out.set2 _).alloc _, (HZ.out.put (i := 2) _ hne3).alloc _, grown_alloc (grown_new HG.out 2 _ hwb) _, rd_alloc (rd_put (HRd.out.mono (show L + 8 + 1 ≤ L + 12 by omega)) (i := 2) _ hBb hne2) _⟩
                | (trace_state; fail)
            · intro wx S10
              obtain ⟨zb, al, i, it, o, ot, p, pt, hA, hZ, hG, hRd⟩ := S10
              have HZ := Lib.hid hZ
              have HG := Lib.hid hG
              have HRd := Lib.hid hRd
              obtain ⟨uz, ⟨uc0, uc1, uc2, uc3, uc4, uc5, uc6⟩, uf0, uf1, uf2, uf3, uf4, uf5, uf6⟩ := hA
              obtain ⟨vz, ⟨vc0, vc1, vc2, vc3, vc4, vc5, vc6⟩, vf0, vf1, vf2, vf3, vf4, vf5, vf6⟩ := hZ
              clear hG hRd
              go_wp2_with fail
              obtain ⟨_, ⟨q0, q1, q2, q3, q4, q5, q6⟩, _⟩ := HZ.out.all (.bool al) (.int .i64 i) (.int .i64 it) (.int .i64 o) (.int .i64 ot) (.int .i64 p) (.int .i64 pt)
              refine bodyPost_ret (v := .agg #[.bool al, .int .i64 i, .int .i64 it, .int .i64 o, .int .i64 ot, .int .i64 p, .int .i64 pt]) (by simp [results, Tryz.results91, go_sem, q0, q1, q2, q3, q4, q5, q6]) rfl ⟨_, _, _, _, _, _, _, rfl, ?_, ?_⟩
              · exact grown_puts HG.out _ _ _ _ _ _ _ (Nat.le_refl _)
              · exact (rd_puts HRd.out _ _ _ _ _ _ _ hB1 hne1).mono (by omega)

end Go.Proofs.YtglpijjkihpeeaaGreatDoor
