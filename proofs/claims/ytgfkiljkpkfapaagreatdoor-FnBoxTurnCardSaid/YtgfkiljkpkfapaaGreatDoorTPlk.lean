/- Plain facts on lines and streams: beginnings, two texts one behind the other, what no line has. No program. No condition. (Several texts, joined: DrawSeg, At7b, DrawRul, DrawRuls, DrawFT, StrLen, LinesP.) -/
import Derived.Test.YtgfkiljkpkfapaaGreatDoorTPlj
import Derived.Test.YtgfkiljkpkfapaaGreatDoorTPlh
import Derived.Test.YtgfkiljkpkfapaaGreatDoorRul
import Derived.Deep.DeepCutAuto
import Derived.Deep.RegionLaw
import Derived.Lib.SmallJoins
import Derived.Test.YtgfkiljkpkfapaaGreatDoorRulLaw
import Derived.Test.YtgfkiljkpkfapaaGreatDoorTPlb
import Derived.Test.YtgfkiljkpkfapaaGreatDoorTPld

/- The segments that are drawn. Conditions: the reader is there; its place is small. -/
namespace Go.Proofs.YtgfkiljkpkfapaaGreatDoor
open Go.RowKit

set_option maxRecDepth 100000 in
set_option maxHeartbeats 1600000 in
theorem data_any (B R L : Nat) (w : World) (h : Rd B R L w) (hL : L ≤ 998000) :
    Calls Tryz.prog 72 #[.pointer (some ⟨R, 0, none⟩)] w fun e w' => ∃ s : ByteArray, e = .returned (.string s) ∧ s.size ≤ 120 ∧ w.grownBy w' (some R) ∧ Rd B R (L + 51) w' := by
  have H := Lib.hid h
  clear h
  go_enter Tryz.func72, Tryz.ntmps72
  go_wp2_with fail
  (go_at_call 116; refine (stream_any B R L _ H.out (by omega)).mono ?_; rintro e w1 ⟨s, rfl, hs, g1, r1⟩)
  have R1 := Lib.hid r1
  have G1 := Lib.hid g1
  clear r1 g1
  go_wp2_with fail
  (go_at_call 27; refine (pick_any 13 B R (L + 50) _ R1.out (by omega)).mono ?_; rintro e w2 ⟨k, rfl, hk, g2, r2⟩)
  have R2 := Lib.hid r2
  have G2 := Lib.hid (G1.out.trans g2)
  clear r2 g2 hk
  by_cases hle : (s.size : Int) ≤ (k : Int)
  · go_wp2_with fail
    go_ret
    exact ⟨_, rfl, by first | exact hs | (simp; omega), G2.out, R2.out⟩
  · have hle2 : (k : Int) < (s.size : Int) := by omega
    have hle3 : (k : Int) ≤ (s.size : Int) := by omega
    go_wp2_with fail
    go_ret
    exact ⟨_, rfl, by first | exact hs | (simp; omega), G2.out, R2.out⟩

/-- What is drawn: a number of the sequence within bounds, and not much data. -/
def SegD (sq : Int) (d : ByteArray) : Prop := -1000000 ≤ sq ∧ sq ≤ 1000000 ∧ d.size ≤ 120

end Go.Proofs.YtgfkiljkpkfapaaGreatDoor

/- Seven cells that may be written, beside what is new. -/
namespace Go.Proofs.YtgfkiljkpkfapaaGreatDoor
open Go.RowKit

theorem At7.below {w w' : World} {b : Nat} {x0 x1 x2 x3 x4 x5 x6 : Value} (h : At7 w b x0 x1 x2 x3 x4 x5 x6) (hb : Below w.heap.size w w') : At7 w' b x0 x1 x2 x3 x4 x5 x6 := by
  obtain ⟨hlt, ⟨c0, c1, c2, c3, c4, c5, c6⟩, f0, f1, f2, f3, f4, f5, f6⟩ := h
  obtain ⟨c, f⟩ := bcell hb
  have s := hb.size
  exact ⟨by omega, ⟨(c _ _ hlt).trans c0, (c _ _ hlt).trans c1, (c _ _ hlt).trans c2, (c _ _ hlt).trans c3, (c _ _ hlt).trans c4, (c _ _ hlt).trans c5, (c _ _ hlt).trans c6⟩, (f _ _ hlt).trans f0, (f _ _ hlt).trans f1, (f _ _ hlt).trans f2, (f _ _ hlt).trans f3, (f _ _ hlt).trans f4, (f _ _ hlt).trans f5, (f _ _ hlt).trans f6⟩
theorem At7.alloc {w : World} {b : Nat} {x0 x1 x2 x3 x4 x5 x6 : Value} (h : At7 w b x0 x1 x2 x3 x4 x5 x6) (o : Obj) : At7 (w.alloc o) b x0 x1 x2 x3 x4 x5 x6 := h.below ((Below.refl _ w).alloc (Nat.le_refl _) o)

end Go.Proofs.YtgfkiljkpkfapaaGreatDoor

/- The rule that is drawn: some rule. No condition. -/
namespace Go.Proofs.YtgfkiljkpkfapaaGreatDoor
open Go.RowKit

theorem grD {w w' : World} {R : Nat} (h : w.grownBy w' (some R)) : w.grownBy w'.drew (some R) := h.trans ⟨rfl, rfl, rfl, Nat.le_refl _, fun _ _ _ => rfl⟩
theorem wp_letter {P : Program} {c : Code} {Q : Exit → Act → World → Prop} {a : Act} {w : World} (S : World → Prop) (h : S w) (k : ∀ wx, S wx → Code.wp P c Q a wx) : Code.wp P c Q a w := k w h
theorem gW0 (W : World) {R : Nat} : W.grownBy W.drew (some R) := grD ⟨rfl, rfl, rfl, Nat.le_refl _, fun _ _ _ => rfl⟩
theorem gW2 (W : World) (o : Obj) {R : Nat} : W.grownBy (W.drew.alloc o) (some R) := (gW0 W).trans (World.grownBy_alloc _ _ (some R))
theorem gW3 (W : World) (o : Obj) {R : Nat} : W.grownBy (W.alloc o).drew (some R) := grD (World.grownBy_alloc _ _ (some R))
theorem lit_at3 (W : World) (a b c : Int) (k : Nat) (hk : k < 3) : ∃ pv : Int, (W.alloc (.cells #[.int .i64 a, .int .i64 b, .int .i64 c] 3)).cell? ⟨W.heap.size, k, none⟩ = some (.int .i64 pv) ∧ (#[.int .i64 a, .int .i64 b, .int .i64 c] : Array Value)[k]? = some (.int .i64 pv) := by
  obtain rfl | rfl | rfl : k = 0 ∨ k = 1 ∨ k = 2 := by omega
  · exact ⟨a, (cell_new W _ _ 0).1, rfl⟩
  · exact ⟨b, (cell_new W _ _ 1).1, rfl⟩
  · exact ⟨c, (cell_new W _ _ 2).1, rfl⟩
theorem lit_at2 (W : World) (a b : Int) (k : Nat) (hk : k < 2) : ∃ pv : Int, (W.alloc (.cells #[.int .i64 a, .int .i64 b] 3)).cell? ⟨W.heap.size, k, none⟩ = some (.int .i64 pv) ∧ (#[.int .i64 a, .int .i64 b] : Array Value)[k]? = some (.int .i64 pv) := by
  obtain rfl | rfl : k = 0 ∨ k = 1 := by omega
  · exact ⟨a, (cell_new W _ _ 0).1, rfl⟩
  · exact ⟨b, (cell_new W _ _ 1).1, rfl⟩
/-- The rule that is being drawn, in its box; the result's box; the reader. -/
def RulSt (w : World) (B R L b : Nat) (wx : World) : Prop := b < wx.heap.size ∧ ∃ (al : Bool) (i it o ot p pt : Int), At7 wx b (.bool al) (.int .i64 i) (.int .i64 it) (.int .i64 o) (.int .i64 ot) (.int .i64 p) (.int .i64 pt) ∧ At7 wx w.heap.size (.bool false) (.int .i64 0) (.int .i64 0) (.int .i64 0) (.int .i64 0) (.int .i64 0) (.int .i64 0) ∧ w.grownBy wx (some R) ∧ Rd B R L wx

set_option maxRecDepth 100000 in
set_option maxHeartbeats 1600000 in
theorem rule_any (m : Int) (B R L : Nat) (w : World) (h : Rd B R L w) (hL : L ≤ 990000) (hm : 0 ≤ m) (hm2 : m ≤ 1000000) :
    Calls Tryz.prog 118 #[.pointer (some ⟨R, 0, none⟩), .int .i64 m] w fun e w' => ∃ (al : Bool) (i it o ot p pt : Int), e = .returned (.agg #[.bool al, .int .i64 i, .int .i64 it, .int .i64 o, .int .i64 ot, .int .i64 p, .int .i64 pt]) ∧ w.grownBy w' (some R) ∧ Rd B R (L + 20) w' := by
  have hR := h.lt
  have hBR := h.base
  have H := Lib.hid h
  clear h
  go_enter Tryz.func118, Tryz.ntmps118
  go_wp2_with fail
  (go_at_call 27; refine (pick_any 2 B R L _ (rd_alloc H.out _) (by omega)).mono ?_; rintro e w1 ⟨k1, rfl, h1, g1, r1⟩)
  have R1 := Lib.hid r1
  have G1 := Lib.hid g1
  have s1 := g1.size
  simp only [World.size_alloc] at s1
  clear r1 g1
  go_wp2_with fail
  (go_at_call 27; refine (pick_any 4 B R (L + 1) _ R1.out (by omega)).mono ?_; rintro e w2 ⟨k2, rfl, h2, g2, r2⟩)
  have R2 := Lib.hid r2
  have G2 := Lib.hid (G1.out.trans g2)
  clear r2 g2 G1 R1
  go_wp2_with fail
  (go_at_call 27; refine (pick_any 4 B R (L + 2) _ R2.out (by omega)).mono ?_; rintro e w3 ⟨k3, rfl, h3, g3, r3⟩)
  have R3 := Lib.hid r3
  have G3 := Lib.hid (G2.out.trans g3)
  clear r3 g3 G2 R2
  go_wp2_with fail
  (go_at_call 27; refine (pick_any 3 B R (L + 3) _ (rd_alloc R3.out _) (by omega)).mono ?_; rintro e w4 ⟨k4, rfl, h4, g4, r4⟩)
  have h43 : k4 < 3 := by omega
  have lt3 := R3.out.lt
  have hS : w3.heap.size ≠ R := by omega
  have z3 : w.heap.size + 1 ≤ w3.heap.size := by have := G3.out.size; simpa using this
  have cA0 : w4.cell? ⟨w3.heap.size, 0, none⟩ = some (.int .i64 1) := (gcell g4 (b := w3.heap.size) (by simp) hS 0).1.trans (cell_new w3 _ 3 0).1
  have cA1 : w4.cell? ⟨w3.heap.size, 1, none⟩ = some (.int .i64 21) := (gcell g4 (b := w3.heap.size) (by simp) hS 1).1.trans (cell_new w3 _ 3 1).1
  have cA2 : w4.cell? ⟨w3.heap.size, 2, none⟩ = some (.int .i64 7) := (gcell g4 (b := w3.heap.size) (by simp) hS 2).1.trans (cell_new w3 _ 3 2).1
  obtain ⟨pv, hpv⟩ : ∃ pv : Int, w4.cell? ⟨w3.heap.size, k4, none⟩ = some (.int .i64 pv) := by
    obtain rfl | rfl | rfl : k4 = 0 ∨ k4 = 1 ∨ k4 = 2 := by omega
    · exact ⟨_, cA0⟩
    · exact ⟨_, cA1⟩
    · exact ⟨_, cA2⟩
  clear cA0 cA1 cA2 h4
  have G4 := Lib.hid (((World.grownBy_alloc w (.cells #[.bool false, .int .i64 0, .int .i64 0, .int .i64 0, .int .i64 0, .int .i64 0, .int .i64 0] 115) (some R)).trans (grown_alloc G3.out (.cells #[.int .i64 1, .int .i64 21, .int .i64 7] 3))).trans g4)
  have A4 : Hid (At7 w4 w.heap.size (.bool false) (.int .i64 0) (.int .i64 0) (.int .i64 0) (.int .i64 0) (.int .i64 0) (.int .i64 0)) := (at7_new w _ _ _ _ _ _ _ _).grown ((grown_alloc G3.out (.cells #[.int .i64 1, .int .i64 21, .int .i64 7] 3)).trans g4) (by omega)
  have R4 := Lib.hid r4
  have z4 : w3.heap.size + 1 ≤ w4.heap.size := by have := g4.size; simpa using this
  have k43 : (k4 : Int) < 3 := by omega
  clear r4 g4 R3 G3 lt3 hS
  go_wp2_with fail
  obtain ⟨b, hb⟩ : ∃ b, b = w4.heap.size := ⟨_, rfl⟩
  obtain ⟨W5, hW5⟩ : ∃ W5, W5 = w4.alloc (.cells #[.bool ((k1 : Int) == 0), .int .i64 (1 + (k2 : Int)), .int .i64 0, .int .i64 (100 + (k3 : Int)), .int .i64 0, .int .i64 pv, .int .i64 0] 115) := ⟨_, rfl⟩
  have S5 : Hid (RulSt w B R (L + 4) b W5) := by
    rw [hb, hW5]
    exact ⟨by simp, _, _, _, _, _, _, _, at7_new w4 _ _ _ _ _ _ _ _, A4.out.grown (World.grownBy_alloc w4 _ (some R)) (by omega), grown_alloc G4.out _, (rd_alloc R4.out _)⟩
  have hne1 : w.heap.size ≠ R := by omega
  have hne2 : b ≠ R := by omega
  have hne3 : w.heap.size ≠ b := by omega
  have hwb : w.heap.size ≤ b := by omega
  have hBb : B ≤ b := by omega
  have hB1 : B ≤ w.heap.size := by omega
  rw [← hb, ← hW5]
  clear hW5 hb A4 G4 R4 hpv k43 h43 z3 z4 s1 h1 h2 h3
  go_cut [] (fun wx => RulSt w B R (L + 5) b wx)
  case first =>
    obtain ⟨zb, al, i, it, o, ot, p, pt, hA, hZ, hG, hRd⟩ := S5.out
    have HA := Lib.hid hA
    have HZ := Lib.hid hZ
    have HG := Lib.hid hG
    have HRd := Lib.hid hRd
    have zb2 : ¬ b = W5.heap.size := by omega
    have zR : ¬ W5.heap.size = R := by have := hRd.lt; omega
    obtain ⟨uz, ⟨uc0, uc1, uc2, uc3, uc4, uc5, uc6⟩, uf0, uf1, uf2, uf3, uf4, uf5, uf6⟩ := hA
    clear hZ hG hRd
    go_wp2_with fail
    go_region_law (go_simp; go_at_call 27; refine (pick_any 3 B R (L + 4) _ (by first | exact HRd.out | exact rd_drew HRd.out | exact rd_alloc HRd.out _ | exact rd_alloc (rd_drew HRd.out) _ | exact rd_drew (rd_alloc HRd.out _)) (by omega)).mono ?_; rintro e wN ⟨k, rfl, hk, gN, rN⟩; have hA2 : At7 wN b (.bool al) (.int .i64 i) (.int .i64 it) (.int .i64 o) (.int .i64 ot) (.int .i64 p) (.int .i64 pt) := HA.out.grown (by first | exact gN | exact (gW0 _).trans gN | exact (World.grownBy_alloc _ _ (some R)).trans gN | exact (gW2 _ _).trans gN | exact (gW3 _ _).trans gN) hne2; have HA2 := Lib.hid hA2; have HZ2 := Lib.hid (HZ.out.grown (by first | exact gN | exact (gW0 _).trans gN | exact (World.grownBy_alloc _ _ (some R)).trans gN | exact (gW2 _ _).trans gN | exact (gW3 _ _).trans gN) hne1); have HG2 := Lib.hid (HG.out.trans (by first | exact gN | exact (gW0 _).trans gN | exact (World.grownBy_alloc _ _ (some R)).trans gN | exact (gW2 _ _).trans gN | exact (gW3 _ _).trans gN)); have HR2 := Lib.hid rN; have hbN : b < wN.heap.size := hA2.1; have hbN2 : ¬ b = wN.heap.size := (by omega); obtain ⟨vz, ⟨vc0, vc1, vc2, vc3, vc4, vc5, vc6⟩, vf0, vf1, vf2, vf3, vf4, vf5, vf6⟩ := hA2; clear gN rN)
    all_goals
      go_wp2_with fail
      go_meet
      first
        | exact ⟨(HA2.out.set2 _).1, _, _, _, _, _, _, _, HA2.out.set2 _, HZ2.out.put (i := 2) _ hne3, grown_new HG2.out 2 _ hwb, rd_put HR2.out (i := 2) _ hBb hne2⟩
        | exact ⟨((HA2.out.set2 _).alloc _).1, _, _, _, _, _, _, _, (HA2.out.set2 _).alloc _, (HZ2.out.put (i := 2) _ hne3).alloc _, grown_alloc (grown_new HG2.out 2 _ hwb) _, rd_alloc (rd_put HR2.out (i := 2) _ hBb hne2) _⟩
        | (trace_state; fail)
  case rest =>
  have S6 := Lib.hid hcut
  go_upto_region 3 with fail
  go_cut [] (fun wx => RulSt w B R (L + 6) b wx)
  case first =>
    obtain ⟨zb, al, i, it, o, ot, p, pt, hA, hZ, hG, hRd⟩ := S6.out
    have HA := Lib.hid hA
    have HZ := Lib.hid hZ
    have HG := Lib.hid hG
    have HRd := Lib.hid hRd
    have zb2 : ¬ b = wc.heap.size := by omega
    have zR : ¬ wc.heap.size = R := by have := hRd.lt; omega
    obtain ⟨uz, ⟨uc0, uc1, uc2, uc3, uc4, uc5, uc6⟩, uf0, uf1, uf2, uf3, uf4, uf5, uf6⟩ := hA
    clear hZ hG hRd
    go_wp2_with fail
    go_region_law (go_simp; go_at_call 27; refine (pick_any 3 B R (L + 5) _ (by first | exact HRd.out | exact rd_drew HRd.out | exact rd_alloc HRd.out _ | exact rd_alloc (rd_drew HRd.out) _ | exact rd_drew (rd_alloc HRd.out _)) (by omega)).mono ?_; rintro e wN ⟨k, rfl, hk, gN, rN⟩; have hA2 : At7 wN b (.bool al) (.int .i64 i) (.int .i64 it) (.int .i64 o) (.int .i64 ot) (.int .i64 p) (.int .i64 pt) := HA.out.grown (by first | exact gN | exact (gW0 _).trans gN | exact (World.grownBy_alloc _ _ (some R)).trans gN | exact (gW2 _ _).trans gN | exact (gW3 _ _).trans gN) hne2; have HA2 := Lib.hid hA2; have HZ2 := Lib.hid (HZ.out.grown (by first | exact gN | exact (gW0 _).trans gN | exact (World.grownBy_alloc _ _ (some R)).trans gN | exact (gW2 _ _).trans gN | exact (gW3 _ _).trans gN) hne1); have HG2 := Lib.hid (HG.out.trans (by first | exact gN | exact (gW0 _).trans gN | exact (World.grownBy_alloc _ _ (some R)).trans gN | exact (gW2 _ _).trans gN | exact (gW3 _ _).trans gN)); have HR2 := Lib.hid rN; have hbN : b < wN.heap.size := hA2.1; have hbN2 : ¬ b = wN.heap.size := (by omega); obtain ⟨vz, ⟨vc0, vc1, vc2, vc3, vc4, vc5, vc6⟩, vf0, vf1, vf2, vf3, vf4, vf5, vf6⟩ := hA2; clear gN rN)
    all_goals
      go_wp2_with fail
      go_meet
      first
        | exact ⟨(HA2.out.set4 _).1, _, _, _, _, _, _, _, HA2.out.set4 _, HZ2.out.put (i := 4) _ hne3, grown_new HG2.out 4 _ hwb, rd_put HR2.out (i := 4) _ hBb hne2⟩
        | exact ⟨((HA2.out.set4 _).alloc _).1, _, _, _, _, _, _, _, (HA2.out.set4 _).alloc _, (HZ2.out.put (i := 4) _ hne3).alloc _, grown_alloc (grown_new HG2.out 4 _ hwb) _, rd_alloc (rd_put HR2.out (i := 4) _ hBb hne2) _⟩
        | (trace_state; fail)
  case rest =>
  have S7 := Lib.hid hcut
  go_upto_region 4 with fail
  go_cut [] (fun wx => RulSt w B R (L + 7) b wx)
  case first =>
    obtain ⟨zb, al, i, it, o, ot, p, pt, hA, hZ, hG, hRd⟩ := S7.out
    have HA := Lib.hid hA
    have HZ := Lib.hid hZ
    have HG := Lib.hid hG
    have HRd := Lib.hid hRd
    have zb2 : ¬ b = wc.heap.size := by omega
    have zR : ¬ wc.heap.size = R := by have := hRd.lt; omega
    obtain ⟨uz, ⟨uc0, uc1, uc2, uc3, uc4, uc5, uc6⟩, uf0, uf1, uf2, uf3, uf4, uf5, uf6⟩ := hA
    clear hZ hG hRd
    go_wp2_with fail
    go_region_law (go_simp; go_at_call 27; refine (pick_any 3 B R (L + 6) _ (by first | exact HRd.out | exact rd_drew HRd.out | exact rd_alloc HRd.out _ | exact rd_alloc (rd_drew HRd.out) _ | exact rd_drew (rd_alloc HRd.out _)) (by omega)).mono ?_; rintro e wN ⟨k, rfl, hk, gN, rN⟩; have hA2 : At7 wN b (.bool al) (.int .i64 i) (.int .i64 it) (.int .i64 o) (.int .i64 ot) (.int .i64 p) (.int .i64 pt) := HA.out.grown (by first | exact gN | exact (gW0 _).trans gN | exact (World.grownBy_alloc _ _ (some R)).trans gN | exact (gW2 _ _).trans gN | exact (gW3 _ _).trans gN) hne2; have HA2 := Lib.hid hA2; have HZ2 := Lib.hid (HZ.out.grown (by first | exact gN | exact (gW0 _).trans gN | exact (World.grownBy_alloc _ _ (some R)).trans gN | exact (gW2 _ _).trans gN | exact (gW3 _ _).trans gN) hne1); have HG2 := Lib.hid (HG.out.trans (by first | exact gN | exact (gW0 _).trans gN | exact (World.grownBy_alloc _ _ (some R)).trans gN | exact (gW2 _ _).trans gN | exact (gW3 _ _).trans gN)); have HR2 := Lib.hid rN; have hbN : b < wN.heap.size := hA2.1; have hbN2 : ¬ b = wN.heap.size := (by omega); obtain ⟨vz, ⟨vc0, vc1, vc2, vc3, vc4, vc5, vc6⟩, vf0, vf1, vf2, vf3, vf4, vf5, vf6⟩ := hA2; have hkn : k < 3 := (by omega); have hki : (k : Int) < 3 := (by omega); obtain ⟨pv, hpv, hpa⟩ := lit_at3 wN 999 21 p k hkn; (first | (have hpq := (gcell gN (b := wc.heap.size) (by simp) zR k).1.trans ((cell_new _ #[.int .i64 999, .int .i64 21, .int .i64 p] 3 k).1.trans hpa)) | (have hpq := (gcell gN (b := wc.heap.size) (by simp) zR k).1.trans ((cell_new wc.drew #[.int .i64 999, .int .i64 21, .int .i64 p] 3 k).1.trans hpa)) | skip); clear gN rN)
    all_goals
      go_wp2_with fail
      go_meet
      first
        | exact ⟨(HA2.out.set6 _).1, _, _, _, _, _, _, _, HA2.out.set6 _, HZ2.out.put (i := 6) _ hne3, grown_new HG2.out 6 _ hwb, rd_put HR2.out (i := 6) _ hBb hne2⟩
        | exact ⟨((HA2.out.set6 _).alloc _).1, _, _, _, _, _, _, _, (HA2.out.set6 _).alloc _, (HZ2.out.put (i := 6) _ hne3).alloc _, grown_alloc (grown_new HG2.out 6 _ hwb) _, rd_alloc (rd_put HR2.out (i := 6) _ hBb hne2) _⟩
        | (trace_state; fail)
  case rest =>
  have S8 := Lib.hid hcut
  obtain ⟨zb, al, i, it, o, ot, p, pt, hA, hZ, hG, hRd⟩ := S8.out
  have HA := Lib.hid hA
  have HZ := Lib.hid hZ
  have HG := Lib.hid hG
  have HRd := Lib.hid hRd
  obtain ⟨uz, ⟨uc0, uc1, uc2, uc3, uc4, uc5, uc6⟩, uf0, uf1, uf2, uf3, uf4, uf5, uf6⟩ := hA
  clear hZ hG hRd
  have tail : ∀ wx, RulSt w B R (L + 7) b wx → True := fun _ _ => trivial
  clear tail
  by_cases hlt : pt < p
  · go_upto_region 7 with fail
    refine wp_letter (RulSt w B R (L + 7) b) ⟨(HA.out.set6 _).1, _, _, _, _, _, _, _, HA.out.set6 _, HZ.out.put (i := 6) _ hne3, grown_new HG.out 6 _ hwb, rd_put HRd.out (i := 6) _ hBb hne2⟩ ?_
    clear HA HZ HG HRd uz uc0 uc1 uc2 uc3 uc4 uc5 uc6 uf0 uf1 uf2 uf3 uf4 uf5 uf6 hlt
    intro wc S9
    clear zb
    obtain ⟨zb, al, i, it, o, ot, p, pt, hA, hZ, hG, hRd⟩ := S9
    have HA := Lib.hid hA
    have HZ := Lib.hid hZ
    have HG := Lib.hid hG
    have HRd := Lib.hid hRd
    clear hA hZ hG hRd
    go_wp2_with fail
    (go_at_call 28; refine (odd_any m B R (L + 7) _ HRd.out (by omega) hm hm2).mono ?_; rintro e w6 ⟨bo, rfl, g6, r6⟩)
    have HA6 := Lib.hid (HA.out.grown g6 hne2)
    have HZ6 := Lib.hid (HZ.out.grown g6 hne1)
    have HG6 := Lib.hid (HG.out.trans g6)
    have HR6 := Lib.hid r6
    clear g6 r6 HA HZ HG HRd
    cases bo
    · go_upto_region 16 with fail
      refine wp_letter (RulSt w B R (L + 12) b) ?_ ?_
      · exact ⟨HA6.out.1, _, _, _, _, _, _, _, HA6.out, HZ6.out, HG6.out, HR6.out.mono (by omega)⟩
      · intro wx S10
        obtain ⟨zb, al, i, it, o, ot, p, pt, hA, hZ, hG, hRd⟩ := S10
        have HZ := Lib.hid hZ
        have HG := Lib.hid hG
        have HRd := Lib.hid hRd
        obtain ⟨uz, ⟨uc0, uc1, uc2, uc3, uc4, uc5, uc6⟩, uf0, uf1, uf2, uf3, uf4, uf5, uf6⟩ := hA
        obtain ⟨vz, ⟨vc0, vc1, vc2, vc3, vc4, vc5, vc6⟩, vf0, vf1, vf2, vf3, vf4, vf5, vf6⟩ := hZ
        clear hG hRd
        go_wp2_with fail
        obtain ⟨_, ⟨q0, q1, q2, q3, q4, q5, q6⟩, _⟩ := HZ.out.all (.bool al) (.int .i64 i) (.int .i64 it) (.int .i64 o) (.int .i64 ot) (.int .i64 p) (.int .i64 pt)
        refine bodyPost_ret (v := .agg #[.bool al, .int .i64 i, .int .i64 it, .int .i64 o, .int .i64 ot, .int .i64 p, .int .i64 pt]) (by simp [results, Tryz.results118, go_sem, q0, q1, q2, q3, q4, q5, q6]) rfl ⟨_, _, _, _, _, _, _, rfl, ?_, ?_⟩
        · exact grown_puts HG.out _ _ _ _ _ _ _ (Nat.le_refl _)
        · exact (rd_puts HRd.out _ _ _ _ _ _ _ hB1 hne1).mono (by omega)
    · go_wp2_with fail
      (go_at_call 27; refine (pick_any 4 B R (L + 8) _ HR6.out (by omega)).mono ?_; rintro e w8 ⟨c, rfl, hc, g8, r8⟩)
      have HA := Lib.hid (HA6.out.grown g8 hne2)
      have HZ := Lib.hid (HZ6.out.grown g8 hne1)
      have HG := Lib.hid (HG6.out.trans g8)
      have HRd := Lib.hid r8
      clear zb
      have zb : b < w8.heap.size := HA.out.1
      have zb2 : ¬ b = w8.heap.size := by omega
      have zR : ¬ w8.heap.size = R := by have := r8.lt; omega
      clear g8 r8 HA6 HZ6 HG6 HR6
      obtain ⟨uz, ⟨uc0, uc1, uc2, uc3, uc4, uc5, uc6⟩, uf0, uf1, uf2, uf3, uf4, uf5, uf6⟩ := HA.out
      by_cases c0 : c = 0
      · have e0 : ((c : Int) == 0) = true := by simp [c0]
        clear c0
        go_wp2_with fail
        (go_at_call 27; refine (pick_any 3 B R (L + 9) _ (by first | exact HRd.out | exact rd_drew HRd.out | exact rd_alloc HRd.out _ | exact rd_alloc (rd_drew HRd.out) _ | exact rd_drew (rd_alloc HRd.out _)) (by omega)).mono ?_; rintro e wN ⟨k, rfl, hk, gN, rN⟩; have hA2 : At7 wN b (.bool al) (.int .i64 i) (.int .i64 it) (.int .i64 o) (.int .i64 ot) (.int .i64 p) (.int .i64 pt) := HA.out.grown (by first | exact gN | exact (gW0 _).trans gN | exact (World.grownBy_alloc _ _ (some R)).trans gN | exact (gW2 _ _).trans gN | exact (gW3 _ _).trans gN) hne2; have HA2 := Lib.hid hA2; have HZ2 := Lib.hid (HZ.out.grown (by first | exact gN | exact (gW0 _).trans gN | exact (World.grownBy_alloc _ _ (some R)).trans gN | exact (gW2 _ _).trans gN | exact (gW3 _ _).trans gN) hne1); have HG2 := Lib.hid (HG.out.trans (by first | exact gN | exact (gW0 _).trans gN | exact (World.grownBy_alloc _ _ (some R)).trans gN | exact (gW2 _ _).trans gN | exact (gW3 _ _).trans gN)); have HR2 := Lib.hid rN; have hbN : b < wN.heap.size := hA2.1; have hbN2 : ¬ b = wN.heap.size := (by omega); obtain ⟨vz, ⟨vc0, vc1, vc2, vc3, vc4, vc5, vc6⟩, vf0, vf1, vf2, vf3, vf4, vf5, vf6⟩ := hA2; have hkn : k < 3 := (by omega); have hki : (k : Int) < 3 := (by omega); obtain ⟨pv, hpv, hpa⟩ := lit_at3 wN 0 9 (-1) k hkn; (first | (have hpq := (gcell gN (b := w8.heap.size) (by simp) zR k).1.trans ((cell_new _ #[.int .i64 0, .int .i64 9, .int .i64 (-1)] 3 k).1.trans hpa)) | (have hpq := (gcell gN (b := w8.heap.size) (by simp) zR k).1.trans ((cell_new w8.drew #[.int .i64 0, .int .i64 9, .int .i64 (-1)] 3 k).1.trans hpa)) | skip); clear gN rN)
        go_upto_region 16 with fail
        refine wp_letter (RulSt w B R (L + 12) b) ?_ ?_
        · first
            | exact ⟨(HA2.out.set1 _).1, _, _, _, _, _, _, _, HA2.out.set1 _, HZ2.out.put (i := 1) _ hne3, grown_new HG2.out 1 _ hwb, rd_put (HR2.out.mono (show L + 9 + 1 ≤ L + 12 by omega)) (i := 1) _ hBb hne2⟩
            | exact ⟨((HA2.out.set1 _).alloc _).1, _, _, _, _, _, _, _, (HA2.out.set1 _).alloc _, (HZ2.out.put (i := 1) _ hne3).alloc _, grown_alloc (grown_new HG2.out 1 _ hwb) _, rd_alloc (rd_put (HR2.out.mono (show L + 9 + 1 ≤ L + 12 by omega)) (i := 1) _ hBb hne2) _⟩
            | (trace_state; fail)
        · intro wx S10
          obtain ⟨zb, al, i, it, o, ot, p, pt, hA, hZ, hG, hRd⟩ := S10
          have HZ := Lib.hid hZ
          have HG := Lib.hid hG
          have HRd := Lib.hid hRd
          obtain ⟨uz, ⟨uc0, uc1, uc2, uc3, uc4, uc5, uc6⟩, uf0, uf1, uf2, uf3, uf4, uf5, uf6⟩ := hA
          obtain ⟨vz, ⟨vc0, vc1, vc2, vc3, vc4, vc5, vc6⟩, vf0, vf1, vf2, vf3, vf4, vf5, vf6⟩ := hZ
          clear hG hRd
          go_wp2_with fail
          obtain ⟨_, ⟨q0, q1, q2, q3, q4, q5, q6⟩, _⟩ := HZ.out.all (.bool al) (.int .i64 i) (.int .i64 it) (.int .i64 o) (.int .i64 ot) (.int .i64 p) (.int .i64 pt)
          refine bodyPost_ret (v := .agg #[.bool al, .int .i64 i, .int .i64 it, .int .i64 o, .int .i64 ot, .int .i64 p, .int .i64 pt]) (by simp [results, Tryz.results118, go_sem, q0, q1, q2, q3, q4, q5, q6]) rfl ⟨_, _, _, _, _, _, _, rfl, ?_, ?_⟩
          · exact grown_puts HG.out _ _ _ _ _ _ _ (Nat.le_refl _)
          · exact (rd_puts HRd.out _ _ _ _ _ _ _ hB1 hne1).mono (by omega)
      · have e0 : ((c : Int) == 0) = false := by rw [beq_eq_false_iff_ne]; omega
        clear c0
        by_cases c1 : c = 1
        · have e1 : ((c : Int) == 1) = true := by simp [c1]
          clear c1
          go_wp2_with fail
          (go_at_call 27; refine (pick_any 2 B R (L + 9) _ (by first | exact HRd.out | exact rd_drew HRd.out | exact rd_alloc HRd.out _ | exact rd_alloc (rd_drew HRd.out) _ | exact rd_drew (rd_alloc HRd.out _)) (by omega)).mono ?_; rintro e wN ⟨k, rfl, hk, gN, rN⟩; have hA2 : At7 wN b (.bool al) (.int .i64 i) (.int .i64 it) (.int .i64 o) (.int .i64 ot) (.int .i64 p) (.int .i64 pt) := HA.out.grown (by first | exact gN | exact (gW0 _).trans gN | exact (World.grownBy_alloc _ _ (some R)).trans gN | exact (gW2 _ _).trans gN | exact (gW3 _ _).trans gN) hne2; have HA2 := Lib.hid hA2; have HZ2 := Lib.hid (HZ.out.grown (by first | exact gN | exact (gW0 _).trans gN | exact (World.grownBy_alloc _ _ (some R)).trans gN | exact (gW2 _ _).trans gN | exact (gW3 _ _).trans gN) hne1); have HG2 := Lib.hid (HG.out.trans (by first | exact gN | exact (gW0 _).trans gN | exact (World.grownBy_alloc _ _ (some R)).trans gN | exact (gW2 _ _).trans gN | exact (gW3 _ _).trans gN)); have HR2 := Lib.hid rN; have hbN : b < wN.heap.size := hA2.1; have hbN2 : ¬ b = wN.heap.size := (by omega); obtain ⟨vz, ⟨vc0, vc1, vc2, vc3, vc4, vc5, vc6⟩, vf0, vf1, vf2, vf3, vf4, vf5, vf6⟩ := hA2; have hkn : k < 2 := (by omega); have hki : (k : Int) < 2 := (by omega); obtain ⟨pv, hpv, hpa⟩ := lit_at2 wN 110 99 k hkn; (first | (have hpq := (gcell gN (b := w8.heap.size) (by simp) zR k).1.trans ((cell_new _ #[.int .i64 110, .int .i64 99] 3 k).1.trans hpa)) | (have hpq := (gcell gN (b := w8.heap.size) (by simp) zR k).1.trans ((cell_new w8.drew #[.int .i64 110, .int .i64 99] 3 k).1.trans hpa)) | skip); clear gN rN)
          go_upto_region 16 with fail
          refine wp_letter (RulSt w B R (L + 12) b) ?_ ?_
          · first
              | exact ⟨(HA2.out.set4 _).1, _, _, _, _, _, _, _, HA2.out.set4 _, HZ2.out.put (i := 4) _ hne3, grown_new HG2.out 4 _ hwb, rd_put (HR2.out.mono (show L + 9 + 1 ≤ L + 12 by omega)) (i := 4) _ hBb hne2⟩
              | exact ⟨((HA2.out.set4 _).alloc _).1, _, _, _, _, _, _, _, (HA2.out.set4 _).alloc _, (HZ2.out.put (i := 4) _ hne3).alloc _, grown_alloc (grown_new HG2.out 4 _ hwb) _, rd_alloc (rd_put (HR2.out.mono (show L + 9 + 1 ≤ L + 12 by omega)) (i := 4) _ hBb hne2) _⟩
              | (trace_state; fail)
          · intro wx S10
            obtain ⟨zb, al, i, it, o, ot, p, pt, hA, hZ, hG, hRd⟩ := S10
            have HZ := Lib.hid hZ
            have HG := Lib.hid hG
            have HRd := Lib.hid hRd
            obtain ⟨uz, ⟨uc0, uc1, uc2, uc3, uc4, uc5, uc6⟩, uf0, uf1, uf2, uf3, uf4, uf5, uf6⟩ := hA
            obtain ⟨vz, ⟨vc0, vc1, vc2, vc3, vc4, vc5, vc6⟩, vf0, vf1, vf2, vf3, vf4, vf5, vf6⟩ := hZ
            clear hG hRd
            go_wp2_with fail
            obtain ⟨_, ⟨q0, q1, q2, q3, q4, q5, q6⟩, _⟩ := HZ.out.all (.bool al) (.int .i64 i) (.int .i64 it) (.int .i64 o) (.int .i64 ot) (.int .i64 p) (.int .i64 pt)
            refine bodyPost_ret (v := .agg #[.bool al, .int .i64 i, .int .i64 it, .int .i64 o, .int .i64 ot, .int .i64 p, .int .i64 pt]) (by simp [results, Tryz.results118, go_sem, q0, q1, q2, q3, q4, q5, q6]) rfl ⟨_, _, _, _, _, _, _, rfl, ?_, ?_⟩
            · exact grown_puts HG.out _ _ _ _ _ _ _ (Nat.le_refl _)
            · exact (rd_puts HRd.out _ _ _ _ _ _ _ hB1 hne1).mono (by omega)
        · have e1 : ((c : Int) == 1) = false := by rw [beq_eq_false_iff_ne]; omega
          clear c1
          by_cases c2 : c = 2
          · have e2 : ((c : Int) == 2) = true := by simp [c2]
            clear c2
            go_wp2_with fail
            (go_at_call 27; refine (pick_any 2 B R (L + 9) _ (by first | exact HRd.out | exact rd_drew HRd.out | exact rd_alloc HRd.out _ | exact rd_alloc (rd_drew HRd.out) _ | exact rd_drew (rd_alloc HRd.out _)) (by omega)).mono ?_; rintro e wN ⟨k, rfl, hk, gN, rN⟩; have hA2 : At7 wN b (.bool al) (.int .i64 i) (.int .i64 it) (.int .i64 o) (.int .i64 ot) (.int .i64 p) (.int .i64 pt) := HA.out.grown (by first | exact gN | exact (gW0 _).trans gN | exact (World.grownBy_alloc _ _ (some R)).trans gN | exact (gW2 _ _).trans gN | exact (gW3 _ _).trans gN) hne2; have HA2 := Lib.hid hA2; have HZ2 := Lib.hid (HZ.out.grown (by first | exact gN | exact (gW0 _).trans gN | exact (World.grownBy_alloc _ _ (some R)).trans gN | exact (gW2 _ _).trans gN | exact (gW3 _ _).trans gN) hne1); have HG2 := Lib.hid (HG.out.trans (by first | exact gN | exact (gW0 _).trans gN | exact (World.grownBy_alloc _ _ (some R)).trans gN | exact (gW2 _ _).trans gN | exact (gW3 _ _).trans gN)); have HR2 := Lib.hid rN; have hbN : b < wN.heap.size := hA2.1; have hbN2 : ¬ b = wN.heap.size := (by omega); obtain ⟨vz, ⟨vc0, vc1, vc2, vc3, vc4, vc5, vc6⟩, vf0, vf1, vf2, vf3, vf4, vf5, vf6⟩ := hA2; have hkn : k < 2 := (by omega); have hki : (k : Int) < 2 := (by omega); obtain ⟨pv, hpv, hpa⟩ := lit_at2 wN 0 1000 k hkn; (first | (have hpq := (gcell gN (b := w8.heap.size) (by simp) zR k).1.trans ((cell_new _ #[.int .i64 0, .int .i64 1000] 3 k).1.trans hpa)) | (have hpq := (gcell gN (b := w8.heap.size) (by simp) zR k).1.trans ((cell_new w8.drew #[.int .i64 0, .int .i64 1000] 3 k).1.trans hpa)) | skip); clear gN rN)
            go_upto_region 16 with fail
            refine wp_letter (RulSt w B R (L + 12) b) ?_ ?_
            · first
                | exact ⟨(HA2.out.set6 _).1, _, _, _, _, _, _, _, HA2.out.set6 _, HZ2.out.put (i := 6) _ hne3, grown_new HG2.out 6 _ hwb, rd_put (HR2.out.mono (show L + 9 + 1 ≤ L + 12 by omega)) (i := 6) _ hBb hne2⟩
                | exact ⟨((HA2.out.set6 _).alloc _).1, _, _, _, _, _, _, _, (HA2.out.set6 _).alloc _, (HZ2.out.put (i := 6) _ hne3).alloc _, grown_alloc (grown_new HG2.out 6 _ hwb) _, rd_alloc (rd_put (HR2.out.mono (show L + 9 + 1 ≤ L + 12 by omega)) (i := 6) _ hBb hne2) _⟩
                | (trace_state; fail)
            · intro wx S10
              obtain ⟨zb, al, i, it, o, ot, p, pt, hA, hZ, hG, hRd⟩ := S10
              have HZ := Lib.hid hZ
              have HG := Lib.hid hG
              have HRd := Lib.hid hRd
              obtain ⟨uz, ⟨uc0, uc1, uc2, uc3, uc4, uc5, uc6⟩, uf0, uf1, uf2, uf3, uf4, uf5, uf6⟩ := hA
              obtain ⟨vz, ⟨vc0, vc1, vc2, vc3, vc4, vc5, vc6⟩, vf0, vf1, vf2, vf3, vf4, vf5, vf6⟩ := hZ
              clear hG hRd
              go_wp2_with fail
              obtain ⟨_, ⟨q0, q1, q2, q3, q4, q5, q6⟩, _⟩ := HZ.out.all (.bool al) (.int .i64 i) (.int .i64 it) (.int .i64 o) (.int .i64 ot) (.int .i64 p) (.int .i64 pt)
              refine bodyPost_ret (v := .agg #[.bool al, .int .i64 i, .int .i64 it, .int .i64 o, .int .i64 ot, .int .i64 p, .int .i64 pt]) (by simp [results, Tryz.results118, go_sem, q0, q1, q2, q3, q4, q5, q6]) rfl ⟨_, _, _, _, _, _, _, rfl, ?_, ?_⟩
              · exact grown_puts HG.out _ _ _ _ _ _ _ (Nat.le_refl _)
              · exact (rd_puts HRd.out _ _ _ _ _ _ _ hB1 hne1).mono (by omega)
          · have e2 : ((c : Int) == 2) = false := by rw [beq_eq_false_iff_ne]; omega
            clear c2
            go_upto_region 16 with fail
            refine wp_letter (RulSt w B R (L + 12) b) ?_ ?_
            · first
                | exact ⟨(HA.out.set2 _).1, _, _, _, _, _, _, _, HA.out.set2 _, HZ.out.put (i := 2) _ hne3, grown_new HG.out 2 _ hwb, rd_put (HRd.out.mono (show L + 8 + 1 ≤ L + 12 by omega)) (i := 2) _ hBb hne2⟩
                | exact ⟨((HA.out.set2 _).alloc _).1, _, _, _, _, _, _, _, (HA.out.set2 _).alloc _, (HZ.out.put (i := 2) _ hne3).alloc _, grown_alloc (grown_new HG.out 2 _ hwb) _, rd_alloc (rd_put (HRd.out.mono (show L + 8 + 1 ≤ L + 12 by omega)) (i := 2) _ hBb hne2) _⟩
                | (trace_state; fail)
            · intro wx S10
              obtain ⟨zb, al, i, it, o, ot, p, pt, hA, hZ, hG, hRd⟩ := S10
              have HZ := Lib.hid hZ
              have HG := Lib.hid hG
              have HRd := Lib.hid hRd
              obtain ⟨uz, ⟨uc0, uc1, uc2, uc3, uc4, uc5, uc6⟩, uf0, uf1, uf2, uf3, uf4, uf5, uf6⟩ := hA
              obtain ⟨vz, ⟨vc0, vc1, vc2, vc3, vc4, vc5, vc6⟩, vf0, vf1, vf2, vf3, vf4, vf5, vf6⟩ := hZ
              clear hG hRd
              go_wp2_with fail
              obtain ⟨_, ⟨q0, q1, q2, q3, q4, q5, q6⟩, _⟩ := HZ.out.all (.bool al) (.int .i64 i) (.int .i64 it) (.int .i64 o) (.int .i64 ot) (.int .i64 p) (.int .i64 pt)
              refine bodyPost_ret (v := .agg #[.bool al, .int .i64 i, .int .i64 it, .int .i64 o, .int .i64 ot, .int .i64 p, .int .i64 pt]) (by simp [results, Tryz.results118, go_sem, q0, q1, q2, q3, q4, q5, q6]) rfl ⟨_, _, _, _, _, _, _, rfl, ?_, ?_⟩
              · exact grown_puts HG.out _ _ _ _ _ _ _ (Nat.le_refl _)
              · exact (rd_puts HRd.out _ _ _ _ _ _ _ hB1 hne1).mono (by omega)
  · go_upto_region 7 with fail
    refine wp_letter (RulSt w B R (L + 7) b) ⟨HA.out.1, _, _, _, _, _, _, _, HA.out, HZ.out, HG.out, HRd.out⟩ ?_
    clear HA HZ HG HRd uz uc0 uc1 uc2 uc3 uc4 uc5 uc6 uf0 uf1 uf2 uf3 uf4 uf5 uf6 hlt
    intro wc S9
    clear zb
    obtain ⟨zb, al, i, it, o, ot, p, pt, hA, hZ, hG, hRd⟩ := S9
    have HA := Lib.hid hA
    have HZ := Lib.hid hZ
    have HG := Lib.hid hG
    have HRd := Lib.hid hRd
    clear hA hZ hG hRd
    go_wp2_with fail
    (go_at_call 28; refine (odd_any m B R (L + 7) _ HRd.out (by omega) hm hm2).mono ?_; rintro e w6 ⟨bo, rfl, g6, r6⟩)
    have HA6 := Lib.hid (HA.out.grown g6 hne2)
    have HZ6 := Lib.hid (HZ.out.grown g6 hne1)
    have HG6 := Lib.hid (HG.out.trans g6)
    have HR6 := Lib.hid r6
    clear g6 r6 HA HZ HG HRd
    cases bo
    · go_upto_region 16 with fail
      refine wp_letter (RulSt w B R (L + 12) b) ?_ ?_
      · exact ⟨HA6.out.1, _, _, _, _, _, _, _, HA6.out, HZ6.out, HG6.out, HR6.out.mono (by omega)⟩
      · intro wx S10
        obtain ⟨zb, al, i, it, o, ot, p, pt, hA, hZ, hG, hRd⟩ := S10
        have HZ := Lib.hid hZ
        have HG := Lib.hid hG
        have HRd := Lib.hid hRd
        obtain ⟨uz, ⟨uc0, uc1, uc2, uc3, uc4, uc5, uc6⟩, uf0, uf1, uf2, uf3, uf4, uf5, uf6⟩ := hA
        obtain ⟨vz, ⟨vc0, vc1, vc2, vc3, vc4, vc5, vc6⟩, vf0, vf1, vf2, vf3, vf4, vf5, vf6⟩ := hZ
        clear hG hRd
        go_wp2_with fail
        obtain ⟨_, ⟨q0, q1, q2, q3, q4, q5, q6⟩, _⟩ := HZ.out.all (.bool al) (.int .i64 i) (.int .i64 it) (.int .i64 o) (.int .i64 ot) (.int .i64 p) (.int .i64 pt)
        refine bodyPost_ret (v := .agg #[.bool al, .int .i64 i, .int .i64 it, .int .i64 o, .int .i64 ot, .int .i64 p, .int .i64 pt]) (by simp [results, Tryz.results118, go_sem, q0, q1, q2, q3, q4, q5, q6]) rfl ⟨_, _, _, _, _, _, _, rfl, ?_, ?_⟩
        · exact grown_puts HG.out _ _ _ _ _ _ _ (Nat.le_refl _)
        · exact (rd_puts HRd.out _ _ _ _ _ _ _ hB1 hne1).mono (by omega)
    · go_wp2_with fail
      (go_at_call 27; refine (pick_any 4 B R (L + 8) _ HR6.out (by omega)).mono ?_; rintro e w8 ⟨c, rfl, hc, g8, r8⟩)
      have HA := Lib.hid (HA6.out.grown g8 hne2)
      have HZ := Lib.hid (HZ6.out.grown g8 hne1)
      have HG := Lib.hid (HG6.out.trans g8)
      have HRd := Lib.hid r8
      clear zb
      have zb : b < w8.heap.size := HA.out.1
      have zb2 : ¬ b = w8.heap.size := by omega
      have zR : ¬ w8.heap.size = R := by have := r8.lt; omega
      clear g8 r8 HA6 HZ6 HG6 HR6
      obtain ⟨uz, ⟨uc0, uc1, uc2, uc3, uc4, uc5, uc6⟩, uf0, uf1, uf2, uf3, uf4, uf5, uf6⟩ := HA.out
      by_cases c0 : c = 0
      · have e0 : ((c : Int) == 0) = true := by simp [c0]
        clear c0
        go_wp2_with fail
        (go_at_call 27; refine (pick_any 3 B R (L + 9) _ (by first | exact HRd.out | exact rd_drew HRd.out | exact rd_alloc HRd.out _ | exact rd_alloc (rd_drew HRd.out) _ | exact rd_drew (rd_alloc HRd.out _)) (by omega)).mono ?_; rintro e wN ⟨k, rfl, hk, gN, rN⟩; have hA2 : At7 wN b (.bool al) (.int .i64 i) (.int .i64 it) (.int .i64 o) (.int .i64 ot) (.int .i64 p) (.int .i64 pt) := HA.out.grown (by first | exact gN | exact (gW0 _).trans gN | exact (World.grownBy_alloc _ _ (some R)).trans gN | exact (gW2 _ _).trans gN | exact (gW3 _ _).trans gN) hne2; have HA2 := Lib.hid hA2; have HZ2 := Lib.hid (HZ.out.grown (by first | exact gN | exact (gW0 _).trans gN | exact (World.grownBy_alloc _ _ (some R)).trans gN | exact (gW2 _ _).trans gN | exact (gW3 _ _).trans gN) hne1); have HG2 := Lib.hid (HG.out.trans (by first | exact gN | exact (gW0 _).trans gN | exact (World.grownBy_alloc _ _ (some R)).trans gN | exact (gW2 _ _).trans gN | exact (gW3 _ _).trans gN)); have HR2 := Lib.hid rN; have hbN : b < wN.heap.size := hA2.1; have hbN2 : ¬ b = wN.heap.size := (by omega); obtain ⟨vz, ⟨vc0, vc1, vc2, vc3, vc4, vc5, vc6⟩, vf0, vf1, vf2, vf3, vf4, vf5, vf6⟩ := hA2; have hkn : k < 3 := (by omega); have hki : (k : Int) < 3 := (by omega); obtain ⟨pv, hpv, hpa⟩ := lit_at3 wN 0 9 (-1) k hkn; (first | (have hpq := (gcell gN (b := w8.heap.size) (by simp) zR k).1.trans ((cell_new _ #[.int .i64 0, .int .i64 9, .int .i64 (-1)] 3 k).1.trans hpa)) | (have hpq := (gcell gN (b := w8.heap.size) (by simp) zR k).1.trans ((cell_new w8.drew #[.int .i64 0, .int .i64 9, .int .i64 (-1)] 3 k).1.trans hpa)) | skip); clear gN rN)
        go_upto_region 16 with fail
        refine wp_letter (RulSt w B R (L + 12) b) ?_ ?_
        · first
            | exact ⟨(HA2.out.set1 _).1, _, _, _, _, _, _, _, HA2.out.set1 _, HZ2.out.put (i := 1) _ hne3, grown_new HG2.out 1 _ hwb, rd_put (HR2.out.mono (show L + 9 + 1 ≤ L + 12 by omega)) (i := 1) _ hBb hne2⟩
            | exact ⟨((HA2.out.set1 _).alloc _).1, _, _, _, _, _, _, _, (HA2.out.set1 _).alloc _, (HZ2.out.put (i := 1) _ hne3).alloc _, grown_alloc (grown_new HG2.out 1 _ hwb) _, rd_alloc (rd_put (HR2.out.mono (show L + 9 + 1 ≤ L + 12 by omega)) (i := 1) _ hBb hne2) _⟩
            | (trace_state; fail)
        · intro wx S10
          obtain ⟨zb, al, i, it, o, ot, p, pt, hA, hZ, hG, hRd⟩ := S10
          have HZ := Lib.hid hZ
          have HG := Lib.hid hG
          have HRd := Lib.hid hRd
          obtain ⟨uz, ⟨uc0, uc1, uc2, uc3, uc4, uc5, uc6⟩, uf0, uf1, uf2, uf3, uf4, uf5, uf6⟩ := hA
          obtain ⟨vz, ⟨vc0, vc1, vc2, vc3, vc4, vc5, vc6⟩, vf0, vf1, vf2, vf3, vf4, vf5, vf6⟩ := hZ
          clear hG hRd
          go_wp2_with fail
          obtain ⟨_, ⟨q0, q1, q2, q3, q4, q5, q6⟩, _⟩ := HZ.out.all (.bool al) (.int .i64 i) (.int .i64 it) (.int .i64 o) (.int .i64 ot) (.int .i64 p) (.int .i64 pt)
          refine bodyPost_ret (v := .agg #[.bool al, .int .i64 i, .int .i64 it, .int .i64 o, .int .i64 ot, .int .i64 p, .int .i64 pt]) (by simp [results, Tryz.results118, go_sem, q0, q1, q2, q3, q4, q5, q6]) rfl ⟨_, _, _, _, _, _, _, rfl, ?_, ?_⟩
          · exact grown_puts HG.out _ _ _ _ _ _ _ (Nat.le_refl _)
          · exact (rd_puts HRd.out _ _ _ _ _ _ _ hB1 hne1).mono (by omega)
      · have e0 : ((c : Int) == 0) = false := by rw [beq_eq_false_iff_ne]; omega
        clear c0
        by_cases c1 : c = 1
        · have e1 : ((c : Int) == 1) = true := by simp [c1]
          clear c1
          go_wp2_with fail
          (go_at_call 27; refine (pick_any 2 B R (L + 9) _ (by first | exact HRd.out | exact rd_drew HRd.out | exact rd_alloc HRd.out _ | exact rd_alloc (rd_drew HRd.out) _ | exact rd_drew (rd_alloc HRd.out _)) (by omega)).mono ?_; rintro e wN ⟨k, rfl, hk, gN, rN⟩; have hA2 : At7 wN b (.bool al) (.int .i64 i) (.int .i64 it) (.int .i64 o) (.int .i64 ot) (.int .i64 p) (.int .i64 pt) := HA.out.grown (by first | exact gN | exact (gW0 _).trans gN | exact (World.grownBy_alloc _ _ (some R)).trans gN | exact (gW2 _ _).trans gN | exact (gW3 _ _).trans gN) hne2; have HA2 := Lib.hid hA2; have HZ2 := Lib.hid (HZ.out.grown (by first | exact gN | exact (gW0 _).trans gN | exact (World.grownBy_alloc _ _ (some R)).trans gN | exact (gW2 _ _).trans gN | exact (gW3 _ _).trans gN) hne1); have HG2 := Lib.hid (HG.out.trans (by first | exact gN | exact (gW0 _).trans gN | exact (World.grownBy_alloc _ _ (some R)).trans gN | exact (gW2 _ _).trans gN | exact (gW3 _ _).trans gN)); have HR2 := Lib.hid rN; have hbN : b < wN.heap.size := hA2.1; have hbN2 : ¬ b = wN.heap.size := (by omega); obtain ⟨vz, ⟨vc0, vc1, vc2, vc3, vc4, vc5, vc6⟩, vf0, vf1, vf2, vf3, vf4, vf5, vf6⟩ := hA2; have hkn : k < 2 := (by omega); have hki : (k : Int) < 2 := (by omega); obtain ⟨pv, hpv, hpa⟩ := lit_at2 wN 110 99 k hkn; (first | (have hpq := (gcell gN (b := w8.heap.size) (by simp) zR k).1.trans ((cell_new _ #[.int .i64 110, .int .i64 99] 3 k).1.trans hpa)) | (have hpq := (gcell gN (b := w8.heap.size) (by simp) zR k).1.trans ((cell_new w8.drew #[.int .i64 110, .int .i64 99] 3 k).1.trans hpa)) | skip); clear gN rN)
          go_upto_region 16 with fail
          refine wp_letter (RulSt w B R (L + 12) b) ?_ ?_
          · first
              | exact ⟨(HA2.out.set4 _).1, _, _, _, _, _, _, _, HA2.out.set4 _, HZ2.out.put (i := 4) _ hne3, grown_new HG2.out 4 _ hwb, rd_put (HR2.out.mono (show L + 9 + 1 ≤ L + 12 by omega)) (i := 4) _ hBb hne2⟩
              | exact ⟨((HA2.out.set4 _).alloc _).1, _, _, _, _, _, _, _, (HA2.out.set4 _).alloc _, (HZ2.out.put (i := 4) _ hne3).alloc _, grown_alloc (grown_new HG2.out 4 _ hwb) _, rd_alloc (rd_put (HR2.out.mono (show L + 9 + 1 ≤ L + 12 by omega)) (i := 4) _ hBb hne2) _⟩
              | (trace_state; fail)
          · intro wx S10
            obtain ⟨zb, al, i, it, o, ot, p, pt, hA, hZ, hG, hRd⟩ := S10
            have HZ := Lib.hid hZ
            have HG := Lib.hid hG
            have HRd := Lib.hid hRd
            obtain ⟨uz, ⟨uc0, uc1, uc2, uc3, uc4, uc5, uc6⟩, uf0, uf1, uf2, uf3, uf4, uf5, uf6⟩ := hA
            obtain ⟨vz, ⟨vc0, vc1, vc2, vc3, vc4, vc5, vc6⟩, vf0, vf1, vf2, vf3, vf4, vf5, vf6⟩ := hZ
            clear hG hRd
            go_wp2_with fail
            obtain ⟨_, ⟨q0, q1, q2, q3, q4, q5, q6⟩, _⟩ := HZ.out.all (.bool al) (.int .i64 i) (.int .i64 it) (.int .i64 o) (.int .i64 ot) (.int .i64 p) (.int .i64 pt)
            refine bodyPost_ret (v := .agg #[.bool al, .int .i64 i, .int .i64 it, .int .i64 o, .int .i64 ot, .int .i64 p, .int .i64 pt]) (by simp [results, Tryz.results118, go_sem, q0, q1, q2, q3, q4, q5, q6]) rfl ⟨_, _, _, _, _, _, _, rfl, ?_, ?_⟩
            · exact grown_puts HG.out _ _ _ _ _ _ _ (Nat.le_refl _)
            · exact (rd_puts HRd.out _ _ _ _ _ _ _ hB1 hne1).mono (by omega)
        · have e1 : ((c : Int) == 1) = false := by rw [beq_eq_false_iff_ne]; omega
          clear c1
          by_cases c2 : c = 2
          · have e2 : ((c : Int) == 2) = true := by simp [c2]
            clear c2
            go_wp2_with fail
            (go_at_call 27; refine (pick_any 2 B R (L + 9) _ (by first | exact HRd.out | exact rd_drew HRd.out | exact rd_alloc HRd.out _ | exact rd_alloc (rd_drew HRd.out) _ | exact rd_drew (rd_alloc HRd.out _)) (by omega)).mono ?_; rintro e wN ⟨k, rfl, hk, gN, rN⟩; have hA2 : At7 wN b (.bool al) (.int .i64 i) (.int .i64 it) (.int .i64 o) (.int .i64 ot) (.int .i64 p) (.int .i64 pt) := HA.out.grown (by first | exact gN | exact (gW0 _).trans gN | exact (World.grownBy_alloc _ _ (some R)).trans gN | exact (gW2 _ _).trans gN | exact (gW3 _ _).trans gN) hne2; have HA2 := Lib.hid hA2; have HZ2 := Lib.hid (HZ.out.grown (by first | exact gN | exact (gW0 _).trans gN | exact (World.grownBy_alloc _ _ (some R)).trans gN | exact (gW2 _ _).trans gN | exact (gW3 _ _).trans gN) hne1); have HG2 := Lib.hid (HG.out.trans (by first | exact gN | exact (gW0 _).trans gN | exact (World.grownBy_alloc _ _ (some R)).trans gN | exact (gW2 _ _).trans gN | exact (gW3 _ _).trans gN)); have HR2 := Lib.hid rN; have hbN : b < wN.heap.size := hA2.1; have hbN2 : ¬ b = wN.heap.size := (by omega); obtain ⟨vz, ⟨vc0, vc1, vc2, vc3, vc4, vc5, vc6⟩, vf0, vf1, vf2, vf3, vf4, vf5, vf6⟩ := hA2; have hkn : k < 2 := (by omega); have hki : (k : Int) < 2 := (by omega); obtain ⟨pv, hpv, hpa⟩ := lit_at2 wN 0 1000 k hkn; (first | (have hpq := (gcell gN (b := w8.heap.size) (by simp) zR k).1.trans ((cell_new _ #[.int .i64 0, .int .i64 1000] 3 k).1.trans hpa)) | (have hpq := (gcell gN (b := w8.heap.size) (by simp) zR k).1.trans ((cell_new w8.drew #[.int .i64 0, .int .i64 1000] 3 k).1.trans hpa)) | skip); clear gN rN)
            go_upto_region 16 with fail
            refine wp_letter (RulSt w B R (L + 12) b) ?_ ?_
            · first
                | exact ⟨(HA2.out.set6 _).1, _, _, _, _, _, _, _, HA2.out.set6 _, HZ2.out.put (i := 6) _ hne3, grown_new HG2.out 6 _ hwb, rd_put (HR2.out.mono (show L + 9 + 1 ≤ L + 12 by omega)) (i := 6) _ hBb hne2⟩
                | exact ⟨((HA2.out.set6 _).alloc _).1, _, _, _, _, _, _, _, (HA2.out.set6 _).alloc _, (HZ2.out.put (i := 6) _ hne3).alloc _, grown_alloc (grown_new HG2.out 6 _ hwb) _, rd_alloc (rd_put (HR2.out.mono (show L + 9 + 1 ≤ L + 12 by omega)) (i := 6) _ hBb hne2) _⟩
                | (trace_state; fail)
            · intro wx S10
              obtain ⟨zb, al, i, it, o, ot, p, pt, hA, hZ, hG, hRd⟩ := S10
              have HZ := Lib.hid hZ
              have HG := Lib.hid hG
              have HRd := Lib.hid hRd
              obtain ⟨uz, ⟨uc0, uc1, uc2, uc3, uc4, uc5, uc6⟩, uf0, uf1, uf2, uf3, uf4, uf5, uf6⟩ := hA
              obtain ⟨vz, ⟨vc0, vc1, vc2, vc3, vc4, vc5, vc6⟩, vf0, vf1, vf2, vf3, vf4, vf5, vf6⟩ := hZ
              clear hG hRd
              go_wp2_with fail
              obtain ⟨_, ⟨q0, q1, q2, q3, q4, q5, q6⟩, _⟩ := HZ.out.all (.bool al) (.int .i64 i) (.int .i64 it) (.int .i64 o) (.int .i64 ot) (.int .i64 p) (.int .i64 pt)
              refine bodyPost_ret (v := .agg #[.bool al, .int .i64 i, .int .i64 it, .int .i64 o, .int .i64 ot, .int .i64 p, .int .i64 pt]) (by simp [results, Tryz.results118, go_sem, q0, q1, q2, q3, q4, q5, q6]) rfl ⟨_, _, _, _, _, _, _, rfl, ?_, ?_⟩
              · exact grown_puts HG.out _ _ _ _ _ _ _ (Nat.le_refl _)
              · exact (rd_puts HRd.out _ _ _ _ _ _ _ hB1 hne1).mono (by omega)
          · have e2 : ((c : Int) == 2) = false := by rw [beq_eq_false_iff_ne]; omega
            clear c2
            go_upto_region 16 with fail
            refine wp_letter (RulSt w B R (L + 12) b) ?_ ?_
            · first
                | exact ⟨(HA.out.set2 _).1, _, _, _, _, _, _, _, HA.out.set2 _, HZ.out.put (i := 2) _ hne3, grown_new HG.out 2 _ hwb, rd_put (HRd.out.mono (show L + 8 + 1 ≤ L + 12 by omega)) (i := 2) _ hBb hne2⟩
                | exact ⟨((HA.out.set2 _).alloc _).1, _, _, _, _, _, _, _, (HA.out.set2 _).alloc _, (HZ.out.put (i := 2) _ hne3).alloc _, grown_alloc (grown_new HG.out 2 _ hwb) _, rd_alloc (rd_put (HRd.out.mono (show L + 8 + 1 ≤ L + 12 by omega)) (i := 2) _ hBb hne2) _⟩
                | (trace_state; fail)
            · intro wx S10
              obtain ⟨zb, al, i, it, o, ot, p, pt, hA, hZ, hG, hRd⟩ := S10
              have HZ := Lib.hid hZ
              have HG := Lib.hid hG
              have HRd := Lib.hid hRd
              obtain ⟨uz, ⟨uc0, uc1, uc2, uc3, uc4, uc5, uc6⟩, uf0, uf1, uf2, uf3, uf4, uf5, uf6⟩ := hA
              obtain ⟨vz, ⟨vc0, vc1, vc2, vc3, vc4, vc5, vc6⟩, vf0, vf1, vf2, vf3, vf4, vf5, vf6⟩ := hZ
              clear hG hRd
              go_wp2_with fail
              obtain ⟨_, ⟨q0, q1, q2, q3, q4, q5, q6⟩, _⟩ := HZ.out.all (.bool al) (.int .i64 i) (.int .i64 it) (.int .i64 o) (.int .i64 ot) (.int .i64 p) (.int .i64 pt)
              refine bodyPost_ret (v := .agg #[.bool al, .int .i64 i, .int .i64 it, .int .i64 o, .int .i64 ot, .int .i64 p, .int .i64 pt]) (by simp [results, Tryz.results118, go_sem, q0, q1, q2, q3, q4, q5, q6]) rfl ⟨_, _, _, _, _, _, _, rfl, ?_, ?_⟩
              · exact grown_puts HG.out _ _ _ _ _ _ _ (Nat.le_refl _)
              · exact (rd_puts HRd.out _ _ _ _ _ _ _ hB1 hne1).mono (by omega)

end Go.Proofs.YtgfkiljkpkfapaaGreatDoor

/- The rules that are drawn: some, few, in memory of the call's own. Conditions: the reader is there; its place is small. -/
namespace Go.Proofs.YtgfkiljkpkfapaaGreatDoor
open Go.RowKit

theorem heap_lastR (w : World) (o : Obj) : (w.alloc o).heap[w.heap.size]? = some o := by
  show (w.heap.push o)[w.heap.size]? = _
  simp
/-- How things stand while rules are drawn. -/
def RulI (B R L : Nat) (w0 w : World) (v : Value) (l : List Rl) : Prop := OwnRl w w0.heap.size v l ∧ w0.grownBy w (some R) ∧ Rd B R L w
theorem OwnRl.grown {w w' : World} {B R : Nat} {v : Value} {l : List Rl} (h : OwnRl w B v l) (hg : w.grownBy w' (some R)) (hR : R < B) : OwnRl w' B v l := by
  refine World.ownsRow.kept h hg ?_
  obtain ⟨_, h1 | ⟨g, cap, cur, rfl, hb, _⟩⟩ := h
  · rw [h1.1]; exact .inl rfl
  · exact .inr (by simp [Value.ownBlock]; omega)
theorem OwnRl.ge {w : World} {B : Nat} {v : Value} {l : List Rl} (h : OwnRl w B v l) : ∀ k, v.ownBlock = some k → B ≤ k := by
  intro k hk
  obtain ⟨_, h1 | ⟨g, cap, cur, rfl, hb, _⟩⟩ := h
  · rw [h1.1] at hk; cases hk
  · simp [Value.ownBlock] at hk; omega
theorem RulI.later {B R L L' : Nat} {w0 w w' : World} {v : Value} {l : List Rl} (h : RulI B R L w0 w v l) (hg : w.grownBy w' (some R)) (hR : R < w0.heap.size) (hr : Rd B R L' w') : RulI B R L' w0 w' v l :=
  ⟨h.1.grown hg hR, h.2.1.trans hg, hr⟩
theorem RulI.app {B R L : Nat} {w0 w w' : World} {v v' : Value} {l : List Rl} {r : Rl} {ob : Obj} (h : RulI B R L w0 w v l) (hR : R < w0.heap.size) (hg : (w.alloc ob).grownBy w' v.ownBlock) (ho : w'.ownsRow w0.heap.size 115 7 v' (l.length + 1) (flatC rlC l ++ rlC r)) :
    ∃ g c l', v' = .slice (some g) (l' : List Rl).length c ∧ Hid (RulI B R L w0 w' (.slice (some g) l'.length c) l') ∧ l'.length = l.length + 1 := by
  have hO : OwnRl w' w0.heap.size v' (l ++ [r]) := by
    show w'.ownsRow _ _ _ _ _ _
    rw [flatC_app, List.length_append]
    simpa [flatC] using ho
  obtain ⟨a0, cap, e, _, hr0⟩ := RdC.of_own rlC_len (by decide) hO
  obtain ⟨b0, rfl, _⟩ := hr0 (by simp)
  subst e
  obtain ⟨a, ha⟩ : ∃ a : Addr, a = ⟨b0, 0, none⟩ := ⟨_, rfl⟩
  rw [← ha] at hO ⊢
  have hge := h.1.ge
  have hg2 : w.grownBy w' v.ownBlock := (World.grownBy_alloc _ _ _).trans hg
  exact ⟨a, cap, l ++ [r], rfl, ⟨hO, h.2.1.andThen hg2 (fun j e => .inl (by have := hge _ e; omega)), rd_kept h.2.2 hg2 (fun j e => by have := hge _ e; have := h.2.2.base; exact ⟨by omega, by omega⟩)⟩, by simp⟩

set_option maxRecDepth 100000 in
set_option maxHeartbeats 3200000 in
theorem rules_any (m : Int) (B R L : Nat) (w : World) (h : Rd B R L w) (hL : L ≤ 980000) (hm : 0 ≤ m) (hm2 : m ≤ 1000000) :
    Calls Tryz.prog 69 #[.pointer (some ⟨R, 0, none⟩), .int .i64 m] w fun e w' => ∃ g c l, e = .returned (.slice (some g) (l : List Rl).length c) ∧ OwnRl w' w.heap.size (.slice (some g) l.length c) l ∧ l.length ≤ 8 ∧ w.grownBy w' (some R) ∧ Rd B R (L + 300) w' := by
  have hR := h.lt
  have hBR := h.base
  have H := Lib.hid h
  clear h
  obtain ⟨i0, hi, hz0, hz1, hz2⟩ := info_parts infoRl
  go_enter Tryz.func69, Tryz.ntmps69
  go_wp2_with fail
  (go_at_call 27; refine (pick_any 3 B R L _ (by first | exact H.out | exact rd_alloc H.out _) (by omega)).mono ?_; rintro e w1 ⟨k1, rfl, h1, g1, r1⟩)
  have H1 : Hid (RulI B R (L + 1) w w1 (.slice (some ⟨w.heap.size, 0, none⟩) ([] : List Rl).length 0) []) := by
    have h0 : RulI B R L w (w.alloc (.cells #[] 115)) (.slice (some ⟨w.heap.size, 0, none⟩) ([] : List Rl).length 0) [] := by
      refine ⟨⟨rfl, Or.inr ⟨w.heap.size, 0, #[], rfl, Nat.le_refl _, heap_lastR _ _, Nat.le_refl _, by unfold maxLen; omega, rfl, rfl⟩⟩, World.grownBy_alloc _ _ _, rd_alloc H.out _⟩
    exact h0.later g1 hR r1
  clear g1 r1
  by_cases hk1 : k1 = 0
  · subst hk1
    go_wp2_with fail
    have HX : Hid (RulI B R (L + 62) w w1 (.slice (some ⟨w.heap.size, 0, none⟩) ([] : List Rl).length 0) []) := ⟨H1.out.1, H1.out.2.1, H1.out.2.2.mono (by omega)⟩
    clear H1
    (go_at_call 28; refine (odd_any m B R (L + 62) _ HX.out.2.2 (by omega) hm hm2).mono ?_; rintro e w2 ⟨bo, rfl, g2, r2⟩)
    have H2 : Hid (RulI B R (L + 63) w w2 (.slice (some ⟨w.heap.size, 0, none⟩) (([] : List Rl)).length 0) ([] : List Rl)) := HX.out.later g2 hR r2
    clear g2 r2 HX
    cases bo
    · go_wp2_with fail
      go_ret
      exact ⟨⟨w.heap.size, 0, none⟩, 0, ([] : List Rl), rfl, H2.out.1, by first | omega | (simp; done) | (simp; omega), H2.out.2.1, H2.out.2.2.mono (by omega)⟩
    · go_wp2_with fail
      (go_at_call 27; refine (pick_any 2 B R (L + 63) _ H2.out.2.2 (by omega)).mono ?_; rintro e w3 ⟨k3, rfl, h3, g3, r3⟩)
      have H3 : Hid (RulI B R (L + 64) w w3 (.slice (some ⟨w.heap.size, 0, none⟩) (([] : List Rl)).length 0) ([] : List Rl)) := H2.out.later g3 hR r3
      clear g3 r3 H2
      by_cases hk3 : k3 = 0
      · subst hk3
        go_wp2_with fail
        (go_at_call 118; refine (rule_any 1 B R (L + 64) _ H3.out.2.2 (by omega) (by omega) (by omega)).mono ?_; rintro e w5 ⟨al, i, it, o, ot, p, pt, rfl, g5, r5⟩)
        have H5 : Hid (RulI B R (L + 64 + 20) w w5 (.slice (some ⟨w.heap.size, 0, none⟩) (([] : List Rl)).length 0) ([] : List Rl)) := H3.out.later g5 hR r5
        have HO5 : Hid (∀ x, OwnRl (w5.alloc x) w.heap.size (.slice (some ⟨w.heap.size, 0, none⟩) (([] : List Rl)).length 0) ([] : List Rl)) := fun x => H5.out.1.grown (World.grownBy_alloc _ _ (some R)) hR
        have z5 := H5.out.2.1.size
        clear g5 r5
        go_wp2_with (at_builtin; refine wpList_append_own _ rfl (.tmp 28) (.tmp 31) 23 rfl w.heap.size 115 i0 (.agg #[.bool false, .int .i64 0, .int .i64 0, .int .i64 0, .int .i64 0, .int .i64 0, .int .i64 0]) 7 56 Tryz.underlying23 hi hz0 hz1 hz2 rfl (by decide) _ (([] : List Rl)).length (flatC rlC (([] : List Rl))) rfl (HO5.out _) ⟨w5.heap.size, 0, none⟩ 1 1 [.bool al, .int .i64 i, .int .i64 it, .int .i64 o, .int .i64 ot, .int .i64 p, .int .i64 pt] rfl rfl ?c1 ?c2 ?c3 ?c4 ?c5 ?_)
        case c1 =>
          intro j u hj
          match j, hj with
          | 0, hj => simp at hj; subst hj; simp [Addr.add]
          | 1, hj => simp at hj; subst hj; simp [Addr.add]
          | 2, hj => simp at hj; subst hj; simp [Addr.add]
          | 3, hj => simp at hj; subst hj; simp [Addr.add]
          | 4, hj => simp at hj; subst hj; simp [Addr.add]
          | 5, hj => simp at hj; subst hj; simp [Addr.add]
          | 6, hj => simp at hj; subst hj; simp [Addr.add]
        case c2 => intro u hu; simp at hu; rcases hu with rfl | rfl | rfl | rfl | rfl | rfl | rfl <;> rfl
        case c3 => unfold maxLen; first | omega | (simp; done) | (simp; omega)
        case c4 => first | omega | (simp; done) | (simp; omega)
        case c5 => simp; omega
        intro v5 x5 hown5 hgrow5 _
        obtain ⟨g5, c5, l5, rfl, HX5, lx5⟩ := H5.out.app (r := ⟨al, i, it, o, ot, p, pt⟩) hR hgrow5 hown5
        clear hown5 hgrow5 H5 HO5
        go_wp2_with fail
        go_ret
        exact ⟨g5, c5, l5, rfl, HX5.out.1, by first | omega | (simp at lx5; omega), HX5.out.2.1, HX5.out.2.2.mono (by omega)⟩
      · have hk3b : ((k3 : Int) == 0) = false := by rw [beq_eq_false_iff_ne]; omega
        clear hk3
        go_wp2_with fail
        go_loopw [5] (fun v wr => ∃ g c l, v = .slice (some g) (l : List Rl).length c ∧ l.length ≤ 6 ∧ Hid (RulI B R (L + 64 + 20 * l.length) w wr (.slice (some g) l.length c) l)) (fun v _ => match v with | .slice _ n _ => 7 - n | _ => 0)
        case atStart => exact ⟨⟨w.heap.size, 0, none⟩, 0, ([] : List Rl), rfl, by first | omega | (simp; done), ⟨H3.out.1, H3.out.2.1, H3.out.2.2.mono (by omega)⟩⟩
        case round =>
          obtain ⟨g, c, l, rfl, hl, HJ⟩ := hrel
          by_cases hle : l.length ≤ 5
          · have hlei : (l.length : Int) ≤ 5 := by omega
            go_wp2_with fail
            (go_at_call 118; refine (rule_any 99999 B R (L + 64 + 20 * l.length) _ HJ.out.2.2 (by omega) (by omega) (by omega)).mono ?_; rintro e w6 ⟨al, i, it, o, ot, p, pt, rfl, g6, r6⟩)
            have H6 : Hid (RulI B R (L + 64 + 20 * l.length + 20) w w6 (.slice (some g) (l).length c) l) := HJ.out.later g6 hR r6
            have HO6 : Hid (∀ x, OwnRl (w6.alloc x) w.heap.size (.slice (some g) (l).length c) l) := fun x => H6.out.1.grown (World.grownBy_alloc _ _ (some R)) hR
            have z6 := H6.out.2.1.size
            clear g6 r6
            go_wp2_with (at_builtin; refine wpList_append_own _ rfl (.tmp 36) (.tmp 39) 23 rfl w.heap.size 115 i0 (.agg #[.bool false, .int .i64 0, .int .i64 0, .int .i64 0, .int .i64 0, .int .i64 0, .int .i64 0]) 7 56 Tryz.underlying23 hi hz0 hz1 hz2 rfl (by decide) _ (l).length (flatC rlC (l)) rfl (HO6.out _) ⟨w6.heap.size, 0, none⟩ 1 1 [.bool al, .int .i64 i, .int .i64 it, .int .i64 o, .int .i64 ot, .int .i64 p, .int .i64 pt] rfl rfl ?c1 ?c2 ?c3 ?c4 ?c5 ?_)
            case c1 =>
              intro j u hj
              match j, hj with
              | 0, hj => simp at hj; subst hj; simp [Addr.add]
              | 1, hj => simp at hj; subst hj; simp [Addr.add]
              | 2, hj => simp at hj; subst hj; simp [Addr.add]
              | 3, hj => simp at hj; subst hj; simp [Addr.add]
              | 4, hj => simp at hj; subst hj; simp [Addr.add]
              | 5, hj => simp at hj; subst hj; simp [Addr.add]
              | 6, hj => simp at hj; subst hj; simp [Addr.add]
            case c2 => intro u hu; simp at hu; rcases hu with rfl | rfl | rfl | rfl | rfl | rfl | rfl <;> rfl
            case c3 => unfold maxLen; first | omega | (simp; done) | (simp; omega)
            case c4 => first | omega | (simp; done) | (simp; omega)
            case c5 => simp; omega
            intro v6 x6 hown6 hgrow6 _
            obtain ⟨g6, c6, l6, rfl, HX6, lx6⟩ := H6.out.app (r := ⟨al, i, it, o, ot, p, pt⟩) hR hgrow6 hown6
            clear hown6 hgrow6 H6 HO6
            go_wp2_with fail
            go_roundw
            case rel => exact ⟨g6, c6, l6, rfl, by omega, ⟨HX6.out.1, HX6.out.2.1, HX6.out.2.2.mono (by omega)⟩⟩
            case measure => (show 7 - l6.length < 7 - l.length; omega)
          · have hlei : ¬ (l.length : Int) ≤ 5 := by omega
            go_wp2_with fail
            go_ret
            exact ⟨g, c, l, rfl, HJ.out.1, by omega, HJ.out.2.1, HJ.out.2.2.mono (by omega)⟩
  · have hk1i : (0 : Int) < (k1 : Int) := by omega
    clear hk1
    go_wp2_with fail
    (go_at_call 27; refine (pick_any 4 B R (L + 1) _ H1.out.2.2 (by omega)).mono ?_; rintro e w4 ⟨k4, rfl, h4, g4, r4⟩)
    have H4 : Hid (RulI B R (L + 2) w w4 (.slice (some ⟨w.heap.size, 0, none⟩) ([] : List Rl).length 0) []) := H1.out.later g4 hR r4
    clear g4 r4 H1
    go_wp2_with fail
    go_loopw [5, 6] (fun v i wr => ∃ k : Nat, i = .int .i64 k ∧ ∃ g c l, v = .slice (some g) (l : List Rl).length c ∧ l.length + k ≤ 3 ∧ Hid (RulI B R (L + 2 + 20 * l.length) w wr (.slice (some g) l.length c) l)) (fun _ i _ => (intOf i).toNat)
    case atStart => exact ⟨k4, rfl, _, _, [], rfl, by simp; omega, ⟨H4.out.1, H4.out.2.1, H4.out.2.2.mono (by omega)⟩⟩
    case round =>
      obtain ⟨k, rfl, gx, cx, lx, rfl, hl3, HJ⟩ := hrel
      by_cases hk : 0 < k
      · have hki : (0 : Int) < (k : Int) := by omega
        go_wp2_with fail
        (go_at_call 118; refine (rule_any 99999 B R (L + 2 + 20 * lx.length) _ HJ.out.2.2 (by omega) (by omega) (by omega)).mono ?_; rintro e w7 ⟨al, i, it, o, ot, p, pt, rfl, g7, r7⟩)
        have H7 : Hid (RulI B R (L + 2 + 20 * lx.length + 20) w w7 (.slice (some gx) (lx).length cx) lx) := HJ.out.later g7 hR r7
        have HO7 : Hid (∀ x, OwnRl (w7.alloc x) w.heap.size (.slice (some gx) (lx).length cx) lx) := fun x => H7.out.1.grown (World.grownBy_alloc _ _ (some R)) hR
        have z7 := H7.out.2.1.size
        clear g7 r7
        go_wp2_with (at_builtin; refine wpList_append_own _ rfl (.tmp 17) (.tmp 20) 23 rfl w.heap.size 115 i0 (.agg #[.bool false, .int .i64 0, .int .i64 0, .int .i64 0, .int .i64 0, .int .i64 0, .int .i64 0]) 7 56 Tryz.underlying23 hi hz0 hz1 hz2 rfl (by decide) _ (lx).length (flatC rlC (lx)) rfl (HO7.out _) ⟨w7.heap.size, 0, none⟩ 1 1 [.bool al, .int .i64 i, .int .i64 it, .int .i64 o, .int .i64 ot, .int .i64 p, .int .i64 pt] rfl rfl ?c1 ?c2 ?c3 ?c4 ?c5 ?_)
        case c1 =>
          intro j u hj
          match j, hj with
          | 0, hj => simp at hj; subst hj; simp [Addr.add]
          | 1, hj => simp at hj; subst hj; simp [Addr.add]
          | 2, hj => simp at hj; subst hj; simp [Addr.add]
          | 3, hj => simp at hj; subst hj; simp [Addr.add]
          | 4, hj => simp at hj; subst hj; simp [Addr.add]
          | 5, hj => simp at hj; subst hj; simp [Addr.add]
          | 6, hj => simp at hj; subst hj; simp [Addr.add]
        case c2 => intro u hu; simp at hu; rcases hu with rfl | rfl | rfl | rfl | rfl | rfl | rfl <;> rfl
        case c3 => unfold maxLen; first | omega | (simp; done) | (simp; omega)
        case c4 => first | omega | (simp; done) | (simp; omega)
        case c5 => simp; omega
        intro v7 x7 hown7 hgrow7 _
        obtain ⟨g7, c7, l7, rfl, HX7, lx7⟩ := H7.out.app (r := ⟨al, i, it, o, ot, p, pt⟩) hR hgrow7 hown7
        clear hown7 hgrow7 H7 HO7
        go_wp2_with fail
        go_roundw
        case rel => exact ⟨k - 1, by go_num, g7, c7, l7, rfl, by omega, ⟨HX7.out.1, HX7.out.2.1, HX7.out.2.2.mono (by omega)⟩⟩
        case measure => simp [intOf]; omega
      · obtain rfl : k = 0 := by omega
        have hki : ¬ (0 : Int) < ((0 : Nat) : Int) := by omega
        go_wp2_with fail
        have HX : Hid (RulI B R (L + 62) w wr (.slice (some gx) lx.length cx) lx) := ⟨HJ.out.1, HJ.out.2.1, HJ.out.2.2.mono (by omega)⟩
        clear HJ
        (go_at_call 28; refine (odd_any m B R (L + 62) _ HX.out.2.2 (by omega) hm hm2).mono ?_; rintro e w2 ⟨bo, rfl, g2, r2⟩)
        have H2 : Hid (RulI B R (L + 63) w w2 (.slice (some gx) (lx).length cx) lx) := HX.out.later g2 hR r2
        clear g2 r2 HX
        cases bo
        · go_wp2_with fail
          go_ret
          exact ⟨gx, cx, lx, rfl, H2.out.1, by first | omega | (simp; done) | (simp; omega), H2.out.2.1, H2.out.2.2.mono (by omega)⟩
        · go_wp2_with fail
          (go_at_call 27; refine (pick_any 2 B R (L + 63) _ H2.out.2.2 (by omega)).mono ?_; rintro e w3 ⟨k3, rfl, h3, g3, r3⟩)
          have H3 : Hid (RulI B R (L + 64) w w3 (.slice (some gx) (lx).length cx) lx) := H2.out.later g3 hR r3
          clear g3 r3 H2
          by_cases hk3 : k3 = 0
          · subst hk3
            go_wp2_with fail
            (go_at_call 118; refine (rule_any 1 B R (L + 64) _ H3.out.2.2 (by omega) (by omega) (by omega)).mono ?_; rintro e w5 ⟨al, i, it, o, ot, p, pt, rfl, g5, r5⟩)
            have H5 : Hid (RulI B R (L + 64 + 20) w w5 (.slice (some gx) (lx).length cx) lx) := H3.out.later g5 hR r5
            have HO5 : Hid (∀ x, OwnRl (w5.alloc x) w.heap.size (.slice (some gx) (lx).length cx) lx) := fun x => H5.out.1.grown (World.grownBy_alloc _ _ (some R)) hR
            have z5 := H5.out.2.1.size
            clear g5 r5
            go_wp2_with (at_builtin; refine wpList_append_own _ rfl (.tmp 28) (.tmp 31) 23 rfl w.heap.size 115 i0 (.agg #[.bool false, .int .i64 0, .int .i64 0, .int .i64 0, .int .i64 0, .int .i64 0, .int .i64 0]) 7 56 Tryz.underlying23 hi hz0 hz1 hz2 rfl (by decide) _ (lx).length (flatC rlC (lx)) rfl (HO5.out _) ⟨w5.heap.size, 0, none⟩ 1 1 [.bool al, .int .i64 i, .int .i64 it, .int .i64 o, .int .i64 ot, .int .i64 p, .int .i64 pt] rfl rfl ?c1 ?c2 ?c3 ?c4 ?c5 ?_)
            case c1 =>
              intro j u hj
              match j, hj with
              | 0, hj => simp at hj; subst hj; simp [Addr.add]
              | 1, hj => simp at hj; subst hj; simp [Addr.add]
              | 2, hj => simp at hj; subst hj; simp [Addr.add]
              | 3, hj => simp at hj; subst hj; simp [Addr.add]
              | 4, hj => simp at hj; subst hj; simp [Addr.add]
              | 5, hj => simp at hj; subst hj; simp [Addr.add]
              | 6, hj => simp at hj; subst hj; simp [Addr.add]
            case c2 => intro u hu; simp at hu; rcases hu with rfl | rfl | rfl | rfl | rfl | rfl | rfl <;> rfl
            case c3 => unfold maxLen; first | omega | (simp; done) | (simp; omega)
            case c4 => first | omega | (simp; done) | (simp; omega)
            case c5 => simp; omega
            intro v5 x5 hown5 hgrow5 _
            obtain ⟨g5, c5, l5, rfl, HX5, lx5⟩ := H5.out.app (r := ⟨al, i, it, o, ot, p, pt⟩) hR hgrow5 hown5
            clear hown5 hgrow5 H5 HO5
            go_wp2_with fail
            go_ret
            exact ⟨g5, c5, l5, rfl, HX5.out.1, by first | omega | (simp at lx5; omega), HX5.out.2.1, HX5.out.2.2.mono (by omega)⟩
          · have hk3b : ((k3 : Int) == 0) = false := by rw [beq_eq_false_iff_ne]; omega
            clear hk3
            go_wp2_with fail
            go_loopw [5] (fun v wr => ∃ g c l, v = .slice (some g) (l : List Rl).length c ∧ l.length ≤ 6 ∧ Hid (RulI B R (L + 64 + 20 * l.length) w wr (.slice (some g) l.length c) l)) (fun v _ => match v with | .slice _ n _ => 7 - n | _ => 0)
            case atStart => exact ⟨gx, cx, lx, rfl, by first | omega | (simp; done), ⟨H3.out.1, H3.out.2.1, H3.out.2.2.mono (by omega)⟩⟩
            case round =>
              obtain ⟨g, c, l, rfl, hl, HJ⟩ := hrel
              by_cases hle : l.length ≤ 5
              · have hlei : (l.length : Int) ≤ 5 := by omega
                go_wp2_with fail
                (go_at_call 118; refine (rule_any 99999 B R (L + 64 + 20 * l.length) _ HJ.out.2.2 (by omega) (by omega) (by omega)).mono ?_; rintro e w6 ⟨al, i, it, o, ot, p, pt, rfl, g6, r6⟩)
                have H6 : Hid (RulI B R (L + 64 + 20 * l.length + 20) w w6 (.slice (some g) (l).length c) l) := HJ.out.later g6 hR r6
                have HO6 : Hid (∀ x, OwnRl (w6.alloc x) w.heap.size (.slice (some g) (l).length c) l) := fun x => H6.out.1.grown (World.grownBy_alloc _ _ (some R)) hR
                have z6 := H6.out.2.1.size
                clear g6 r6
                go_wp2_with (at_builtin; refine wpList_append_own _ rfl (.tmp 36) (.tmp 39) 23 rfl w.heap.size 115 i0 (.agg #[.bool false, .int .i64 0, .int .i64 0, .int .i64 0, .int .i64 0, .int .i64 0, .int .i64 0]) 7 56 Tryz.underlying23 hi hz0 hz1 hz2 rfl (by decide) _ (l).length (flatC rlC (l)) rfl (HO6.out _) ⟨w6.heap.size, 0, none⟩ 1 1 [.bool al, .int .i64 i, .int .i64 it, .int .i64 o, .int .i64 ot, .int .i64 p, .int .i64 pt] rfl rfl ?c1 ?c2 ?c3 ?c4 ?c5 ?_)
                case c1 =>
                  intro j u hj
                  match j, hj with
                  | 0, hj => simp at hj; subst hj; simp [Addr.add]
                  | 1, hj => simp at hj; subst hj; simp [Addr.add]
                  | 2, hj => simp at hj; subst hj; simp [Addr.add]
                  | 3, hj => simp at hj; subst hj; simp [Addr.add]
                  | 4, hj => simp at hj; subst hj; simp [Addr.add]
                  | 5, hj => simp at hj; subst hj; simp [Addr.add]
                  | 6, hj => simp at hj; subst hj; simp [Addr.add]
                case c2 => intro u hu; simp at hu; rcases hu with rfl | rfl | rfl | rfl | rfl | rfl | rfl <;> rfl
                case c3 => unfold maxLen; first | omega | (simp; done) | (simp; omega)
                case c4 => first | omega | (simp; done) | (simp; omega)
                case c5 => simp; omega
                intro v6 x6 hown6 hgrow6 _
                obtain ⟨g6, c6, l6, rfl, HX6, lx6⟩ := H6.out.app (r := ⟨al, i, it, o, ot, p, pt⟩) hR hgrow6 hown6
                clear hown6 hgrow6 H6 HO6
                go_wp2_with fail
                go_roundw
                case rel => exact ⟨g6, c6, l6, rfl, by omega, ⟨HX6.out.1, HX6.out.2.1, HX6.out.2.2.mono (by omega)⟩⟩
                case measure => (show 7 - l6.length < 7 - l.length; omega)
              · have hlei : ¬ (l.length : Int) ≤ 5 := by omega
                go_wp2_with fail
                go_ret
                exact ⟨g, c, l, rfl, HJ.out.1, by omega, HJ.out.2.1, HJ.out.2.2.mono (by omega)⟩

end Go.Proofs.YtgfkiljkpkfapaaGreatDoor

/- How things stand while a segment is drawn for a box. No condition. -/
namespace Go.Proofs.YtgfkiljkpkfapaaGreatDoor
open Go.RowKit Go.Sort

/-- How things stand while a segment is drawn for a box: the box, the answer, the segment, the box's streams, the reader. -/
def DS (B R Bb s b5 L : Nat) (w0 w : World) (t3 t4 t5 : List Value) (v3 : Value) (cs : List Cn) : Prop :=
  Blk w s 29 t3 ∧ Blk w (s + 1) 33 t4 ∧ Blk w b5 33 t5 ∧ OwnCn w Bb v3 cs ∧ w0.grownBy w (some R) ∧ Rd B R L w
theorem own_grownR {w w' : World} {B k n R : Nat} {t : TypeId} {v : Value} {xs : List Value} (h : w.ownsRow B t k v n xs) (hg : w.grownBy w' (some R)) (hR : R < B) : w'.ownsRow B t k v n xs := by
  refine h.kept hg ?_
  rcases h.2 with ⟨rfl, _⟩ | ⟨g, cap, cur, rfl, hb, _⟩
  · exact .inl rfl
  · exact .inr (by simp [Value.ownBlock]; omega)
theorem grown_fromD {w w' : World} {row : Option Nat} (h : w.drew.grownBy w' row) : w.grownBy w' row := ⟨h.os, h.tape, h.output, h.size, h.block⟩
theorem rd_drewD {B R L : Nat} {w : World} (h : Rd B R L w) : Rd B R L w.drew := rd_kept h (row := none) ⟨rfl, rfl, rfl, Nat.le_refl _, fun _ _ _ => rfl⟩ (fun b e => by cases e)
theorem DS.grown {B R Bb s b5 L L' : Nat} {w0 w w' : World} {t3 t4 t5 : List Value} {v3 : Value} {cs : List Cn} (h : DS B R Bb s b5 L w0 w t3 t4 t5 v3 cs) (hg : w.grownBy w' (some R)) (hr : Rd B R L' w') (hRs : R < s) (hRb : R < Bb) (hs5 : s < b5) : DS B R Bb s b5 L' w0 w' t3 t4 t5 v3 cs :=
  ⟨h.1.grown hg (by omega), h.2.1.grown hg (by omega), h.2.2.1.grown hg (by omega), own_grownR h.2.2.2.1 hg hRb, h.2.2.2.2.1.trans hg, hr⟩
theorem DS.set5 {B R Bb s b5 L : Nat} {w0 w : World} {t3 t4 t5 : List Value} {v3 : Value} {cs : List Cn} (h : DS B R Bb s b5 L w0 w t3 t4 t5 v3 cs) (hRs : R < s) (hBR : B ≤ R) (hs5 : s + 1 < b5) (h0 : w0.heap.size ≤ s) (i : Nat) (u : Value) :
    DS B R Bb s b5 L w0 (w.setCell ⟨b5, i, none⟩ u) t3 t4 (t5.set i u) v3 cs :=
  ⟨h.1.setO (by omega) i u, h.2.1.setO (by omega) i u, h.2.2.1.set i u, own_setR h.2.2.2.1 h.2.2.1 (by decide) i u, grown_putR h.2.2.2.2.1 (by omega) i u, rd_put h.2.2.2.2.2 u (by omega) (by omega)⟩
theorem DS.alloc {B R Bb s b5 L : Nat} {w0 w : World} {t3 t4 t5 : List Value} {v3 : Value} {cs : List Cn} (h : DS B R Bb s b5 L w0 w t3 t4 t5 v3 cs) (o : Obj) : DS B R Bb s b5 L w0 (w.alloc o) t3 t4 t5 v3 cs :=
  ⟨h.1.alloc o, h.2.1.alloc o, h.2.2.1.alloc o, World.ownsRow.alloc h.2.2.2.1 o, grown_alloc h.2.2.2.2.1 o, rd_alloc h.2.2.2.2.2 o⟩
theorem DS.place {B R Bb s b5 L L' : Nat} {w0 w : World} {t3 t4 t5 : List Value} {v3 : Value} {cs : List Cn} (h : DS B R Bb s b5 L w0 w t3 t4 t5 v3 cs) (hL : L ≤ L') : DS B R Bb s b5 L' w0 w t3 t4 t5 v3 cs :=
  ⟨h.1, h.2.1, h.2.2.1, h.2.2.2.1, h.2.2.2.2.1, h.2.2.2.2.2.mono hL⟩
theorem DS.setN {B R Bb s b5 b6 L : Nat} {w0 w : World} {t3 t4 t5 : List Value} {v3 : Value} {cs : List Cn} (h : DS B R Bb s b5 L w0 w t3 t4 t5 v3 cs) (hRs : R < s) (hBR : B ≤ R) (hs5 : s + 1 < b5) (h56 : b5 < b6) (hv : v3.ownBlock ≠ some b6) (h0 : w0.heap.size ≤ s) (i : Nat) (u : Value) :
    DS B R Bb s b5 L w0 (w.setCell ⟨b6, i, none⟩ u) t3 t4 t5 v3 cs :=
  ⟨h.1.setO (by omega) i u, h.2.1.setO (by omega) i u, h.2.2.1.setO (by omega) i u, World.ownsRow.kept h.2.2.2.1 (grown_setG w b6 i u) (.inr hv), grown_putR h.2.2.2.2.1 (by omega) i u, rd_put h.2.2.2.2.2 u (by omega) (by omega)⟩
/-- .. and one more box, of a stream. -/
def DE (B R Bb s b5 b6 L : Nat) (w0 w : World) (t3 t4 t5 t6 : List Value) (v3 : Value) (cs : List Cn) : Prop :=
  DS B R Bb s b5 L w0 w t3 t4 t5 v3 cs ∧ Blk w b6 49 t6
theorem DE.grown {B R Bb s b5 b6 L L' : Nat} {w0 w w' : World} {t3 t4 t5 t6 : List Value} {v3 : Value} {cs : List Cn} (h : DE B R Bb s b5 b6 L w0 w t3 t4 t5 t6 v3 cs) (hg : w.grownBy w' (some R)) (hr : Rd B R L' w') (hRs : R < s) (hRb : R < Bb) (hs5 : s < b5) (h56 : b5 < b6) : DE B R Bb s b5 b6 L' w0 w' t3 t4 t5 t6 v3 cs :=
  ⟨h.1.grown hg hr hRs hRb hs5, h.2.grown hg (by omega)⟩
theorem DE.set5 {B R Bb s b5 b6 L : Nat} {w0 w : World} {t3 t4 t5 t6 : List Value} {v3 : Value} {cs : List Cn} (h : DE B R Bb s b5 b6 L w0 w t3 t4 t5 t6 v3 cs) (hRs : R < s) (hBR : B ≤ R) (hs5 : s + 1 < b5) (h56 : b5 < b6) (h0 : w0.heap.size ≤ s) (i : Nat) (u : Value) :
    DE B R Bb s b5 b6 L w0 (w.setCell ⟨b5, i, none⟩ u) t3 t4 (t5.set i u) t6 v3 cs :=
  ⟨h.1.set5 hRs hBR hs5 h0 i u, h.2.setO (by omega) i u⟩
theorem DE.drew {B R Bb s b5 b6 L : Nat} {w0 w : World} {t3 t4 t5 t6 : List Value} {v3 : Value} {cs : List Cn} (h : DE B R Bb s b5 b6 L w0 w t3 t4 t5 t6 v3 cs) : DE B R Bb s b5 b6 L w0 w.drew t3 t4 t5 t6 v3 cs :=
  ⟨⟨h.1.1, h.1.2.1, h.1.2.2.1, h.1.2.2.2.1, grown_drewG h.1.2.2.2.2.1, rd_drewD h.1.2.2.2.2.2⟩, h.2⟩
theorem DE.put4 {B R Bb s b5 b6 L : Nat} {w0 w : World} {t3 t4 t6 : List Value} {v3 z0 z1 z2 z3 z4 z5 z6 : Value} {cs : List Cn} (h : DE B R Bb s b5 b6 L w0 w t3 t4 [z0, z1, z2, z3, z4, z5, z6] t6 v3 cs) (hRs : R < s) (hBR : B ≤ R) (hs5 : s + 1 < b5) (h56 : b5 < b6) (h0 : w0.heap.size ≤ s) (u0 u1 u2 u3 : Value) :
    DE B R Bb s b5 b6 L w0 ((((w.setCell ⟨b5, 0, none⟩ u0).setCell ⟨b5, 1, none⟩ u1).setCell ⟨b5, 2, none⟩ u2).setCell ⟨b5, 3, none⟩ u3) t3 t4 [u0, u1, u2, u3, z4, z5, z6] t6 v3 cs :=
  ((((h.set5 hRs hBR hs5 h56 h0 0 u0).set5 hRs hBR hs5 h56 h0 1 u1).set5 hRs hBR hs5 h56 h0 2 u2).set5 hRs hBR hs5 h56 h0 3 u3)
theorem DE.place {B R Bb s b5 b6 L L' : Nat} {w0 w : World} {t3 t4 t5 t6 : List Value} {v3 : Value} {cs : List Cn} (h : DE B R Bb s b5 b6 L w0 w t3 t4 t5 t6 v3 cs) (hL : L ≤ L') : DE B R Bb s b5 b6 L' w0 w t3 t4 t5 t6 v3 cs := ⟨h.1.place hL, h.2⟩
theorem DS.put7 {B R Bb s b5 b6 L : Nat} {w0 w : World} {t3 t4 t5 : List Value} {v3 : Value} {cs : List Cn} (h : DS B R Bb s b5 L w0 w t3 t4 t5 v3 cs) (hRs : R < s) (hBR : B ≤ R) (hs5 : s + 1 < b5) (h56 : b5 < b6) (hv : v3.ownBlock ≠ some b6) (h0 : w0.heap.size ≤ s) (u0 u1 u2 u3 u4 u5 u6 : Value) :
    DS B R Bb s b5 L w0 (((((((w.setCell ⟨b6, 0, none⟩ u0).setCell ⟨b6, 1, none⟩ u1).setCell ⟨b6, 2, none⟩ u2).setCell ⟨b6, 3, none⟩ u3).setCell ⟨b6, 4, none⟩ u4).setCell ⟨b6, 5, none⟩ u5).setCell ⟨b6, 6, none⟩ u6) t3 t4 t5 v3 cs :=
  (((((((h.setN hRs hBR hs5 h56 hv h0 0 u0).setN hRs hBR hs5 h56 hv h0 1 u1).setN hRs hBR hs5 h56 hv h0 2 u2).setN hRs hBR hs5 h56 hv h0 3 u3).setN hRs hBR hs5 h56 hv h0 4 u4).setN hRs hBR hs5 h56 hv h0 5 u5).setN hRs hBR hs5 h56 hv h0 6 u6)
theorem Blk.put7 {w : World} {b : Nat} {t : TypeId} {x0 x1 x2 x3 x4 x5 x6 : Value} (h : Blk w b t [x0, x1, x2, x3, x4, x5, x6]) (u0 u1 u2 u3 u4 u5 u6 : Value) :
    Blk (((((((w.setCell ⟨b, 0, none⟩ u0).setCell ⟨b, 1, none⟩ u1).setCell ⟨b, 2, none⟩ u2).setCell ⟨b, 3, none⟩ u3).setCell ⟨b, 4, none⟩ u4).setCell ⟨b, 5, none⟩ u5).setCell ⟨b, 6, none⟩ u6) b t [u0, u1, u2, u3, u4, u5, u6] :=
  ((((((h.set 0 u0).set 1 u1).set 2 u2).set 3 u3).set 4 u4).set 5 u5).set 6 u6
theorem blk_newD (w : World) (l : List Value) (t : TypeId) : Blk (w.alloc (.cells ⟨l⟩ t)) w.heap.size t l := heap_at _ _ _ rfl
theorem DE.put2 {B R Bb s b5 b6 L : Nat} {w0 w : World} {t3 t4 t6 : List Value} {v3 z0 z1 z2 z3 z4 z5 z6 : Value} {cs : List Cn} (h : DE B R Bb s b5 b6 L w0 w t3 t4 [z0, z1, z2, z3, z4, z5, z6] t6 v3 cs) (hRs : R < s) (hBR : B ≤ R) (hs5 : s + 1 < b5) (h56 : b5 < b6) (h0 : w0.heap.size ≤ s) (u0 u1 : Value) :
    DE B R Bb s b5 b6 L w0 ((w.setCell ⟨b5, 0, none⟩ u0).setCell ⟨b5, 1, none⟩ u1) t3 t4 [u0, u1, z2, z3, z4, z5, z6] t6 v3 cs :=
  ((h.set5 hRs hBR hs5 h56 h0 0 u0).set5 hRs hBR hs5 h56 h0 1 u1)
/-- A row outlives stores into a block of another type. -/
theorem own_put2 {w : World} {B k n g : Nat} {t t' : TypeId} {v : Value} {xs l : List Value} (h : w.ownsRow B t k v n xs) (hb : Blk w g t' l) (hne : t' ≠ t) (u0 u1 : Value) : ((w.setCell ⟨g, 0, none⟩ u0).setCell ⟨g, 1, none⟩ u1).ownsRow B t k v n xs :=
  own_setR (own_setR h hb hne 0 u0) (hb.set 0 u0) hne 1 u1
theorem own_put7 {w : World} {B k n g : Nat} {t t' : TypeId} {v : Value} {xs l : List Value} (h : w.ownsRow B t k v n xs) (hb : Blk w g t' l) (hne : t' ≠ t) (u0 u1 u2 u3 u4 u5 u6 : Value) :
    (((((((w.setCell ⟨g, 0, none⟩ u0).setCell ⟨g, 1, none⟩ u1).setCell ⟨g, 2, none⟩ u2).setCell ⟨g, 3, none⟩ u3).setCell ⟨g, 4, none⟩ u4).setCell ⟨g, 5, none⟩ u5).setCell ⟨g, 6, none⟩ u6).ownsRow B t k v n xs :=
  own_setR (own_setR (own_setR (own_setR (own_setR (own_setR (own_setR h hb hne 0 u0) (hb.set 0 u0) hne 1 u1) ((hb.set 0 u0).set 1 u1) hne 2 u2) (((hb.set 0 u0).set 1 u1).set 2 u2) hne 3 u3) ((((hb.set 0 u0).set 1 u1).set 2 u2).set 3 u3) hne 4 u4) (((((hb.set 0 u0).set 1 u1).set 2 u2).set 3 u3).set 4 u4) hne 5 u5) ((((((hb.set 0 u0).set 1 u1).set 2 u2).set 3 u3).set 4 u4).set 5 u5) hne 6 u6
theorem DE.alloc {B R Bb s b5 b6 L : Nat} {w0 w : World} {t3 t4 t5 t6 : List Value} {v3 : Value} {cs : List Cn} (h : DE B R Bb s b5 b6 L w0 w t3 t4 t5 t6 v3 cs) (o : Obj) : DE B R Bb s b5 b6 L w0 (w.alloc o) t3 t4 t5 t6 v3 cs := ⟨h.1.alloc o, h.2.alloc o⟩

end Go.Proofs.YtgfkiljkpkfapaaGreatDoor

/- How long a stream is outside. No condition. -/
namespace Go.Proofs.YtgfkiljkpkfapaaGreatDoor
open Go.RowKit

theorem strE_len (ls : List (List UInt8)) (n : Nat) (hx : ∀ x ∈ ls, x.length ≤ n) (T : List (Int × Int) × List UInt8) : (ls.foldl strF T).2.length ≤ T.2.length + ls.length * (n + 21) := by
  induction ls generalizing T with
  | nil => simp
  | cons l r ih =>
    have h1 := ih (fun x h => hx x (List.mem_cons_of_mem _ h)) (strF T l)
    have h2 : (strF T l).2.length ≤ T.2.length + (n + 21) := by
      have h3 := lineE_len T.1 l
      have h4 := hx l (List.mem_cons_self ..)
      simp only [strF, List.length_append, List.length_cons, List.length_nil]
      omega
    simp only [List.foldl_cons, List.length_cons]
    rw [Nat.add_mul]
    omega

end Go.Proofs.YtgfkiljkpkfapaaGreatDoor

/- Plain facts on lines and streams: beginnings, two texts one behind the other, what no line has. No program. No condition. -/
namespace Go.Proofs.YtgfkiljkpkfapaaGreatDoor

theorem stl_prefix (l : List UInt8) (x : List (List UInt8) × List UInt8) : x.1 <+: (l.foldl stl x).1 := by
  induction l generalizing x with
  | nil => exact List.prefix_refl _
  | cons c r ih =>
    rw [List.foldl_cons]
    refine List.IsPrefix.trans ?_ (ih _)
    by_cases hc : c = 59
    · have e : stl x c = (x.1 ++ [x.2], []) := by unfold stl; rw [if_pos hc]
      rw [e]; exact List.prefix_append _ _
    · have e : stl x c = (x.1, x.2 ++ [c]) := by unfold stl; rw [if_neg hc]
      rw [e]; exact List.prefix_refl _
theorem linesF_app (a b : List UInt8) : linesF (a ++ b) = b.foldl stl (linesF a) := by unfold linesF; rw [List.foldl_append]
theorem lines_prefix (a b : List UInt8) : linesL a <+: linesL (a ++ b) := by
  show _ <+: (linesF (a ++ b)).1; rw [linesF_app]; exact stl_prefix b _
theorem str_parts {l : List UInt8} (h : strB l = true) : l.length ≤ 120 ∧ (∀ x ∈ linesL l, linB x = true) ∧ linB (restL l) = true := by
  unfold strB at h
  rw [Bool.and_eq_true, Bool.and_eq_true] at h
  exact ⟨by simpa using h.1.1, List.all_eq_true.1 h.1.2, h.2⟩
end Go.Proofs.YtgfkiljkpkfapaaGreatDoor
