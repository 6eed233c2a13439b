/- The segment that is drawn for a box, from outside. Conditions: the reader is there, its place is small; the box is the call's own, and not large. (Several texts, joined: DrawTo.) -/
import Derived.Test.YtgfkiljkpkfapaaGreatDoorTPlk

/- The segment that is drawn for a box, from outside. Conditions: the reader is there, its place is small; the box is the call's own, and not large. -/
namespace Go.Proofs.YtgfkiljkpkfapaaGreatDoor
open Go.RowKit Go.Sort

theorem lit_at5 (W : World) (a b c d e : ByteArray) (t : TypeId) (k : Nat) (hk : k < 5) (hs : a.size ≤ 16 ∧ b.size ≤ 16 ∧ c.size ≤ 16 ∧ d.size ≤ 16 ∧ e.size ≤ 16) : ∃ pv : ByteArray, pv.size ≤ 16 ∧ (W.alloc (.cells #[.string a, .string b, .string c, .string d, .string e] t)).cell? ⟨W.heap.size, k, none⟩ = some (.string pv) := by
  obtain rfl | rfl | rfl | rfl | rfl : k = 0 ∨ k = 1 ∨ k = 2 ∨ k = 3 ∨ k = 4 := by omega
  · exact ⟨a, hs.1, (cell_new W _ _ 0).1⟩
  · exact ⟨b, hs.2.1, (cell_new W _ _ 1).1⟩
  · exact ⟨c, hs.2.2.1, (cell_new W _ _ 2).1⟩
  · exact ⟨d, hs.2.2.2.1, (cell_new W _ _ 3).1⟩
  · exact ⟨e, hs.2.2.2.2, (cell_new W _ _ 4).1⟩

theorem own_allocT {w : World} {B : Nat} {v : Value} {us : List (Int × Int)} (h : OwnTab w B v us) (o : Obj) : OwnTab (w.alloc o) B v us := World.ownsRow.alloc h o
theorem own_putT {w : World} {B g : Nat} {v : Value} {us : List (Int × Int)} {l : List Value} (h : OwnTab w B v us) (hb : Blk w g 49 l) (u0 u1 u2 u3 u4 u5 u6 : Value) :
    OwnTab (((((((w.setCell ⟨g, 0, none⟩ u0).setCell ⟨g, 1, none⟩ u1).setCell ⟨g, 2, none⟩ u2).setCell ⟨g, 3, none⟩ u3).setCell ⟨g, 4, none⟩ u4).setCell ⟨g, 5, none⟩ u5).setCell ⟨g, 6, none⟩ u6) B v us := own_put7 h hb (by decide) u0 u1 u2 u3 u4 u5 u6

set_option maxRecDepth 100000 in
set_option maxHeartbeats 12800000 in
theorem to7_any (B R L Bb : Nat) (a1 a2 a3 : Option Addr) (n1 c1 c2 c3 : Nat) (us : List (Int × Int)) (cs : List Cn) (w : World) (h : Rd B R L w) (hL : L ≤ 980000) (hR : R < Bb) (hn : cs.length ≤ 1048576) (hc : cnIn cs 1048576) (hu : us.length ≤ 1048576) (hot : OwnTab w Bb (.slice a2 us.length c2) us) (ho : OwnCn w Bb (.slice a3 cs.length c3) cs) :
    Calls Tryz.prog 113 #[.pointer (some ⟨R, 0, none⟩), .agg #[.slice a1 n1 c1, .slice a2 us.length c2, .slice a3 cs.length c3]] w fun e w' => ∃ (sa sp da dp sq ak : Int) (d : ByteArray), e = .returned (.agg #[.int .i64 sa, .int .i64 sp, .int .i64 da, .int .i64 dp, .int .i64 sq, .int .i64 ak, .string d]) ∧ (-2000000 ≤ ak ∧ ak ≤ 2000000) ∧ d.size ≤ 120 ∧ w.grownBy w' (some R) ∧ Rd B R (L + 70) w' := by
  have hRl := h.lt
  have hBR := h.base
  have H := Lib.hid h
  have HO := Lib.hid ho
  have HC : Hid (∀ x ∈ cs, x.he.size ≤ 1048576 ∧ x.ne.size ≤ 1048576) := fun x hx => by have := hc x hx; omega
  obtain ⟨nc, hnc⟩ : ∃ n, n = cs.length := ⟨_, rfl⟩
  have HNC := Lib.hid hnc
  rw [← hnc] at hn HO ⊢
  have HT0 := Lib.hid hot
  have HTab : Hid (∀ w, OwnTab w Bb (.slice a2 us.length c2) us → ∀ ia ip, Calls Tryz.prog 82 #[.agg #[.slice a2 us.length c2], .agg #[.int .i64 ia, .int .i64 ip]] w fun e w' => e = .returned (.int .i64 (portI us (ia, ip))) ∧ Below w.heap.size w w') := fun w h ia ip => specPort_any _ us ia ip w (by omega) (OwnTab.tab h)
  obtain ⟨n2, hn2⟩ : ∃ n, n = us.length := ⟨_, rfl⟩
  rw [← hn2] at HT0 HTab ⊢
  clear h ho hc hnc hot hu hn2
  go_enter Tryz.func113, Tryz.ntmps113
  go_wp2_with fail
  have Rs : Hid (Rd B R L ((w.alloc (.cells #[.slice a1 n1 c1, .slice a2 n2 c2, .slice a3 nc c3] 29)).alloc (.cells #[.int .i64 0, .int .i64 0, .int .i64 0, .int .i64 0, .int .i64 0, .int .i64 0, .string ⟨#[]⟩] 33))) := rd_alloc (rd_alloc H.out _) _
  (go_at_call 71; refine (out_any B R L _ Rs.out (by omega)).mono ?_; rintro e w1 ⟨sa, sp, rfl, g1, r1⟩)
  have R1 := Lib.hid r1
  have G1 := Lib.hid g1
  clear r1 g1
  go_wp2_with fail
  (go_at_call 27; refine (pick_any 6 B R (L + 2) _ R1.out (by omega)).mono ?_; rintro e w2 ⟨k6, rfl, hk6, g2, r2⟩)
  obtain ⟨dp, hdp⟩ : ∃ x : Int, x = 500 + (k6 : Int) := ⟨_, rfl⟩
  have hw6 : IntKind.wrap .i64 (500 + (k6 : Int)) = dp := by rw [hdp]; exact IntWalk.i64_in _ (by omega)
  have R2 := Lib.hid r2
  have G2 := Lib.hid (G1.out.trans g2)
  clear r2 g2 G1 R1 hk6 hdp
  go_wp2_with fail
  (go_at_call 27; refine (pick_any 90 B R (L + 3) _ R2.out (by omega)).mono ?_; rintro e w3 ⟨k, rfl, hk, g3, r3⟩)
  have hk9 : k ≤ 90 := by omega
  have R3 := Lib.hid r3
  have G3 := Lib.hid (G2.out.trans g3)
  clear r3 g3 G2 R2 hk
  go_wp2_with fail
  (go_at_call 72; refine (data_any B R (L + 4) _ R3.out (by omega)).mono ?_; rintro e w4 ⟨d, rfl, hd, g4, r4⟩)
  have R4 := Lib.hid r4
  have G4 := Lib.hid (G3.out.trans g4)
  clear r4 g4 G3 R3
  go_upto_region 2 with fail
  have z4 : w.heap.size + 2 ≤ w4.heap.size := by have := G4.out.size; simpa using this
  have S5 : Hid (DS B R Bb w.heap.size w4.heap.size (L + 55) w (w4.alloc (.cells #[.int .i64 sa, .int .i64 sp, .int .i64 50, .int .i64 dp, .int .i64 0, .int .i64 (k : Int), .string d] 33)) [.slice a1 n1 c1, .slice a2 n2 c2, .slice a3 nc c3] [.int .i64 0, .int .i64 0, .int .i64 0, .int .i64 0, .int .i64 0, .int .i64 0, .string ⟨#[]⟩] [.int .i64 sa, .int .i64 sp, .int .i64 50, .int .i64 dp, .int .i64 0, .int .i64 (k : Int), .string d] (.slice a3 nc c3) cs) := by
    have hA : Blk ((w.alloc (.cells #[.slice a1 n1 c1, .slice a2 n2 c2, .slice a3 nc c3] 29)).alloc (.cells #[.int .i64 0, .int .i64 0, .int .i64 0, .int .i64 0, .int .i64 0, .int .i64 0, .string ⟨#[]⟩] 33)) w.heap.size 29 [.slice a1 n1 c1, .slice a2 n2 c2, .slice a3 nc c3] := (three_new w _ _ _ _).alloc _
    have hB : Blk ((w.alloc (.cells #[.slice a1 n1 c1, .slice a2 n2 c2, .slice a3 nc c3] 29)).alloc (.cells #[.int .i64 0, .int .i64 0, .int .i64 0, .int .i64 0, .int .i64 0, .int .i64 0, .string ⟨#[]⟩] 33)) (w.heap.size + 1) 33 [.int .i64 0, .int .i64 0, .int .i64 0, .int .i64 0, .int .i64 0, .int .i64 0, .string ⟨#[]⟩] := heap_at _ _ _ (by simp)
    have hO : World.ownsRow _ Bb 49 7 (.slice a3 nc c3) cs.length (flatC cnC cs) := own_grownR (World.ownsRow.alloc (World.ownsRow.alloc HO.out _) _) G4.out hR
    exact ⟨(hA.grown G4.out (by omega)).alloc _, (hB.grown G4.out (by omega)).alloc _, heap_at _ _ _ rfl, World.ownsRow.alloc hO _, grown_alloc (((World.grownBy_alloc w _ _).trans (World.grownBy_alloc _ _ _)).trans G4.out) _, rd_alloc (R4.out.mono (by omega)) _⟩
  have hT : OwnTab w4 Bb (.slice a2 n2 c2) us := by
    have h1 : OwnTab ((w.alloc (.cells #[.slice a1 n1 c1, .slice a2 n2 c2, .slice a3 nc c3] 29)).alloc (.cells #[.int .i64 0, .int .i64 0, .int .i64 0, .int .i64 0, .int .i64 0, .int .i64 0, .string ⟨#[]⟩] 33)) Bb (.slice a2 n2 c2) us := World.ownsRow.alloc (World.ownsRow.alloc HT0.out _) _
    exact own_grownR h1 G4.out hR
  have T5 : Hid (OwnTab (w4.alloc (.cells #[.int .i64 sa, .int .i64 sp, .int .i64 50, .int .i64 dp, .int .i64 0, .int .i64 (k : Int), .string d] 33)) Bb (.slice a2 n2 c2) us) := World.ownsRow.alloc hT _
  clear hT
  obtain ⟨W5, hW5⟩ : ∃ W5, W5 = w4.alloc (.cells #[.int .i64 sa, .int .i64 sp, .int .i64 50, .int .i64 dp, .int .i64 0, .int .i64 (k : Int), .string d] 33) := ⟨_, rfl⟩
  rw [← hW5] at S5 T5 ⊢
  clear hW5 R4 G4 Rs H HO HT0
  obtain ⟨s, hss⟩ : ∃ s, s = w.heap.size := ⟨_, rfl⟩
  obtain ⟨b5, hb5⟩ : ∃ b5, b5 = w4.heap.size := ⟨_, rfl⟩
  rw [← hss] at S5 z4 hRl ⊢
  rw [← hb5] at S5 z4 ⊢
  have hws : w.heap.size ≤ s := Nat.le_of_eq hss.symm
  clear hss hb5
  obtain ⟨⟨p0, p1, p2⟩, -⟩ := three_all S5.out.1
  rcases Nat.eq_zero_or_pos nc with h0 | h0
  · subst h0
    obtain ⟨⟨x0, x1, x2, x3, x4, x5, x6⟩, -⟩ := seven_partsG S5.out.2.2.1
    obtain ⟨⟨z0, z1, z2, z3, z4, z5, z6⟩, f0, f1, f2, f3, f4, f5, f6⟩ := seven_partsG S5.out.2.1
    go_wp2_with fail
    obtain ⟨⟨q0, q1, q2, q3, q4, q5, q6⟩, -⟩ := seven_partsG (((((((S5.out.2.1.set 0 (.int .i64 sa)).set 1 (.int .i64 sp)).set 2 (.int .i64 50)).set 3 (.int .i64 dp)).set 4 (.int .i64 0)).set 5 (.int .i64 (k : Int))).set 6 (.string d))
    refine bodyPost_ret (v := .agg #[.int .i64 sa, .int .i64 sp, .int .i64 50, .int .i64 dp, .int .i64 0, .int .i64 (k : Int), .string d]) (by simp [results, Tryz.results113, go_sem, q0, q1, q2, q3, q4, q5, q6]) rfl ⟨_, _, _, _, _, _, _, rfl, ⟨by omega, by omega⟩, hd, ?_, ?_⟩
    · exact grown_puts S5.out.2.2.2.2.1 (.int .i64 sa) (.int .i64 sp) (.int .i64 50) (.int .i64 dp) (.int .i64 0) (.int .i64 (k : Int)) (.string d) (by omega)
    · exact (rd_puts S5.out.2.2.2.2.2 (.int .i64 sa) (.int .i64 sp) (.int .i64 50) (.int .i64 dp) (.int .i64 0) (.int .i64 (k : Int)) (.string d) (by omega) (by omega)).mono (by omega)
  · have h0i : (0 : Int) < (nc : Int) := by omega
    go_upto_if 26 with (go_at_call 27; refine (pick_any 4 B R (L + 55) _ S5.out.2.2.2.2.2 (by omega)).mono ?_; rintro e w6 ⟨k4, rfl, hk4, g6, r6⟩)
    have S6 := Lib.hid (S5.out.grown g6 r6 (by omega) hR (by omega))
    have T6 : Hid (OwnTab w6 Bb (.slice a2 n2 c2) us) := own_grownR T5.out g6 hR
    clear g6 r6 S5 T5 p0 p1 p2 hk4
    by_cases hk0 : k4 = 0
    · subst hk0
      obtain ⟨⟨x0, x1, x2, x3, x4, x5, x6⟩, -⟩ := seven_partsG S6.out.2.2.1
      obtain ⟨⟨z0, z1, z2, z3, z4, z5, z6⟩, f0, f1, f2, f3, f4, f5, f6⟩ := seven_partsG S6.out.2.1
      go_wp2_with fail
      obtain ⟨⟨q0, q1, q2, q3, q4, q5, q6⟩, -⟩ := seven_partsG (((((((S6.out.2.1.set 0 (.int .i64 sa)).set 1 (.int .i64 sp)).set 2 (.int .i64 50)).set 3 (.int .i64 dp)).set 4 (.int .i64 0)).set 5 (.int .i64 (k : Int))).set 6 (.string d))
      refine bodyPost_ret (v := .agg #[.int .i64 sa, .int .i64 sp, .int .i64 50, .int .i64 dp, .int .i64 0, .int .i64 (k : Int), .string d]) (by simp [results, Tryz.results113, go_sem, q0, q1, q2, q3, q4, q5, q6]) rfl ⟨_, _, _, _, _, _, _, rfl, ⟨by omega, by omega⟩, hd, ?_, ?_⟩
      · exact grown_puts S6.out.2.2.2.2.1 (.int .i64 sa) (.int .i64 sp) (.int .i64 50) (.int .i64 dp) (.int .i64 0) (.int .i64 (k : Int)) (.string d) (by omega)
      · exact (rd_puts S6.out.2.2.2.2.2 (.int .i64 sa) (.int .i64 sp) (.int .i64 50) (.int .i64 dp) (.int .i64 0) (.int .i64 (k : Int)) (.string d) (by omega) (by omega)).mono (by omega)
    · have hki : (0 : Int) < (k4 : Int) := by omega
      clear hk0
      obtain ⟨⟨p0, p1, p2⟩, -⟩ := three_all S6.out.1
      obtain ⟨y, hy⟩ : ∃ y, cs[0]? = some y := ⟨_, List.getElem?_eq_getElem (by rw [← HNC.out]; exact h0)⟩
      obtain ⟨g, rfl, -, hgl6, hcp, -⟩ := own_conn S6.out.2.2.2.1 h0 y hy
      clear hy y
      have hwp : IntKind.wrap .i64 (nc : Int) = (nc : Int) := IntWalk.i64_in _ (by omega)
      clear hwp
      have SA := Lib.hid (fun o => S6.out.alloc o)
      have h6b : b5 < w6.heap.size := S6.out.2.2.1.lt
      have h6R : w6.heap.size ≠ R := by omega
      have p0y := fun o => (three_all (SA.out o).1).1.1
      have p1y := fun o => (three_all (SA.out o).1).1.2.1
      have p2y := fun o => (three_all (SA.out o).1).1.2.2
      have zB : Hid (∀ w7, (w6.alloc (.cells #[.int .i64 0, .int .i64 0, .int .i64 0, .int .i64 0, .string ⟨#[]⟩, .string ⟨#[]⟩, .string ⟨#[]⟩] 49)).grownBy w7 (some R) → Blk w7 w6.heap.size 49 [.int .i64 0, .int .i64 0, .int .i64 0, .int .i64 0, .string ⟨#[]⟩, .string ⟨#[]⟩, .string ⟨#[]⟩]) := fun w7 hg => (show Blk (w6.alloc (.cells #[.int .i64 0, .int .i64 0, .int .i64 0, .int .i64 0, .string ⟨#[]⟩, .string ⟨#[]⟩, .string ⟨#[]⟩] 49)) w6.heap.size 49 [.int .i64 0, .int .i64 0, .int .i64 0, .int .i64 0, .string ⟨#[]⟩, .string ⟨#[]⟩, .string ⟨#[]⟩] from heap_at _ _ _ rfl).grown hg (by omega)
      go_upto_region 3 with fail
      go_cut [6] (fun s6 wx => ∃ (x : Cn) (b6 : Nat), s6 = .pointer (some ⟨b6, 0, none⟩) ∧ b5 < b6 ∧ b6 ≠ R ∧ x.he.size ≤ 1048576 ∧ x.ne.size ≤ 1048576 ∧ Blk wx b6 49 [.int .i64 x.ia, .int .i64 x.ip, .int .i64 x.oa, .int .i64 x.op, .string x.kn, .string x.he, .string x.ne] ∧ DS B R Bb s b5 (L + 57) w wx [.slice a1 n1 c1, .slice a2 n2 c2, .slice (some ⟨g, 0, none⟩) nc c3] [.int .i64 0, .int .i64 0, .int .i64 0, .int .i64 0, .int .i64 0, .int .i64 0, .string ⟨#[]⟩] [.int .i64 sa, .int .i64 sp, .int .i64 50, .int .i64 dp, .int .i64 0, .int .i64 (k : Int), .string d] (.slice (some ⟨g, 0, none⟩) nc c3) cs ∧ OwnTab wx Bb (.slice a2 n2 c2) us)
      case first =>
        go_region_with (first | (go_at_call 27; refine (pick_any (nc : Int) B R (L + 56) _ (by first | exact S6.out.2.2.2.2.2 | exact rd_drewD S6.out.2.2.2.2.2) (by omega)).mono ?_; rintro e w7 ⟨m, rfl, hm, g7, r7⟩; have hmn : m < nc := (by omega); have s7 := DS.grown S6.out (by first | exact g7 | exact grown_fromD g7) r7 (by omega) hR (by omega); have t7 : OwnTab w7 Bb (.slice a2 n2 c2) us := own_grownR T6.out (by first | exact g7 | exact grown_fromD g7) hR; clear g7; obtain ⟨x, hx⟩ : ∃ x, cs[m]? = some x := ⟨_, List.getElem?_eq_getElem (by rw [← HNC.out]; exact hmn)⟩; obtain ⟨g', eg, -, hgl, hcp', -, ⟨k0, k1, k2, k3, k4', k5, k6⟩, -⟩ := own_conn s7.2.2.2.1 hmn x hx; injection eg with eg; injection eg with eg; subst eg; have hxI := HC.out x (List.mem_of_getElem? hx); have k0x : ∀ o, (w7.alloc o).cell? ⟨g, m * 7, none⟩ = some (.int .i64 x.ia) := (fun o => (cell_alloc_lt hgl).trans k0); have k1x : ∀ o, (w7.alloc o).cell? ⟨g, m * 7 + 1, none⟩ = some (.int .i64 x.ip) := (fun o => (cell_alloc_lt hgl).trans k1); have k2x : ∀ o, (w7.alloc o).cell? ⟨g, m * 7 + 2, none⟩ = some (.int .i64 x.oa) := (fun o => (cell_alloc_lt hgl).trans k2); have k3x : ∀ o, (w7.alloc o).cell? ⟨g, m * 7 + 3, none⟩ = some (.int .i64 x.op) := (fun o => (cell_alloc_lt hgl).trans k3); have k4x : ∀ o, (w7.alloc o).cell? ⟨g, m * 7 + 4, none⟩ = some (.string x.kn) := (fun o => (cell_alloc_lt hgl).trans k4'); have k5x : ∀ o, (w7.alloc o).cell? ⟨g, m * 7 + 5, none⟩ = some (.string x.he) := (fun o => (cell_alloc_lt hgl).trans k5); have k6x : ∀ o, (w7.alloc o).cell? ⟨g, m * 7 + 6, none⟩ = some (.string x.ne) := (fun o => (cell_alloc_lt hgl).trans k6); have hm0 : (0 : Int) ≤ (m : Int) := (by omega); have hmc : (m : Int) < (c3 : Int) := (by omega); have hmi : (m : Int) < (nc : Int) := (by omega); have hs8 : b5 < w7.heap.size := s7.2.2.1.lt; have hgb : w7.heap.size ≠ g := (by omega); have h7R : w7.heap.size ≠ R := (by omega); clear hm r7 hx p0 p1 p2 p0y p1y p2y; obtain ⟨⟨p0, p1, p2⟩, -⟩ := three_all s7.1; have p0x := (fun o => (three_all (s7.alloc o).1).1.1); have p1x := (fun o => (three_all (s7.alloc o).1).1.2.1); have p2x := (fun o => (three_all (s7.alloc o).1).1.2.2)) | (go_at_call 27; refine (pick_any (nc : Int) B R (L + 56) _ (by first | exact rd_drewD (SA.out _).2.2.2.2.2 | exact (SA.out _).2.2.2.2.2) (by omega)).mono ?_; rintro e w7 ⟨m, rfl, hm, g7, r7⟩; have hmn : m < nc := (by omega); have gg : (w6.alloc (.cells #[.int .i64 0, .int .i64 0, .int .i64 0, .int .i64 0, .string ⟨#[]⟩, .string ⟨#[]⟩, .string ⟨#[]⟩] 49)).grownBy w7 (some R) := (by first | exact grown_fromD g7 | exact g7); have s7 := DS.grown (SA.out (.cells #[.int .i64 0, .int .i64 0, .int .i64 0, .int .i64 0, .string ⟨#[]⟩, .string ⟨#[]⟩, .string ⟨#[]⟩] 49)) gg r7 (by omega) hR (by omega); have t7 : OwnTab w7 Bb (.slice a2 n2 c2) us := own_grownR (World.ownsRow.alloc T6.out _) gg hR; have z7 := zB.out w7 gg; obtain ⟨⟨y0, y1, y2, y3, y4, y5, y6⟩, q0, q1, q2, q3, q4, q5, q6⟩ := seven_partsG z7; clear g7 gg; obtain ⟨x, hx⟩ : ∃ x, cs[m]? = some x := ⟨_, List.getElem?_eq_getElem (by rw [← HNC.out]; exact hmn)⟩; obtain ⟨g', eg, -, hgl, hcp', -, ⟨k0, k1, k2, k3, k4', k5, k6⟩, -⟩ := own_conn s7.2.2.2.1 hmn x hx; injection eg with eg; injection eg with eg; subst eg; have hxI := HC.out x (List.mem_of_getElem? hx); have k0x : ∀ o, (w7.alloc o).cell? ⟨g, m * 7, none⟩ = some (.int .i64 x.ia) := (fun o => (cell_alloc_lt hgl).trans k0); have k1x : ∀ o, (w7.alloc o).cell? ⟨g, m * 7 + 1, none⟩ = some (.int .i64 x.ip) := (fun o => (cell_alloc_lt hgl).trans k1); have k2x : ∀ o, (w7.alloc o).cell? ⟨g, m * 7 + 2, none⟩ = some (.int .i64 x.oa) := (fun o => (cell_alloc_lt hgl).trans k2); have k3x : ∀ o, (w7.alloc o).cell? ⟨g, m * 7 + 3, none⟩ = some (.int .i64 x.op) := (fun o => (cell_alloc_lt hgl).trans k3); have k4x : ∀ o, (w7.alloc o).cell? ⟨g, m * 7 + 4, none⟩ = some (.string x.kn) := (fun o => (cell_alloc_lt hgl).trans k4'); have k5x : ∀ o, (w7.alloc o).cell? ⟨g, m * 7 + 5, none⟩ = some (.string x.he) := (fun o => (cell_alloc_lt hgl).trans k5); have k6x : ∀ o, (w7.alloc o).cell? ⟨g, m * 7 + 6, none⟩ = some (.string x.ne) := (fun o => (cell_alloc_lt hgl).trans k6); have hm0 : (0 : Int) ≤ (m : Int) := (by omega); have hmc : (m : Int) < (c3 : Int) := (by omega); have hmi : (m : Int) < (nc : Int) := (by omega); have hs8 : b5 < w7.heap.size := s7.2.2.1.lt; have hgb : w7.heap.size ≠ g := (by omega); have h7R : w7.heap.size ≠ R := (by omega); clear hm r7 hx p0 p1 p2 p0y p1y p2y; obtain ⟨⟨p0, p1, p2⟩, -⟩ := three_all s7.1; have p0x := (fun o => (three_all (s7.alloc o).1).1.1); have p1x := (fun o => (three_all (s7.alloc o).1).1.2.1); have p2x := (fun o => (three_all (s7.alloc o).1).1.2.2)))
        all_goals (go_wp2_with fail; go_meet)
        all_goals first
          | (refine ⟨x, w7.heap.size, rfl, hs8, h7R, hxI.1, hxI.2, ?_, ?_, ?_⟩; exact blk_newD _ _ _; exact DS.alloc s7 _; exact own_allocT t7 _)
          | (have hob : (Value.slice (some ⟨g, 0, none⟩) nc c3).ownBlock ≠ some w6.heap.size := by simp [Value.ownBlock]; omega
             refine ⟨x, w6.heap.size, rfl, h6b, h6R, hxI.1, hxI.2, ?_, ?_, ?_⟩
             · exact Blk.put7 z7 (.int .i64 x.ia) (.int .i64 x.ip) (.int .i64 x.oa) (.int .i64 x.op) (.string x.kn) (.string x.he) (.string x.ne)
             · exact DS.put7 s7 hRl hBR (by omega) h6b hob hws (.int .i64 x.ia) (.int .i64 x.ip) (.int .i64 x.oa) (.int .i64 x.op) (.string x.kn) (.string x.he) (.string x.ne)
             · exact own_putT t7 z7 (.int .i64 x.ia) (.int .i64 x.ip) (.int .i64 x.oa) (.int .i64 x.op) (.string x.kn) (.string x.he) (.string x.ne))
      case rest =>
        obtain ⟨x, b6, rfl, h56, h6R, hhe, hne, hb6, hds, htb⟩ := hcut
        have S7 := Lib.hid (show DE B R Bb s b5 b6 (L + 57) w wc _ _ _ _ _ cs from ⟨hds, hb6⟩)
        have T7 := Lib.hid htb
        clear hds hb6 htb S6 T6 SA zB p0y p1y p2y p0 p1 p2
        obtain ⟨⟨y0, y1, y2, y3, y4, y5, y6⟩, -⟩ := seven_partsG S7.out.2; obtain ⟨⟨e0, e1, e2, e3, e4, e5, e6⟩, f0, f1, f2, f3, f4, f5, f6⟩ := seven_partsG S7.out.1.2.2.1; obtain ⟨⟨p0, p1, p2⟩, -⟩ := three_all S7.out.1.1
        have h65 : b6 ≠ b5 := by omega
        go_upto_region 5 with fail
        have S8 := Lib.hid (DE.put2 S7.out hRl hBR (by omega) h56 hws (.int .i64 x.oa) (.int .i64 x.op))
        have T8 : Hid (OwnTab ((wc.setCell ⟨b5, 0, none⟩ (.int .i64 x.oa)).setCell ⟨b5, 1, none⟩ (.int .i64 x.op)) Bb (.slice a2 n2 c2) us) := own_put2 T7.out S7.out.1.2.2.1 (by decide) _ _
        clear S7 T7 y0 y1 y2 y3 y4 y5 y6 e0 e1 e2 e3 e4 e5 e6 f0 f1 f2 f3 f4 f5 f6 p0 p1 p2
        obtain ⟨W8, hW8⟩ : ∃ W8, W8 = (wc.setCell ⟨b5, 0, none⟩ (.int .i64 x.oa)).setCell ⟨b5, 1, none⟩ (.int .i64 x.op) := ⟨_, rfl⟩
        rw [← hW8] at S8 T8 ⊢
        clear hW8
        have S8 : Hid (DE B R Bb s b5 b6 (L + 57) w W8 [.slice a1 n1 c1, .slice a2 n2 c2, .slice (some ⟨g, 0, none⟩) nc c3] [.int .i64 0, .int .i64 0, .int .i64 0, .int .i64 0, .int .i64 0, .int .i64 0, .string ⟨#[]⟩] [.int .i64 x.oa, .int .i64 x.op, .int .i64 50, .int .i64 dp, .int .i64 0, .int .i64 (k : Int), .string d] [.int .i64 x.ia, .int .i64 x.ip, .int .i64 x.oa, .int .i64 x.op, .string x.kn, .string x.he, .string x.ne] (.slice (some ⟨g, 0, none⟩) nc c3) cs) := S8.out
        obtain ⟨⟨y0, y1, y2, y3, y4, y5, y6⟩, -⟩ := seven_partsG S8.out.2; obtain ⟨⟨e0, e1, e2, e3, e4, e5, e6⟩, f0, f1, f2, f3, f4, f5, f6⟩ := seven_partsG S8.out.1.2.2.1; obtain ⟨⟨p0, p1, p2⟩, -⟩ := three_all S8.out.1.1
        go_cut [] (fun wx => ∃ p : Int, DE B R Bb s b5 b6 (L + 57) w wx [.slice a1 n1 c1, .slice a2 n2 c2, .slice (some ⟨g, 0, none⟩) nc c3] [.int .i64 0, .int .i64 0, .int .i64 0, .int .i64 0, .int .i64 0, .int .i64 0, .string ⟨#[]⟩] [.int .i64 x.oa, .int .i64 x.op, .int .i64 50, .int .i64 p, .int .i64 0, .int .i64 (k : Int), .string d] [.int .i64 x.ia, .int .i64 x.ip, .int .i64 x.oa, .int .i64 x.op, .string x.kn, .string x.he, .string x.ne] (.slice (some ⟨g, 0, none⟩) nc c3) cs)
        case first =>
          go_wp2_with fail
          (go_at_call 82; refine (HTab.out _ T8.out x.ia x.ip).mono ?_; rintro e w9 ⟨rfl, b9⟩)
          have s9 := DE.grown S8.out (grown_ofR b9) (rd_below S8.out.1.2.2.2.2.2 b9 (Nat.le_refl _)) hRl hR (by omega) h56
          obtain ⟨pv, hpv⟩ : ∃ pv, pv = portI us (x.ia, x.ip) := ⟨_, rfl⟩
          rw [← hpv]
          clear b9 hpv y0 y1 y2 y3 y4 y5 y6 e0 e1 e2 e3 e4 e5 e6 f0 f1 f2 f3 f4 f5 f6 p0 p1 p2
          obtain ⟨⟨y0, y1, y2, y3, y4, y5, y6⟩, -⟩ := seven_partsG s9.2; obtain ⟨⟨e0, e1, e2, e3, e4, e5, e6⟩, f0, f1, f2, f3, f4, f5, f6⟩ := seven_partsG s9.1.2.2.1; obtain ⟨⟨p0, p1, p2⟩, -⟩ := three_all s9.1.1
          go_wp2_with fail
          go_meet
          exact ⟨_, s9.set5 hRl hBR (by omega) h56 hws 3 _⟩
        case rest =>
        obtain ⟨p, hde⟩ := hcut
        have S9 := Lib.hid hde
        clear hde S8 T8 HTab y0 y1 y2 y3 y4 y5 y6 e0 e1 e2 e3 e4 e5 e6 f0 f1 f2 f3 f4 f5 f6 p0 p1 p2
        obtain ⟨⟨y0, y1, y2, y3, y4, y5, y6⟩, -⟩ := seven_partsG S9.out.2; obtain ⟨⟨e0, e1, e2, e3, e4, e5, e6⟩, f0, f1, f2, f3, f4, f5, f6⟩ := seven_partsG S9.out.1.2.2.1; obtain ⟨⟨p0, p1, p2⟩, -⟩ := three_all S9.out.1.1
        have hL5 : L + 57 ≤ 1000000 := by omega
        go_upto_region 6 with fail
        go_cut [] (fun wx => ∃ q : Int, DE B R Bb s b5 b6 (L + 58) w wx [.slice a1 n1 c1, .slice a2 n2 c2, .slice (some ⟨g, 0, none⟩) nc c3] [.int .i64 0, .int .i64 0, .int .i64 0, .int .i64 0, .int .i64 0, .int .i64 0, .string ⟨#[]⟩] [.int .i64 x.oa, .int .i64 x.op, .int .i64 50, .int .i64 p, .int .i64 q, .int .i64 (k : Int), .string d] [.int .i64 x.ia, .int .i64 x.ip, .int .i64 x.oa, .int .i64 x.op, .string x.kn, .string x.he, .string x.ne] (.slice (some ⟨g, 0, none⟩) nc c3) cs)
        case first =>
          go_region_with (go_at_call 27; refine (pick_any 5 B R (L + 57) _ (by first | exact S9.out.1.2.2.2.2.2 | exact rd_drewD S9.out.1.2.2.2.2.2) hL5).mono ?_; rintro e w9 ⟨k5, rfl, hk5, g9, r9⟩; have s9 := DE.grown S9.out (by first | exact g9 | exact grown_fromD g9) r9 hRl hR (by omega) h56; clear g9 r9 y0 y1 y2 y3 y4 y5 y6 e0 e1 e2 e3 e4 e5 e6 f0 f1 f2 f3 f4 f5 f6 p0 p1 p2; obtain ⟨⟨y0, y1, y2, y3, y4, y5, y6⟩, -⟩ := seven_partsG s9.2; obtain ⟨⟨e0, e1, e2, e3, e4, e5, e6⟩, f0, f1, f2, f3, f4, f5, f6⟩ := seven_partsG s9.1.2.2.1; obtain ⟨⟨p0, p1, p2⟩, -⟩ := three_all s9.1.1; have hwr := IntWalk.i64_in ((x.he.size : Int) - (k5 : Int)) (by omega))
          all_goals (go_wp2_with fail; go_meet)
          all_goals first
            | exact ⟨_, (s9.set5 hRl hBR (by omega) h56 hws 4 _)⟩
            | (trace_state; fail)
        case rest =>
        obtain ⟨q, hde⟩ := hcut
        have S10 := Lib.hid hde
        clear hde S9 y0 y1 y2 y3 y4 y5 y6 e0 e1 e2 e3 e4 e5 e6 f0 f1 f2 f3 f4 f5 f6 p0 p1 p2
        go_upto_if 57 with (go_at_call 27; refine (pick_any 3 B R (L + 58) _ S10.out.1.2.2.2.2.2 (by omega)).mono ?_; rintro e w11 ⟨k3, rfl, hk3, g11, r11⟩)
        have S11 := Lib.hid (DE.grown S10.out g11 r11 hRl hR (by omega) h56)
        clear S10 g11 r11 hk3
        go_cut [] (fun wx => ∃ (q2 : Int) (d2 : ByteArray), d2.size ≤ 120 ∧ DE B R Bb s b5 b6 (L + 60) w wx [.slice a1 n1 c1, .slice a2 n2 c2, .slice (some ⟨g, 0, none⟩) nc c3] [.int .i64 0, .int .i64 0, .int .i64 0, .int .i64 0, .int .i64 0, .int .i64 0, .string ⟨#[]⟩] [.int .i64 x.oa, .int .i64 x.op, .int .i64 50, .int .i64 p, .int .i64 q2, .int .i64 (k : Int), .string d2] [.int .i64 x.ia, .int .i64 x.ip, .int .i64 x.oa, .int .i64 x.op, .string x.kn, .string x.he, .string x.ne] (.slice (some ⟨g, 0, none⟩) nc c3) cs)
        case first =>
          by_cases hk0 : k3 = 0
          · subst hk0
            go_wp2_with fail
            (go_at_call 27; refine (pick_any 5 B R (L + 59) _ (rd_alloc S11.out.1.2.2.2.2.2 _) (by omega)).mono ?_; rintro e w12 ⟨k5, rfl, hk5, g12, r12⟩)
            have hk6 : k5 < 5 := by omega
            obtain ⟨pv, hpv, cpv⟩ := lit_at5 w11 (⟨#[112, 111, 114, 116, 32, 53, 48, 32, 53, 48, 48, 59]⟩) (⟨#[112, 111, 114, 116, 32, 53, 48, 32, 53, 48, 49, 59]⟩) (⟨#[112, 111, 114, 116, 32, 53, 48, 32, 53, 48, 50, 59]⟩) (⟨#[112, 111, 114, 116, 32, 53, 48, 32, 53, 48, 57, 59]⟩) (⟨#[111, 107, 59]⟩) 9 k5 hk6 (by decide)
            have hlt : b5 < w11.heap.size := S11.out.1.2.2.1.lt
            have cpw := (gcell g12 (b := w11.heap.size) (by simp) (by omega) k5).1.trans cpv
            have s12 := DE.grown (DE.alloc S11.out (.cells #[.string ⟨#[112, 111, 114, 116, 32, 53, 48, 32, 53, 48, 48, 59]⟩, .string ⟨#[112, 111, 114, 116, 32, 53, 48, 32, 53, 48, 49, 59]⟩, .string ⟨#[112, 111, 114, 116, 32, 53, 48, 32, 53, 48, 50, 59]⟩, .string ⟨#[112, 111, 114, 116, 32, 53, 48, 32, 53, 48, 57, 59]⟩, .string ⟨#[111, 107, 59]⟩] 9)) g12 r12 hRl hR (by omega) h56
            clear g12 r12 cpv hk5
            obtain ⟨⟨y0, y1, y2, y3, y4, y5, y6⟩, -⟩ := seven_partsG s12.2; obtain ⟨⟨e0, e1, e2, e3, e4, e5, e6⟩, f0, f1, f2, f3, f4, f5, f6⟩ := seven_partsG s12.1.2.2.1; obtain ⟨⟨p0, p1, p2⟩, -⟩ := three_all s12.1.1
            have hk0 : (0 : Int) ≤ (k5 : Int) := by omega
            have hk5i : (k5 : Int) < 5 := by omega
            go_wp2_with fail
            go_meet
            exact ⟨_, _, by omega, DE.set5 (DE.set5 s12 hRl hBR (by omega) h56 hws 6 (.string pv)) hRl hBR (by omega) h56 hws 4 _⟩
          · have hki : (((k3 : Int)) == 0) = false := by rw [beq_eq_false_iff_ne]; omega
            go_wp2_with fail
            go_meet
            exact ⟨_, _, hd, DE.place S11.out (by omega)⟩
        case rest =>
        obtain ⟨q2, d2, hd2, hde⟩ := hcut
        have S12 := Lib.hid hde
        clear hde S11
        go_upto_if 69 with (go_at_call 28; refine (odd_any 8 B R (L + 60) _ S12.out.1.2.2.2.2.2 (by omega) (by omega) (by omega)).mono ?_; rintro e w13 ⟨bo, rfl, g13, r13⟩)
        have S13 := Lib.hid (DE.grown S12.out g13 r13 hRl hR (by omega) h56)
        clear S12 g13 r13
        cases bo
        · obtain ⟨⟨x0, x1, x2, x3, x4, x5, x6⟩, -⟩ := seven_partsG S13.out.1.2.2.1
          obtain ⟨⟨z0, z1, z2, z3, z4, z5, z6⟩, h0, h1, h2, h3, h4, h5, h6⟩ := seven_partsG S13.out.1.2.1
          go_wp2_with fail
          obtain ⟨⟨n0, n1, n2, n3, n4, n5, n6⟩, -⟩ := seven_partsG (((((((S13.out.1.2.1.set 0 (.int .i64 x.oa)).set 1 (.int .i64 x.op)).set 2 (.int .i64 50)).set 3 (.int .i64 p)).set 4 (.int .i64 q2)).set 5 (.int .i64 (k : Int))).set 6 (.string d2))
          refine bodyPost_ret (v := .agg #[.int .i64 x.oa, .int .i64 x.op, .int .i64 50, .int .i64 p, .int .i64 q2, .int .i64 (k : Int), .string d2]) (by simp [results, Tryz.results113, go_sem, n0, n1, n2, n3, n4, n5, n6]) rfl ⟨_, _, _, _, _, _, _, rfl, ⟨by omega, by omega⟩, by omega, ?_, ?_⟩
          · exact grown_puts S13.out.1.2.2.2.2.1 (.int .i64 x.oa) (.int .i64 x.op) (.int .i64 50) (.int .i64 p) (.int .i64 q2) (.int .i64 (k : Int)) (.string d2) (by omega)
          · exact (rd_puts S13.out.1.2.2.2.2.2 (.int .i64 x.oa) (.int .i64 x.op) (.int .i64 50) (.int .i64 p) (.int .i64 q2) (.int .i64 (k : Int)) (.string d2) (by omega) (by omega)).mono (by omega)
        · obtain ⟨⟨y0, y1, y2, y3, y4, y5, y6⟩, -⟩ := seven_partsG S13.out.2; obtain ⟨⟨e0, e1, e2, e3, e4, e5, e6⟩, f0, f1, f2, f3, f4, f5, f6⟩ := seven_partsG S13.out.1.2.2.1; obtain ⟨⟨p0, p1, p2⟩, -⟩ := three_all S13.out.1.1
          have hwk := IntWalk.i64_in ((x.he.size : Int) + 1) (by omega)
          go_upto_region 11 with fail
          go_cut [] (fun wx => ∃ q3 : Int, DE B R Bb s b5 b6 (L + 62) w wx [.slice a1 n1 c1, .slice a2 n2 c2, .slice (some ⟨g, 0, none⟩) nc c3] [.int .i64 0, .int .i64 0, .int .i64 0, .int .i64 0, .int .i64 0, .int .i64 0, .string ⟨#[]⟩] [.int .i64 x.oa, .int .i64 x.op, .int .i64 50, .int .i64 p, .int .i64 q3, .int .i64 (k : Int), .string d2] [.int .i64 x.ia, .int .i64 x.ip, .int .i64 x.oa, .int .i64 x.op, .string x.kn, .string x.he, .string x.ne] (.slice (some ⟨g, 0, none⟩) nc c3) cs)
          case first =>
            go_region_with (go_at_call 27; refine (pick_any 3 B R (L + 61) _ (by first | exact S13.out.1.2.2.2.2.2 | exact rd_drewD S13.out.1.2.2.2.2.2) (by omega)).mono ?_; rintro e w14 ⟨k5, rfl, hk5, g14, r14⟩; have s14 := DE.grown S13.out (by first | exact g14 | exact grown_fromD g14) r14 hRl hR (by omega) h56; clear g14 r14 y0 y1 y2 y3 y4 y5 y6 e0 e1 e2 e3 e4 e5 e6 f0 f1 f2 f3 f4 f5 f6 p0 p1 p2; obtain ⟨⟨y0, y1, y2, y3, y4, y5, y6⟩, -⟩ := seven_partsG s14.2; obtain ⟨⟨e0, e1, e2, e3, e4, e5, e6⟩, f0, f1, f2, f3, f4, f5, f6⟩ := seven_partsG s14.1.2.2.1; obtain ⟨⟨p0, p1, p2⟩, -⟩ := three_all s14.1.1)
            all_goals (go_wp2_with fail; go_meet)
            all_goals first
              | exact ⟨_, (s14.set5 hRl hBR (by omega) h56 hws 4 _)⟩
              | (trace_state; fail)
          case rest =>
            obtain ⟨q3, hde⟩ := hcut
            have S14 := Lib.hid hde
            clear hde S13 hwk y0 y1 y2 y3 y4 y5 y6 e0 e1 e2 e3 e4 e5 e6 f0 f1 f2 f3 f4 f5 f6 p0 p1 p2
            obtain ⟨⟨x0, x1, x2, x3, x4, x5, x6⟩, -⟩ := seven_partsG S14.out.1.2.2.1
            obtain ⟨⟨z0, z1, z2, z3, z4, z5, z6⟩, h0, h1, h2, h3, h4, h5, h6⟩ := seven_partsG S14.out.1.2.1
            go_wp2_with fail
            obtain ⟨⟨n0, n1, n2, n3, n4, n5, n6⟩, -⟩ := seven_partsG (((((((S14.out.1.2.1.set 0 (.int .i64 x.oa)).set 1 (.int .i64 x.op)).set 2 (.int .i64 50)).set 3 (.int .i64 p)).set 4 (.int .i64 q3)).set 5 (.int .i64 (k : Int))).set 6 (.string d2))
            refine bodyPost_ret (v := .agg #[.int .i64 x.oa, .int .i64 x.op, .int .i64 50, .int .i64 p, .int .i64 q3, .int .i64 (k : Int), .string d2]) (by simp [results, Tryz.results113, go_sem, n0, n1, n2, n3, n4, n5, n6]) rfl ⟨_, _, _, _, _, _, _, rfl, ⟨by omega, by omega⟩, by omega, ?_, ?_⟩
            · exact grown_puts S14.out.1.2.2.2.2.1 (.int .i64 x.oa) (.int .i64 x.op) (.int .i64 50) (.int .i64 p) (.int .i64 q3) (.int .i64 (k : Int)) (.string d2) (by omega)
            · exact (rd_puts S14.out.1.2.2.2.2.2 (.int .i64 x.oa) (.int .i64 x.op) (.int .i64 50) (.int .i64 p) (.int .i64 q3) (.int .i64 (k : Int)) (.string d2) (by omega) (by omega)).mono (by omega)

end Go.Proofs.YtgfkiljkpkfapaaGreatDoor
