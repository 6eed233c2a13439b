/- The segments that are drawn for a box: from inside, and from outside. Conditions: the reader is there, its place is small; the box is the call's own, and not large. (Several texts, joined: DrawFr.) -/
import Derived.Test.YtgfkiljkpkfapaaGreatDoorTPlk

/- The segments that are drawn for a box: from inside, and from outside. Conditions: the reader is there, its place is small; the box is the call's own, and not large. -/
namespace Go.Proofs.YtgfkiljkpkfapaaGreatDoor
open Go.RowKit Go.Sort

set_option maxRecDepth 100000 in
set_option maxHeartbeats 12800000 in
theorem from7_any (B R L Bb : Nat) (a1 a2 a3 : Option Addr) (n1 c1 n2 c2 c3 : Nat) (cs : List Cn) (w : World) (h : Rd B R L w) (hL : L ≤ 980000) (hR : R < Bb) (hn : cs.length ≤ 1048576) (hc : cnIn cs 1048576) (ho : OwnCn w Bb (.slice a3 cs.length c3) cs) :
    Calls Tryz.prog 26 #[.pointer (some ⟨R, 0, none⟩), .agg #[.slice a1 n1 c1, .slice a2 n2 c2, .slice a3 cs.length c3]] w fun e w' => ∃ (sa sp da dp sq ak : Int) (d : ByteArray), e = .returned (.agg #[.int .i64 sa, .int .i64 sp, .int .i64 da, .int .i64 dp, .int .i64 sq, .int .i64 ak, .string d]) ∧ (-2000000 ≤ ak ∧ ak ≤ 2000000) ∧ d.size ≤ 120 ∧ w.grownBy w' (some R) ∧ Rd B R (L + 70) w' := by
  have hRl := h.lt
  have hBR := h.base
  have H := Lib.hid h
  have HO := Lib.hid ho
  have HC : Hid (∀ x ∈ cs, x.kn.size ≤ 1048576 ∧ x.ne.size ≤ 1048576) := fun x hx => by have := hc x hx; omega
  obtain ⟨nc, hnc⟩ : ∃ n, n = cs.length := ⟨_, rfl⟩
  have HNC := Lib.hid hnc
  rw [← hnc] at hn HO ⊢
  clear h ho hc hnc
  go_enter Tryz.func26, Tryz.ntmps26
  go_wp2_with fail
  have Rs : Hid (Rd B R L ((w.alloc (.cells #[.slice a1 n1 c1, .slice a2 n2 c2, .slice a3 nc c3] 29)).alloc (.cells #[.int .i64 0, .int .i64 0, .int .i64 0, .int .i64 0, .int .i64 0, .int .i64 0, .string ⟨#[]⟩] 33))) := rd_alloc (rd_alloc H.out _) _
  (go_at_call 70; refine (in_any B R L _ Rs.out (by omega)).mono ?_; rintro e w1 ⟨sa, sp, rfl, g1, r1⟩)
  have R1 := Lib.hid r1
  have G1 := Lib.hid g1
  clear r1 g1
  go_wp2_with fail
  (go_at_call 71; refine (out_any B R (L + 3) _ R1.out (by omega)).mono ?_; rintro e w2 ⟨da, dp, rfl, g2, r2⟩)
  have R2 := Lib.hid r2
  have G2 := Lib.hid (G1.out.trans g2)
  clear r2 g2 G1 R1
  go_wp2_with fail
  (go_at_call 27; refine (pick_any 9 B R (L + 5) _ R2.out (by omega)).mono ?_; rintro e w3 ⟨k, rfl, hk, g3, r3⟩)
  have hk9 : k ≤ 9 := by omega
  have R3 := Lib.hid r3
  have G3 := Lib.hid (G2.out.trans g3)
  clear r3 g3 G2 R2 hk
  go_wp2_with fail
  (go_at_call 72; refine (data_any B R (L + 6) _ R3.out (by omega)).mono ?_; rintro e w4 ⟨d, rfl, hd, g4, r4⟩)
  have R4 := Lib.hid r4
  have G4 := Lib.hid (G3.out.trans g4)
  clear r4 g4 G3 R3
  go_upto_region 2 with fail
  have z4 : w.heap.size + 2 ≤ w4.heap.size := by have := G4.out.size; simpa using this
  have S5 : Hid (DS B R Bb w.heap.size w4.heap.size (L + 57) w (w4.alloc (.cells #[.int .i64 sa, .int .i64 sp, .int .i64 da, .int .i64 dp, .int .i64 0, .int .i64 (k : Int), .string d] 33)) [.slice a1 n1 c1, .slice a2 n2 c2, .slice a3 nc c3] [.int .i64 0, .int .i64 0, .int .i64 0, .int .i64 0, .int .i64 0, .int .i64 0, .string ⟨#[]⟩] [.int .i64 sa, .int .i64 sp, .int .i64 da, .int .i64 dp, .int .i64 0, .int .i64 (k : Int), .string d] (.slice a3 nc c3) cs) := by
    have hA : Blk ((w.alloc (.cells #[.slice a1 n1 c1, .slice a2 n2 c2, .slice a3 nc c3] 29)).alloc (.cells #[.int .i64 0, .int .i64 0, .int .i64 0, .int .i64 0, .int .i64 0, .int .i64 0, .string ⟨#[]⟩] 33)) w.heap.size 29 [.slice a1 n1 c1, .slice a2 n2 c2, .slice a3 nc c3] := (three_new w _ _ _ _).alloc _
    have hB : Blk ((w.alloc (.cells #[.slice a1 n1 c1, .slice a2 n2 c2, .slice a3 nc c3] 29)).alloc (.cells #[.int .i64 0, .int .i64 0, .int .i64 0, .int .i64 0, .int .i64 0, .int .i64 0, .string ⟨#[]⟩] 33)) (w.heap.size + 1) 33 [.int .i64 0, .int .i64 0, .int .i64 0, .int .i64 0, .int .i64 0, .int .i64 0, .string ⟨#[]⟩] := heap_at _ _ _ (by simp)
    have hO : World.ownsRow _ Bb 49 7 (.slice a3 nc c3) cs.length (flatC cnC cs) := own_grownR (World.ownsRow.alloc (World.ownsRow.alloc HO.out _) _) G4.out hR
    exact ⟨(hA.grown G4.out (by omega)).alloc _, (hB.grown G4.out (by omega)).alloc _, heap_at _ _ _ rfl, World.ownsRow.alloc hO _, grown_alloc (((World.grownBy_alloc w _ _).trans (World.grownBy_alloc _ _ _)).trans G4.out) _, rd_alloc (R4.out.mono (by omega)) _⟩
  obtain ⟨W5, hW5⟩ : ∃ W5, W5 = w4.alloc (.cells #[.int .i64 sa, .int .i64 sp, .int .i64 da, .int .i64 dp, .int .i64 0, .int .i64 (k : Int), .string d] 33) := ⟨_, rfl⟩
  rw [← hW5] at S5 ⊢
  clear hW5 R4 G4 Rs H HO
  obtain ⟨s, hss⟩ : ∃ s, s = w.heap.size := ⟨_, rfl⟩
  obtain ⟨b5, hb5⟩ : ∃ b5, b5 = w4.heap.size := ⟨_, rfl⟩
  rw [← hss] at S5 z4 hRl ⊢
  rw [← hb5] at S5 z4 ⊢
  have hws : w.heap.size ≤ s := Nat.le_of_eq hss.symm
  clear hss hb5
  obtain ⟨⟨p0, p1, p2⟩, -⟩ := three_all S5.out.1
  rcases Nat.eq_zero_or_pos nc with h0 | h0
  · subst h0
    obtain ⟨⟨x0, x1, x2, x3, x4, x5, x6⟩, -⟩ := seven_partsG S5.out.2.2.1
    obtain ⟨⟨z0, z1, z2, z3, z4, z5, z6⟩, f0, f1, f2, f3, f4, f5, f6⟩ := seven_partsG S5.out.2.1
    go_wp2_with fail
    obtain ⟨⟨q0, q1, q2, q3, q4, q5, q6⟩, -⟩ := seven_partsG (((((((S5.out.2.1.set 0 (.int .i64 sa)).set 1 (.int .i64 sp)).set 2 (.int .i64 da)).set 3 (.int .i64 dp)).set 4 (.int .i64 0)).set 5 (.int .i64 (k : Int))).set 6 (.string d))
    refine bodyPost_ret (v := .agg #[.int .i64 sa, .int .i64 sp, .int .i64 da, .int .i64 dp, .int .i64 0, .int .i64 (k : Int), .string d]) (by simp [results, Tryz.results26, go_sem, q0, q1, q2, q3, q4, q5, q6]) rfl ⟨_, _, _, _, _, _, _, rfl, ⟨by omega, by omega⟩, hd, ?_, ?_⟩
    · exact grown_puts S5.out.2.2.2.2.1 (.int .i64 sa) (.int .i64 sp) (.int .i64 da) (.int .i64 dp) (.int .i64 0) (.int .i64 (k : Int)) (.string d) (by omega)
    · exact (rd_puts S5.out.2.2.2.2.2 (.int .i64 sa) (.int .i64 sp) (.int .i64 da) (.int .i64 dp) (.int .i64 0) (.int .i64 (k : Int)) (.string d) (by omega) (by omega)).mono (by omega)
  · have h0i : (0 : Int) < (nc : Int) := by omega
    go_upto_if 24 with (go_at_call 27; refine (pick_any 4 B R (L + 57) _ S5.out.2.2.2.2.2 (by omega)).mono ?_; rintro e w6 ⟨k4, rfl, hk4, g6, r6⟩)
    have S6 := Lib.hid (S5.out.grown g6 r6 (by omega) hR (by omega))
    clear g6 r6 S5 p0 p1 p2 hk4
    by_cases hk0 : k4 = 0
    · subst hk0
      obtain ⟨⟨x0, x1, x2, x3, x4, x5, x6⟩, -⟩ := seven_partsG S6.out.2.2.1
      obtain ⟨⟨z0, z1, z2, z3, z4, z5, z6⟩, f0, f1, f2, f3, f4, f5, f6⟩ := seven_partsG S6.out.2.1
      go_wp2_with fail
      obtain ⟨⟨q0, q1, q2, q3, q4, q5, q6⟩, -⟩ := seven_partsG (((((((S6.out.2.1.set 0 (.int .i64 sa)).set 1 (.int .i64 sp)).set 2 (.int .i64 da)).set 3 (.int .i64 dp)).set 4 (.int .i64 0)).set 5 (.int .i64 (k : Int))).set 6 (.string d))
      refine bodyPost_ret (v := .agg #[.int .i64 sa, .int .i64 sp, .int .i64 da, .int .i64 dp, .int .i64 0, .int .i64 (k : Int), .string d]) (by simp [results, Tryz.results26, go_sem, q0, q1, q2, q3, q4, q5, q6]) rfl ⟨_, _, _, _, _, _, _, rfl, ⟨by omega, by omega⟩, hd, ?_, ?_⟩
      · exact grown_puts S6.out.2.2.2.2.1 (.int .i64 sa) (.int .i64 sp) (.int .i64 da) (.int .i64 dp) (.int .i64 0) (.int .i64 (k : Int)) (.string d) (by omega)
      · exact (rd_puts S6.out.2.2.2.2.2 (.int .i64 sa) (.int .i64 sp) (.int .i64 da) (.int .i64 dp) (.int .i64 0) (.int .i64 (k : Int)) (.string d) (by omega) (by omega)).mono (by omega)
    · have hki : (0 : Int) < (k4 : Int) := by omega
      clear hk0
      obtain ⟨⟨p0, p1, p2⟩, -⟩ := three_all S6.out.1
      obtain ⟨y, hy⟩ : ∃ y, cs[0]? = some y := ⟨_, List.getElem?_eq_getElem (by rw [← HNC.out]; exact h0)⟩
      obtain ⟨g, rfl, -, hgl6, hcp, -⟩ := own_conn S6.out.2.2.2.1 h0 y hy
      clear hy y
      have hwp : IntKind.wrap .i64 (nc : Int) = (nc : Int) := IntWalk.i64_in _ (by omega)
      clear hwp
      have SA := Lib.hid (fun o => S6.out.alloc o)
      have h6b : b5 < w6.heap.size := S6.out.2.2.1.lt
      have h6R : w6.heap.size ≠ R := by omega
      have p0y := fun o => (three_all (SA.out o).1).1.1
      have p1y := fun o => (three_all (SA.out o).1).1.2.1
      have p2y := fun o => (three_all (SA.out o).1).1.2.2
      have zB : Hid (∀ w7, (w6.alloc (.cells #[.int .i64 0, .int .i64 0, .int .i64 0, .int .i64 0, .string ⟨#[]⟩, .string ⟨#[]⟩, .string ⟨#[]⟩] 49)).grownBy w7 (some R) → Blk w7 w6.heap.size 49 [.int .i64 0, .int .i64 0, .int .i64 0, .int .i64 0, .string ⟨#[]⟩, .string ⟨#[]⟩, .string ⟨#[]⟩]) := fun w7 hg => (show Blk (w6.alloc (.cells #[.int .i64 0, .int .i64 0, .int .i64 0, .int .i64 0, .string ⟨#[]⟩, .string ⟨#[]⟩, .string ⟨#[]⟩] 49)) w6.heap.size 49 [.int .i64 0, .int .i64 0, .int .i64 0, .int .i64 0, .string ⟨#[]⟩, .string ⟨#[]⟩, .string ⟨#[]⟩] from heap_at _ _ _ rfl).grown hg (by omega)
      go_upto_region 3 with fail
      go_cut [6] (fun s6 wx => ∃ (x : Cn) (b6 : Nat), s6 = .pointer (some ⟨b6, 0, none⟩) ∧ b5 < b6 ∧ b6 ≠ R ∧ x.kn.size ≤ 1048576 ∧ x.ne.size ≤ 1048576 ∧ Blk wx b6 49 [.int .i64 x.ia, .int .i64 x.ip, .int .i64 x.oa, .int .i64 x.op, .string x.kn, .string x.he, .string x.ne] ∧ DS B R Bb s b5 (L + 59) w wx [.slice a1 n1 c1, .slice a2 n2 c2, .slice (some ⟨g, 0, none⟩) nc c3] [.int .i64 0, .int .i64 0, .int .i64 0, .int .i64 0, .int .i64 0, .int .i64 0, .string ⟨#[]⟩] [.int .i64 sa, .int .i64 sp, .int .i64 da, .int .i64 dp, .int .i64 0, .int .i64 (k : Int), .string d] (.slice (some ⟨g, 0, none⟩) nc c3) cs)
      case first =>
        go_region_with (first | (go_at_call 27; refine (pick_any (nc : Int) B R (L + 58) _ (by first | exact S6.out.2.2.2.2.2 | exact rd_drewD S6.out.2.2.2.2.2) (by omega)).mono ?_; rintro e w7 ⟨m, rfl, hm, g7, r7⟩; have hmn : m < nc := (by omega); have s7 := DS.grown S6.out (by first | exact g7 | exact grown_fromD g7) r7 (by omega) hR (by omega); clear g7; obtain ⟨x, hx⟩ : ∃ x, cs[m]? = some x := ⟨_, List.getElem?_eq_getElem (by rw [← HNC.out]; exact hmn)⟩; obtain ⟨g', eg, -, hgl, hcp', -, ⟨k0, k1, k2, k3, k4', k5, k6⟩, -⟩ := own_conn s7.2.2.2.1 hmn x hx; injection eg with eg; injection eg with eg; subst eg; have hxI := HC.out x (List.mem_of_getElem? hx); have k0x : ∀ o, (w7.alloc o).cell? ⟨g, m * 7, none⟩ = some (.int .i64 x.ia) := (fun o => (cell_alloc_lt hgl).trans k0); have k1x : ∀ o, (w7.alloc o).cell? ⟨g, m * 7 + 1, none⟩ = some (.int .i64 x.ip) := (fun o => (cell_alloc_lt hgl).trans k1); have k2x : ∀ o, (w7.alloc o).cell? ⟨g, m * 7 + 2, none⟩ = some (.int .i64 x.oa) := (fun o => (cell_alloc_lt hgl).trans k2); have k3x : ∀ o, (w7.alloc o).cell? ⟨g, m * 7 + 3, none⟩ = some (.int .i64 x.op) := (fun o => (cell_alloc_lt hgl).trans k3); have k4x : ∀ o, (w7.alloc o).cell? ⟨g, m * 7 + 4, none⟩ = some (.string x.kn) := (fun o => (cell_alloc_lt hgl).trans k4'); have k5x : ∀ o, (w7.alloc o).cell? ⟨g, m * 7 + 5, none⟩ = some (.string x.he) := (fun o => (cell_alloc_lt hgl).trans k5); have k6x : ∀ o, (w7.alloc o).cell? ⟨g, m * 7 + 6, none⟩ = some (.string x.ne) := (fun o => (cell_alloc_lt hgl).trans k6); have hm0 : (0 : Int) ≤ (m : Int) := (by omega); have hmc : (m : Int) < (c3 : Int) := (by omega); have hmi : (m : Int) < (nc : Int) := (by omega); have hs8 : b5 < w7.heap.size := s7.2.2.1.lt; have hgb : w7.heap.size ≠ g := (by omega); have h7R : w7.heap.size ≠ R := (by omega); clear hm r7 hx p0 p1 p2 p0y p1y p2y; obtain ⟨⟨p0, p1, p2⟩, -⟩ := three_all s7.1; have p0x := (fun o => (three_all (s7.alloc o).1).1.1); have p1x := (fun o => (three_all (s7.alloc o).1).1.2.1); have p2x := (fun o => (three_all (s7.alloc o).1).1.2.2)) | (go_at_call 27; refine (pick_any (nc : Int) B R (L + 58) _ (by first | exact rd_drewD (SA.out _).2.2.2.2.2 | exact (SA.out _).2.2.2.2.2) (by omega)).mono ?_; rintro e w7 ⟨m, rfl, hm, g7, r7⟩; have hmn : m < nc := (by omega); have gg : (w6.alloc (.cells #[.int .i64 0, .int .i64 0, .int .i64 0, .int .i64 0, .string ⟨#[]⟩, .string ⟨#[]⟩, .string ⟨#[]⟩] 49)).grownBy w7 (some R) := (by first | exact grown_fromD g7 | exact g7); have s7 := DS.grown (SA.out (.cells #[.int .i64 0, .int .i64 0, .int .i64 0, .int .i64 0, .string ⟨#[]⟩, .string ⟨#[]⟩, .string ⟨#[]⟩] 49)) gg r7 (by omega) hR (by omega); have z7 := zB.out w7 gg; obtain ⟨⟨y0, y1, y2, y3, y4, y5, y6⟩, q0, q1, q2, q3, q4, q5, q6⟩ := seven_partsG z7; clear g7 gg; obtain ⟨x, hx⟩ : ∃ x, cs[m]? = some x := ⟨_, List.getElem?_eq_getElem (by rw [← HNC.out]; exact hmn)⟩; obtain ⟨g', eg, -, hgl, hcp', -, ⟨k0, k1, k2, k3, k4', k5, k6⟩, -⟩ := own_conn s7.2.2.2.1 hmn x hx; injection eg with eg; injection eg with eg; subst eg; have hxI := HC.out x (List.mem_of_getElem? hx); have k0x : ∀ o, (w7.alloc o).cell? ⟨g, m * 7, none⟩ = some (.int .i64 x.ia) := (fun o => (cell_alloc_lt hgl).trans k0); have k1x : ∀ o, (w7.alloc o).cell? ⟨g, m * 7 + 1, none⟩ = some (.int .i64 x.ip) := (fun o => (cell_alloc_lt hgl).trans k1); have k2x : ∀ o, (w7.alloc o).cell? ⟨g, m * 7 + 2, none⟩ = some (.int .i64 x.oa) := (fun o => (cell_alloc_lt hgl).trans k2); have k3x : ∀ o, (w7.alloc o).cell? ⟨g, m * 7 + 3, none⟩ = some (.int .i64 x.op) := (fun o => (cell_alloc_lt hgl).trans k3); have k4x : ∀ o, (w7.alloc o).cell? ⟨g, m * 7 + 4, none⟩ = some (.string x.kn) := (fun o => (cell_alloc_lt hgl).trans k4'); have k5x : ∀ o, (w7.alloc o).cell? ⟨g, m * 7 + 5, none⟩ = some (.string x.he) := (fun o => (cell_alloc_lt hgl).trans k5); have k6x : ∀ o, (w7.alloc o).cell? ⟨g, m * 7 + 6, none⟩ = some (.string x.ne) := (fun o => (cell_alloc_lt hgl).trans k6); have hm0 : (0 : Int) ≤ (m : Int) := (by omega); have hmc : (m : Int) < (c3 : Int) := (by omega); have hmi : (m : Int) < (nc : Int) := (by omega); have hs8 : b5 < w7.heap.size := s7.2.2.1.lt; have hgb : w7.heap.size ≠ g := (by omega); have h7R : w7.heap.size ≠ R := (by omega); clear hm r7 hx p0 p1 p2 p0y p1y p2y; obtain ⟨⟨p0, p1, p2⟩, -⟩ := three_all s7.1; have p0x := (fun o => (three_all (s7.alloc o).1).1.1); have p1x := (fun o => (three_all (s7.alloc o).1).1.2.1); have p2x := (fun o => (three_all (s7.alloc o).1).1.2.2)))
        all_goals (go_wp2_with fail; go_meet)
        all_goals first
          | (refine ⟨x, w7.heap.size, rfl, hs8, h7R, hxI.1, hxI.2, ?_, ?_⟩; rotate_left; exact DS.alloc s7 _; exact blk_newD _ _ _)
          | (have hob : (Value.slice (some ⟨g, 0, none⟩) nc c3).ownBlock ≠ some w6.heap.size := by simp [Value.ownBlock]; omega
             refine ⟨x, w6.heap.size, rfl, h6b, h6R, hxI.1, hxI.2, ?_, ?_⟩
             · exact Blk.put7 z7 (.int .i64 x.ia) (.int .i64 x.ip) (.int .i64 x.oa) (.int .i64 x.op) (.string x.kn) (.string x.he) (.string x.ne)
             · exact DS.put7 s7 hRl hBR (by omega) h6b hob hws (.int .i64 x.ia) (.int .i64 x.ip) (.int .i64 x.oa) (.int .i64 x.op) (.string x.kn) (.string x.he) (.string x.ne))
      case rest =>
        obtain ⟨x, b6, rfl, h56, h6R, hkn, hne, hb6, hds⟩ := hcut
        have S7 := Lib.hid (show DE B R Bb s b5 b6 (L + 59) w wc _ _ _ _ _ cs from ⟨hds, hb6⟩)
        clear hds hb6 S6 SA zB p0y p1y p2y p0 p1 p2
        obtain ⟨⟨y0, y1, y2, y3, y4, y5, y6⟩, -⟩ := seven_partsG S7.out.2
        obtain ⟨⟨e0, e1, e2, e3, e4, e5, e6⟩, f0, f1, f2, f3, f4, f5, f6⟩ := seven_partsG S7.out.1.2.2.1
        have h65 : b6 ≠ b5 := by omega
        go_upto_region 6 with fail
        have S8 := Lib.hid (DE.put4 S7.out hRl hBR (by omega) h56 hws (.int .i64 x.ia) (.int .i64 x.ip) (.int .i64 x.oa) (.int .i64 x.op))
        clear S7 y0 y1 y2 y3 y4 y5 y6 e0 e1 e2 e3 e4 e5 e6 f0 f1 f2 f3 f4 f5 f6
        obtain ⟨W8, hW8⟩ : ∃ W8, W8 = (((wc.setCell ⟨b5, 0, none⟩ (.int .i64 x.ia)).setCell ⟨b5, 1, none⟩ (.int .i64 x.ip)).setCell ⟨b5, 2, none⟩ (.int .i64 x.oa)).setCell ⟨b5, 3, none⟩ (.int .i64 x.op) := ⟨_, rfl⟩
        rw [← hW8] at S8 ⊢
        clear hW8
        have S8 : Hid (DE B R Bb s b5 b6 (L + 59) w W8 [.slice a1 n1 c1, .slice a2 n2 c2, .slice (some ⟨g, 0, none⟩) nc c3] [.int .i64 0, .int .i64 0, .int .i64 0, .int .i64 0, .int .i64 0, .int .i64 0, .string ⟨#[]⟩] [.int .i64 x.ia, .int .i64 x.ip, .int .i64 x.oa, .int .i64 x.op, .int .i64 0, .int .i64 (k : Int), .string d] [.int .i64 x.ia, .int .i64 x.ip, .int .i64 x.oa, .int .i64 x.op, .string x.kn, .string x.he, .string x.ne] (.slice (some ⟨g, 0, none⟩) nc c3) cs) := S8.out
        obtain ⟨⟨y0, y1, y2, y3, y4, y5, y6⟩, -⟩ := seven_partsG S8.out.2
        obtain ⟨⟨e0, e1, e2, e3, e4, e5, e6⟩, f0, f1, f2, f3, f4, f5, f6⟩ := seven_partsG S8.out.1.2.2.1
        have hL5 : L + 59 ≤ 1000000 := by omega
        go_cut [] (fun wx => ∃ q : Int, DE B R Bb s b5 b6 (L + 60) w wx [.slice a1 n1 c1, .slice a2 n2 c2, .slice (some ⟨g, 0, none⟩) nc c3] [.int .i64 0, .int .i64 0, .int .i64 0, .int .i64 0, .int .i64 0, .int .i64 0, .string ⟨#[]⟩] [.int .i64 x.ia, .int .i64 x.ip, .int .i64 x.oa, .int .i64 x.op, .int .i64 q, .int .i64 (k : Int), .string d] [.int .i64 x.ia, .int .i64 x.ip, .int .i64 x.oa, .int .i64 x.op, .string x.kn, .string x.he, .string x.ne] (.slice (some ⟨g, 0, none⟩) nc c3) cs)
        case first =>
          go_region_with (go_at_call 27; refine (pick_any 5 B R (L + 59) _ (by first | exact S8.out.1.2.2.2.2.2 | exact rd_drewD S8.out.1.2.2.2.2.2) hL5).mono ?_; rintro e w9 ⟨k5, rfl, hk5, g9, r9⟩; have s9 := DE.grown S8.out (by first | exact g9 | exact grown_fromD g9) r9 hRl hR (by omega) h56; clear g9 r9 y0 y1 y2 y3 y4 y5 y6 e0 e1 e2 e3 e4 e5 e6 f0 f1 f2 f3 f4 f5 f6; obtain ⟨⟨y0, y1, y2, y3, y4, y5, y6⟩, -⟩ := seven_partsG s9.2; obtain ⟨⟨e0, e1, e2, e3, e4, e5, e6⟩, f0, f1, f2, f3, f4, f5, f6⟩ := seven_partsG s9.1.2.2.1; have hwr := IntWalk.i64_in ((x.kn.size : Int) - (k5 : Int)) (by omega))
          all_goals (go_wp2_with fail; go_meet)
          all_goals first
            | exact ⟨_, (s9.set5 hRl hBR (by omega) h56 hws 4 _)⟩
            | (trace_state; fail)
        case rest =>
          obtain ⟨q, hde⟩ := hcut
          have S9 := Lib.hid hde
          clear hde S8 y0 y1 y2 y3 y4 y5 y6 e0 e1 e2 e3 e4 e5 e6 f0 f1 f2 f3 f4 f5 f6
          obtain ⟨⟨y0, y1, y2, y3, y4, y5, y6⟩, -⟩ := seven_partsG S9.out.2
          obtain ⟨⟨e0, e1, e2, e3, e4, e5, e6⟩, f0, f1, f2, f3, f4, f5, f6⟩ := seven_partsG S9.out.1.2.2.1
          have hwn := IntWalk.i64_in ((x.ne.size : Int) + 3) (by omega)
          go_upto_region 8 with (go_at_call 27; refine (pick_any ((x.ne.size : Int) + 3) B R (L + 60) _ S9.out.1.2.2.2.2.2 (by omega)).mono ?_; rintro e w10 ⟨ak, rfl, hak, g10, r10⟩; have S10 := Lib.hid (DE.grown S9.out g10 r10 hRl hR (by omega) h56); clear g10 r10 S9 hwn y0 y1 y2 y3 y4 y5 y6 e0 e1 e2 e3 e4 e5 e6 f0 f1 f2 f3 f4 f5 f6; obtain ⟨⟨e0, e1, e2, e3, e4, e5, e6⟩, f0, f1, f2, f3, f4, f5, f6⟩ := seven_partsG S10.out.1.2.2.1)
          have hak2 : (ak : Int) ≤ 1048578 := by omega
          have S11 := Lib.hid (DE.set5 S10.out hRl hBR (by omega) h56 hws 5 (.int .i64 (ak : Int)))
          obtain ⟨W11, hW11⟩ : ∃ W, W = w10.setCell ⟨b5, 5, none⟩ (.int .i64 (ak : Int)) := ⟨_, rfl⟩
          rw [← hW11] at S11 ⊢
          clear hW11 S10 hak e0 e1 e2 e3 e4 e5 e6 f0 f1 f2 f3 f4 f5 f6
          have S11 : Hid (DE B R Bb s b5 b6 (L + 61) w W11 [.slice a1 n1 c1, .slice a2 n2 c2, .slice (some ⟨g, 0, none⟩) nc c3] [.int .i64 0, .int .i64 0, .int .i64 0, .int .i64 0, .int .i64 0, .int .i64 0, .string ⟨#[]⟩] [.int .i64 x.ia, .int .i64 x.ip, .int .i64 x.oa, .int .i64 x.op, .int .i64 q, .int .i64 (ak : Int), .string d] [.int .i64 x.ia, .int .i64 x.ip, .int .i64 x.oa, .int .i64 x.op, .string x.kn, .string x.he, .string x.ne] (.slice (some ⟨g, 0, none⟩) nc c3) cs) := S11.out
          go_upto_if 56 with (go_at_call 28; refine (odd_any 8 B R (L + 61) _ S11.out.1.2.2.2.2.2 (by omega) (by omega) (by omega)).mono ?_; rintro e w12 ⟨bo, rfl, g12, r12⟩)
          have S12 := Lib.hid (DE.grown S11.out g12 r12 hRl hR (by omega) h56)
          clear S11 g12 r12
          cases bo
          · obtain ⟨⟨x0, x1, x2, x3, x4, x5, x6⟩, -⟩ := seven_partsG S12.out.1.2.2.1
            obtain ⟨⟨z0, z1, z2, z3, z4, z5, z6⟩, h0, h1, h2, h3, h4, h5, h6⟩ := seven_partsG S12.out.1.2.1
            go_wp2_with fail
            obtain ⟨⟨n0, n1, n2, n3, n4, n5, n6⟩, -⟩ := seven_partsG (((((((S12.out.1.2.1.set 0 (.int .i64 x.ia)).set 1 (.int .i64 x.ip)).set 2 (.int .i64 x.oa)).set 3 (.int .i64 x.op)).set 4 (.int .i64 q)).set 5 (.int .i64 (ak : Int))).set 6 (.string d))
            refine bodyPost_ret (v := .agg #[.int .i64 x.ia, .int .i64 x.ip, .int .i64 x.oa, .int .i64 x.op, .int .i64 q, .int .i64 (ak : Int), .string d]) (by simp [results, Tryz.results26, go_sem, n0, n1, n2, n3, n4, n5, n6]) rfl ⟨_, _, _, _, _, _, _, rfl, ⟨by omega, by omega⟩, hd, ?_, ?_⟩
            · exact grown_puts S12.out.1.2.2.2.2.1 (.int .i64 x.ia) (.int .i64 x.ip) (.int .i64 x.oa) (.int .i64 x.op) (.int .i64 q) (.int .i64 (ak : Int)) (.string d) (by omega)
            · exact (rd_puts S12.out.1.2.2.2.2.2 (.int .i64 x.ia) (.int .i64 x.ip) (.int .i64 x.oa) (.int .i64 x.op) (.int .i64 q) (.int .i64 (ak : Int)) (.string d) (by omega) (by omega)).mono (by omega)
          · obtain ⟨⟨y0, y1, y2, y3, y4, y5, y6⟩, -⟩ := seven_partsG S12.out.2
            obtain ⟨⟨e0, e1, e2, e3, e4, e5, e6⟩, f0, f1, f2, f3, f4, f5, f6⟩ := seven_partsG S12.out.1.2.2.1
            have hwk := IntWalk.i64_in ((x.kn.size : Int) + 1) (by omega)
            go_upto_region 9 with fail
            go_cut [] (fun wx => ∃ q2 : Int, DE B R Bb s b5 b6 (L + 63) w wx [.slice a1 n1 c1, .slice a2 n2 c2, .slice (some ⟨g, 0, none⟩) nc c3] [.int .i64 0, .int .i64 0, .int .i64 0, .int .i64 0, .int .i64 0, .int .i64 0, .string ⟨#[]⟩] [.int .i64 x.ia, .int .i64 x.ip, .int .i64 x.oa, .int .i64 x.op, .int .i64 q2, .int .i64 (ak : Int), .string d] [.int .i64 x.ia, .int .i64 x.ip, .int .i64 x.oa, .int .i64 x.op, .string x.kn, .string x.he, .string x.ne] (.slice (some ⟨g, 0, none⟩) nc c3) cs)
            case first =>
              go_region_with (go_at_call 27; refine (pick_any 3 B R (L + 62) _ (by first | exact S12.out.1.2.2.2.2.2.mono (by omega) | exact rd_drewD (S12.out.1.2.2.2.2.2.mono (by omega))) (by omega)).mono ?_; rintro e w13 ⟨k5, rfl, hk5, g13, r13⟩; have s13 := DE.grown S12.out (by first | exact g13 | exact grown_fromD g13) r13 hRl hR (by omega) h56; clear g13 r13 y0 y1 y2 y3 y4 y5 y6 e0 e1 e2 e3 e4 e5 e6 f0 f1 f2 f3 f4 f5 f6; obtain ⟨⟨y0, y1, y2, y3, y4, y5, y6⟩, -⟩ := seven_partsG s13.2; obtain ⟨⟨e0, e1, e2, e3, e4, e5, e6⟩, f0, f1, f2, f3, f4, f5, f6⟩ := seven_partsG s13.1.2.2.1)
              all_goals (go_wp2_with fail; go_meet)
              all_goals first
                | exact ⟨_, (s13.set5 hRl hBR (by omega) h56 hws 4 _)⟩
                | (trace_state; fail)
            case rest =>
              obtain ⟨q2, hde⟩ := hcut
              have S13 := Lib.hid hde
              clear hde S12 hwk y0 y1 y2 y3 y4 y5 y6 e0 e1 e2 e3 e4 e5 e6 f0 f1 f2 f3 f4 f5 f6
              obtain ⟨⟨x0, x1, x2, x3, x4, x5, x6⟩, -⟩ := seven_partsG S13.out.1.2.2.1
              obtain ⟨⟨z0, z1, z2, z3, z4, z5, z6⟩, h0, h1, h2, h3, h4, h5, h6⟩ := seven_partsG S13.out.1.2.1
              go_wp2_with fail
              obtain ⟨⟨n0, n1, n2, n3, n4, n5, n6⟩, -⟩ := seven_partsG (((((((S13.out.1.2.1.set 0 (.int .i64 x.ia)).set 1 (.int .i64 x.ip)).set 2 (.int .i64 x.oa)).set 3 (.int .i64 x.op)).set 4 (.int .i64 q2)).set 5 (.int .i64 (ak : Int))).set 6 (.string d))
              refine bodyPost_ret (v := .agg #[.int .i64 x.ia, .int .i64 x.ip, .int .i64 x.oa, .int .i64 x.op, .int .i64 q2, .int .i64 (ak : Int), .string d]) (by simp [results, Tryz.results26, go_sem, n0, n1, n2, n3, n4, n5, n6]) rfl ⟨_, _, _, _, _, _, _, rfl, ⟨by omega, by omega⟩, hd, ?_, ?_⟩
              · exact grown_puts S13.out.1.2.2.2.2.1 (.int .i64 x.ia) (.int .i64 x.ip) (.int .i64 x.oa) (.int .i64 x.op) (.int .i64 q2) (.int .i64 (ak : Int)) (.string d) (by omega)
              · exact (rd_puts S13.out.1.2.2.2.2.2 (.int .i64 x.ia) (.int .i64 x.ip) (.int .i64 x.oa) (.int .i64 x.op) (.int .i64 q2) (.int .i64 (ak : Int)) (.string d) (by omega) (by omega)).mono (by omega)

end Go.Proofs.YtgfkiljkpkfapaaGreatDoor
