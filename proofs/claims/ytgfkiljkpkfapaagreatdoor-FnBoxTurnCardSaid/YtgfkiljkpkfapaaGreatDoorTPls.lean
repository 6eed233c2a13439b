/- l20Box of the specification: some box, in the call's own memory, not large. Conditions: the reader is there, its place is small. (Several texts, joined: DrawBx.) -/
import Derived.Test.YtgfkiljkpkfapaaGreatDoorTPlr

/- l20Box of the specification: some box, in the call's own memory, not large. Conditions: the reader is there, its place is small. -/
namespace Go.Proofs.YtgfkiljkpkfapaaGreatDoor
open Go.RowKit Go.Sort

theorem BS.place {B R s b3 L L' : Nat} {w0 w : World} {t2 : List Value} {x1 x2 x3 : Value} {b : Bx} (h : BS B R s b3 L w0 w t2 x1 x2 x3 b) (hL : L ≤ L') : BS B R s b3 L' w0 w t2 x1 x2 x3 b := ⟨h.1, h.2.1, h.2.2.1, h.2.2.2.1, h.2.2.2.2.1, h.2.2.2.2.2.mono hL⟩

set_option maxRecDepth 100000 in
set_option maxHeartbeats 12800000 in
theorem box_any (B R L : Nat) (w : World) (h : Rd B R L w) (hL : L ≤ 970000) :
    Calls Tryz.prog 65 #[.pointer (some ⟨R, 0, none⟩)] w fun e w' => ∃ x1 x2 x3 b, e = .returned (.agg #[x1, x2, x3]) ∧ OwH w' w.heap.size (.agg #[x1, x2, x3]) b ∧ bxSm b ∧ w.grownBy w' (some R) ∧ Rd B R (L + 1400) w' := by
  have hRs := h.lt
  have hBR := h.base
  have H := Lib.hid h
  clear h
  go_enter Tryz.func65, Tryz.ntmps65
  go_wp2_with fail
  (go_at_call 69; refine (rules_any 99999 B R L _ (rd_alloc H.out _) (by omega) (by omega) (by omega)).mono ?_; rintro e w1 ⟨ga, gc, l, rfl, ol, hl, g1, r1⟩)
  have R1 := Lib.hid r1
  have G1 := Lib.hid g1
  have OL : Hid (RdRl w1 (.slice (some ga) l.length gc) l) := OwnRl.rd ol
  have z1 : w.heap.size + 1 ≤ w1.heap.size := by have := g1.size; simpa using this
  clear r1 g1 ol
  go_wp2_with fail
  (go_at_call 111; refine (specBoxNew_any ga gc l _ (by omega) OL.out).mono ?_; rintro e w2 ⟨v, rfl, fv, b2⟩)
  obtain ⟨a1, k1, rfl, -⟩ := FrL.form fv
  have z2 := b2.size
  have hnew : (newR l).length ≤ 8 := by
    unfold newR
    split
    · omega
    · simp
  obtain ⟨s, hs⟩ : ∃ s, s = w.heap.size := ⟨_, rfl⟩
  obtain ⟨b3, hb3⟩ : ∃ b3, b3 = w2.heap.size := ⟨_, rfl⟩
  have S3 : Hid (BS B R s b3 (L + 300) w (w2.alloc (.cells #[.slice a1 (newR l).length k1, .slice none 0 0, .slice none 0 0] 29)) [.slice none 0 0, .slice none 0 0, .slice none 0 0] (.slice a1 (newR l).length k1) (.slice none 0 0) (.slice none 0 0) ⟨newR l, [], []⟩) := by
    rw [hs, hb3]
    have hA : Blk w1 w.heap.size 29 [.slice none 0 0, .slice none 0 0, .slice none 0 0] := (blk_newD w [.slice none 0 0, .slice none 0 0, .slice none 0 0] 29).grown G1.out (by omega)
    have hN : Below w2.heap.size w2 (w2.alloc (.cells #[.slice a1 (newR l).length k1, .slice none 0 0, .slice none 0 0] 29)) := (Below.refl _ _).alloc (Nat.le_refl _) _
    refine ⟨(hA.below b2).alloc _, blk_newD _ _ _, ⟨a1, k1, none, 0, none, 0, rfl, FrL.later (FrL.base fv (by omega)) hN, own_nilG _ _ _ _, own_nilG _ _ _ _⟩, ⟨⟨by show (newR l).length ≤ _; omega, by simp, by simp, by intro c hc; cases hc⟩, ⟨(by intro c hc; cases hc), (by simp), (by intro c hc; cases hc), (by intro c hc; cases hc)⟩⟩, ?_, ?_⟩
    · exact grown_alloc (((World.grownBy_alloc w _ _).trans G1.out).trans (grown_ofR b2)) _
    · exact rd_alloc (rd_below R1.out b2 (Nat.le_refl _)) _
  obtain ⟨W3, hW3⟩ : ∃ W3, W3 = w2.alloc (.cells #[.slice a1 (newR l).length k1, .slice none 0 0, .slice none 0 0] 29) := ⟨_, rfl⟩
  go_upto_region 2 with fail
  rw [← hW3] at S3 ⊢
  rw [← hs] at z1 hRs ⊢
  rw [← hb3] at z2 ⊢
  have hsb : s < b3 := by omega
  have h0s : w.heap.size ≤ s := Nat.le_of_eq hs.symm
  have hsw := Lib.hid hs
  clear hW3 hs hb3 z1 z2 b2 fv OL G1 R1 H hnew
  go_wp2_with fail
  (go_at_call 27; refine (pick_any 16 B R (L + 300) _ S3.out.2.2.2.2.2 (by omega)).mono ?_; rintro e w4 ⟨k, rfl, hk, g4, r4⟩)
  have hk15 : k ≤ 15 := by omega
  have S4 := Lib.hid (BS.grown S3.out g4 r4 hRs hsb)
  clear g4 r4 hk S3
  go_wp2_with fail
  go_loopw [4] (fun i wr => ∃ n : Nat, n ≤ 15 ∧ i = .int .i64 n ∧ ∃ (q1 q2 q3 : Option Addr) (j1 e1 j2 e2 j3 e3 : Nat) (b : Bx), Hid (BS B R s b3 (L + 1400 - 71 * n) w wr [.slice none 0 0, .slice none 0 0, .slice none 0 0] (.slice q1 j1 e1) (.slice q2 j2 e2) (.slice q3 j3 e3) b)) (fun i _ => (intOf i).toNat)
  case atStart => exact ⟨k, hk15, rfl, _, _, _, _, _, _, _, _, _, _, S4.out.place (by omega)⟩
  case round =>
    obtain ⟨n, hn, rfl, q1, q2, q3, j1, e1, j2, e2, j3, e3, b, HJ⟩ := hrel
    clear S4
    by_cases hn0 : 0 < n
    · have hn0i : (0 : Int) < (n : Int) := by omega
      obtain ⟨LL, hLL⟩ : ∃ LL, LL = L + 1400 - 71 * n := ⟨_, rfl⟩
      rw [← hLL] at HJ
      have hL1 : LL + 1 ≤ 980000 := by omega
      go_upto_if 20 with (go_at_call 27; refine (pick_any 3 B R LL _ HJ.out.2.2.2.2.2 (by omega)).mono ?_; rintro e w5 ⟨k5, rfl, hk5, g5, r5⟩)
      have S5 := Lib.hid (BS.grown HJ.out g5 r5 hRs hsb)
      clear g5 r5 HJ hk5
      have SA := Lib.hid (fun o => S5.out.alloc o)
      have hb5 : b3 < w5.heap.size := S5.out.2.1.lt
      have zB : Hid (∀ w6, (w5.alloc (.cells #[.slice none 0 0, .slice none 0 0, .slice none 0 0] 29)).grownBy w6 (some R) → Blk w6 w5.heap.size 29 [.slice none 0 0, .slice none 0 0, .slice none 0 0]) := fun w6 hg => (blk_newD w5 [.slice none 0 0, .slice none 0 0, .slice none 0 0] 29).grown hg (by omega)
      obtain ⟨⟨p0, p1, p2⟩, -⟩ := three_all S5.out.2.1
      have p0y := fun o => (three_all (SA.out o).2.1).1.1
      have p1y := fun o => (three_all (SA.out o).2.1).1.2.1
      have p2y := fun o => (three_all (SA.out o).2.1).1.2.2
      by_cases hk0 : k5 = 0
      · subst hk0
        go_upto_region 6 with fail
        go_cut [5, 6] from 14 to 38 (fun s5 s6 wx => ∃ (g : Nat) (aa1 aa2 aa3 : Option Addr) (m1 d1 m2 d2 m3 d3 : Nat) (b2 : Bx), s5 = .pointer (some ⟨g, 0, none⟩) ∧ b3 < g ∧ Blk wx g 29 [.slice aa1 m1 d1, .slice aa2 m2 d2, .slice aa3 m3 d3] ∧ OwH wx (s + 1) (.agg #[.slice aa1 m1 d1, .slice aa2 m2 d2, .slice aa3 m3 d3]) b2 ∧ bxSm b2 ∧ BS B R s b3 (LL + 71) w wx [.slice none 0 0, .slice none 0 0, .slice none 0 0] (.slice q1 j1 e1) (.slice q2 j2 e2) (.slice q3 j3 e3) b)
        case first =>
          go_region_with (first | (go_at_call 113; refine (bs_to B R s b3 (LL + 1) w _ _ (.slice q1 j1 e1) (.slice q2 j2 e2) (.slice q3 j3 e3) b (by first | exact S5.out | exact S5.out.drew) hL1 hRs hsb).mono ?_; rintro e w6 ⟨sa, sp, da, dp, sq, ak, d, rfl, hak, hd, g6, s6⟩; clear p0 p1 p2 p0y p1y p2y; clear g6; obtain ⟨⟨p0, p1, p2⟩, -⟩ := three_all s6.2.1; have p0x := (fun o => (three_all (s6.alloc o).2.1).1.1); have p1x := (fun o => (three_all (s6.alloc o).2.1).1.2.1); have p2x := (fun o => (three_all (s6.alloc o).2.1).1.2.2); have hb6 : b3 < w6.heap.size := s6.2.1.lt) | (go_at_call 113; refine (bs_to B R s b3 (LL + 1) w _ _ (.slice q1 j1 e1) (.slice q2 j2 e2) (.slice q3 j3 e3) b (by first | exact (SA.out _).drew | exact SA.out _) hL1 hRs hsb).mono ?_; rintro e w6 ⟨sa, sp, da, dp, sq, ak, d, rfl, hak, hd, g6, s6⟩; have z6 := zB.out w6 (by first | exact grown_fromD g6 | exact g6); clear p0 p1 p2 p0y p1y p2y; clear g6; obtain ⟨⟨p0, p1, p2⟩, -⟩ := three_all s6.2.1) | (go_at_call 112; refine (bs_in B R s b3 (LL + 1 + 70) w _ _ (.slice q1 j1 e1) (.slice q2 j2 e2) (.slice q3 j3 e3) b sa sp da dp sq ak d (by exact s6) hd hak hRs hsb).mono ?_; rintro e w7 ⟨aa1, aa2, aa3, m1, d1, m2, d2, m3, d3, v', b', rfl, oy, zy, b7, s7⟩; have z7 := (by exact z6 : Blk _ w5.heap.size _ _).below b7; obtain ⟨⟨y0c, y1c, y2c⟩, y0f, y1f, y2f⟩ := three_all z7) | (go_at_call 112; refine (bs_in B R s b3 (LL + 1 + 70) w _ _ (.slice q1 j1 e1) (.slice q2 j2 e2) (.slice q3 j3 e3) b sa sp da dp sq ak d (by exact s6) hd hak hRs hsb).mono ?_; rintro e w7 ⟨aa1, aa2, aa3, m1, d1, m2, d2, m3, d3, v', b', rfl, oy, zy, b7, s7⟩; have hb7 : b3 < w7.heap.size := s7.2.1.lt) | (go_at_call 112; refine (bs_in B R s b3 (LL + 1 + 70) w _ _ (.slice q1 j1 e1) (.slice q2 j2 e2) (.slice q3 j3 e3) b sa sp da dp sq ak d (by exact s6.alloc _) hd hak hRs hsb).mono ?_; rintro e w7 ⟨aa1, aa2, aa3, m1, d1, m2, d2, m3, d3, v', b', rfl, oy, zy, b7, s7⟩; have z7 : Blk w7 w6.heap.size 29 [.slice none 0 0, .slice none 0 0, .slice none 0 0] := (blk_newD w6 _ _).below b7; obtain ⟨⟨y0c, y1c, y2c⟩, y0f, y1f, y2f⟩ := three_all z7))
          all_goals (go_wp2_with fail; go_meet)
          all_goals first
            | (refine ⟨w7.heap.size, aa1, aa2, aa3, m1, d1, m2, d2, m3, d3, b', rfl, hb7, ?_, ?_, zy, ?_⟩; exact blk_newD _ _ _; exact oy.later ((Below.refl _ _).alloc (Nat.le_refl _) _); exact BS.alloc s7 _)
            | (refine ⟨w5.heap.size, aa1, aa2, aa3, m1, d1, m2, d2, m3, d3, b', rfl, hb5, ?_, ?_, zy, ?_⟩; exact ((z7.set 0 (.slice aa1 m1 d1)).set 1 (.slice aa2 m2 d2)).set 2 (.slice aa3 m3 d3); exact ((oy.setB z7 0 (.slice aa1 m1 d1)).setB (z7.set 0 (.slice aa1 m1 d1)) 1 (.slice aa2 m2 d2)).setB ((z7.set 0 (.slice aa1 m1 d1)).set 1 (.slice aa2 m2 d2)) 2 (.slice aa3 m3 d3); exact BS.put3 s7 z7 hRs hBR hsb hb5 h0s (.slice aa1 m1 d1) (.slice aa2 m2 d2) (.slice aa3 m3 d3))
            | (refine ⟨w6.heap.size, aa1, aa2, aa3, m1, d1, m2, d2, m3, d3, b', rfl, hb6, ?_, ?_, zy, ?_⟩; exact ((z7.set 0 (.slice aa1 m1 d1)).set 1 (.slice aa2 m2 d2)).set 2 (.slice aa3 m3 d3); exact ((oy.setB z7 0 (.slice aa1 m1 d1)).setB (z7.set 0 (.slice aa1 m1 d1)) 1 (.slice aa2 m2 d2)).setB ((z7.set 0 (.slice aa1 m1 d1)).set 1 (.slice aa2 m2 d2)) 2 (.slice aa3 m3 d3); exact BS.put3 s7 z7 hRs hBR hsb hb6 h0s (.slice aa1 m1 d1) (.slice aa2 m2 d2) (.slice aa3 m3 d3))
            | (trace_state; fail)
        case rest =>
          obtain ⟨g, aa1, aa2, aa3, m1, d1, m2, d2, m3, d3, b', rfl, hbg, hg, oy, zy, s8⟩ := hcut
          have S8 := Lib.hid s8
          have HG := Lib.hid hg
          have HY := Lib.hid oy
          clear s8 hg oy S5 SA zB p0 p1 p2 p0y p1y p2y
          obtain ⟨⟨p0, p1, p2⟩, -⟩ := three_all HG.out
          obtain ⟨⟨t0, t1, t2⟩, f0, f1, f2⟩ := three_all S8.out.2.1
          go_wp2_with fail
          go_roundw
          case rel => exact ⟨n - 1, by omega, by go_num, aa1, aa2, aa3, m1, d1, m2, d2, m3, d3, b', (BS.turn S8.out HY.out zy hRs hBR hsb h0s).place (by rw [hLL]; omega)⟩
          case measure => simp [intOf]; omega
      · have hkb : ((k5 : Int) == 0) = false := by rw [beq_eq_false_iff_ne]; omega
        clear hk0
        go_upto_region 8 with fail
        go_cut [7, 8] from 14 to 38 (fun s5 s6 wx => ∃ (g : Nat) (aa1 aa2 aa3 : Option Addr) (m1 d1 m2 d2 m3 d3 : Nat) (b2 : Bx), s5 = .pointer (some ⟨g, 0, none⟩) ∧ b3 < g ∧ Blk wx g 29 [.slice aa1 m1 d1, .slice aa2 m2 d2, .slice aa3 m3 d3] ∧ OwH wx (s + 1) (.agg #[.slice aa1 m1 d1, .slice aa2 m2 d2, .slice aa3 m3 d3]) b2 ∧ bxSm b2 ∧ BS B R s b3 (LL + 71) w wx [.slice none 0 0, .slice none 0 0, .slice none 0 0] (.slice q1 j1 e1) (.slice q2 j2 e2) (.slice q3 j3 e3) b)
        case first =>
          go_region_with (first | (go_at_call 26; refine (bs_from B R s b3 (LL + 1) w _ _ (.slice q1 j1 e1) (.slice q2 j2 e2) (.slice q3 j3 e3) b (by first | exact S5.out | exact S5.out.drew) hL1 hRs hsb).mono ?_; rintro e w6 ⟨sa, sp, da, dp, sq, ak, d, rfl, hak, hd, g6, s6⟩; clear p0 p1 p2 p0y p1y p2y; clear g6; obtain ⟨⟨p0, p1, p2⟩, -⟩ := three_all s6.2.1; have p0x := (fun o => (three_all (s6.alloc o).2.1).1.1); have p1x := (fun o => (three_all (s6.alloc o).2.1).1.2.1); have p2x := (fun o => (three_all (s6.alloc o).2.1).1.2.2); have hb6 : b3 < w6.heap.size := s6.2.1.lt) | (go_at_call 26; refine (bs_from B R s b3 (LL + 1) w _ _ (.slice q1 j1 e1) (.slice q2 j2 e2) (.slice q3 j3 e3) b (by first | exact (SA.out _).drew | exact SA.out _) hL1 hRs hsb).mono ?_; rintro e w6 ⟨sa, sp, da, dp, sq, ak, d, rfl, hak, hd, g6, s6⟩; have z6 := zB.out w6 (by first | exact grown_fromD g6 | exact g6); clear p0 p1 p2 p0y p1y p2y; clear g6; obtain ⟨⟨p0, p1, p2⟩, -⟩ := three_all s6.2.1) | (go_at_call 114; refine (bs_out B R s b3 (LL + 1 + 70) w _ _ (.slice q1 j1 e1) (.slice q2 j2 e2) (.slice q3 j3 e3) b sa sp da dp sq ak d (by exact s6) hd hak hRs hsb).mono ?_; rintro e w7 ⟨aa1, aa2, aa3, m1, d1, m2, d2, m3, d3, v', b', rfl, oy, zy, b7, s7⟩; have z7 := (by exact z6 : Blk _ w5.heap.size _ _).below b7; obtain ⟨⟨y0c, y1c, y2c⟩, y0f, y1f, y2f⟩ := three_all z7) | (go_at_call 114; refine (bs_out B R s b3 (LL + 1 + 70) w _ _ (.slice q1 j1 e1) (.slice q2 j2 e2) (.slice q3 j3 e3) b sa sp da dp sq ak d (by exact s6) hd hak hRs hsb).mono ?_; rintro e w7 ⟨aa1, aa2, aa3, m1, d1, m2, d2, m3, d3, v', b', rfl, oy, zy, b7, s7⟩; have hb7 : b3 < w7.heap.size := s7.2.1.lt) | (go_at_call 114; refine (bs_out B R s b3 (LL + 1 + 70) w _ _ (.slice q1 j1 e1) (.slice q2 j2 e2) (.slice q3 j3 e3) b sa sp da dp sq ak d (by exact s6.alloc _) hd hak hRs hsb).mono ?_; rintro e w7 ⟨aa1, aa2, aa3, m1, d1, m2, d2, m3, d3, v', b', rfl, oy, zy, b7, s7⟩; have z7 : Blk w7 w6.heap.size 29 [.slice none 0 0, .slice none 0 0, .slice none 0 0] := (blk_newD w6 _ _).below b7; obtain ⟨⟨y0c, y1c, y2c⟩, y0f, y1f, y2f⟩ := three_all z7))
          all_goals (go_wp2_with fail; go_meet)
          all_goals first
            | (refine ⟨w7.heap.size, aa1, aa2, aa3, m1, d1, m2, d2, m3, d3, b', rfl, hb7, ?_, ?_, zy, ?_⟩; exact blk_newD _ _ _; exact oy.later ((Below.refl _ _).alloc (Nat.le_refl _) _); exact BS.alloc s7 _)
            | (refine ⟨w5.heap.size, aa1, aa2, aa3, m1, d1, m2, d2, m3, d3, b', rfl, hb5, ?_, ?_, zy, ?_⟩; exact ((z7.set 0 (.slice aa1 m1 d1)).set 1 (.slice aa2 m2 d2)).set 2 (.slice aa3 m3 d3); exact ((oy.setB z7 0 (.slice aa1 m1 d1)).setB (z7.set 0 (.slice aa1 m1 d1)) 1 (.slice aa2 m2 d2)).setB ((z7.set 0 (.slice aa1 m1 d1)).set 1 (.slice aa2 m2 d2)) 2 (.slice aa3 m3 d3); exact BS.put3 s7 z7 hRs hBR hsb hb5 h0s (.slice aa1 m1 d1) (.slice aa2 m2 d2) (.slice aa3 m3 d3))
            | (refine ⟨w6.heap.size, aa1, aa2, aa3, m1, d1, m2, d2, m3, d3, b', rfl, hb6, ?_, ?_, zy, ?_⟩; exact ((z7.set 0 (.slice aa1 m1 d1)).set 1 (.slice aa2 m2 d2)).set 2 (.slice aa3 m3 d3); exact ((oy.setB z7 0 (.slice aa1 m1 d1)).setB (z7.set 0 (.slice aa1 m1 d1)) 1 (.slice aa2 m2 d2)).setB ((z7.set 0 (.slice aa1 m1 d1)).set 1 (.slice aa2 m2 d2)) 2 (.slice aa3 m3 d3); exact BS.put3 s7 z7 hRs hBR hsb hb6 h0s (.slice aa1 m1 d1) (.slice aa2 m2 d2) (.slice aa3 m3 d3))
            | (trace_state; fail)
        case rest =>
          obtain ⟨g, aa1, aa2, aa3, m1, d1, m2, d2, m3, d3, b', rfl, hbg, hg, oy, zy, s8⟩ := hcut
          have S8 := Lib.hid s8
          have HG := Lib.hid hg
          have HY := Lib.hid oy
          clear s8 hg oy S5 SA zB p0 p1 p2 p0y p1y p2y
          obtain ⟨⟨p0, p1, p2⟩, -⟩ := three_all HG.out
          obtain ⟨⟨t0, t1, t2⟩, f0, f1, f2⟩ := three_all S8.out.2.1
          go_wp2_with fail
          go_roundw
          case rel => exact ⟨n - 1, by omega, by go_num, aa1, aa2, aa3, m1, d1, m2, d2, m3, d3, b', (BS.turn S8.out HY.out zy hRs hBR hsb h0s).place (by rw [hLL]; omega)⟩
          case measure => simp [intOf]; omega
    · obtain rfl : n = 0 := by omega
      obtain ⟨⟨p0, p1, p2⟩, -⟩ := three_all HJ.out.2.1
      obtain ⟨⟨t0, t1, t2⟩, f0, f1, f2⟩ := three_all HJ.out.1
      go_wp2_with fail
      obtain ⟨⟨n0, n1, n2⟩, -⟩ := three_all (three_set HJ.out.1 (.slice q1 j1 e1) (.slice q2 j2 e2) (.slice q3 j3 e3))
      refine bodyPost_ret (v := .agg #[.slice q1 j1 e1, .slice q2 j2 e2, .slice q3 j3 e3]) (by simp [results, Tryz.results65, go_sem, n0, n1, n2]) rfl ⟨(.slice q1 j1 e1), (.slice q2 j2 e2), (.slice q3 j3 e3), b, rfl, ?_, HJ.out.2.2.2.1, ?_, ?_⟩
      · exact OwH.mono (((HJ.out.2.2.1.setB HJ.out.1 0 (.slice q1 j1 e1)).setB (HJ.out.1.set 0 (.slice q1 j1 e1)) 1 (.slice q2 j2 e2)).setB ((HJ.out.1.set 0 (.slice q1 j1 e1)).set 1 (.slice q2 j2 e2)) 2 (.slice q3 j3 e3)) (by omega)
      · exact grown_putR (grown_putR (grown_putR HJ.out.2.2.2.2.1 h0s 0 (.slice q1 j1 e1)) h0s 1 (.slice q2 j2 e2)) h0s 2 (.slice q3 j3 e3)
      · exact (rd_put (rd_put (rd_put HJ.out.2.2.2.2.2 (.slice q1 j1 e1) (by omega) (by omega)) (.slice q2 j2 e2) (by omega) (by omega)) (.slice q3 j3 e3) (by omega) (by omega)).mono (by omega)

end Go.Proofs.YtgfkiljkpkfapaaGreatDoor
