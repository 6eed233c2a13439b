/- The rules and the two ends that are drawn for the laws on what rules say. Condition: the code lies in memory. -/
import Derived.Test.YtempiklhkbgnbaaDrawRuls
namespace Go.Proofs.Ytempiklhkbgnbaa
open Go.RowKit

theorem ends_put {W : World} {X Y : Nat} {x0 x1 y0 y1 : Value} (h : X ≠ Y) (hx0 : W.cell? ⟨X, 0, none⟩ = some x0) (hx1 : W.cell? ⟨X, 1, none⟩ = some x1) (hy0 : W.cell? ⟨Y, 0, none⟩ = some y0) (hy1 : W.cell? ⟨Y, 1, none⟩ = some y1) (a b c d : Value) :
    ((((W.setCell ⟨X, 0, none⟩ a).setCell ⟨X, 1, none⟩ b).setCell ⟨Y, 0, none⟩ c).setCell ⟨Y, 1, none⟩ d).cell? ⟨X, 0, none⟩ = some a ∧ ((((W.setCell ⟨X, 0, none⟩ a).setCell ⟨X, 1, none⟩ b).setCell ⟨Y, 0, none⟩ c).setCell ⟨Y, 1, none⟩ d).cell? ⟨X, 1, none⟩ = some b ∧ ((((W.setCell ⟨X, 0, none⟩ a).setCell ⟨X, 1, none⟩ b).setCell ⟨Y, 0, none⟩ c).setCell ⟨Y, 1, none⟩ d).cell? ⟨Y, 0, none⟩ = some c ∧ ((((W.setCell ⟨X, 0, none⟩ a).setCell ⟨X, 1, none⟩ b).setCell ⟨Y, 0, none⟩ c).setCell ⟨Y, 1, none⟩ d).cell? ⟨Y, 1, none⟩ = some d := by
  have h' := Ne.symm h
  have k1 : (W.setCell ⟨X, 0, none⟩ a).cell? ⟨X, 1, none⟩ = some x1 := by rw [World.cell?_setCell_other _ _ _ _ (by simp)]; exact hx1
  have k2 : ((W.setCell ⟨X, 0, none⟩ a).setCell ⟨X, 1, none⟩ b).cell? ⟨Y, 0, none⟩ = some y0 := by rw [World.cell?_setCell_other _ _ _ _ (by first | (simp; omega) | (simp; done)), World.cell?_setCell_other _ _ _ _ (by first | (simp; omega) | (simp; done))]; exact hy0
  have k3 : (((W.setCell ⟨X, 0, none⟩ a).setCell ⟨X, 1, none⟩ b).setCell ⟨Y, 0, none⟩ c).cell? ⟨Y, 1, none⟩ = some y1 := by rw [World.cell?_setCell_other _ _ _ _ (by simp), World.cell?_setCell_other _ _ _ _ (by first | (simp; omega) | (simp; done)), World.cell?_setCell_other _ _ _ _ (by first | (simp; omega) | (simp; done))]; exact hy1
  refine ⟨?_, ?_, ?_, World.cell?_setCell_same _ _ _ k3⟩
  · rw [World.cell?_setCell_other _ _ _ _ (by first | (simp; omega) | (simp; done)), World.cell?_setCell_other _ _ _ _ (by first | (simp; omega) | (simp; done)), World.cell?_setCell_other _ _ _ _ (by simp)]; exact World.cell?_setCell_same _ _ _ hx0
  · rw [World.cell?_setCell_other _ _ _ _ (by first | (simp; omega) | (simp; done)), World.cell?_setCell_other _ _ _ _ (by first | (simp; omega) | (simp; done))]; exact World.cell?_setCell_same _ _ _ k1
  · rw [World.cell?_setCell_other _ _ _ _ (by simp)]; exact World.cell?_setCell_same _ _ _ k2
theorem OwnRl.mono {w : World} {B B' : Nat} {v : Value} {l : List Rl} (h : OwnRl w B v l) (hB : B' ≤ B) : OwnRl w B' v l := by
  obtain ⟨h0, h1 | ⟨g, cap, cur, hv, hb, hr⟩⟩ := h
  · exact ⟨h0, .inl h1⟩
  · exact ⟨h0, .inr ⟨g, cap, cur, hv, Nat.le_trans hB hb, hr⟩⟩
theorem may_own_put {w : World} {B B' X Y : Nat} {v : Value} {l : List Rl} (h : OwnRl w B v l) (hX : X < B) (hY : Y < B) (hB : B' ≤ B) (a b c d : Value) :
    OwnRl ((((w.setCell ⟨X, 0, none⟩ a).setCell ⟨X, 1, none⟩ b).setCell ⟨Y, 0, none⟩ c).setCell ⟨Y, 1, none⟩ d) B' v l :=
  OwnRl.mono (ownsRow_setCell_below (a := ⟨Y, 1, none⟩) (ownsRow_setCell_below (a := ⟨Y, 0, none⟩) (ownsRow_setCell_below (a := ⟨X, 1, none⟩) (ownsRow_setCell_below (a := ⟨X, 0, none⟩) h hX _) hX _) hY _) hY _) hB

set_option maxRecDepth 100000 in
set_option maxHeartbeats 3200000 in
theorem drawRulMay_any (ao : Option Addr) (n cap : Nat) (w : World) (h : BytesIn w ao n) (hn : n ≤ cap) :
    Calls Try.prog 17 #[.slice ao n cap] w fun e w' => ∃ g c l ia ip oa op, e = .returned (.tuple #[.slice (some g) (l : List Rl).length c, .agg #[.int .i64 ia, .int .i64 ip], .agg #[.int .i64 oa, .int .i64 op]]) ∧ OwnRl w' w.heap.size (.slice (some g) l.length c) l ∧ l.length ≤ 20 ∧ Below w.heap.size w w' := by
  have H := Lib.hid h
  clear h
  obtain ⟨i0, hi, hz0, hz1, hz2⟩ := info_parts infoRl
  go_enter Try.func17, Try.ntmps17
  go_wp2_with fail
  (go_at_call 24; refine (open_any ao n cap _ (H.out.below (((Below.refl _ _).alloc (Nat.le_refl _) _).alloc (by simp) _)) hn).mono ?_; rintro e w1 ⟨R, rfl, hR, b1, r1⟩)
  have s1 := b1.size
  simp only [World.size_alloc] at s1 hR r1
  have R1 := Lib.hid r1
  have hR1 : R < w1.heap.size := r1.lt
  have hwb : w.heap.size ≤ w1.heap.size := by omega
  have B1 : Hid (Below w.heap.size w w1) := (((Below.refl _ w).alloc (Nat.le_refl _) _).alloc (by simp) _).trans (b1.mono (by simp; omega))
  have x1 : w1.cell? ⟨w.heap.size, 0, none⟩ = some (.int .i64 0) := by rw [b1.cell (by simp; omega)]; simp
  have u1 : w1.cell? ⟨w.heap.size, 1, none⟩ = some (.int .i64 0) := by rw [b1.cell (by simp; omega)]; simp
  have y1 : w1.cell? ⟨w.heap.size + 1, 0, none⟩ = some (.int .i64 0) := by rw [b1.cell (by simp)]; simp
  have v1 : w1.cell? ⟨w.heap.size + 1, 1, none⟩ = some (.int .i64 0) := by rw [b1.cell (by simp)]; simp
  have fx1 : w1.frozen? ⟨w.heap.size, 0, none⟩ = false := by rw [b1.frozen (by simp; omega)]; simp
  have fu1 : w1.frozen? ⟨w.heap.size, 1, none⟩ = false := by rw [b1.frozen (by simp; omega)]; simp
  have fy1 : w1.frozen? ⟨w.heap.size + 1, 0, none⟩ = false := by rw [b1.frozen (by simp)]; simp
  have fv1 : w1.frozen? ⟨w.heap.size + 1, 1, none⟩ = false := by rw [b1.frozen (by simp)]; simp
  have HC : Hid (∀ w', w1.grownBy w' (some R) → w'.cell? ⟨w.heap.size, 0, none⟩ = some (.int .i64 0) ∧ w'.cell? ⟨w.heap.size, 1, none⟩ = some (.int .i64 0) ∧ w'.cell? ⟨w.heap.size + 1, 0, none⟩ = some (.int .i64 0) ∧ w'.cell? ⟨w.heap.size + 1, 1, none⟩ = some (.int .i64 0) ∧ w'.frozen? ⟨w.heap.size, 0, none⟩ = false ∧ w'.frozen? ⟨w.heap.size, 1, none⟩ = false ∧ w'.frozen? ⟨w.heap.size + 1, 0, none⟩ = false ∧ w'.frozen? ⟨w.heap.size + 1, 1, none⟩ = false) := fun w' hg =>
    ⟨(gcell hg (by omega) (by omega) 0).1.trans x1, (gcell hg (by omega) (by omega) 1).1.trans u1, (gcell hg (by omega) (by omega) 0).1.trans y1, (gcell hg (by omega) (by omega) 1).1.trans v1, (gcell hg (by omega) (by omega) 0).2.trans fx1, (gcell hg (by omega) (by omega) 1).2.trans fu1, (gcell hg (by omega) (by omega) 0).2.trans fy1, (gcell hg (by omega) (by omega) 1).2.trans fv1⟩
  clear r1 b1 x1 u1 y1 v1 fx1 fu1 fy1 fv1
  go_wp2_with fail
  (go_at_call 36; refine (rules_any 9 (w.heap.size + 1 + 1) R 0 _ R1.out (by omega) (by omega) (by omega)).mono ?_; rintro e w2 ⟨g2, c2, l2, rfl, ho2, hl2, gr2, r2⟩)
  have H2 : Hid (RulI (w.heap.size + 1 + 1) R 300 w1 w2 (.slice (some g2) l2.length c2) l2) := ⟨ho2, gr2, r2.mono (by omega)⟩
  clear ho2 gr2 r2
  go_wp2_with fail
  (go_at_call 27; refine (pick_any 3 (w.heap.size + 1 + 1) R 300 _ H2.out.2.2 (by omega)).mono ?_; rintro e w7 ⟨k4, rfl, h4, g7, r7⟩)
  have H7 := Lib.hid (H2.out.later g7 hR1 r7)
  clear g7 r7 H2
  go_wp2_with fail
  go_loopw [6, 7] (fun v i wr => ∃ k : Nat, i = .int .i64 k ∧ ∃ g c l, v = .slice (some g) (l : List Rl).length c ∧ l.length + k ≤ 10 ∧ k ≤ 2 ∧ Hid (RulI (w.heap.size + 1 + 1) R (301 + 20 * (2 - k)) w1 wr (.slice (some g) l.length c) l)) (fun _ i _ => (intOf i).toNat)
  case atStart => exact ⟨k4, rfl, g2, c2, l2, rfl, by omega, by omega, ⟨H7.out.1, H7.out.2.1, H7.out.2.2.mono (by omega)⟩⟩
  case round =>
    obtain ⟨k, rfl, g, c, l, rfl, hl, hk2, HJ⟩ := hrel
    by_cases hk : 0 < k
    · have hki : (0 : Int) < (k : Int) := by omega
      by_cases h5 : l.length < 5
      · have h5i : (l.length : Int) < 5 := by omega
        go_wp2_with fail
        (go_at_call 37; refine (rule_any 99999 (w.heap.size + 1 + 1) R (301 + 20 * (2 - k)) _ HJ.out.2.2 (by omega) (by omega) (by omega)).mono ?_; rintro e w8 ⟨al, i, it, o, ot, p, pt, rfl, g8, r8⟩)
        have H8 : Hid (RulI (w.heap.size + 1 + 1) R (301 + 20 * (2 - k) + 20) w1 w8 (.slice (some g) (l).length c) l) := HJ.out.later g8 hR1 r8
        have HO8 : Hid (∀ x, OwnRl (w8.alloc x) w1.heap.size (.slice (some g) (l).length c) l) := fun x => H8.out.1.grown (World.grownBy_alloc _ _ (some R)) hR1
        have z8 := H8.out.2.1.size
        clear g8 r8
        go_wp2_with (at_builtin; refine wpList_append_own _ rfl (.tmp 23) (.tmp 26) 38 rfl w1.heap.size 44 i0 (.agg #[.bool false, .int .i64 0, .int .i64 0, .int .i64 0, .int .i64 0, .int .i64 0, .int .i64 0]) 7 56 Try.underlying38 hi hz0 hz1 hz2 rfl (by decide) _ (l).length (flatC rlC (l)) rfl (HO8.out _) ⟨w8.heap.size, 0, none⟩ 1 1 [.bool al, .int .i64 i, .int .i64 it, .int .i64 o, .int .i64 ot, .int .i64 p, .int .i64 pt] rfl rfl ?c1 ?c2 ?c3 ?c4 ?c5 ?_)
        case c1 =>
          intro j u hj
          match j, hj with
          | 0, hj => simp at hj; subst hj; simp [Addr.add]
          | 1, hj => simp at hj; subst hj; simp [Addr.add]
          | 2, hj => simp at hj; subst hj; simp [Addr.add]
          | 3, hj => simp at hj; subst hj; simp [Addr.add]
          | 4, hj => simp at hj; subst hj; simp [Addr.add]
          | 5, hj => simp at hj; subst hj; simp [Addr.add]
          | 6, hj => simp at hj; subst hj; simp [Addr.add]
        case c2 => intro u hu; simp at hu; rcases hu with rfl | rfl | rfl | rfl | rfl | rfl | rfl <;> rfl
        case c3 => unfold maxLen; first | omega | (simp; done) | (simp; omega)
        case c4 => first | omega | (simp; done) | (simp; omega)
        case c5 => simp; omega
        intro v8 x8 hown8 hgrow8 _
        obtain ⟨g8, c8, l8, rfl, HX8, lx8⟩ := H8.out.app (r := ⟨al, i, it, o, ot, p, pt⟩) hR1 hgrow8 hown8
        clear hown8 hgrow8 H8 HO8
        go_wp2_with fail
        go_roundw
        case rel => exact ⟨k - 1, by go_num, g8, c8, l8, rfl, by omega, by omega, ⟨HX8.out.1, HX8.out.2.1, HX8.out.2.2.mono (by omega)⟩⟩
        case measure => simp [intOf]; omega
      · have h5i : ¬ (l.length : Int) < 5 := by omega
        go_wp2_with fail
        have HX : Hid (RulI (w.heap.size + 1 + 1) R 400 w1 wr (.slice (some g) l.length c) l) := ⟨HJ.out.1, HJ.out.2.1, HJ.out.2.2.mono (by omega)⟩
        clear HJ
        (go_at_call 38; refine (odd_any 9 (w.heap.size + 1 + 1) R (400) _ HX.out.2.2 (by omega) (by omega) (by omega)).mono ?_; rintro e w3 ⟨bo, rfl, g3, r3⟩)
        have H3 : Hid (RulI (w.heap.size + 1 + 1) R 401 w1 w3 (.slice (some g) l.length c) l) := HX.out.later g3 hR1 r3
        clear g3 r3 HX
        cases bo
        · go_wp2_with fail
          (go_at_call 40; refine (in_any (w.heap.size + 1 + 1) R 401 _ H3.out.2.2 (by omega)).mono ?_; rintro e w4 ⟨ia, ip, rfl, g4, r4⟩)
          have H4 := Lib.hid (H3.out.later g4 hR1 r4)
          clear g4 r4 H3
          go_wp2_with fail
          (go_at_call 41; refine (out_any (w.heap.size + 1 + 1) R (401 + 3) _ H4.out.2.2 (by omega)).mono ?_; rintro e w5 ⟨oa, op, rfl, g5, r5⟩)
          have H5 := Lib.hid (H4.out.later g5 hR1 r5)
          obtain ⟨x0, x1, y0, y1, fx0, fx1, fy0, fy1⟩ := HC.out w5 H5.out.2.1
          have hE := Lib.hid (ends_put (show w.heap.size ≠ w.heap.size + 1 by omega) x0 x1 y0 y1 (.int .i64 ia) (.int .i64 ip) (.int .i64 oa) (.int .i64 op))
          have hO := Lib.hid (may_own_put H5.out.1 (X := w.heap.size) (Y := w.heap.size + 1) (by omega) (by omega) hwb (.int .i64 ia) (.int .i64 ip) (.int .i64 oa) (.int .i64 op))
          have hB : Hid (Below w.heap.size w w5) := B1.out.grown H5.out.2.1 hwb (fun k e => by cases e; omega)
          clear g5 r5 H4
          go_wp2_with fail
          obtain ⟨q0, q1, q2, q3⟩ := hE.out
          refine bodyPost_ret (v := .tuple #[.slice (some g) l.length c, .agg #[.int .i64 ia, .int .i64 ip], .agg #[.int .i64 oa, .int .i64 op]]) (by simp [results, Try.results17, go_sem, q0, q1, q2, q3]) rfl ⟨g, c, l, ia, ip, oa, op, rfl, hO.out, by omega, ?_⟩
          exact (((hB.out.setCell (Nat.le_refl _) _).setCell (Nat.le_refl _) _).setCell (Nat.le_succ _) _).setCell (Nat.le_succ _) _
        · go_wp2_with fail
          (go_at_call 39; refine (end_any 3 (w.heap.size + 1 + 1) R 401 _ H3.out.2.2 (by omega) (by omega) (by omega)).mono ?_; rintro e w4 ⟨ia, ip, rfl, g4, r4⟩)
          have H4 := Lib.hid (H3.out.later g4 hR1 r4)
          clear g4 r4 H3
          go_wp2_with fail
          (go_at_call 39; refine (end_any 3 (w.heap.size + 1 + 1) R (401 + 8) _ H4.out.2.2 (by omega) (by omega) (by omega)).mono ?_; rintro e w5 ⟨oa, op, rfl, g5, r5⟩)
          have H5 := Lib.hid (H4.out.later g5 hR1 r5)
          obtain ⟨x0, x1, y0, y1, fx0, fx1, fy0, fy1⟩ := HC.out w5 H5.out.2.1
          have hE := Lib.hid (ends_put (show w.heap.size ≠ w.heap.size + 1 by omega) x0 x1 y0 y1 (.int .i64 ia) (.int .i64 ip) (.int .i64 oa) (.int .i64 op))
          have hO := Lib.hid (may_own_put H5.out.1 (X := w.heap.size) (Y := w.heap.size + 1) (by omega) (by omega) hwb (.int .i64 ia) (.int .i64 ip) (.int .i64 oa) (.int .i64 op))
          have hB : Hid (Below w.heap.size w w5) := B1.out.grown H5.out.2.1 hwb (fun k e => by cases e; omega)
          clear g5 r5 H4
          go_wp2_with fail
          obtain ⟨q0, q1, q2, q3⟩ := hE.out
          refine bodyPost_ret (v := .tuple #[.slice (some g) l.length c, .agg #[.int .i64 ia, .int .i64 ip], .agg #[.int .i64 oa, .int .i64 op]]) (by simp [results, Try.results17, go_sem, q0, q1, q2, q3]) rfl ⟨g, c, l, ia, ip, oa, op, rfl, hO.out, by omega, ?_⟩
          exact (((hB.out.setCell (Nat.le_refl _) _).setCell (Nat.le_refl _) _).setCell (Nat.le_succ _) _).setCell (Nat.le_succ _) _
    · obtain rfl : k = 0 := by omega
      have hki : ¬ (0 : Int) < ((0 : Nat) : Int) := by omega
      go_wp2_with fail
      have HX : Hid (RulI (w.heap.size + 1 + 1) R 400 w1 wr (.slice (some g) l.length c) l) := ⟨HJ.out.1, HJ.out.2.1, HJ.out.2.2.mono (by omega)⟩
      clear HJ
      (go_at_call 38; refine (odd_any 9 (w.heap.size + 1 + 1) R (400) _ HX.out.2.2 (by omega) (by omega) (by omega)).mono ?_; rintro e w3 ⟨bo, rfl, g3, r3⟩)
      have H3 : Hid (RulI (w.heap.size + 1 + 1) R 401 w1 w3 (.slice (some g) l.length c) l) := HX.out.later g3 hR1 r3
      clear g3 r3 HX
      cases bo
      · go_wp2_with fail
        (go_at_call 40; refine (in_any (w.heap.size + 1 + 1) R 401 _ H3.out.2.2 (by omega)).mono ?_; rintro e w4 ⟨ia, ip, rfl, g4, r4⟩)
        have H4 := Lib.hid (H3.out.later g4 hR1 r4)
        clear g4 r4 H3
        go_wp2_with fail
        (go_at_call 41; refine (out_any (w.heap.size + 1 + 1) R (401 + 3) _ H4.out.2.2 (by omega)).mono ?_; rintro e w5 ⟨oa, op, rfl, g5, r5⟩)
        have H5 := Lib.hid (H4.out.later g5 hR1 r5)
        obtain ⟨x0, x1, y0, y1, fx0, fx1, fy0, fy1⟩ := HC.out w5 H5.out.2.1
        have hE := Lib.hid (ends_put (show w.heap.size ≠ w.heap.size + 1 by omega) x0 x1 y0 y1 (.int .i64 ia) (.int .i64 ip) (.int .i64 oa) (.int .i64 op))
        have hO := Lib.hid (may_own_put H5.out.1 (X := w.heap.size) (Y := w.heap.size + 1) (by omega) (by omega) hwb (.int .i64 ia) (.int .i64 ip) (.int .i64 oa) (.int .i64 op))
        have hB : Hid (Below w.heap.size w w5) := B1.out.grown H5.out.2.1 hwb (fun k e => by cases e; omega)
        clear g5 r5 H4
        go_wp2_with fail
        obtain ⟨q0, q1, q2, q3⟩ := hE.out
        refine bodyPost_ret (v := .tuple #[.slice (some g) l.length c, .agg #[.int .i64 ia, .int .i64 ip], .agg #[.int .i64 oa, .int .i64 op]]) (by simp [results, Try.results17, go_sem, q0, q1, q2, q3]) rfl ⟨g, c, l, ia, ip, oa, op, rfl, hO.out, by omega, ?_⟩
        exact (((hB.out.setCell (Nat.le_refl _) _).setCell (Nat.le_refl _) _).setCell (Nat.le_succ _) _).setCell (Nat.le_succ _) _
      · go_wp2_with fail
        (go_at_call 39; refine (end_any 3 (w.heap.size + 1 + 1) R 401 _ H3.out.2.2 (by omega) (by omega) (by omega)).mono ?_; rintro e w4 ⟨ia, ip, rfl, g4, r4⟩)
        have H4 := Lib.hid (H3.out.later g4 hR1 r4)
        clear g4 r4 H3
        go_wp2_with fail
        (go_at_call 39; refine (end_any 3 (w.heap.size + 1 + 1) R (401 + 8) _ H4.out.2.2 (by omega) (by omega) (by omega)).mono ?_; rintro e w5 ⟨oa, op, rfl, g5, r5⟩)
        have H5 := Lib.hid (H4.out.later g5 hR1 r5)
        obtain ⟨x0, x1, y0, y1, fx0, fx1, fy0, fy1⟩ := HC.out w5 H5.out.2.1
        have hE := Lib.hid (ends_put (show w.heap.size ≠ w.heap.size + 1 by omega) x0 x1 y0 y1 (.int .i64 ia) (.int .i64 ip) (.int .i64 oa) (.int .i64 op))
        have hO := Lib.hid (may_own_put H5.out.1 (X := w.heap.size) (Y := w.heap.size + 1) (by omega) (by omega) hwb (.int .i64 ia) (.int .i64 ip) (.int .i64 oa) (.int .i64 op))
        have hB : Hid (Below w.heap.size w w5) := B1.out.grown H5.out.2.1 hwb (fun k e => by cases e; omega)
        clear g5 r5 H4
        go_wp2_with fail
        obtain ⟨q0, q1, q2, q3⟩ := hE.out
        refine bodyPost_ret (v := .tuple #[.slice (some g) l.length c, .agg #[.int .i64 ia, .int .i64 ip], .agg #[.int .i64 oa, .int .i64 op]]) (by simp [results, Try.results17, go_sem, q0, q1, q2, q3]) rfl ⟨g, c, l, ia, ip, oa, op, rfl, hO.out, by omega, ?_⟩
        exact (((hB.out.setCell (Nat.le_refl _) _).setCell (Nat.le_refl _) _).setCell (Nat.le_succ _) _).setCell (Nat.le_succ _) _

end Go.Proofs.Ytempiklhkbgnbaa
