/- The rules that are drawn: some, few, in memory of the call's own. Conditions: the reader is there; its place is small. -/
import Derived.Test.YtglpijjkihpeeaaGreatDoorDrawRul
import Derived.Test.YtglpijjkihpeeaaGreatDoorRulLaw
namespace Go.Proofs.YtglpijjkihpeeaaGreatDoor
open Go.RowKit

theorem heap_lastR (w : World) (o : Obj) : (w.alloc o).heap[w.heap.size]? = some o := by
  show (w.heap.push o)[w.heap.size]? = _
  simp
/-- How things stand while rules are drawn. -/
def RulI (B R L : Nat) (w0 w : World) (v : Value) (l : List Rl) : Prop := OwnRl w w0.heap.size v l ∧ w0.grownBy w (some R) ∧ Rd B R L w
theorem OwnRl.grown {w w' : World} {B R : Nat} {v : Value} {l : List Rl} (h : OwnRl w B v l) (hg : w.grownBy w' (some R)) (hR : R < B) : OwnRl w' B v l := by
  refine World.ownsRow.kept h hg ?_
  obtain ⟨_, h1 | ⟨g, cap, cur, rfl, hb, _⟩⟩ := h
  · rw [h1.1]; exact .inl rfl
  · exact .inr (by simp [Value.ownBlock]; omega)
theorem OwnRl.ge {w : World} {B : Nat} {v : Value} {l : List Rl} (h : OwnRl w B v l) : ∀ k, v.ownBlock = some k → B ≤ k := by
  intro k hk
  obtain ⟨_, h1 | ⟨g, cap, cur, rfl, hb, _⟩⟩ := h
  · rw [h1.1] at hk; cases hk
  · simp [Value.ownBlock] at hk; omega
theorem RulI.later {B R L L' : Nat} {w0 w w' : World} {v : Value} {l : List Rl} (h : RulI B R L w0 w v l) (hg : w.grownBy w' (some R)) (hR : R < w0.heap.size) (hr : Rd B R L' w') : RulI B R L' w0 w' v l :=
  ⟨h.1.grown hg hR, h.2.1.trans hg, hr⟩
theorem RulI.app {B R L : Nat} {w0 w w' : World} {v v' : Value} {l : List Rl} {r : Rl} {ob : Obj} (h : RulI B R L w0 w v l) (hR : R < w0.heap.size) (hg : (w.alloc ob).grownBy w' v.ownBlock) (ho : w'.ownsRow w0.heap.size 35 7 v' (l.length + 1) (flatC rlC l ++ rlC r)) :
    ∃ g c l', v' = .slice (some g) (l' : List Rl).length c ∧ Hid (RulI B R L w0 w' (.slice (some g) l'.length c) l') ∧ l'.length = l.length + 1 := by
  have hO : OwnRl w' w0.heap.size v' (l ++ [r]) := by
    show w'.ownsRow _ _ _ _ _ _
    rw [flatC_app, List.length_append]
    simpa [flatC] using ho
  obtain ⟨a0, cap, e, _, hr0⟩ := RdC.of_own rlC_len (by decide) hO
  obtain ⟨b0, rfl, _⟩ := hr0 (by simp)
  subst e
  obtain ⟨a, ha⟩ : ∃ a : Addr, a = ⟨b0, 0, none⟩ := ⟨_, rfl⟩
  rw [← ha] at hO ⊢
  have hge := h.1.ge
  have hg2 : w.grownBy w' v.ownBlock := (World.grownBy_alloc _ _ _).trans hg
  exact ⟨a, cap, l ++ [r], rfl, ⟨hO, h.2.1.andThen hg2 (fun j e => .inl (by have := hge _ e; omega)), rd_kept h.2.2 hg2 (fun j e => by have := hge _ e; have := h.2.2.base; exact ⟨by omega, by omega⟩)⟩, by simp⟩

set_option maxRecDepth 100000 in
set_option maxHeartbeats 3200000 in
theorem rules_any (m : Int) (B R L : Nat) (w : World) (h : Rd B R L w) (hL : L ≤ 980000) (hm : 0 ≤ m) (hm2 : m ≤ 1000000) :
    Calls Tryz.prog 38 #[.pointer (some ⟨R, 0, none⟩), .int .i64 m] w fun e w' => ∃ g c l, e = .returned (.slice (some g) (l : List Rl).length c) ∧ OwnRl w' w.heap.size (.slice (some g) l.length c) l ∧ l.length ≤ 8 ∧ w.grownBy w' (some R) ∧ Rd B R (L + 300) w' := by
  have hR := h.lt
  have hBR := h.base
  have H := Lib.hid h
  clear h
  obtain ⟨i0, hi, hz0, hz1, hz2⟩ := info_parts infoRl
  go_enter Tryz.func38, Tryz.ntmps38
  go_wp2_with fail
  (go_at_call 90; refine (pick_any 3 B R L _ (by first | exact H.out | exact rd_alloc H.out _) (by omega)).mono ?_; rintro e w1 ⟨k1, rfl, h1, g1, r1⟩)
  have H1 : Hid (RulI B R (L + 1) w w1 (.slice (some ⟨w.heap.size, 0, none⟩) ([] : List Rl).length 0) []) := by
    have h0 : RulI B R L w (w.alloc (.cells #[] 35)) (.slice (some ⟨w.heap.size, 0, none⟩) ([] : List Rl).length 0) [] := by
      refine ⟨⟨rfl, Or.inr ⟨w.heap.size, 0, #[], rfl, Nat.le_refl _, heap_lastR _ _, Nat.le_refl _, by unfold maxLen; omega, rfl, rfl⟩⟩, World.grownBy_alloc _ _ _, rd_alloc H.out _⟩
    exact h0.later g1 hR r1
  clear g1 r1
  by_cases hk1 : k1 = 0
  · subst hk1
    go_wp2_with fail
    have HX : Hid (RulI B R (L + 62) w w1 (.slice (some ⟨w.heap.size, 0, none⟩) ([] : List Rl).length 0) []) := ⟨H1.out.1, H1.out.2.1, H1.out.2.2.mono (by omega)⟩
    clear H1
    (go_at_call 92; refine (odd_any m B R (L + 62) _ HX.out.2.2 (by omega) hm hm2).mono ?_; rintro e w2 ⟨bo, rfl, g2, r2⟩)
    have H2 : Hid (RulI B R (L + 63) w w2 (.slice (some ⟨w.heap.size, 0, none⟩) (([] : List Rl)).length 0) ([] : List Rl)) := HX.out.later g2 hR r2
    clear g2 r2 HX
    cases bo
    · go_wp2_with fail
      go_ret
      exact ⟨⟨w.heap.size, 0, none⟩, 0, ([] : List Rl), rfl, H2.out.1, by first | omega | (simp; done) | (simp; omega), H2.out.2.1, H2.out.2.2.mono (by omega)⟩
    · go_wp2_with fail
      (go_at_call 90; refine (pick_any 2 B R (L + 63) _ H2.out.2.2 (by omega)).mono ?_; rintro e w3 ⟨k3, rfl, h3, g3, r3⟩)
      have H3 : Hid (RulI B R (L + 64) w w3 (.slice (some ⟨w.heap.size, 0, none⟩) (([] : List Rl)).length 0) ([] : List Rl)) := H2.out.later g3 hR r3
      clear g3 r3 H2
      by_cases hk3 : k3 = 0
      · subst hk3
        go_wp2_with fail
        (go_at_call 91; refine (rule_any 1 B R (L + 64) _ H3.out.2.2 (by omega) (by omega) (by omega)).mono ?_; rintro e w5 ⟨al, i, it, o, ot, p, pt, rfl, g5, r5⟩)
        have H5 : Hid (RulI B R (L + 64 + 20) w w5 (.slice (some ⟨w.heap.size, 0, none⟩) (([] : List Rl)).length 0) ([] : List Rl)) := H3.out.later g5 hR r5
        have HO5 : Hid (∀ x, OwnRl (w5.alloc x) w.heap.size (.slice (some ⟨w.heap.size, 0, none⟩) (([] : List Rl)).length 0) ([] : List Rl)) := fun x => H5.out.1.grown (World.grownBy_alloc _ _ (some R)) hR
        have z5 := H5.out.2.1.size
        clear g5 r5
        go_wp2_with (at_builtin; refine wpList_append_own _ rfl (.tmp 28) (.tmp 31) 23 rfl w.heap.size 35 i0 (.agg #[.bool false, .int .i64 0, .int .i64 0, .int .i64 0, .int .i64 0, .int .i64 0, .int .i64 0]) 7 56 Tryz.underlying23 hi hz0 hz1 hz2 rfl (by decide) _ (([] : List Rl)).length (flatC rlC (([] : List Rl))) rfl (HO5.out _) ⟨w5.heap.size, 0, none⟩ 1 1 [.bool al, .int .i64 i, .int .i64 it, .int .i64 o, .int .i64 ot, .int .i64 p, .int .i64 pt] rfl rfl ?c1 ?c2 ?c3 ?c4 ?c5 ?_)
        case c1 =>
          intro j u hj
          match j, hj with
          | 0, hj => simp at hj; subst hj; simp [Addr.add]
          | 1, hj => simp at hj; subst hj; simp [Addr.add]
          | 2, hj => simp at hj; subst hj; simp [Addr.add]
          | 3, hj => simp at hj; subst hj; simp [Addr.add]
          | 4, hj => simp at hj; subst hj; simp [Addr.add]
          | 5, hj => simp at hj; subst hj; simp [Addr.add]
          | 6, hj => simp at hj; subst hj; simp [Addr.add]
        case c2 => intro u hu; simp at hu; rcases hu with rfl | rfl | rfl | rfl | rfl | rfl | rfl <;> rfl
        case c3 => unfold maxLen; first | omega | (simp; done) | (simp; omega)
        case c4 => first | omega | (simp; done) | (simp; omega)
        case c5 => simp; omega
        intro v5 x5 hown5 hgrow5 _
        obtain ⟨g5, c5, l5, rfl, HX5, lx5⟩ := H5.out.app (r := ⟨al, i, it, o, ot, p, pt⟩) hR hgrow5 hown5
        clear hown5 hgrow5 H5 HO5
        go_wp2_with fail
        go_ret
        exact ⟨g5, c5, l5, rfl, HX5.out.1, by first | omega | (simp at lx5; omega), HX5.out.2.1, HX5.out.2.2.mono (by omega)⟩
      · have hk3b : ((k3 : Int) == 0) = false := by rw [beq_eq_false_iff_ne]; omega
        clear hk3
        go_wp2_with fail
        go_loopw [5] (fun v wr => ∃ g c l, v = .slice (some g) (l : List Rl).length c ∧ l.length ≤ 6 ∧ Hid (RulI B R (L + 64 + 20 * l.length) w wr (.slice (some g) l.length c) l)) (fun v _ => match v with | .slice _ n _ => 7 - n | _ => 0)
        case atStart => exact ⟨⟨w.heap.size, 0, none⟩, 0, ([] : List Rl), rfl, by first | omega | (simp; done), ⟨H3.out.1, H3.out.2.1, H3.out.2.2.mono (by omega)⟩⟩
        case round =>
          obtain ⟨g, c, l, rfl, hl, HJ⟩ := hrel
          by_cases hle : l.length ≤ 5
          · have hlei : (l.length : Int) ≤ 5 := by omega
            go_wp2_with fail
            (go_at_call 91; refine (rule_any 99999 B R (L + 64 + 20 * l.length) _ HJ.out.2.2 (by omega) (by omega) (by omega)).mono ?_; rintro e w6 ⟨al, i, it, o, ot, p, pt, rfl, g6, r6⟩)
            have H6 : Hid (RulI B R (L + 64 + 20 * l.length + 20) w w6 (.slice (some g) (l).length c) l) := HJ.out.later g6 hR r6
            have HO6 : Hid (∀ x, OwnRl (w6.alloc x) w.heap.size (.slice (some g) (l).length c) l) := fun x => H6.out.1.grown (World.grownBy_alloc _ _ (some R)) hR
            have z6 := H6.out.2.1.size
            clear g6 r6
            go_wp2_with (at_builtin; refine wpList_append_own _ rfl (.tmp 36) (.tmp 39) 23 rfl w.heap.size 35 i0 (.agg #[.bool false, .int .i64 0, .int .i64 0, .int .i64 0, .int .i64 0, .int .i64 0, .int .i64 0]) 7 56 Tryz.underlying23 hi hz0 hz1 hz2 rfl (by decide) _ (l).length (flatC rlC (l)) rfl (HO6.out _) ⟨w6.heap.size, 0, none⟩ 1 1 [.bool al, .int .i64 i, .int .i64 it, .int .i64 o, .int .i64 ot, .int .i64 p, .int .i64 pt] rfl rfl ?c1 ?c2 ?c3 ?c4 ?c5 ?_)
            case c1 =>
              intro j u hj
              match j, hj with
              | 0, hj => simp at hj; subst hj; simp [Addr.add]
              | 1, hj => simp at hj; subst hj; simp [Addr.add]
              | 2, hj => simp at hj; subst hj; simp [Addr.add]
              | 3, hj => simp at hj; subst hj; simp [Addr.add]
              | 4, hj => simp at hj; subst hj; simp [Addr.add]
              | 5, hj => simp at hj; subst hj; simp [Addr.add]
              | 6, hj => simp at hj; subst hj; simp [Addr.add]
            case c2 => intro u hu; simp at hu; rcases hu with rfl | rfl | rfl | rfl | rfl | rfl | rfl <;> rfl
            case c3 => unfold maxLen; first | omega | (simp; done) | (simp; omega)
            case c4 => first | omega | (simp; done) | (simp; omega)
            case c5 => simp; omega
            intro v6 x6 hown6 hgrow6 _
            obtain ⟨g6, c6, l6, rfl, HX6, lx6⟩ := H6.out.app (r := ⟨al, i, it, o, ot, p, pt⟩) hR hgrow6 hown6
            clear hown6 hgrow6 H6 HO6
            go_wp2_with fail
            go_roundw
            case rel => exact ⟨g6, c6, l6, rfl, by omega, ⟨HX6.out.1, HX6.out.2.1, HX6.out.2.2.mono (by omega)⟩⟩
            case measure => (show 7 - l6.length < 7 - l.length; omega)
          · have hlei : ¬ (l.length : Int) ≤ 5 := by omega
            go_wp2_with fail
            go_ret
            exact ⟨g, c, l, rfl, HJ.out.1, by omega, HJ.out.2.1, HJ.out.2.2.mono (by omega)⟩
  · have hk1i : (0 : Int) < (k1 : Int) := by omega
    clear hk1
    go_wp2_with fail
    (go_at_call 90; refine (pick_any 4 B R (L + 1) _ H1.out.2.2 (by omega)).mono ?_; rintro e w4 ⟨k4, rfl, h4, g4, r4⟩)
    have H4 : Hid (RulI B R (L + 2) w w4 (.slice (some ⟨w.heap.size, 0, none⟩) ([] : List Rl).length 0) []) := H1.out.later g4 hR r4
    clear g4 r4 H1
    go_wp2_with fail
    go_loopw [5, 6] (fun v i wr => ∃ k : Nat, i = .int .i64 k ∧ ∃ g c l, v = .slice (some g) (l : List Rl).length c ∧ l.length + k ≤ 3 ∧ Hid (RulI B R (L + 2 + 20 * l.length) w wr (.slice (some g) l.length c) l)) (fun _ i _ => (intOf i).toNat)
    case atStart => exact ⟨k4, rfl, _, _, [], rfl, by simp; omega, ⟨H4.out.1, H4.out.2.1, H4.out.2.2.mono (by omega)⟩⟩
    case round =>
      obtain ⟨k, rfl, gx, cx, lx, rfl, hl3, HJ⟩ := hrel
      by_cases hk : 0 < k
      · have hki : (0 : Int) < (k : Int) := by omega
        go_wp2_with fail
        (go_at_call 91; refine (rule_any 99999 B R (L + 2 + 20 * lx.length) _ HJ.out.2.2 (by omega) (by omega) (by omega)).mono ?_; rintro e w7 ⟨al, i, it, o, ot, p, pt, rfl, g7, r7⟩)
        have H7 : Hid (RulI B R (L + 2 + 20 * lx.length + 20) w w7 (.slice (some gx) (lx).length cx) lx) := HJ.out.later g7 hR r7
        have HO7 : Hid (∀ x, OwnRl (w7.alloc x) w.heap.size (.slice (some gx) (lx).length cx) lx) := fun x => H7.out.1.grown (World.grownBy_alloc _ _ (some R)) hR
        have z7 := H7.out.2.1.size
        clear g7 r7
        go_wp2_with (at_builtin; refine wpList_append_own _ rfl (.tmp 17) (.tmp 20) 23 rfl w.heap.size 35 i0 (.agg #[.bool false, .int .i64 0, .int .i64 0, .int .i64 0, .int .i64 0, .int .i64 0, .int .i64 0]) 7 56 Tryz.underlying23 hi hz0 hz1 hz2 rfl (by decide) _ (lx).length (flatC rlC (lx)) rfl (HO7.out _) ⟨w7.heap.size, 0, none⟩ 1 1 [.bool al, .int .i64 i, .int .i64 it, .int .i64 o, .int .i64 ot, .int .i64 p, .int .i64 pt] rfl rfl ?c1 ?c2 ?c3 ?c4 ?c5 ?_)
        case c1 =>
          intro j u hj
          match j, hj with
          | 0, hj => simp at hj; subst hj; simp [Addr.add]
          | 1, hj => simp at hj; subst hj; simp [Addr.add]
          | 2, hj => simp at hj; subst hj; simp [Addr.add]
          | 3, hj => simp at hj; subst hj; simp [Addr.add]
          | 4, hj => simp at hj; subst hj; simp [Addr.add]
          | 5, hj => simp at hj; subst hj; simp [Addr.add]
          | 6, hj => simp at hj; subst hj; simp [Addr.add]
        case c2 => intro u hu; simp at hu; rcases hu with rfl | rfl | rfl | rfl | rfl | rfl | rfl <;> rfl
        case c3 => unfold maxLen; first | omega | (simp; done) | (simp; omega)
        case c4 => first | omega | (simp; done) | (simp; omega)
        case c5 => simp; omega
        intro v7 x7 hown7 hgrow7 _
        obtain ⟨g7, c7, l7, rfl, HX7, lx7⟩ := H7.out.app (r := ⟨al, i, it, o, ot, p, pt⟩) hR hgrow7 hown7
        clear hown7 hgrow7 H7 HO7
        go_wp2_with fail
        go_roundw
        case rel => exact ⟨k - 1, by go_num, g7, c7, l7, rfl, by omega, ⟨HX7.out.1, HX7.out.2.1, HX7.out.2.2.mono (by omega)⟩⟩
        case measure => simp [intOf]; omega
      · obtain rfl : k = 0 := by omega
        have hki : ¬ (0 : Int) < ((0 : Nat) : Int) := by omega
        go_wp2_with fail
        have HX : Hid (RulI B R (L + 62) w wr (.slice (some gx) lx.length cx) lx) := ⟨HJ.out.1, HJ.out.2.1, HJ.out.2.2.mono (by omega)⟩
        clear HJ
        (go_at_call 92; refine (odd_any m B R (L + 62) _ HX.out.2.2 (by omega) hm hm2).mono ?_; rintro e w2 ⟨bo, rfl, g2, r2⟩)
        have H2 : Hid (RulI B R (L + 63) w w2 (.slice (some gx) (lx).length cx) lx) := HX.out.later g2 hR r2
        clear g2 r2 HX
        cases bo
        · go_wp2_with fail
          go_ret
          exact ⟨gx, cx, lx, rfl, H2.out.1, by first | omega | (simp; done) | (simp; omega), H2.out.2.1, H2.out.2.2.mono (by omega)⟩
        · go_wp2_with fail
          (go_at_call 90; refine (pick_any 2 B R (L + 63) _ H2.out.2.2 (by omega)).mono ?_; rintro e w3 ⟨k3, rfl, h3, g3, r3⟩)
          have H3 : Hid (RulI B R (L + 64) w w3 (.slice (some gx) (lx).length cx) lx) := H2.out.later g3 hR r3
          clear g3 r3 H2
          by_cases hk3 : k3 = 0
          · subst hk3
            go_wp2_with fail
            (go_at_call 91; refine (rule_any 1 B R (L + 64) _ H3.out.2.2 (by omega) (by omega) (by omega)).mono ?_; rintro e w5 ⟨al, i, it, o, ot, p, pt, rfl, g5, r5⟩)
            have H5 : Hid (RulI B R (L + 64 + 20) w w5 (.slice (some gx) (lx).length cx) lx) := H3.out.later g5 hR r5
            have HO5 : Hid (∀ x, OwnRl (w5.alloc x) w.heap.size (.slice (some gx) (lx).length cx) lx) := fun x => H5.out.1.grown (World.grownBy_alloc _ _ (some R)) hR
            have z5 := H5.out.2.1.size
            clear g5 r5
            go_wp2_with (at_builtin; refine wpList_append_own _ rfl (.tmp 28) (.tmp 31) 23 rfl w.heap.size 35 i0 (.agg #[.bool false, .int .i64 0, .int .i64 0, .int .i64 0, .int .i64 0, .int .i64 0, .int .i64 0]) 7 56 Tryz.underlying23 hi hz0 hz1 hz2 rfl (by decide) _ (lx).length (flatC rlC (lx)) rfl (HO5.out _) ⟨w5.heap.size, 0, none⟩ 1 1 [.bool al, .int .i64 i, .int .i64 it, .int .i64 o, .int .i64 ot, .int .i64 p, .int .i64 pt] rfl rfl ?c1 ?c2 ?c3 ?c4 ?c5 ?_)
            case c1 =>
              intro j u hj
              match j, hj with
              | 0, hj => simp at hj; subst hj; simp [Addr.add]
              | 1, hj => simp at hj; subst hj; simp [Addr.add]
              | 2, hj => simp at hj; subst hj; simp [Addr.add]
              | 3, hj => simp at hj; subst hj; simp [Addr.add]
              | 4, hj => simp at hj; subst hj; simp [Addr.add]
              | 5, hj => simp at hj; subst hj; simp [Addr.add]
              | 6, hj => simp at hj; subst hj; simp [Addr.add]
            case c2 => intro u hu; simp at hu; rcases hu with rfl | rfl | rfl | rfl | rfl | rfl | rfl <;> rfl
            case c3 => unfold maxLen; first | omega | (simp; done) | (simp; omega)
            case c4 => first | omega | (simp; done) | (simp; omega)
            case c5 => simp; omega
            intro v5 x5 hown5 hgrow5 _
            obtain ⟨g5, c5, l5, rfl, HX5, lx5⟩ := H5.out.app (r := ⟨al, i, it, o, ot, p, pt⟩) hR hgrow5 hown5
            clear hown5 hgrow5 H5 HO5
            go_wp2_with fail
            go_ret
            exact ⟨g5, c5, l5, rfl, HX5.out.1, by first | omega | (simp at lx5; omega), HX5.out.2.1, HX5.out.2.2.mono (by omega)⟩
          · have hk3b : ((k3 : Int) == 0) = false := by rw [beq_eq_false_iff_ne]; omega
            clear hk3
            go_wp2_with fail
            go_loopw [5] (fun v wr => ∃ g c l, v = .slice (some g) (l : List Rl).length c ∧ l.length ≤ 6 ∧ Hid (RulI B R (L + 64 + 20 * l.length) w wr (.slice (some g) l.length c) l)) (fun v _ => match v with | .slice _ n _ => 7 - n | _ => 0)
            case atStart => exact ⟨gx, cx, lx, rfl, by first | omega | (simp; done), ⟨H3.out.1, H3.out.2.1, H3.out.2.2.mono (by omega)⟩⟩
            case round =>
              obtain ⟨g, c, l, rfl, hl, HJ⟩ := hrel
              by_cases hle : l.length ≤ 5
              · have hlei : (l.length : Int) ≤ 5 := by omega
                go_wp2_with fail
                (go_at_call 91; refine (rule_any 99999 B R (L + 64 + 20 * l.length) _ HJ.out.2.2 (by omega) (by omega) (by omega)).mono ?_; rintro e w6 ⟨al, i, it, o, ot, p, pt, rfl, g6, r6⟩)
                have H6 : Hid (RulI B R (L + 64 + 20 * l.length + 20) w w6 (.slice (some g) (l).length c) l) := HJ.out.later g6 hR r6
                have HO6 : Hid (∀ x, OwnRl (w6.alloc x) w.heap.size (.slice (some g) (l).length c) l) := fun x => H6.out.1.grown (World.grownBy_alloc _ _ (some R)) hR
                have z6 := H6.out.2.1.size
                clear g6 r6
                go_wp2_with (at_builtin; refine wpList_append_own _ rfl (.tmp 36) (.tmp 39) 23 rfl w.heap.size 35 i0 (.agg #[.bool false, .int .i64 0, .int .i64 0, .int .i64 0, .int .i64 0, .int .i64 0, .int .i64 0]) 7 56 Tryz.underlying23 hi hz0 hz1 hz2 rfl (by decide) _ (l).length (flatC rlC (l)) rfl (HO6.out _) ⟨w6.heap.size, 0, none⟩ 1 1 [.bool al, .int .i64 i, .int .i64 it, .int .i64 o, .int .i64 ot, .int .i64 p, .int .i64 pt] rfl rfl ?c1 ?c2 ?c3 ?c4 ?c5 ?_)
                case c1 =>
                  intro j u hj
                  match j, hj with
                  | 0, hj => simp at hj; subst hj; simp [Addr.add]
                  | 1, hj => simp at hj; subst hj; simp [Addr.add]
                  | 2, hj => simp at hj; subst hj; simp [Addr.add]
                  | 3, hj => simp at hj; subst hj; simp [Addr.add]
                  | 4, hj => simp at hj; subst hj; simp [Addr.add]
                  | 5, hj => simp at hj; subst hj; simp [Addr.add]
                  | 6, hj => simp at hj; subst hj; simp [Addr.add]
                case c2 => intro u hu; simp at hu; rcases hu with rfl | rfl | rfl | rfl | rfl | rfl | rfl <;> rfl
                case c3 => unfold maxLen; first | omega | (simp; done) | (simp; omega)
                case c4 => first | omega | (simp; done) | (simp; omega)
                case c5 => simp; omega
                intro v6 x6 hown6 hgrow6 _
                obtain ⟨g6, c6, l6, rfl, HX6, lx6⟩ := H6.out.app (r := ⟨al, i, it, o, ot, p, pt⟩) hR hgrow6 hown6
                clear hown6 hgrow6 H6 HO6
                go_wp2_with fail
                go_roundw
                case rel => exact ⟨g6, c6, l6, rfl, by omega, ⟨HX6.out.1, HX6.out.2.1, HX6.out.2.2.mono (by omega)⟩⟩
                case measure => (show 7 - l6.length < 7 - l.length; omega)
              · have hlei : ¬ (l.length : Int) ≤ 5 := by omega
                go_wp2_with fail
                go_ret
                exact ⟨g, c, l, rfl, HJ.out.1, by omega, HJ.out.2.1, HJ.out.2.2.mono (by omega)⟩

end Go.Proofs.YtglpijjkihpeeaaGreatDoor
