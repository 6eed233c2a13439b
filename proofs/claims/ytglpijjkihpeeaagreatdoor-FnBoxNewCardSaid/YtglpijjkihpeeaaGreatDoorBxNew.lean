/- slices.Clone of rules; BoxNew of both sides, at rules in memory. Condition: at most 2^22 rules. -/
import Derived.Test.YtglpijjkihpeeaaGreatDoorBoxThree
import Derived.Test.YtglpijjkihpeeaaGreatDoorMarkRl
import Derived.Test.YtglpijjkihpeeaaGreatDoorMayS
import Derived.Test.YtglpijjkihpeeaaGreatDoorRulesI
import Derived.Laws.AppendOwnNone
import Derived.Deep.AppendLies
import Derived.Maps.AppendAt
namespace Go.Proofs.YtglpijjkihpeeaaGreatDoor
open Go.RowKit

theorem own_someR {w : World} {base : Nat} {e : TypeId} {size : Nat} {v : Value} {n : Nat} {xs : List Value} (h : w.ownsRow base e size v n xs) (hne : v ≠ .slice none 0 0) : ∃ g cap, v = .slice (some ⟨g, 0, none⟩) n cap ∧ base ≤ g := by
  rcases h.2 with ⟨h0, _⟩ | ⟨g, cap, _, hv, hb, _⟩
  · exact absurd h0 hne
  · exact ⟨g, cap, hv, hb⟩
theorem lit_empty (w : World) (t : TypeId) (k : Nat) : (w.alloc (.cells #[] t)).ownsRow w.heap.size t k (.slice (some ⟨w.heap.size, 0, none⟩) 0 0) 0 [] := by
  have := World.ownsRow_made (base := w.heap.size) (e := t) (size := k) w #[] 0 (Nat.le_refl _) (Nat.zero_le _) (by simp)
  simpa using this
/-- The cells of rules that are read, one behind the other. -/
theorem rul_news {w : World} {x : Addr} {cap : Nat} {l : List Rl} (h : RdRl w (.slice (some x) l.length cap) l) : ∀ (j : Nat) (u : Value), (flatC rlC l)[j]? = some u → w.cell? (x.add j) = some u := by
  intro j u hj
  have hlt : j < (flatC rlC l).length := (List.getElem?_eq_some_iff.1 hj).1
  rw [flatC_len rlC_len] at hlt
  obtain ⟨a, c, e, _, hr⟩ := h
  obtain ⟨g, off, ea, _, hrow⟩ := hr (by omega)
  simp at e
  rw [ea] at e
  have hx : x = ⟨g, off, none⟩ := by simpa using e.1
  subst hx
  have h1 : j / 7 < l.length := by omega
  have h2 := flatC_at rlC_len l (j / 7) h1 (j % 7) (Nat.mod_lt _ (by decide))
  rw [show j / 7 * 7 + j % 7 = j by omega, hj] at h2
  have := hrow (j / 7) h1 (j % 7) u h2.symm
  rw [show j / 7 * 7 + j % 7 = j by omega] at this
  rw [show (⟨g, off, none⟩ : Addr).add j = ⟨g, off + j, none⟩ from by unfold Addr.add; split <;> simp_all]
  exact this

set_option maxRecDepth 100000 in
set_option maxHeartbeats 1600000 in
theorem cloneRuls_any (x : Addr) (cap : Nat) (l : List Rl) (w : World) (hn : l.length ≤ 4194304) (hv : RdRl w (.slice (some x) l.length cap) l) :
    Calls Tryz.prog 41 #[.slice (some x) l.length cap] w fun e w' => ∃ g c, e = .returned (.slice (some g) l.length c) ∧ OwnRl w' w.heap.size (.slice (some g) l.length c) l ∧ Below w.heap.size w w' := by
  obtain ⟨i0, hi, hz0, hz1, hz2⟩ := info_parts infoRl
  have HW := Lib.hid (rul_news hv)
  have HL : Hid (∀ (j : Nat) (u : Value), (flatC rlC l)[j]? = some u → (x.add j).block < w.heap.size) := fun j u hj => World.block_lt_of_cell? w _ (HW.out j u hj)
  have HO := Lib.hid (lit_empty w 35 7)
  have he : ∀ w : World, (binOp .eql 23 (.slice (some x) l.length cap) (.slice none 0 0)).run Tryz.prog w = .ok (.bool false) w := fun _ => rfl
  clear hv
  go_enter Tryz.func41, Tryz.ntmps41
  go_wp2_with (at_builtin; refine wpList_append_own _ rfl (.tmp 5) (.tmp 6) 23 rfl w.heap.size 35 i0 (.agg #[.bool false, .int .i64 0, .int .i64 0, .int .i64 0, .int .i64 0, .int .i64 0, .int .i64 0]) 7 56 Tryz.underlying23 hi hz0 hz1 hz2 rfl (by decide) (.slice (some ⟨w.heap.size, 0, none⟩) 0 0) 0 [] rfl HO.out x l.length cap (flatC rlC l) rfl ?c1 ?c2 ?c3 ?c4 ?c5 ?c6 ?_)
  case c1 => exact flatC_len rlC_len l
  case c2 =>
    intro j u hj
    rw [World.cell?_alloc_old _ _ _ (Nat.ne_of_lt (HL.out j u hj))]
    exact HW.out j u hj
  case c3 => exact flatC_one rlC_one l
  case c4 => unfold maxLen; omega
  case c5 => omega
  case c6 => simp
  · intro v' w' hown hgrow hnil
    have hbw : Below w.heap.size w w' := ((Below.refl _ _).alloc (Nat.le_refl _) _).grown hgrow (by simp) (fun k hk => by simp [Value.ownBlock] at hk; omega)
    obtain ⟨a1, cap1, rfl⟩ : ∃ g c, v' = .slice (some g) l.length c := by
      obtain ⟨g, c, e, _⟩ := own_someR hown hnil
      exact ⟨_, c, by simpa using e⟩
    have HG : Hid (OwnRl w' w.heap.size (.slice (some a1) l.length cap1) l) := by
      show w'.ownsRow _ _ _ _ _ _
      have h := hown
      simpa using h
    clear hown hgrow hnil
    go_wp2
    go_ret
    exact ⟨_, _, rfl, HG.out, hbw⟩

/-- The rules of a box that begins. -/
def newR (l : List Rl) : List Rl := if rulesB l = true then l else []
theorem newR_no {l : List Rl} (h : rulesB l = false) : newR l = [] := by unfold newR; rw [h]; rfl
theorem newR_yes {l : List Rl} (h : rulesB l = true) : newR l = l := by unfold newR; rw [h]; rfl

set_option maxRecDepth 100000 in
set_option maxHeartbeats 1600000 in
theorem specBoxNew_any (x : Addr) (cap : Nat) (l : List Rl) (w : World) (hn : l.length ≤ 4194304) (hv : RdRl w (.slice (some x) l.length cap) l) :
    Calls Tryz.prog 9 #[.slice (some x) l.length cap] w fun e w' => ∃ v, e = .returned (.agg #[v, .slice none 0 0, .slice none 0 0]) ∧ FrRl w' w.heap.size v (newR l) ∧ Below w.heap.size w w' := by
  obtain ⟨i0, hi, hz0, hz1, hz2⟩ := info_parts infoRl
  have HV := Lib.hid hv
  clear hv
  have C0 : Hid (Below w.heap.size w (w.alloc (.cells #[.slice none 0 0, .slice none 0 0, .slice none 0 0] 30))) := (Below.refl _ _).alloc (Nat.le_refl _) _
  have K0 : Hid (Blk (w.alloc (.cells #[.slice none 0 0, .slice none 0 0, .slice none 0 0] 30)) w.heap.size 30 [.slice none 0 0, .slice none 0 0, .slice none 0 0]) := three_new w _ _ _ _
  have H1 : Hid (∀ w, RdRl w (.slice (some x) l.length cap) l → Calls Tryz.prog 43 #[.slice (some x) l.length cap] w fun e w' => e = .returned (.bool (rulesB l)) ∧ Below w.heap.size w w') := fun w h => specRules_any _ l w hn h
  cases hq : rulesB l
  · have HN := Lib.hid (newR_no hq)
    rw [hq] at H1
    clear hq
    go_enter Tryz.func9, Tryz.ntmps9
    go_wp2_with fail
    (go_at_call 43; refine (H1.out _ (HV.out.below C0.out)).mono ?_; rintro e w1 ⟨rfl, b1⟩)
    have B1 : Hid (Below w.heap.size w w1) := C0.out.trans (b1.mono (by simp))
    have K1 := Lib.hid (K0.out.below b1)
    clear b1
    obtain ⟨⟨k0, k1, k2⟩, ⟨f0, f1, f2⟩⟩ := three_all K1.out
    go_wp2_with fail
    obtain ⟨⟨q0, q1, q2⟩, _⟩ := three_all (three_set K1.out (.slice none 0 0) (.slice none 0 0) (.slice none 0 0))
    refine bodyPost_ret (v := .agg #[.slice none 0 0, .slice none 0 0, .slice none 0 0]) (by simp [results, Tryz.results9, go_sem, q0, q1, q2]) rfl ⟨_, rfl, ?_, ((B1.out.setCell (by simp) _).setCell (by simp) _).setCell (by simp) _⟩
    rw [HN.out]
    exact FrL.nil _ _ _ _ (fun _ => rfl)
  · have HN := Lib.hid (newR_yes hq)
    rw [hq] at H1
    clear hq
    go_enter Tryz.func9, Tryz.ntmps9
    go_wp2_with fail
    (go_at_call 43; refine (H1.out _ (HV.out.below C0.out)).mono ?_; rintro e w1 ⟨rfl, b1⟩)
    have B1 : Hid (Below w.heap.size w w1) := C0.out.trans (b1.mono (by simp))
    have K1 := Lib.hid (K0.out.below b1)
    have V1 := Lib.hid (HV.out.below B1.out)
    have s1 : w.heap.size < w1.heap.size := by have := b1.size; simp at this; omega
    clear b1
    have HW := Lib.hid (rul_news V1.out)
    have HL : Hid (∀ (j : Nat) (u : Value), (flatC rlC l)[j]? = some u → (x.add j).block < w1.heap.size) := fun j u hj => World.block_lt_of_cell? w1 _ (HW.out j u hj)
    have HO := Lib.hid (lit_empty w1 35 7)
    go_wp2_with (at_builtin; refine wpList_append_own _ rfl (.tmp 7) (.tmp 8) 23 rfl w1.heap.size 35 i0 (.agg #[.bool false, .int .i64 0, .int .i64 0, .int .i64 0, .int .i64 0, .int .i64 0, .int .i64 0]) 7 56 Tryz.underlying23 hi hz0 hz1 hz2 rfl (by decide) (.slice (some ⟨w1.heap.size, 0, none⟩) 0 0) 0 [] rfl HO.out x l.length cap (flatC rlC l) rfl ?c1 ?c2 ?c3 ?c4 ?c5 ?c6 ?_)
    case c1 => exact flatC_len rlC_len l
    case c2 =>
      intro j u hj
      rw [World.cell?_alloc_old _ _ _ (Nat.ne_of_lt (HL.out j u hj))]
      exact HW.out j u hj
    case c3 => exact flatC_one rlC_one l
    case c4 => unfold maxLen; omega
    case c5 => omega
    case c6 => simp
    · intro v' w2 hown hgrow hnil
      have C2 : Hid (Below w1.heap.size w1 w2) := ((Below.refl _ _).alloc (Nat.le_refl _) _).grown hgrow (by simp) (fun k hk => by simp [Value.ownBlock] at hk; omega)
      have B2 : Hid (Below w.heap.size w w2) := B1.out.trans (C2.out.mono (by omega))
      have K2 := Lib.hid (K1.out.below C2.out)
      have HG : Hid (OwnRl w2 w1.heap.size v' l) := by
        show w2.ownsRow _ _ _ _ _ _
        have h := hown
        simpa using h
      obtain ⟨a1, cap1, rfl⟩ : ∃ g c, v' = .slice (some g) l.length c := by
        obtain ⟨g, c, e, _⟩ := own_someR hown hnil
        exact ⟨_, c, by simpa using e⟩
      clear hown hgrow hnil
      obtain ⟨⟨k0, k1, k2⟩, ⟨f0, f1, f2⟩⟩ := three_all K2.out
      go_wp2
      obtain ⟨⟨q0, q1, q2⟩, _⟩ := three_all (three_set K2.out (.slice (some a1) l.length cap1) (.slice none 0 0) (.slice none 0 0))
      refine bodyPost_ret (v := .agg #[.slice (some a1) l.length cap1, .slice none 0 0, .slice none 0 0]) (by simp [results, Tryz.results9, go_sem, q0, q1, q2]) rfl ⟨_, rfl, ?_, ((B2.out.setCell (by simp) _).setCell (by simp) _).setCell (by simp) _⟩
      rw [HN.out]
      refine FrL.own (own_lower (B := w1.heap.size) ?_ (by omega))
      exact ownsRow_setCell_below (ownsRow_setCell_below (ownsRow_setCell_below HG.out (by show w.heap.size < _; omega) _) (by show w.heap.size < _; omega) _) (by show w.heap.size < _; omega) _

set_option maxRecDepth 100000 in
set_option maxHeartbeats 1600000 in
theorem implBoxNew_any (x : Addr) (cap : Nat) (l : List Rl) (w : World) (hn : l.length ≤ 4194304) (hv : RdRl w (.slice (some x) l.length cap) l) :
    Calls Tryz.prog 7 #[.slice (some x) l.length cap] w fun e w' => ∃ v, e = .returned (.agg #[v, .slice none 0 0, .slice none 0 0]) ∧ FrRl w' w.heap.size v (newR l) ∧ Below w.heap.size w w' := by
  have HV := Lib.hid hv
  clear hv
  have C0 : Hid (Below w.heap.size w (w.alloc (.cells #[.slice none 0 0, .slice none 0 0, .slice none 0 0] 30))) := (Below.refl _ _).alloc (Nat.le_refl _) _
  have K0 : Hid (Blk (w.alloc (.cells #[.slice none 0 0, .slice none 0 0, .slice none 0 0] 30)) w.heap.size 30 [.slice none 0 0, .slice none 0 0, .slice none 0 0]) := three_new w _ _ _ _
  have H1 : Hid (∀ w, RdRl w (.slice (some x) l.length cap) l → Calls Tryz.prog 40 #[.slice (some x) l.length cap] w fun e w' => e = .returned (.bool (rulesB l)) ∧ Below w.heap.size w w') := fun w h => implRules_any _ l w hn h
  have H2 : Hid (∀ w, RdRl w (.slice (some x) l.length cap) l → Calls Tryz.prog 41 #[.slice (some x) l.length cap] w fun e w' => ∃ g c, e = .returned (.slice (some g) l.length c) ∧ OwnRl w' w.heap.size (.slice (some g) l.length c) l ∧ Below w.heap.size w w') := fun w h => cloneRuls_any x cap l w hn h
  cases hq : rulesB l
  · have HN := Lib.hid (newR_no hq)
    rw [hq] at H1
    clear hq
    go_enter Tryz.func7, Tryz.ntmps7
    go_wp2_with fail
    (go_at_call 40; refine (H1.out _ (HV.out.below C0.out)).mono ?_; rintro e w1 ⟨rfl, b1⟩)
    have B1 : Hid (Below w.heap.size w w1) := C0.out.trans (b1.mono (by simp))
    have K1 := Lib.hid (K0.out.below b1)
    clear b1
    obtain ⟨⟨k0, k1, k2⟩, ⟨f0, f1, f2⟩⟩ := three_all K1.out
    go_wp2_with fail
    obtain ⟨⟨q0, q1, q2⟩, _⟩ := three_all (three_set K1.out (.slice none 0 0) (.slice none 0 0) (.slice none 0 0))
    refine bodyPost_ret (v := .agg #[.slice none 0 0, .slice none 0 0, .slice none 0 0]) (by simp [results, Tryz.results7, go_sem, q0, q1, q2]) rfl ⟨_, rfl, ?_, ((B1.out.setCell (by simp) _).setCell (by simp) _).setCell (by simp) _⟩
    rw [HN.out]
    exact FrL.nil _ _ _ _ (fun _ => rfl)
  · have HN := Lib.hid (newR_yes hq)
    rw [hq] at H1
    clear hq
    go_enter Tryz.func7, Tryz.ntmps7
    go_wp2_with fail
    (go_at_call 40; refine (H1.out _ (HV.out.below C0.out)).mono ?_; rintro e w1 ⟨rfl, b1⟩)
    have B1 : Hid (Below w.heap.size w w1) := C0.out.trans (b1.mono (by simp))
    have K1 := Lib.hid (K0.out.below b1)
    have V1 := Lib.hid (HV.out.below B1.out)
    have s1 : w.heap.size < w1.heap.size := by have := b1.size; simp at this; omega
    clear b1
    go_wp2_with fail
    (go_at_call 41; refine (H2.out _ V1.out).mono ?_; rintro e w2 ⟨a1, cap1, rfl, own2, b2⟩)
    have HG := Lib.hid own2
    have B2 : Hid (Below w.heap.size w w2) := B1.out.trans (b2.mono (by omega))
    have K2 := Lib.hid (K1.out.below b2)
    clear own2 b2
    obtain ⟨⟨k0, k1, k2⟩, ⟨f0, f1, f2⟩⟩ := three_all K2.out
    go_wp2_with fail
    obtain ⟨⟨q0, q1, q2⟩, _⟩ := three_all (three_set K2.out (.slice (some a1) l.length cap1) (.slice none 0 0) (.slice none 0 0))
    refine bodyPost_ret (v := .agg #[.slice (some a1) l.length cap1, .slice none 0 0, .slice none 0 0]) (by simp [results, Tryz.results7, go_sem, q0, q1, q2]) rfl ⟨_, rfl, ?_, ((B2.out.setCell (by simp) _).setCell (by simp) _).setCell (by simp) _⟩
    rw [HN.out]
    refine FrL.own (own_lower (B := w1.heap.size) ?_ (by omega))
    exact ownsRow_setCell_below (ownsRow_setCell_below (ownsRow_setCell_below HG.out (by show w.heap.size < _; omega) _) (by show w.heap.size < _; omega) _) (by show w.heap.size < _; omega) _

end Go.Proofs.YtglpijjkihpeeaaGreatDoor
