/- Bytes that are turned, as the drawers turn them: some bytes, at most one more. Condition: at most 1000 bytes. -/
import Derived.Test.YtjnhmobdigfpiaaDoorSegBy
import Derived.Test.YtjnhmobdigfpiaaDoorPutW
import Derived.Test.YtjnhmobdigfpiaaDoorPick
import Derived.Test.YtjnhmobdigfpiaaDoorAppW
import Derived.Test.YtjnhmobdigfpiaaDoorDraw
import Derived.Deep.RegionHeld3
import Derived.Deep.RegionWith
import Derived.Deep.DeepCutAuto
namespace Go.Proofs.YtjnhmobdigfpiaaDoor
open Go.RowKit

theorem byV_some {l : List UInt8} {j : Nat} {u : Value} (h : (byV l)[j]? = some u) : ∃ c, l[j]? = some c ∧ u = .int .u8 (c.toNat : Int) := by
  unfold byV at h
  rw [List.getElem?_map] at h
  cases hc : l[j]? with
  | none => rw [hc] at h; cases h
  | some c => rw [hc] at h; simp at h; exact ⟨c, rfl, h.symm⟩
theorem row_byte {w : World} {g : Nat} {l : List UInt8} (hr : RowAt w g (byV l)) {j : Nat} {c : UInt8} (h : l[j]? = some c) : w.cell? ⟨g, j, none⟩ = some (.int .u8 (c.toNat : Int)) := by
  obtain ⟨hj, rfl⟩ := List.getElem?_eq_some_iff.1 h
  have := (hr j (by rw [byV_len]; exact hj)).1
  rwa [byV_at] at this
theorem add_offB (g i j : Nat) : (⟨g, i, none⟩ : Addr).add j = ⟨g, i + j, none⟩ := by unfold Addr.add; split <;> simp_all
theorem news_front {w : World} {g : Nat} {l : List UInt8} (hr : RowAt w g (byV l)) (k : Nat) : ∀ j u, (byV (l.take k))[j]? = some u → w.cell? ((⟨g, 0, none⟩ : Addr).add j) = some u := fun j u hj => by
  obtain ⟨c, hc, rfl⟩ := byV_some hj
  rw [List.getElem?_take] at hc
  split at hc
  · rw [add_offB, Nat.zero_add]; exact row_byte hr hc
  · cases hc
theorem news_back {w : World} {g : Nat} {l : List UInt8} (hr : RowAt w g (byV l)) (i : Nat) : ∀ j u, (byV (l.drop i))[j]? = some u → w.cell? ((⟨g, i, none⟩ : Addr).add j) = some u := fun j u hj => by
  obtain ⟨c, hc, rfl⟩ := byV_some hj
  rw [List.getElem?_drop] at hc
  rw [add_offB]; exact row_byte hr hc
theorem own_joinB {w : World} {B : Nat} {v : Value} {a b : List UInt8} {n m : Nat} (h : w.ownsRow B 5 1 v (n + m) (byV a ++ byV b)) (hn : a.length = n) (hm : b.length = m) : OwnB w B v (a ++ b) := by
  show World.ownsRow _ _ _ _ _ _ _
  rw [List.length_append, hn, hm, byV_app]
  exact h

theorem own_keep {w w' : World} {B R : Nat} {t : TypeId} {k : Nat} {v : Value} {n : Nat} {l : List Value} (h : w.ownsRow B t k v n l) (hg : w.grownBy w' (some R)) (hR : R < B) : w'.ownsRow B t k v n l := by
  refine ⟨h.1, ?_⟩
  rcases h.2 with h2 | ⟨g, cap, cur, hv, hB, hgg, h2, h3, hs, ht⟩
  · exact Or.inl h2
  · exact Or.inr ⟨g, cap, cur, hv, hB, (hg.block g (Array.getElem?_eq_some_iff.1 hgg).1 (fun e => by cases e; omega)).trans hgg, h2, h3, hs, ht⟩
theorem one_cellE (w : World) (a : Value) (t : TypeId) {b : Nat} (hb : b = w.heap.size) : ∀ (j : Nat) (u : Value), [a][j]? = some u → (w.alloc (.cells #[a] t)).cell? ((⟨b, 0, none⟩ : Addr).add j) = some u := by
  subst hb; exact one_cell w a t
theorem row_grown {w w' : World} {g R : Nat} {l : List UInt8} (hr : RowAt w g (byV l)) (hg : w.grownBy w' (some R)) (hlt : g < w.heap.size) (hne : g ≠ R) : RowAt w' g (byV l) := fun j hj => by
  have h2 := gcell hg hlt hne j
  exact ⟨h2.1.trans (hr j hj).1, h2.2.trans (hr j hj).2⟩
theorem grown_own {w w1 w2 : World} {R : Nat} {row : Option Nat} (h : w.grownBy w1 (some R)) (hg : w1.grownBy w2 row) (hr : ∀ b, row = some b → w.heap.size ≤ b) : w.grownBy w2 (some R) :=
  ⟨hg.os.trans h.os, hg.tape.trans h.tape, hg.output.trans h.output, Nat.le_trans h.size hg.size, fun k hk hne => (hg.block k (Nat.lt_of_lt_of_le hk h.size) (fun e => by have := hr k e.symm; omega)).trans (h.block k hk hne)⟩
theorem gb_below {w w' : World} {R : Nat} (hb : Below w.heap.size w w') : w.grownBy w' (some R) := ⟨hb.os, hb.tape, hb.output, hb.size, fun b hlt _ => hb.block b hlt⟩
theorem own_join3 {w : World} {B : Nat} {v : Value} {a b : List UInt8} {k m y : Nat} (h : w.ownsRow B 5 1 v (k + 1 + m) (byV a ++ [.int .u8 (y : Int)] ++ byV b)) (ha : a.length = k) (hb : b.length = m) (hy : y ≤ 8) : ∃ l2, OwnB w B v l2 ∧ l2.length = k + 1 + m := by
  refine ⟨a ++ [UInt8.ofNat y] ++ b, ?_, by simp [ha, hb]; omega⟩
  show World.ownsRow _ _ _ _ _ _ _
  rw [byV_app, byV_app, List.length_append, List.length_append, ha, hb]
  have : byV [UInt8.ofNat y] = [.int .u8 (y : Int)] := by
    simp [byV]; omega
  rw [this]
  exact h

theorem xor_u8 (a b : Nat) (ha : a < 256) (hb : b < 256) : ∃ c : UInt8, bits .xor .u8 (a : Int) (b : Int) = (c.toNat : Int) := by
  have hlt : a ^^^ b < 256 := Nat.xor_lt_two_pow (n := 8) ha hb
  refine ⟨UInt8.ofNat (a ^^^ b), ?_⟩
  have h1 : (BitVec.ofInt 8 (a : Int)).toNat = a := by
    rw [BitVec.ofInt_natCast, BitVec.toNat_ofNat]; exact Nat.mod_eq_of_lt (by omega)
  have h2 : (BitVec.ofInt 8 (b : Int)).toNat = b := by
    rw [BitVec.ofInt_natCast, BitVec.toNat_ofNat]; exact Nat.mod_eq_of_lt (by omega)
  show IntKind.u8.wrap ((BitVec.ofInt 8 (a : Int) ^^^ BitVec.ofInt 8 (b : Int)).toNat : Int) = _
  rw [BitVec.toNat_xor, h1, h2, IntWalk.u8_in _ (by omega)]
  obtain ⟨z, hz⟩ : ∃ z, z = a ^^^ b := ⟨_, rfl⟩
  rw [← hz] at hlt ⊢
  clear hz
  simp
  omega
theorem own_setB {w : World} {B g c : Nat} {l : List UInt8} {k : Nat} (h : OwnB w B (.slice (some ⟨g, 0, none⟩) l.length c) l) (x : UInt8) : OwnB (w.setCell ⟨g, k, none⟩ (.int .u8 (x.toNat : Int))) B (.slice (some ⟨g, 0, none⟩) l.length c) (l.set k x) := by
  have hb : byV (l.set k x) = (byV l).set k (.int .u8 (x.toNat : Int)) := by unfold byV; rw [List.map_set]
  refine ⟨by rw [byV_len]; simp, ?_⟩
  rw [List.length_set]
  rcases h.2 with ⟨h0, _⟩ | ⟨g', cap, cur, hv, hB, hg, h2, h3, hs, ht⟩
  · cases h0
  · simp at hv
    obtain ⟨rfl, rfl⟩ := hv
    obtain ⟨L⟩ := cur
    refine Or.inr ⟨g, c, ⟨L.set k (.int .u8 (x.toNat : Int))⟩, rfl, hB, ?_, h2, h3, by simpa using hs, ?_⟩
    · show (w.heap.modify g _)[g]? = _
      rw [Array.getElem?_modify]
      simp [hg]
    · have ht' : L.take (l.length * 1) = byV l := ht
      show (L.set k _).take (l.length * 1) = _
      rw [List.take_set, ht', hb]
theorem own_oneB (w : World) (B : Nat) (hB : B ≤ w.heap.size) (c : UInt8) : OwnB (w.alloc (.cells #[.int .u8 (c.toNat : Int)] 5)) B (.slice (some ⟨w.heap.size, 0, none⟩) 1 1) [c] :=
  ⟨rfl, Or.inr ⟨w.heap.size, 1, #[.int .u8 (c.toNat : Int)], rfl, hB, heap_alloc_new w _, Nat.le_refl _, by unfold maxLen; omega, rfl, rfl⟩⟩

set_option maxRecDepth 100000 in
set_option maxHeartbeats 3200000 in
theorem turn_any (B R L g cap : Nat) (l : List UInt8) (w : World) (h : Rd B R L w) (hL : L ≤ 999000) (hc : l.length ≤ cap) (hn : l.length ≤ 1000) (hg : g < w.heap.size) (hgR : g ≠ R) (hr : RowAt w g (byV l)) :
    Calls Tryd.prog 50 #[.pointer (some ⟨R, 0, none⟩), .slice (some ⟨g, 0, none⟩) l.length cap] w fun e w' => ∃ v l', e = .returned v ∧ OwnB w' w.heap.size v l' ∧ (l'.length ≤ l.length + 1 ∧ (l.length ≠ 1 → 0 < l'.length)) ∧ w.grownBy w' (some R) ∧ Rd B R (L + 3) w' := by
  have H := Lib.hid h
  have HR := Lib.hid hr
  have hRlt := h.lt
  clear h hr
  by_cases h0 : l.length = 0
  · rw [h0]
    go_enter Tryd.func50, Tryd.ntmps50
    go_wp2_with fail
    (go_at_call 39; refine (pick_any 256 B R L _ H.out (by omega)).mono ?_; rintro e w1 ⟨y, rfl, hy, g1, r1⟩)
    have hy9 : y ≤ 255 := by omega
    have hwy : IntKind.wrap .u8 (y : Int) = (y : Int) := IntWalk.u8_in _ (by omega)
    clear hy
    go_wp2_with fail
    go_ret
    have hcy : ((UInt8.ofNat y).toNat : Int) = (y : Int) := by simp; omega
    have OF := own_oneB w1 w.heap.size g1.size (UInt8.ofNat y)
    rw [hcy] at OF
    exact ⟨_, [UInt8.ofNat y], rfl, OF, ⟨by simp, fun _ => by simp⟩, grown_alloc g1 _, (rd_alloc r1 _).mono (by omega)⟩
  have hpos : ¬ (l.length : Int) = 0 := by omega
  go_enter Tryd.func50, Tryd.ntmps50
  go_wp2_with fail
  (go_at_call 39; refine (pick_any (l.length : Int) B R L _ H.out (by omega)).mono ?_; rintro e w1 ⟨k, rfl, hk, g1, r1⟩)
  have hk1 : k < l.length := by omega
  have G1 := Lib.hid g1
  have R1 := Lib.hid r1
  clear g1 r1 hk
  go_wp2_with fail
  (go_at_call 39; refine (pick_any 3 B R (L + 1) _ R1.out (by omega)).mono ?_; rintro e w2 ⟨z, rfl, hz, g2, r2⟩)
  have G2 := Lib.hid (G1.out.trans g2)
  have R2 := Lib.hid r2
  have hz3 : z = 0 ∨ z = 1 ∨ z = 2 := by omega
  clear g2 r2 hz R1 G1
  have HR2 : Hid (∀ w', Below w2.heap.size w2 w' → RowAt w' g (byV l)) := fun w' hb j hj => by
    have h1 := HR.out j hj
    have h2 := gcell G2.out hg hgR j
    have hlt : g < w2.heap.size := Nat.lt_of_lt_of_le hg G2.out.size
    refine ⟨?_, ?_⟩
    · rw [hb.cell (p := ⟨g, j, none⟩) hlt, h2.1]; exact h1.1
    · rw [hb.frozen (p := ⟨g, j, none⟩) hlt, h2.2]; exact h1.2
  obtain ⟨i0, hi, hz0, hz1, hz2⟩ := info_parts infoByte
  have zs : w.heap.size ≤ w2.heap.size := G2.out.size
  have hfin : Hid (∀ w', Below w2.heap.size w2 w' → w.grownBy w' (some R) ∧ Rd B R (L + 3) w') := fun w' hb =>
    ⟨G2.out.trans ⟨hb.os, hb.tape, hb.output, hb.size, fun b hlt _ => hb.block b hlt⟩, (rd_below R2.out hb (Nat.le_refl _)).mono (by omega)⟩
  rcases hz3 with rfl | rfl | rfl
  · obtain ⟨k1, hk2⟩ : ∃ n : Nat, n = k + 1 := ⟨_, rfl⟩
    have hll : (l.take k).length = k := by rw [List.length_take]; omega
    have HT : Hid ((byV (l.take k)).length = k * 1) := by show _ = _; rw [byV_len, hll, Nat.mul_one]
    have HDp : Hid ((byV (l.drop k1)).length = (l.length - k1) * 1) := by show _ = _; rw [byV_len, List.length_drop, Nat.mul_one]
    have mk : Hid (∀ w', Below w2.heap.size w2 w' → Below w2.heap.size w2 w' ∧ RowAt w' g (byV l)) := fun w' h => ⟨h, HR2.out w' h⟩
    have hM := mk.out _ (Below.refl _ _)
    have zc : w2.heap.size ≤ w2.heap.size := Nat.le_refl _
    have hc1 : (k : Int) ≤ (cap : Int) := by omega
    have hc2 : (k1 : Int) ≤ (l.length : Int) := by omega
    have hc3 : (l.length : Int) ≤ (cap : Int) := by omega
    have hw : IntKind.wrap .i64 ((k : Int) + 1) = (k1 : Int) := by rw [show (k1 : Int) = (k : Int) + 1 by omega]; exact IntWalk.i64_in _ (by omega)
    have HLL := Lib.hid hll
    have HLD : Hid ((l.drop k1).length = l.length - k1) := List.length_drop ..
    have HFL : Hid ((l.take k ++ l.drop k1).length ≤ l.length + 1 ∧ (l.length ≠ 1 → 0 < (l.take k ++ l.drop k1).length)) := by show _ ∧ _; rw [List.length_append, List.length_take, List.length_drop]; exact ⟨by omega, fun _ => by omega⟩
    have hlk : l.length - k1 ≤ 1000 := by omega
    clear hll hk2
    go_wp2_with fail
    go_cut [4] (fun s4 wx => OwnB wx w2.heap.size s4 (l.take k ++ l.drop k1) ∧ Below w2.heap.size w2 wx)
    case first =>
      by_cases hck : k1 = cap
      · subst hck
        have hl0 : l.length - k1 = 0 := by omega
        have NB : Hid (∀ w', RowAt w' g (byV l) → ∀ j u, (byV (l.drop k1))[j]? = some u → w'.cell? ((⟨g, 0, none⟩ : Addr).add j) = some u) := fun w' _ j u hj => by
          have := (List.getElem?_eq_some_iff.1 hj).1
          rw [HDp.out, hl0] at this
          omega
        have HD0 : Hid ((byV (l.drop k1)).length = 0 * 1) := by show _ = _; rw [HDp.out, hl0]
        have HLD0 : Hid ((l.drop k1).length = 0) := by show _ = _; rw [HLD.out, hl0]
        clear hl0
        go_region_held3 (fun w' => Below w2.heap.size w2 w' ∧ RowAt w' g (byV l))
          (first
            | exact mk.out _ (Below.refl _ _).drew
            | exact mk.out _ cc
            | exact mk.out _ (((Below.refl _ _).drew).alloc (Nat.le_refl _) _)
            | exact mk.out _ ((Below.refl _ _).alloc (Nat.le_refl _) _)
            | exact mk.out _ (cc.alloc cc.size _)
            | (trace_state; fail))
          (first
            | (have hS := (by assumption : Below w2.heap.size w2 _ ∧ _); refine step_append_w _ (by rfl) (.tmp 22) (.tmp 25) 22 rfl w2.heap.size 5 i0 (.int .u8 0) 1 1 Tryd.underlying22 hi hz0 hz1 hz2 rfl (by decide) (.slice (some ⟨_, 0, none⟩) 0 0) 0 ([]) (by rfl) (by first | exact own_made_at _ _ _ zc rfl | exact (own_made_at _ _ _ zc rfl).drew | exact own_made_at _ _ _ (by simp) (by simp)) ⟨g, 0, none⟩ k k1 (byV (l.take k)) (by rfl) HT.out (news_front hS.2 k) (byV_one _) (by unfold maxLen; omega) (by omega) (by first | exact hS.1.size | (simp; omega)) ?_; intro vL wL hown hgrow; have cc : Below w2.heap.size w2 wL := hS.1.grown hgrow hS.1.size (fun k e => by simp [Value.ownBlock] at e; omega); have zc := cc.size; have RL : Hid (wL.ownsRow w2.heap.size 5 1 vL k (byV (l.take k))) := (by show World.ownsRow _ _ _ _ _ _ _; simpa using hown); clear hown hgrow)
            | (have hS := (by assumption : Below w2.heap.size w2 _ ∧ _); refine step_append_w _ (by rfl) (.tmp 26) (.tmp 30) 22 rfl w2.heap.size 5 i0 (.int .u8 0) 1 1 Tryd.underlying22 hi hz0 hz1 hz2 rfl (by decide) vL k (byV (l.take k)) (by rfl) (by first | exact RL.out | exact RL.out.drew) ⟨g, _, none⟩ 0 0 (byV (l.drop k1)) (by rfl) HD0.out (NB.out _ hS.2) (byV_one _) (by unfold maxLen; omega) (by omega) (by first | exact hS.1.size | (simp; omega)) ?_; intro vN wN hown hgrow; have cc : Below w2.heap.size w2 wN := hS.1.grown hgrow hS.1.size (fun b e => own_ge RL.out b e); have zc := cc.size; have RN := Lib.hid (own_joinB hown HLL.out HLD0.out); clear hown hgrow))
        all_goals
          go_wp2_with fail
          go_meet
          exact ⟨RN.out, cc⟩
      · have hck2 : ¬ cap = k1 := fun e => hck e.symm
        have NB : Hid (∀ w', RowAt w' g (byV l) → ∀ j u, (byV (l.drop k1))[j]? = some u → w'.cell? ((⟨g, k1, none⟩ : Addr).add j) = some u) := fun w' h => news_back h k1
        go_region_held3 (fun w' => Below w2.heap.size w2 w' ∧ RowAt w' g (byV l))
          (first
            | exact mk.out _ (Below.refl _ _).drew
            | exact mk.out _ cc
            | exact mk.out _ (((Below.refl _ _).drew).alloc (Nat.le_refl _) _)
            | exact mk.out _ ((Below.refl _ _).alloc (Nat.le_refl _) _)
            | exact mk.out _ (cc.alloc cc.size _)
            | (trace_state; fail))
          (first
            | (have hS := (by assumption : Below w2.heap.size w2 _ ∧ _); refine step_append_w _ (by rfl) (.tmp 22) (.tmp 25) 22 rfl w2.heap.size 5 i0 (.int .u8 0) 1 1 Tryd.underlying22 hi hz0 hz1 hz2 rfl (by decide) (.slice (some ⟨_, 0, none⟩) 0 0) 0 ([]) (by rfl) (by first | exact own_made_at _ _ _ zc rfl | exact (own_made_at _ _ _ zc rfl).drew | exact own_made_at _ _ _ (by simp) (by simp)) ⟨g, 0, none⟩ k cap (byV (l.take k)) (by rfl) HT.out (news_front hS.2 k) (byV_one _) (by unfold maxLen; omega) (by omega) (by first | exact hS.1.size | (simp; omega)) ?_; intro vL wL hown hgrow; have cc : Below w2.heap.size w2 wL := hS.1.grown hgrow hS.1.size (fun k e => by simp [Value.ownBlock] at e; omega); have zc := cc.size; have RL : Hid (wL.ownsRow w2.heap.size 5 1 vL k (byV (l.take k))) := (by show World.ownsRow _ _ _ _ _ _ _; simpa using hown); clear hown hgrow)
            | (have hS := (by assumption : Below w2.heap.size w2 _ ∧ _); refine step_append_w _ (by rfl) (.tmp 26) (.tmp 30) 22 rfl w2.heap.size 5 i0 (.int .u8 0) 1 1 Tryd.underlying22 hi hz0 hz1 hz2 rfl (by decide) vL k (byV (l.take k)) (by rfl) (by first | exact RL.out | exact RL.out.drew) ⟨g, _, none⟩ (l.length - k1) (cap - k1) (byV (l.drop k1)) (by rfl) HDp.out (NB.out _ hS.2) (byV_one _) (by unfold maxLen; omega) (by omega) (by first | exact hS.1.size | (simp; omega)) ?_; intro vN wN hown hgrow; have cc : Below w2.heap.size w2 wN := hS.1.grown hgrow hS.1.size (fun b e => own_ge RL.out b e); have zc := cc.size; have RN := Lib.hid (own_joinB hown HLL.out HLD.out); clear hown hgrow))
        all_goals
          go_wp2_with fail
          go_meet
          exact ⟨RN.out, cc⟩
    case rest =>
      obtain ⟨o4, b4⟩ := hcut
      have O4 := Lib.hid (o4.mono zs)
      have B4 := Lib.hid b4
      obtain ⟨a4, c4, e4⟩ := o4.form
      subst e4
      clear o4 b4
      go_wp2_with fail
      go_ret
      exact ⟨_, _, rfl, O4.out, HFL.out, hfin.out _ B4.out⟩
  · have hll : (l.take k).length = k := by rw [List.length_take]; omega
    have HT : Hid ((byV (l.take k)).length = k * 1) := by show _ = _; rw [byV_len, hll, Nat.mul_one]
    have HDp : Hid ((byV (l.drop k)).length = (l.length - k) * 1) := by show _ = _; rw [byV_len, List.length_drop, Nat.mul_one]
    have MK : Hid (∀ w', w2.grownBy w' (some R) → w2.grownBy w' (some R) ∧ RowAt w' g (byV l)) := fun w' h => ⟨h, row_grown (HR2.out w2 (Below.refl _ _)) h (Nat.lt_of_lt_of_le hg zs) hgR⟩
    have hM := MK.out _ (gb_below (Below.refl _ _))
    have zc : w2.heap.size ≤ w2.heap.size := Nat.le_refl _
    have hc1 : (k : Int) ≤ (cap : Int) := by omega
    have hc2 : (k : Int) ≤ (l.length : Int) := by omega
    have hc3 : (l.length : Int) ≤ (cap : Int) := by omega
    have hck : ¬ cap = k := by omega
    have hBR := R2.out.base
    have hRl := R2.out.lt
    have HLL := Lib.hid hll
    have HLD : Hid ((l.drop k).length = l.length - k) := List.length_drop ..
    clear hll
    go_wp2_with fail
    go_cut [4] (fun s4 wx => (∃ l2, OwnB wx w2.heap.size s4 l2 ∧ l2.length = k + 1 + (l.length - k)) ∧ w2.grownBy wx (some R) ∧ Rd B R (L + 3) wx)
    case first =>
      go_region_held3 (fun w' => w2.grownBy w' (some R) ∧ RowAt w' g (byV l))
        (first
          | exact MK.out _ (gb_below (Below.refl _ _).drew)
          | exact MK.out _ cc
          | exact MK.out _ (gb_below (((Below.refl _ _).drew).alloc (Nat.le_refl _) _))
          | exact MK.out _ (gb_below ((Below.refl _ _).alloc (Nat.le_refl _) _))
          | exact MK.out _ (grown_alloc cc _)
          | (trace_state; fail))
        (first
          | (have hS := (by assumption : w2.grownBy _ (some R) ∧ _); refine step_append_w _ (by rfl) (.tmp 34) (.tmp 37) 22 rfl w2.heap.size 5 i0 (.int .u8 0) 1 1 Tryd.underlying22 hi hz0 hz1 hz2 rfl (by decide) (.slice (some ⟨_, 0, none⟩) 0 0) 0 ([]) (by rfl) (by first | exact own_made_at _ _ _ zc rfl | exact (own_made_at _ _ _ zc rfl).drew | exact own_made_at _ _ _ (by simp) (by simp)) ⟨g, 0, none⟩ k cap (byV (l.take k)) (by rfl) HT.out (news_front hS.2 k) (byV_one _) (by unfold maxLen; omega) (by omega) (by first | exact hS.1.size | (simp; omega)) ?_; intro vL wL hown hgrow; have cc : w2.grownBy wL (some R) := grown_own hS.1 hgrow (fun k e => by simp [Value.ownBlock] at e; omega); have RW : Hid (Rd B R (L + 2) wL) := (by first | exact rd_kept (rd_alloc R2.out _) hgrow (fun b e => by simp [Value.ownBlock] at e; omega) | exact rd_kept (rd_drew (rd_alloc R2.out _)) hgrow (fun b e => by simp [Value.ownBlock] at e; omega)); have RL : Hid (wL.ownsRow w2.heap.size 5 1 vL k (byV (l.take k))) := (by show World.ownsRow _ _ _ _ _ _ _; simpa using hown); clear hown hgrow)
          | (go_at_call 39; have hS := (by assumption : w2.grownBy _ (some R) ∧ _); refine (pick_any 9 B R (L + 2) _ (by first | exact RW.out | exact rd_drew RW.out) (by omega)).mono ?_; rintro e wP ⟨y, rfl, hy, gP, rP⟩; have hy9 : y ≤ 8 := (by omega); have cc : w2.grownBy wP (some R) := hS.1.trans gP; have RLP : Hid (wP.ownsRow w2.heap.size 5 1 vL k (byV (l.take k))) := (by first | exact own_keep RL.out gP hRl | exact own_keep RL.out.drew gP hRl); have RP := Lib.hid rP; have hwy : IntKind.wrap .u8 (y : Int) = (y : Int) := IntWalk.u8_in _ (by omega); clear gP rP hy)
          | (have hS := (by assumption : w2.grownBy _ (some R) ∧ _); refine step_append_w _ (by rfl) (.tmp 38) (.tmp 42) 22 rfl w2.heap.size 5 i0 (.int .u8 0) 1 1 Tryd.underlying22 hi hz0 hz1 hz2 rfl (by decide) vL k (byV (l.take k)) (by rfl) (by first | exact World.ownsRow.alloc RLP.out _ | exact (World.ownsRow.alloc RLP.out _).drew) ⟨_, 0, none⟩ 1 1 [.int .u8 (y : Int)] (by rfl) rfl (by first | exact one_cellE _ _ _ rfl) (by intro u hu; simp at hu; subst hu; rfl) (by unfold maxLen; omega) (by omega) (by first | exact hS.1.size | (simp; omega)) ?_; intro vM wM hown hgrow; have cc : w2.grownBy wM (some R) := grown_own hS.1 hgrow (fun b e => own_ge RLP.out b e); have RQ : Hid (Rd B R (L + 2 + 1) wM) := (by first | exact rd_kept (rd_alloc RP.out _) hgrow (fun b e => by have := own_ge RLP.out b e; omega) | exact rd_kept (rd_drew (rd_alloc RP.out _)) hgrow (fun b e => by have := own_ge RLP.out b e; omega)); have RM := Lib.hid hown; clear hown hgrow)
          | (have hS := (by assumption : w2.grownBy _ (some R) ∧ _); refine step_append_w _ (by rfl) (.tmp 43) (.tmp 46) 22 rfl w2.heap.size 5 i0 (.int .u8 0) 1 1 Tryd.underlying22 hi hz0 hz1 hz2 rfl (by decide) vM (k + 1) (byV (l.take k) ++ [.int .u8 (y : Int)]) (by rfl) (by first | exact RM.out | exact RM.out.drew) ⟨g, _, none⟩ (l.length - k) (cap - k) (byV (l.drop k)) (by rfl) HDp.out (news_back hS.2 k) (byV_one _) (by unfold maxLen; omega) (by omega) (by first | exact hS.1.size | (simp; omega)) ?_; intro vN wN hown hgrow; have cc : w2.grownBy wN (some R) := grown_own hS.1 hgrow (fun b e => own_ge RM.out b e); have RF : Hid (Rd B R (L + 2 + 1) wN) := (by first | exact rd_kept RQ.out hgrow (fun b e => by have := own_ge RM.out b e; omega) | exact rd_kept (rd_drew RQ.out) hgrow (fun b e => by have := own_ge RM.out b e; omega)); have RN := Lib.hid (own_join3 hown HLL.out HLD.out hy9); clear hown hgrow))
      all_goals
        go_wp2_with fail
        go_meet
        exact ⟨RN.out, cc, RF.out⟩
    case rest =>
      obtain ⟨⟨l2, o4, hl2⟩, b4, r4⟩ := hcut
      have O4 := Lib.hid (o4.mono zs)
      have B4 := Lib.hid (G2.out.trans b4)
      have R4 := Lib.hid r4
      obtain ⟨a4, c4, e4⟩ := o4.form
      subst e4
      have HL4 : Hid (l2.length ≤ l.length + 1 ∧ (l.length ≠ 1 → 0 < l2.length)) := ⟨by omega, fun _ => by omega⟩
      clear o4 b4 r4 hl2
      go_wp2_with fail
      go_ret
      exact ⟨_, _, rfl, O4.out, HL4.out, B4.out, R4.out⟩
  · have HO := Lib.hid (own_made_at w2 w2.heap.size w2.heap.size (Nat.le_refl _) rfl)
    go_wp2_with (at_builtin; refine wpList_append_own _ rfl (.tmp 48) (.tmp 49) 22 rfl w2.heap.size 5 i0 (.int .u8 0) 1 1 Tryd.underlying22 hi hz0 hz1 hz2 rfl (by decide) (.slice (some ⟨w2.heap.size, 0, none⟩) 0 0) 0 [] rfl HO.out ⟨g, 0, none⟩ l.length cap (byV l) rfl ?c1 ?c2 ?c3 ?c4 ?c5 ?c6 ?_)
    case c1 => rw [byV_len, Nat.mul_one]
    case c2 => have := news_front (HR2.out _ ((Below.refl _ _).alloc (Nat.le_refl _) (.cells #[] 5))) l.length; rwa [List.take_of_length_le (Nat.le_refl _)] at this
    case c3 => exact byV_one l
    case c4 => unfold maxLen; omega
    case c5 => omega
    case c6 => simp
    · intro v' w3 hown hgrow hnil
      have HO3 : Hid (OwnB w3 w2.heap.size v' l) := by
        show World.ownsRow _ _ _ _ _ _ _
        simpa using hown
      have hR3 : Hid (Rd B R (L + 2) w3) := rd_kept (rd_alloc R2.out _) hgrow (fun b e => by simp [Value.ownBlock] at e; have := R2.out.base; have := R2.out.lt; omega)
      have G3 : Hid (w.grownBy w3 (some R)) := G2.out.trans (grown_own (gb_below ((Below.refl _ _).alloc (Nat.le_refl _) _)) hgrow (fun b e => by simp [Value.ownBlock] at e; omega))
      obtain ⟨g3, c3, rfl, hc3, hB3, hg3, hr3⟩ := HO3.out.cells (by omega)
      obtain ⟨x, hx⟩ : ∃ x, x = l[k] := ⟨_, rfl⟩
      have q0 := row_byte hr3 (c := x) (List.getElem?_eq_some_iff.2 ⟨hk1, hx.symm⟩)
      have f0 := (hr3 k (by rw [byV_len]; exact hk1)).2
      have hne3 : g3 ≠ R := by have := R2.out.lt; omega
      have hk4 : (k : Int) < (l.length : Int) := by omega
      have hk5 : (k : Int) ≤ (c3 : Int) := by omega
      have HX := Lib.hid hx
      clear hown hgrow hnil hr3 hx
      go_wp2_with fail
      go_region_with (go_at_call 39; refine (pick_any 255 B R (L + 2) _ (by first | exact hR3.out | exact rd_drew hR3.out) (by omega)).mono ?_; rintro e w4 ⟨y, rfl, hy, gy, r4⟩; have g4 : w3.grownBy w4 (some R) := (by first | exact gy | exact ⟨gy.os, gy.tape, gy.output, gy.size, gy.block⟩); have hy9 : y ≤ 254 := (by omega); have hq := gcell g4 hg3 hne3 k; have q1 := hq.1.trans q0; have f1 := hq.2.trans f0; have hw1 : IntKind.wrap .i64 (1 + (y : Int)) = 1 + (y : Int) := IntWalk.i64_in _ (by omega); have hw2 : IntKind.wrap .u8 (1 + (y : Int)) = 1 + (y : Int) := IntWalk.u8_in _ (by omega); clear hq hy gy)
      all_goals
        go_wp2_with fail
        obtain ⟨c, hcx⟩ := xor_u8 x.toNat (1 + y) (by have := x.toNat_lt; omega) (by omega)
        rw [show ((1 + y : Nat) : Int) = 1 + (y : Int) by omega] at hcx
        rw [hcx]
        have OF := own_setB (k := k) (own_keep (show w3.ownsRow _ _ _ _ _ _ from HO3.out) g4 (by have := R2.out.lt; omega)) c
        go_ret
        exact ⟨_, _, rfl, OwnB.mono OF zs, ⟨by rw [List.length_set]; omega, fun _ => by rw [List.length_set]; omega⟩, grown_new (G3.out.trans g4) _ _ (by omega), rd_put r4 _ (by have := R2.out.base; have := R2.out.lt; omega) hne3⟩

end Go.Proofs.YtjnhmobdigfpiaaDoor
