/- The lines of a text, told one by one: what the program's iterator gives to each loop body. Condition: the text has at most 2^21 bytes. (Several texts, joined: BoxLaw, BoxPure, MayS, SBoxOk, Semi, Shelf, ICut, ISeq.) -/
import Derived.Test.YtglpijjkihpeeaaGreatDoorTBxTc
import Derived.Test.YtglpijjkihpeeaaGreatDoorTBxTb
import Derived.Test.YtglpijjkihpeeaaGreatDoorRulLaw
import Derived.Test.YtglpijjkihpeeaaGreatDoorEnd
import Derived.Deep.RegionWith
import Derived.Test.YtglpijjkihpeeaaGreatDoorLines
import Derived.Lib.LastIndexByte
import Derived.Lib.CutLaws
import Derived.Shelf.Lays
import Derived.Shelf.LaysC
import Derived.Shelf.LaysM
import Derived.Test.YtglpijjkihpeeaaGreatDoorProg
import Derived.Test.YtglpijjkihpeeaaGreatDoorChecked
import Derived.Test.YtglpijjkihpeeaaGreatDoorGen
import Derived.Shelf.Strings.LastIndex
import Derived.Shelf.Strings.Search2
import Derived.Lib.IndexBytes
import Derived.RegionTactic
import Derived.IntWalk
import Derived.Lib.SmallJoins
import Derived.RangeFuncNested
import Derived.RangeFuncBound
import Derived.RangeFuncCalls
import Derived.RangeFuncLeaves
import Derived.RangeFuncBox
import Derived.Shelf.Abstract
import Derived.Shelf.RegionOpen
import Derived.WalkKit
import Derived.OwnWalkIn
import Derived.TacticsInMore
import Derived.LoopNIn
import Derived.LoopIn
import Derived.Maps.AppendAt

/- A box as the law has it becomes the program's; what the law says of its size. Condition: at most 2^22 rules, ends and streams each. -/
namespace Go.Proofs.YtglpijjkihpeeaaGreatDoor
open Go.RowKit Go.Sort

/-- A box of the call's own, each list in a block of its own. -/
def OwnBx (w : World) (B : Nat) (v : Value) (b : Bx) : Prop := ∃ g1 g2 c2 g3, v = .agg #[.slice (some ⟨g1, 0, none⟩) b.rs.length b.rs.length, .slice (some ⟨g2, 0, none⟩) b.es.length c2, .slice (some ⟨g3, 0, none⟩) b.cs.length b.cs.length] ∧
  OwnRl w B (.slice (some ⟨g1, 0, none⟩) b.rs.length b.rs.length) b.rs ∧ OwnTab w B (.slice (some ⟨g2, 0, none⟩) b.es.length c2) b.es ∧ OwnCn w B (.slice (some ⟨g3, 0, none⟩) b.cs.length b.cs.length) b.cs
theorem OwnBx.fr {w : World} {B : Nat} {v : Value} {b : Bx} (h : OwnBx w B v b) : FrBx w B v b := by
  obtain ⟨g1, g2, c2, g3, rfl, h1, h2, h3⟩ := h
  exact ⟨_, _, _, rfl, FrL.own h1, h2.fr, h3.fr⟩
theorem OwnBx.rd {w : World} {B : Nat} {v : Value} {b : Bx} (h : OwnBx w B v b) : RdBx w v b := h.fr.rd
theorem OwnBx.later {w w' : World} {B : Nat} {v : Value} {b : Bx} (h : OwnBx w B v b) (hb : Below w.heap.size w w') : OwnBx w' B v b := by
  obtain ⟨g1, g2, c2, g3, rfl, h1, h2, h3⟩ := h
  exact ⟨g1, g2, c2, g3, rfl, own_later h1 hb, own_later h2 hb, own_later h3 hb⟩
theorem OwnBx.base {w : World} {B B' : Nat} {v : Value} {b : Bx} (h : OwnBx w B v b) (hB : B' ≤ B) : OwnBx w B' v b := by
  obtain ⟨g1, g2, c2, g3, rfl, h1, h2, h3⟩ := h
  exact ⟨g1, g2, c2, g3, rfl, own_lower h1 hB, own_lower h2 hB, own_lower h3 hB⟩
theorem Blk.far {w : World} {g : Nat} {t : TypeId} {l : List Value} (h : Blk w g t l) {a : Addr} (ha : a.block ≠ g) (u : Value) : Blk (w.setCell a u) g t l := by
  unfold Blk at h ⊢
  show (w.heap.modify a.block _)[g]? = _
  rw [Array.getElem?_modify, if_neg ha]
  exact h
/-- A box is small: its lists, and its texts. -/
def bxSz (b : Bx) : Prop := b.rs.length ≤ 1048576 ∧ b.es.length ≤ 1048576 ∧ b.cs.length ≤ 1048576 ∧ cnIn b.cs 1048576

set_option maxRecDepth 100000 in
set_option maxHeartbeats 3200000 in
theorem szBox_any (v : Value) (b : Bx) (w : World) (hv : ArgBx w v b) (hm : bxMax b) :
    Calls Tryz.prog 14 #[v, .int .i64 1048576] w fun e w' => ∃ z : Int, e = .returned (.int .i64 z) ∧ (z = -1 ∨ (0 ≤ z ∧ z ≤ 1048576 ∧ bxSz b)) ∧ Below w.heap.size w w' := by
  obtain ⟨r, t, c, rfl, hr, ht, hc⟩ := hv
  obtain ⟨m1, m2, m3, m4, _, _⟩ := hm
  obtain ⟨W0, hW0⟩ : ∃ W, W = w.alloc (.cells #[r, t, c] 46) := ⟨_, rfl⟩
  have hB : Below w.heap.size w W0 := by rw [hW0]; exact (Below.refl _ _).alloc (Nat.le_refl _) _
  have K1 : Hid (Blk W0 w.heap.size 46 [r, t, c]) := by rw [hW0]; exact three_new w r t c _
  have BB := Lib.hid hB
  have hs0 : W0.heap.size = w.heap.size + 1 := by rw [hW0]; simp
  obtain ⟨z1, hz1⟩ : ∃ z : Int, z = (if (1048576 : Int) < (b.rs.length : Int) then (-1 : Int) else 1048576 - (b.rs.length : Int)) := ⟨_, rfl⟩
  have H1 : Hid (∀ w, Calls Tryz.prog 24 #[r, .int .i64 1048576] w fun e w' => e = .returned (.int .i64 z1) ∧ w = w') := fun w => by
    obtain ⟨a, cap, rfl, _, _⟩ := hr
    have := szRuls_any a b.rs.length cap 1048576 w m1 (by decide) (by decide)
    rwa [← hz1] at this
  have HZ1 : Hid (¬ z1 < 0 → z1 = 1048576 - b.rs.length ∧ (b.rs.length : Int) ≤ 1048576) := fun h => by
    rw [hz1] at h ⊢
    split at h <;> rename_i hh
    · omega
    · rw [if_neg hh]; omega
  clear hz1
  have HTb := Lib.hid (ht.below hB)
  have HCn := Lib.hid (hc.below hB)
  have KK : Hid (∀ w', Below W0.heap.size W0 w' → w'.cell? ⟨w.heap.size, 0, none⟩ = some r ∧ w'.cell? ⟨w.heap.size, 1, none⟩ = some t ∧ w'.cell? ⟨w.heap.size, 2, none⟩ = some c) := fun w' h => (three_all (K1.out.below h)).1
  obtain ⟨ar, capr, rfl, -, -⟩ := hr
  obtain ⟨at', capt, rfl, -, -⟩ := ht
  obtain ⟨ac, capc, rfl, -, -⟩ := hc
  clear hB K1 hs0
  subst hW0
  go_enter Tryz.func14, Tryz.ntmps14
  go_wp2_with fail
  (go_at_call 24; refine (H1.out _).mono ?_; rintro e w1 ⟨rfl, rfl⟩)
  by_cases h1 : z1 < 0
  · go_wp2_with fail
    go_ret
    exact ⟨-1, rfl, Or.inl rfl, BB.out⟩
  have hz1' := Lib.hid (HZ1.out (by omega))
  have hz1a : z1 ≤ 1048576 := by have := hz1'.out; omega
  obtain ⟨z2, hz2⟩ : ∃ z : Int, z = (if z1 < (b.es.length : Int) then (-1 : Int) else z1 - (b.es.length : Int)) := ⟨_, rfl⟩
  have H2 : Hid (Calls Tryz.prog 49 #[.agg #[.slice at' b.es.length capt], .int .i64 z1] (w.alloc (.cells #[.slice ar b.rs.length capr, .slice at' b.es.length capt, .slice ac b.cs.length capc] 46)) fun e w' => e = .returned (.int .i64 z2) ∧ Below (w.alloc (.cells #[.slice ar b.rs.length capr, .slice at' b.es.length capt, .slice ac b.cs.length capc] 46)).heap.size (w.alloc (.cells #[.slice ar b.rs.length capr, .slice at' b.es.length capt, .slice ac b.cs.length capc] 46)) w') := by
    have := lawSzArg _ b.es z1 _ m2 (by omega) (by omega) HTb.out
    rwa [← hz2] at this
  have HZ2 : Hid (¬ z2 < 0 → z2 = z1 - b.es.length ∧ (b.es.length : Int) ≤ z1) := fun h => by
    rw [hz2] at h ⊢
    split at h <;> rename_i hh
    · omega
    · rw [if_neg hh]; omega
  clear hz2 H1 HZ1
  go_wp2_with fail
  (go_at_call 49; refine H2.out.mono ?_; rintro e w2 ⟨rfl, b2⟩)
  have B2 := Lib.hid (BB.out.trans (b2.mono BB.out.size))
  obtain ⟨k0', k1', k2'⟩ := KK.out _ b2
  have HCn2 := Lib.hid (HCn.out.below b2)
  by_cases h2 : z2 < 0
  · go_wp2_with fail
    go_ret
    exact ⟨-1, rfl, Or.inl rfl, B2.out⟩
  have hz2' := Lib.hid (HZ2.out (by omega))
  have hz2a : z2 ≤ 1048576 := by have := hz2'.out; have := hz1'.out; omega
  clear HZ2 H2
  go_wp2_with fail
  (go_at_call 50; refine (szConns_any _ b.cs z2 w2 m3 m4 (by omega) (by omega) HCn2.out).mono ?_; rintro e w3 ⟨z3, rfl, h3, b3⟩)
  have B3 := Lib.hid (B2.out.trans (b3.mono B2.out.size))
  rcases h3 with rfl | ⟨h3, h4, h5, h6⟩
  · go_wp2_with fail
    go_ret
    exact ⟨-1, rfl, Or.inl rfl, B3.out⟩
  · have h3' : ¬ z3 < 0 := by omega
    go_wp2_with fail
    go_ret
    have e1 := hz1'.out
    have e2 := hz2'.out
    exact ⟨z3, rfl, Or.inr ⟨h3, by omega, by omega, by omega, by omega, fun c hc => by have := h6 c hc; omega⟩, B3.out⟩

set_option maxRecDepth 100000 in
set_option maxHeartbeats 3200000 in
theorem toBox_any (v : Value) (b : Bx) (w : World) (hs : bxSz b) (hv : ArgBx w v b) :
    Calls Tryz.prog 17 #[v] w fun e w' => ∃ u, e = .returned u ∧ OwnBx w' w.heap.size u b ∧ Below w.heap.size w w' := by
  obtain ⟨r, t, c, rfl, hr, ht, hc⟩ := hv
  obtain ⟨m1, m2, m3, _⟩ := hs
  obtain ⟨W0, hW0⟩ : ∃ W, W = ((w.alloc (.cells #[r, t, c] 46)).alloc (.cells #[.slice none 0 0, .slice none 0 0, .slice none 0 0] 30)).alloc (.cells #[.slice none 0 0, .slice none 0 0, .slice none 0 0] 30) := ⟨_, rfl⟩
  have hB : Below w.heap.size w W0 := by rw [hW0]; exact (((Below.refl _ _).alloc (Nat.le_refl _) _).alloc (by simp) _).alloc (by simp; omega) _
  have hs0 : W0.heap.size = w.heap.size + 1 + 1 + 1 := by rw [hW0]; simp
  have K0 : Hid (Blk W0 w.heap.size 46 [r, t, c]) := by rw [hW0]; exact ((three_new w r t c _).below ((Below.refl _ _).alloc (Nat.le_refl _) _)).below ((Below.refl _ _).alloc (Nat.le_refl _) _)
  have K1 : Hid (Blk W0 (w.heap.size + 1) 30 [.slice none 0 0, .slice none 0 0, .slice none 0 0]) := by
    have h := (three_new (w.alloc (.cells #[r, t, c] 46)) (.slice none 0 0) (.slice none 0 0) (.slice none 0 0) 30).below ((Below.refl _ _).alloc (Nat.le_refl _) (.cells #[.slice none 0 0, .slice none 0 0, .slice none 0 0] 30))
    show Blk W0 (w.heap.size + 1) 30 _
    rw [hW0]
    simpa using h
  have K2 : Hid (Blk W0 (w.heap.size + 1 + 1) 30 [.slice none 0 0, .slice none 0 0, .slice none 0 0]) := by
    have h := three_new ((w.alloc (.cells #[r, t, c] 46)).alloc (.cells #[.slice none 0 0, .slice none 0 0, .slice none 0 0] 30)) (.slice none 0 0) (.slice none 0 0) (.slice none 0 0) 30
    show Blk W0 (w.heap.size + 1 + 1) 30 _
    rw [hW0]
    simpa using h
  have A0 := Lib.hid hB
  have H1 : Hid (Calls Tryz.prog 27 #[r] W0 fun e w' => ∃ g, e = .returned (.slice (some ⟨g, 0, none⟩) b.rs.length b.rs.length) ∧ OwnRl w' W0.heap.size (.slice (some ⟨g, 0, none⟩) b.rs.length b.rs.length) b.rs ∧ Below W0.heap.size W0 w') := toRulsArg r b.rs W0 (by omega) (hr.below hB)
  have HT := Lib.hid ht
  have HC := Lib.hid hc
  obtain ⟨ar, capr, rfl, -, -⟩ := hr
  obtain ⟨at', capt, rfl, -, -⟩ := ht
  obtain ⟨ac, capc, rfl, -, -⟩ := hc
  clear hB
  subst hW0
  go_enter Tryz.func17, Tryz.ntmps17
  go_wp2_with fail
  (go_at_call 27; refine H1.out.mono ?_; rintro e w1 ⟨g1, rfl, own1, b1⟩)
  rw [hs0] at own1
  have O1 : Hid (OwnRl w1 (w.heap.size + 1 + 1 + 1) (.slice (some ⟨g1, 0, none⟩) b.rs.length b.rs.length) b.rs) := own1
  have A1 := Lib.hid (A0.out.trans (b1.mono A0.out.size))
  have P1 := Lib.hid (K0.out.below b1)
  have Q1 := Lib.hid (K1.out.below b1)
  have R1 := Lib.hid (K2.out.below b1)
  have z1 : w.heap.size + 1 + 1 + 1 ≤ w1.heap.size := by have := b1.size; omega
  clear own1 b1 H1 hs0 A0 K0 K1 K2
  obtain ⟨⟨k0, k1, k2⟩, -⟩ := three_all P1.out
  obtain ⟨⟨r0, r1, r2⟩, f0, f1, f2⟩ := three_all R1.out
  go_wp2_with fail
  clear k0 k1 k2 r0 r1 r2 f0 f1 f2
  obtain ⟨W2, hW2⟩ : ∃ W, W = w1.setCell ⟨w.heap.size + 1 + 1, 0, none⟩ (.slice (some ⟨g1, 0, none⟩) b.rs.length b.rs.length) := ⟨_, rfl⟩
  rw [← hW2]
  have A2 : Hid (Below w.heap.size w W2) := by show Below w.heap.size w W2; rw [hW2]; exact A1.out.setCell (by simp; omega) _
  have O2 : Hid (OwnRl W2 (w.heap.size + 1 + 1 + 1) (.slice (some ⟨g1, 0, none⟩) b.rs.length b.rs.length) b.rs) := by show OwnRl W2 _ (.slice (some ⟨g1, 0, none⟩) b.rs.length b.rs.length) b.rs; rw [hW2]; exact ownsRow_setCell_below (a := ⟨w.heap.size + 1 + 1, 0, none⟩) O1.out (by simp) _
  have P2 : Hid (Blk W2 w.heap.size 46 [.slice ar b.rs.length capr, .slice at' b.es.length capt, .slice ac b.cs.length capc]) := by show Blk W2 _ _ _; rw [hW2]; exact P1.out.far (by simp; omega) _
  have Q2 : Hid (Blk W2 (w.heap.size + 1) 30 [.slice none 0 0, .slice none 0 0, .slice none 0 0]) := by show Blk W2 _ _ _; rw [hW2]; exact Q1.out.far (by simp) _
  have R2 : Hid (Blk W2 (w.heap.size + 1 + 1) 30 [(.slice (some ⟨g1, 0, none⟩) b.rs.length b.rs.length), .slice none 0 0, .slice none 0 0]) := by show Blk W2 _ _ _; rw [hW2]; exact R1.out.set 0 (.slice (some ⟨g1, 0, none⟩) b.rs.length b.rs.length)
  have z2 : w.heap.size + 1 + 1 + 1 ≤ W2.heap.size := by rw [hW2]; simpa using z1
  clear hW2 A1 O1 P1 Q1 R1
  (go_at_call 58; refine (toTabOwn _ b.es W2 (by omega) (HT.out.below A2.out)).mono ?_; rintro e w3 ⟨u, rfl, ⟨⟨g2, c2, rfl, -⟩, own3⟩, b3⟩)
  have T3 : Hid (OwnTab w3 (w.heap.size + 1 + 1 + 1) (.slice (some ⟨g2, 0, none⟩) b.es.length c2) b.es) := OwnTab.mono own3 z2
  have O3 := Lib.hid (own_later O2.out b3)
  have A3 := Lib.hid (A2.out.trans (b3.mono A2.out.size))
  have P3 := Lib.hid (P2.out.below b3)
  have Q3 := Lib.hid (Q2.out.below b3)
  have R3 := Lib.hid (R2.out.below b3)
  have z3 : w.heap.size + 1 + 1 + 1 ≤ w3.heap.size := by have := b3.size; omega
  clear own3 b3 A2 O2 P2 Q2 R2 HT
  obtain ⟨⟨k0, k1, k2⟩, -⟩ := three_all P3.out
  obtain ⟨⟨r0, r1, r2⟩, f0, f1, f2⟩ := three_all R3.out
  go_wp2_with fail
  clear k0 k1 k2 r0 r1 r2 f0 f1 f2
  obtain ⟨W4, hW4⟩ : ∃ W, W = w3.setCell ⟨w.heap.size + 1 + 1, 1, none⟩ (.slice (some ⟨g2, 0, none⟩) b.es.length c2) := ⟨_, rfl⟩
  rw [← hW4]
  have A4 : Hid (Below w.heap.size w W4) := by show Below w.heap.size w W4; rw [hW4]; exact A3.out.setCell (by simp; omega) _
  have O4 : Hid (OwnRl W4 (w.heap.size + 1 + 1 + 1) (.slice (some ⟨g1, 0, none⟩) b.rs.length b.rs.length) b.rs) := by show OwnRl W4 _ (.slice (some ⟨g1, 0, none⟩) b.rs.length b.rs.length) b.rs; rw [hW4]; exact ownsRow_setCell_below (a := ⟨w.heap.size + 1 + 1, 1, none⟩) O3.out (by simp) _
  have T4 : Hid (OwnTab W4 (w.heap.size + 1 + 1 + 1) (.slice (some ⟨g2, 0, none⟩) b.es.length c2) b.es) := by show OwnTab W4 _ (.slice (some ⟨g2, 0, none⟩) b.es.length c2) b.es; rw [hW4]; exact ownsRow_setCell_below (a := ⟨w.heap.size + 1 + 1, 1, none⟩) T3.out (by simp) _
  have Q4 : Hid (Blk W4 (w.heap.size + 1) 30 [.slice none 0 0, .slice none 0 0, .slice none 0 0]) := by show Blk W4 _ _ _; rw [hW4]; exact Q3.out.far (by simp) _
  have R4 : Hid (Blk W4 (w.heap.size + 1 + 1) 30 [(.slice (some ⟨g1, 0, none⟩) b.rs.length b.rs.length), (.slice (some ⟨g2, 0, none⟩) b.es.length c2), .slice none 0 0]) := by show Blk W4 _ _ _; rw [hW4]; exact R3.out.set 1 (.slice (some ⟨g2, 0, none⟩) b.es.length c2)
  have z4 : w.heap.size + 1 + 1 + 1 ≤ W4.heap.size := by rw [hW4]; simpa using z3
  clear hW4 A3 O3 T3 P3 Q3 R3
  (go_at_call 59; refine (toConnsArg _ b.cs W4 (by omega) (HC.out.below A4.out)).mono ?_; rintro e w5 ⟨g3, rfl, own5, b5⟩)
  have C5 : Hid (OwnCn w5 (w.heap.size + 1 + 1 + 1) (.slice (some ⟨g3, 0, none⟩) b.cs.length b.cs.length) b.cs) := own_lower own5 z4
  have O5 := Lib.hid (own_later O4.out b5)
  have T5 := Lib.hid (own_later T4.out b5)
  have A5 := Lib.hid (A4.out.trans (b5.mono A4.out.size))
  have Q5 := Lib.hid (Q4.out.below b5)
  have R5 := Lib.hid (R4.out.below b5)
  have z5 : w.heap.size + 1 + 1 + 1 ≤ w5.heap.size := by have := b5.size; omega
  clear own5 b5 A4 O4 T4 Q4 R4 HC
  obtain ⟨W6, hW6⟩ : ∃ W, W = w5.setCell ⟨w.heap.size + 1 + 1, 2, none⟩ (.slice (some ⟨g3, 0, none⟩) b.cs.length b.cs.length) := ⟨_, rfl⟩
  have A6 : Hid (Below w.heap.size w W6) := by show Below w.heap.size w W6; rw [hW6]; exact A5.out.setCell (by simp; omega) _
  have O6 : Hid (OwnRl W6 (w.heap.size + 1 + 1 + 1) (.slice (some ⟨g1, 0, none⟩) b.rs.length b.rs.length) b.rs) := by show OwnRl W6 _ (.slice (some ⟨g1, 0, none⟩) b.rs.length b.rs.length) b.rs; rw [hW6]; exact ownsRow_setCell_below (a := ⟨w.heap.size + 1 + 1, 2, none⟩) O5.out (by simp) _
  have T6 : Hid (OwnTab W6 (w.heap.size + 1 + 1 + 1) (.slice (some ⟨g2, 0, none⟩) b.es.length c2) b.es) := by show OwnTab W6 _ (.slice (some ⟨g2, 0, none⟩) b.es.length c2) b.es; rw [hW6]; exact ownsRow_setCell_below (a := ⟨w.heap.size + 1 + 1, 2, none⟩) T5.out (by simp) _
  have C6 : Hid (OwnCn W6 (w.heap.size + 1 + 1 + 1) (.slice (some ⟨g3, 0, none⟩) b.cs.length b.cs.length) b.cs) := by show OwnCn W6 _ (.slice (some ⟨g3, 0, none⟩) b.cs.length b.cs.length) b.cs; rw [hW6]; exact ownsRow_setCell_below (a := ⟨w.heap.size + 1 + 1, 2, none⟩) C5.out (by simp) _
  have Q6 : Hid (Blk W6 (w.heap.size + 1) 30 [.slice none 0 0, .slice none 0 0, .slice none 0 0]) := by show Blk W6 _ _ _; rw [hW6]; exact Q5.out.far (by simp) _
  obtain ⟨q0, q1, q2⟩ := (three_all (three_set Q6.out (.slice (some ⟨g1, 0, none⟩) b.rs.length b.rs.length) (.slice (some ⟨g2, 0, none⟩) b.es.length c2) (.slice (some ⟨g3, 0, none⟩) b.cs.length b.cs.length))).1
  rw [hW6] at q0 q1 q2
  obtain ⟨⟨r0, r1, r2⟩, f0, f1, f2⟩ := three_all R5.out
  obtain ⟨⟨s0, s1, s2⟩, h0, h1, h2⟩ := three_all Q5.out
  go_wp2_with fail
  refine bodyPost_ret (v := .agg #[(.slice (some ⟨g1, 0, none⟩) b.rs.length b.rs.length), (.slice (some ⟨g2, 0, none⟩) b.es.length c2), (.slice (some ⟨g3, 0, none⟩) b.cs.length b.cs.length)]) (by simp [results, Tryz.results17, go_sem, q0, q1, q2]) rfl ⟨_, rfl, ⟨g1, g2, c2, g3, rfl, ?_, ?_, ?_⟩, ?_⟩
  all_goals rw [← hW6]
  · exact own_lower (ownsRow_setCell_below (a := ⟨w.heap.size + 1, 2, none⟩) (ownsRow_setCell_below (a := ⟨w.heap.size + 1, 1, none⟩) (ownsRow_setCell_below (a := ⟨w.heap.size + 1, 0, none⟩) O6.out (by simp) _) (by simp) _) (by simp) _) (by omega)
  · exact own_lower (ownsRow_setCell_below (a := ⟨w.heap.size + 1, 2, none⟩) (ownsRow_setCell_below (a := ⟨w.heap.size + 1, 1, none⟩) (ownsRow_setCell_below (a := ⟨w.heap.size + 1, 0, none⟩) T6.out (by simp) _) (by simp) _) (by simp) _) (by omega)
  · exact own_lower (ownsRow_setCell_below (a := ⟨w.heap.size + 1, 2, none⟩) (ownsRow_setCell_below (a := ⟨w.heap.size + 1, 1, none⟩) (ownsRow_setCell_below (a := ⟨w.heap.size + 1, 0, none⟩) C6.out (by simp) _) (by simp) _) (by simp) _) (by omega)
  · exact ((A6.out.setCell (by simp) _).setCell (by simp) _).setCell (by simp) _

end Go.Proofs.YtglpijjkihpeeaaGreatDoor

/- A box's streams as the program asks of them: it is what the specification asks. No condition. -/
namespace Go.Proofs.YtglpijjkihpeeaaGreatDoor
open Go.RowKit Go.Sort

theorem portI_ins {es : List (Int × Int)} (hm : mapB es = true) {a p : Int} (h : portI es (a, p) ≠ 0) : insB a p = true := by
  by_cases hmem : (a, p) ∈ es
  · exact mapB_ins hm _ hmem
  · exact absurd (portI_not hmem) h
theorem lines_lin {l : List UInt8} (h : strB l = true) : ∀ x ∈ linesL l, linB x = true := by
  unfold strB at h
  simp only [Bool.and_eq_true] at h
  exact List.all_eq_true.1 h.1.2
theorem bakE_back {es : List (Int × Int)} {l : List UInt8} (hm : mapB es = true) (hl : linB l = true) : bakE es l = backE es l := if_pos ⟨hm, hl⟩
/-- Whether streams are ok, in the order in which the program asks. -/
def conI (es : List (Int × Int)) (c : Cn) : Bool := decide (portI es (c.ia, c.ip) ≠ 0) && outB c.oa c.op && decide (c.op = 21) && (strB c.kn.data.toList && knowB es c.kn.data.toList) && (strB c.he.data.toList && nearB es c.he.data.toList c.ne.data.toList)
theorem conI_eq {es : List (Int × Int)} (hm : mapB es = true) (c : Cn) : conI es c = conB es c := by
  unfold conI conB
  by_cases h : portI es (c.ia, c.ip) ≠ 0
  · rw [portI_ins hm h, decide_eq_true h]
    cases outB c.oa c.op <;> cases decide (c.op = 21) <;> cases strB c.kn.data.toList <;> cases strB c.he.data.toList <;> cases knowB es c.kn.data.toList <;> simp
  · rw [decide_eq_false h]
    simp
theorem findCn_form (cs : List Cn) (ia ip oa op : Int) : (findCn cs ia ip oa op = -1 ∧ ∀ j (hj : j < cs.length), sameCn cs[j] ia ip oa op = false) ∨ ∃ k, ∃ hk : k < cs.length, findCn cs ia ip oa op = (k : Int) ∧ sameCn cs[k] ia ip oa op = true ∧ ∀ j (hj : j < k), sameCn (cs[j]'(by omega)) ia ip oa op = false := by
  unfold findCn
  cases h : cs.findIdx? (fun c => sameCn c ia ip oa op) with
  | none =>
    refine Or.inl ⟨rfl, fun j hj => ?_⟩
    rw [List.findIdx?_eq_none_iff] at h
    exact h _ (List.getElem_mem hj)
  | some k =>
    rw [List.findIdx?_eq_some_iff_getElem] at h
    obtain ⟨hk, h1, h2⟩ := h
    exact Or.inr ⟨k, hk, rfl, h1, fun j hj => by simpa using h2 j hj⟩
theorem find_take {cs : List Cn} {k : Nat} (hk : k < cs.length) {ia ip oa op : Int} (hs : sameCn cs[k] ia ip oa op = true) : decide (findCn (cs.take k) ia ip oa op < 0) = decide (findCn cs ia ip oa op = (k : Int)) := by
  rcases findCn_form (cs.take k) ia ip oa op with ⟨h1, h2⟩ | ⟨j, hj, h1, h2, h3⟩
  · have hl : (cs.take k).length = k := by rw [List.length_take]; omega
    have : findCn cs ia ip oa op = k := findCn_hit hk hs fun j hj => by
      have := h2 j (by omega)
      rwa [List.getElem_take] at this
    rw [h1, this]
    simp
  · have hl : (cs.take k).length = k := by rw [List.length_take]; omega
    rw [List.getElem_take] at h2
    have hjk : j < k := by omega
    have : findCn cs ia ip oa op = j := findCn_hit (by omega) h2 fun i hi => by
      have := h3 i hi
      rwa [List.getElem_take] at this
    rw [h1, this, decide_eq_false (by omega), decide_eq_false (by omega)]
theorem connB_I {es : List (Int × Int)} (hm : mapB es = true) {cs : List Cn} {k : Nat} (hk : k < cs.length) (c : Cn) (hc : c = cs[k]) :
    connB es cs k = (decide (findCn cs c.ia c.ip c.oa c.op = (k : Int)) && conI es c) := by
  unfold connB
  rw [show cs.getD k default = c from by simp [List.getD, hk, hc], conI_eq hm, find_take hk (by rw [← hc]; simp [sameCn]), Bool.and_comm]
theorem all_no {P : Nat → Bool} {n k : Nat} (hk : k < n) (h : P k = false) : (List.range n).all P = false :=
  List.all_eq_false.2 ⟨k, by simpa using hk, by simp [h]⟩
theorem all_yes {P : Nat → Bool} {n : Nat} (h : ∀ j, j < n → P j = true) : (List.range n).all P = true :=
  List.all_eq_true.2 (fun j hj => h j (by simpa using hj))

end Go.Proofs.YtglpijjkihpeeaaGreatDoor

/- RulMay of the specification, at rules in memory and two ends. Condition: at most 2^22 rules. -/
namespace Go.Proofs.YtglpijjkihpeeaaGreatDoor
open Go.RowKit

theorem rulesB_no {l : List Rl} {k : Nat} (hk : k < l.length) (h : ruleB l[k] = false) : rulesB l = false := by
  unfold rulesB
  rw [show l.all ruleB = false from List.all_eq_false.2 ⟨l[k], List.getElem_mem _, by simp [h]⟩]; simp
theorem rulesB_yes {l : List Rl} (h5 : l.length ≤ 5) (h : ∀ r ∈ l, ruleB r = true) : rulesB l = true := by
  unfold rulesB
  rw [List.all_eq_true.2 h, decide_eq_true h5]; rfl
theorem take_all_snoc {l : List Rl} {k : Nat} (hk : k < l.length) (h : ∀ r ∈ l.take k, ruleB r = true) (h2 : ruleB l[k] = true) : ∀ r ∈ l.take (k + 1), ruleB r = true := by
  intro r hr
  rw [List.take_succ_eq_append_getElem hk] at hr
  rcases List.mem_append.1 hr with hr | hr
  · exact h r hr
  · simp at hr; subst hr; exact h2
theorem may_step {l : List Rl} {k : Nat} (hk : k < l.length) (ia oa op : Int) : mayL (l.drop k) ia oa op = if aboutB l[k] ia oa op = true then l[k].al else mayL (l.drop (k + 1)) ia oa op := by
  rw [List.drop_eq_getElem_cons hk]; rfl

set_option maxRecDepth 100000 in
set_option maxHeartbeats 1600000 in
theorem specRules_any (v : Value) (l : List Rl) (w : World) (hn : l.length ≤ 4194304) (hv : RdRl w v l) :
    Calls Tryz.prog 43 #[v] w fun e w' => e = .returned (.bool (rulesB l)) ∧ Below w.heap.size w w' := by
  obtain ⟨av, cv, rfl, hcv, hrv⟩ := hv
  have HV := Lib.hid hrv
  clear hrv
  by_cases h5 : l.length ≤ 5
  · obtain ⟨q, hq⟩ : ∃ q, q = rulesB l := ⟨_, rfl⟩
    have HQ := Lib.hid hq
    rw [← hq]
    clear hq
    go_enter Tryz.func43, Tryz.ntmps43
    go_wp2
    go_loopw [3] (fun i wr => ∃ k : Nat, k ≤ l.length ∧ i = .int .i64 k ∧ Hid (∀ r ∈ l.take k, ruleB r = true) ∧ Below w.heap.size w wr) (fun i _ => l.length - (intOf i).toNat)
    case atStart => exact ⟨0, Nat.zero_le _, rfl, fun r hr => by simp at hr, Below.refl _ _⟩
    case round =>
      obtain ⟨k, hk, rfl, HD, hb⟩ := hrel
      by_cases hlt : k < l.length
      · obtain ⟨g1, o1, rfl, hg1, hr1⟩ := HV.out (by omega)
        obtain ⟨⟨al, a, b, c, d, e, f⟩, hap⟩ : ∃ x, x = l[k] := ⟨_, rfl⟩
        obtain ⟨p0, p1, p2, p3, p4, p5, p6⟩ := rl_seven hr1 k hlt al a b c d e f hap
        rw [← hb.cell (by exact hg1)] at p0 p1 p2 p3 p4 p5 p6
        have hk1 : (k : Int) ≤ (cv : Int) := by omega
        have hk3 : (k : Int) < (l.length : Int) := by omega
        cases ht : ruleB ⟨al, a, b, c, d, e, f⟩
        · have HF : Hid (q = false) := HQ.out.trans (rulesB_no hlt (by rw [← hap]; exact ht))
          have HM : Hid (∀ w, Calls Tryz.prog 10 #[.agg #[.bool al, .int .i64 a, .int .i64 b, .int .i64 c, .int .i64 d, .int .i64 e, .int .i64 f]] w fun e w' => e = .returned (.bool false) ∧ Below w.heap.size w w') := fun w => by rw [← ht]; exact specRulOk_any al a b c d e f w
          clear hr1 hap ht
          go_wp2_with (go_at_call 10; refine (HM.out _).mono ?_; rintro e' w2 ⟨rfl, b2⟩)
          go_ret
          exact ⟨ret_bool HF.out.symm, hb.trans (b2.mono hb.size)⟩
        · have HF : Hid (∀ r ∈ l.take (k + 1), ruleB r = true) := take_all_snoc hlt HD.out (by rw [← hap]; exact ht)
          have HM : Hid (∀ w, Calls Tryz.prog 10 #[.agg #[.bool al, .int .i64 a, .int .i64 b, .int .i64 c, .int .i64 d, .int .i64 e, .int .i64 f]] w fun e w' => e = .returned (.bool true) ∧ Below w.heap.size w w') := fun w => by rw [← ht]; exact specRulOk_any al a b c d e f w
          clear hr1 hap ht
          go_wp2_with (go_at_call 10; refine (HM.out _).mono ?_; rintro e' w2 ⟨rfl, b2⟩)
          go_roundw
          case rel => exact ⟨k + 1, by omega, by go_num, HF, hb.trans (b2.mono hb.size)⟩
          case measure => simp [intOf]; omega
      · have hkn : k = l.length := by omega
        subst hkn
        have HF : Hid (q = true) := HQ.out.trans (rulesB_yes h5 (by have := HD.out; rwa [List.take_of_length_le (Nat.le_refl _)] at this))
        go_wp2
        go_ret
        exact ⟨ret_bool HF.out.symm, hb⟩
  · have HF : Hid (rulesB l = false) := by show _ = _; unfold rulesB; rw [decide_eq_false h5]; rfl
    go_enter Tryz.func43, Tryz.ntmps43
    go_wp2
    go_ret
    exact ⟨ret_bool HF.out.symm, Below.refl _ _⟩

end Go.Proofs.YtglpijjkihpeeaaGreatDoor

/- Whether a box is ok, as the specification asks. Condition: lists and texts of at most 2^20. -/
namespace Go.Proofs.YtglpijjkihpeeaaGreatDoor
open Go.RowKit Go.Sort

theorem cnSz_of {cs : List Cn} (h : cnIn cs 1048576) : cnSz cs := fun c hc => by have := h c hc; omega

set_option maxRecDepth 100000 in
set_option maxHeartbeats 3200000 in
theorem specBoxOk_any (B : Nat) (v : Value) (b : Bx) (w : World) (hs : bxSz b) (hB : B ≤ w.heap.size) (ho : OwnBx w B v b) :
    Calls Tryz.prog 51 #[v] w fun e w' => e = .returned (.bool (boxOkB b)) ∧ Below w.heap.size w w' := by
  obtain ⟨g1, g2, c2, g3, rfl, o1, o2, o3⟩ := ho
  obtain ⟨m1, m2, m3, m4⟩ := hs
  obtain ⟨W0, hW0⟩ : ∃ W, W = w.alloc (.cells #[.slice (some ⟨g1, 0, none⟩) b.rs.length b.rs.length, .slice (some ⟨g2, 0, none⟩) b.es.length c2, .slice (some ⟨g3, 0, none⟩) b.cs.length b.cs.length] 30) := ⟨_, rfl⟩
  have hA : Below w.heap.size w W0 := by rw [hW0]; exact (Below.refl _ _).alloc (Nat.le_refl _) _
  have K1 : Blk W0 w.heap.size 30 [.slice (some ⟨g1, 0, none⟩) b.rs.length b.rs.length, .slice (some ⟨g2, 0, none⟩) b.es.length c2, .slice (some ⟨g3, 0, none⟩) b.cs.length b.cs.length] := by rw [hW0]; exact three_new w _ _ _ _
  have KK : Hid (∀ w', Below W0.heap.size W0 w' → w'.cell? ⟨w.heap.size, 0, none⟩ = some (.slice (some ⟨g1, 0, none⟩) b.rs.length b.rs.length) ∧ w'.cell? ⟨w.heap.size, 1, none⟩ = some (.slice (some ⟨g2, 0, none⟩) b.es.length c2) ∧ w'.cell? ⟨w.heap.size, 2, none⟩ = some (.slice (some ⟨g3, 0, none⟩) b.cs.length b.cs.length)) := fun w' h => (three_all (K1.below h)).1
  have HA : Hid (∀ w', Below W0.heap.size W0 w' → Below w.heap.size w w') := fun w' h => hA.trans (h.mono hA.size)
  have HM : Hid (∀ w', Below w.heap.size w w' → Calls Tryz.prog 108 #[.agg #[.slice (some ⟨g2, 0, none⟩) b.es.length c2]] w' fun e w'' => e = .returned (.bool (mapB b.es)) ∧ Below w'.heap.size w' w'') := fun w' h => specMapOk_any _ b.es w' (by omega) (OwnTab.tab (own_later o2 h))
  have HR : Hid (∀ w', Below w.heap.size w w' → Calls Tryz.prog 43 #[.slice (some ⟨g1, 0, none⟩) b.rs.length b.rs.length] w' fun e w'' => e = .returned (.bool (rulesB b.rs)) ∧ Below w'.heap.size w' w'') := fun w' h => specRules_any _ b.rs w' (by omega) (o1.rd.below h)
  have HC : Hid (mapB b.es = true → ∀ k, k < b.cs.length → ∀ w', Below w.heap.size w w' → Calls Tryz.prog 109 #[.agg #[.slice (some ⟨g1, 0, none⟩) b.rs.length b.rs.length, .slice (some ⟨g2, 0, none⟩) b.es.length c2, .slice (some ⟨g3, 0, none⟩) b.cs.length b.cs.length], .int .i64 k] w' fun e w'' => e = .returned (.bool (connB b.es b.cs k)) ∧ Below w'.heap.size w' w'') := fun hm k hk w' h =>
    specConn_any B _ _ _ _ c2 b.es _ _ b.cs k w' hm (Nat.le_trans hB h.size) (own_later o2 h) (o3.rd.below h) hk (by omega) (cnSz_of m4)
  have HQ : Hid (boxOkB b = (mapB b.es && rulesB b.rs && decide (b.cs.length ≤ 3) && (List.range b.cs.length).all (connB b.es b.cs))) := rfl
  obtain ⟨Q, hQ⟩ : ∃ Q, Q = boxOkB b := ⟨_, rfl⟩
  obtain ⟨q1, e1⟩ : ∃ q, q = mapB b.es := ⟨_, rfl⟩
  obtain ⟨q2, e2⟩ : ∃ q, q = rulesB b.rs := ⟨_, rfl⟩
  obtain ⟨P, hP⟩ : ∃ P, P = connB b.es b.cs := ⟨_, rfl⟩
  obtain ⟨n1, hn1⟩ : ∃ n, n = b.rs.length := ⟨_, rfl⟩
  obtain ⟨n2, hn2⟩ : ∃ n, n = b.es.length := ⟨_, rfl⟩
  obtain ⟨n3, hn3⟩ : ∃ n, n = b.cs.length := ⟨_, rfl⟩
  rw [← hQ] at HQ ⊢
  rw [← e1] at HM HC HQ
  rw [← e2] at HR HQ
  rw [← hP] at HC HQ
  rw [← hn1] at KK HR HC hW0 ⊢
  rw [← hn2] at KK HM HC hW0 ⊢
  rw [← hn3] at KK HC HQ hW0 m3 ⊢
  have BB : Hid (Below W0.heap.size W0 W0) := Below.refl _ _
  clear hQ e1 e2 hP hn1 hn2 hn3 o1 o2 o3 m1 m2 m4 K1 hA hB
  subst hW0
  cases q1
  · have hq : Q = false := by have := HQ.out; simpa using this
    subst hq
    clear HQ HC
    go_enter Tryz.func51, Tryz.ntmps51
    go_wp2_with fail
    (go_at_call 108; refine (HM.out _ (HA.out _ BB.out)).mono ?_; rintro e w1 ⟨rfl, b1⟩)
    go_wp2_with fail
    go_ret
    exact ⟨rfl, HA.out _ b1⟩
  have HC2 := Lib.hid (HC.out rfl)
  clear HC
  cases q2
  · have hq : Q = false := by have := HQ.out; simpa using this
    subst hq
    clear HQ HC2
    go_enter Tryz.func51, Tryz.ntmps51
    go_wp2_with fail
    (go_at_call 108; refine (HM.out _ (HA.out _ BB.out)).mono ?_; rintro e w1 ⟨rfl, b1⟩)
    obtain ⟨k0, k1, k2⟩ := KK.out _ b1
    have B1 := Lib.hid b1
    clear b1
    go_wp2_with fail
    (go_at_call 43; refine (HR.out _ (HA.out _ B1.out)).mono ?_; rintro e w2 ⟨rfl, b2⟩)
    go_wp2_with fail
    go_ret
    exact ⟨rfl, HA.out _ (B1.out.trans (b2.mono B1.out.size))⟩
  by_cases h3 : 3 < n3
  · have hq : Q = false := by have := HQ.out; simpa [show ¬ n3 ≤ 3 by omega] using this
    subst hq
    clear HQ HC2
    go_enter Tryz.func51, Tryz.ntmps51
    go_wp2_with fail
    (go_at_call 108; refine (HM.out _ (HA.out _ BB.out)).mono ?_; rintro e w1 ⟨rfl, b1⟩)
    obtain ⟨k0, k1, k2⟩ := KK.out _ b1
    have B1 := Lib.hid b1
    clear b1
    go_wp2_with fail
    (go_at_call 43; refine (HR.out _ (HA.out _ B1.out)).mono ?_; rintro e w2 ⟨rfl, b2⟩)
    have B2 := Lib.hid (B1.out.trans (b2.mono B1.out.size))
    obtain ⟨k0', k1', k2'⟩ := KK.out _ B2.out
    clear b2
    go_wp2_with fail
    go_ret
    exact ⟨rfl, HA.out _ B2.out⟩
  have HQ2 : Hid (Q = (List.range n3).all P) := by
    show Q = _
    have := HQ.out
    rw [decide_eq_true (by omega : n3 ≤ 3)] at this
    simpa using this
  clear HQ
  go_enter Tryz.func51, Tryz.ntmps51
  go_wp2_with fail
  (go_at_call 108; refine (HM.out _ (HA.out _ BB.out)).mono ?_; rintro e w1 ⟨rfl, b1⟩)
  obtain ⟨k0, k1, k2⟩ := KK.out _ b1
  have B1 := Lib.hid b1
  clear b1
  go_wp2_with fail
  (go_at_call 43; refine (HR.out _ (HA.out _ B1.out)).mono ?_; rintro e w2 ⟨rfl, b2⟩)
  have B2 := Lib.hid (B1.out.trans (b2.mono B1.out.size))
  obtain ⟨k0', k1', k2'⟩ := KK.out _ B2.out
  clear b2 k0 k1 k2
  go_wp2_with fail
  clear k0' k1' k2'
  go_loopw [3] (fun i wr => ∃ k : Nat, k ≤ n3 ∧ i = .int .i64 k ∧ Hid (∀ j, j < k → P j = true) ∧ Hid (Below (w.alloc (.cells #[.slice (some ⟨g1, 0, none⟩) n1 n1, .slice (some ⟨g2, 0, none⟩) n2 c2, .slice (some ⟨g3, 0, none⟩) n3 n3] 30)).heap.size (w.alloc (.cells #[.slice (some ⟨g1, 0, none⟩) n1 n1, .slice (some ⟨g2, 0, none⟩) n2 c2, .slice (some ⟨g3, 0, none⟩) n3 n3] 30)) wr)) (fun i _ => n3 - (intOf i).toNat)
  case atStart => exact ⟨0, Nat.zero_le _, rfl, fun j hj => by omega, B2⟩
  case round =>
    obtain ⟨k, hk, rfl, HD, HB⟩ := hrel
    obtain ⟨k0, k1, k2⟩ := KK.out _ HB.out
    by_cases hlt : k < n3
    · cases hp : P k
      · have HF : Hid (Q = false) := HQ2.out.trans (all_no hlt hp)
        have HK : Hid (∀ w', Below w.heap.size w w' → Calls Tryz.prog 109 #[.agg #[.slice (some ⟨g1, 0, none⟩) n1 n1, .slice (some ⟨g2, 0, none⟩) n2 c2, .slice (some ⟨g3, 0, none⟩) n3 n3], .int .i64 k] w' fun e w'' => e = .returned (.bool false) ∧ Below w'.heap.size w' w'') := fun w' h => by have := HC2.out k hlt w' h; rwa [hp] at this
        clear hp HQ2
        go_wp2_with (go_at_call 109; refine (HK.out _ (HA.out _ HB.out)).mono ?_; rintro e w3 ⟨rfl, b3⟩)
        go_ret
        exact ⟨ret_bool HF.out.symm, HA.out _ (HB.out.trans (b3.mono HB.out.size))⟩
      · have HN : Hid (∀ j, j < k + 1 → P j = true) := fun j hj => by
          by_cases e : j = k
          · subst e; exact hp
          · exact HD.out j (by omega)
        have HK : Hid (∀ w', Below w.heap.size w w' → Calls Tryz.prog 109 #[.agg #[.slice (some ⟨g1, 0, none⟩) n1 n1, .slice (some ⟨g2, 0, none⟩) n2 c2, .slice (some ⟨g3, 0, none⟩) n3 n3], .int .i64 k] w' fun e w'' => e = .returned (.bool true) ∧ Below w'.heap.size w' w'') := fun w' h => by have := HC2.out k hlt w' h; rwa [hp] at this
        clear hp HQ2
        go_wp2_with (go_at_call 109; refine (HK.out _ (HA.out _ HB.out)).mono ?_; rintro e w3 ⟨rfl, b3⟩)
        go_roundw
        case rel => exact ⟨k + 1, by omega, by go_num, HN, HB.out.trans (b3.mono HB.out.size)⟩
        case measure => simp [intOf]; omega
    · have HT : Hid (Q = true) := HQ2.out.trans (all_yes fun j hj => HD.out j (by omega))
      have hkn : k = n3 := by omega
      clear HQ2 HD
      go_wp2
      go_ret
      exact ⟨ret_bool HT.out.symm, HA.out _ HB.out⟩

end Go.Proofs.YtglpijjkihpeeaaGreatDoor

/- Plain facts: a text's lines are those that are cut off one by one at the sign that ends a line; what is behind the last such sign. No program. No condition. -/
namespace Go.Proofs.YtglpijjkihpeeaaGreatDoor

theorem indexK_none {b0 : UInt8} {l : List UInt8} (h : Lib.index l [b0] < 0) : ∀ c ∈ l, c ≠ b0 := by
  induction l with
  | nil => simp
  | cons b r ih =>
    unfold Lib.index at h
    intro c hc
    split at h
    · omega
    · rename_i hb
      have hb' : b ≠ b0 := by
        intro e; subst e; simp at hb
      have hge := Lib.index_ge r [b0]
      split at h
      · rename_i h2
        have h2' : Lib.index r [b0] = -1 := by simpa using h2
        rcases List.mem_cons.1 hc with rfl | hc
        · exact hb'
        · exact ih (by omega) c hc
      · rename_i h2
        have h2' : Lib.index r [b0] ≠ -1 := by simpa using h2
        omega
theorem cutK_yes {b0 : UInt8} {l : List UInt8} (h : 0 ≤ Lib.index l [b0]) : l = (Lib.cut l [b0]).1 ++ b0 :: (Lib.cut l [b0]).2.1 ∧ ∀ c ∈ (Lib.cut l [b0]).1, c ≠ b0 := by
  unfold Lib.cut
  rw [if_pos h]
  simp only [List.length_singleton]
  induction l with
  | nil => simp [Lib.index] at h
  | cons b r ih =>
    by_cases hb : b = b0
    · subst hb
      have e : Lib.index (b :: r) [b] = 0 := by simp [Lib.index]
      rw [e]; simp
    · have hp : List.isPrefixOf [b0] (b :: r) = false := by
        show (b0 == b && List.isPrefixOf [] r) = false
        rw [show (b0 == b) = false by (simp; exact fun e => hb e.symm)]; rfl
      have hge := Lib.index_ge r [b0]
      by_cases h2 : Lib.index r [b0] = -1
      · have e : Lib.index (b :: r) [b0] = -1 := by unfold Lib.index; rw [hp]; simp [h2]
        omega
      · have e : Lib.index (b :: r) [b0] = Lib.index r [b0] + 1 := by
          rw [Lib.index, hp]; simp [h2]
        rw [e]
        have h3 : 0 ≤ Lib.index r [b0] := by omega
        obtain ⟨i1, i2⟩ := ih h3
        have e3 : (Lib.index r [b0] + 1).toNat = (Lib.index r [b0]).toNat + 1 := by omega
        rw [e3]
        refine ⟨?_, ?_⟩
        · rw [List.take_succ_cons, show (Lib.index r [b0]).toNat + 1 + 1 = ((Lib.index r [b0]).toNat + 1) + 1 from rfl, List.drop_succ_cons, List.cons_append, ← i1]
        · intro c hc
          rw [List.take_succ_cons] at hc
          rcases List.mem_cons.1 hc with rfl | hc
          · exact hb
          · exact i2 c hc
theorem cutK_no {b0 : UInt8} {l : List UInt8} (h : ¬ 0 ≤ Lib.index l [b0]) : Lib.cut l [b0] = (l, [], false) := by unfold Lib.cut; rw [if_neg h]

theorem stl_plain (l : List UInt8) (x : List (List UInt8) × List UInt8) (h : ∀ c ∈ l, c ≠ 59) : l.foldl stl x = (x.1, x.2 ++ l) := by
  induction l generalizing x with
  | nil => simp
  | cons c r ih =>
    rw [List.foldl_cons, ih _ (fun c hc => h c (by simp [hc]))]
    unfold stl; rw [if_neg (h c (by simp))]; simp
theorem stl_shift (l : List UInt8) (a x : List (List UInt8)) (y : List UInt8) : l.foldl stl (a ++ x, y) = (a ++ (l.foldl stl (x, y)).1, (l.foldl stl (x, y)).2) := by
  induction l generalizing x y with
  | nil => rfl
  | cons c r ih =>
    rw [List.foldl_cons, List.foldl_cons]
    by_cases h : c = 59
    · have e1 : stl (a ++ x, y) c = (a ++ (x ++ [y]), []) := by unfold stl; rw [if_pos h]; simp
      have e2 : stl (x, y) c = (x ++ [y], []) := by unfold stl; rw [if_pos h]
      rw [e1, e2, ih]
    · have e1 : stl (a ++ x, y) c = (a ++ x, y ++ [c]) := by unfold stl; rw [if_neg h]
      have e2 : stl (x, y) c = (x, y ++ [c]) := by unfold stl; rw [if_neg h]
      rw [e1, e2, ih]
/-- A text that begins with a line and its sign. -/
theorem linesF_cons {p r : List UInt8} (h : ∀ c ∈ p, c ≠ 59) : linesL (p ++ 59 :: r) = p :: linesL r ∧ restL (p ++ 59 :: r) = restL r := by
  have e : linesF (p ++ 59 :: r) = ([p] ++ (linesF r).1, (linesF r).2) := by
    unfold linesF
    rw [List.foldl_append, stl_plain p _ h, List.foldl_cons]
    have e1 : stl (([] : List (List UInt8)), [] ++ p) 59 = ([p] ++ [], []) := by unfold stl; simp
    show r.foldl stl (stl ([], [] ++ p) 59) = _
    rw [e1, stl_shift]
  constructor
  · show (linesF _).1 = _; rw [e]; rfl
  · show (linesF _).2 = _; rw [e]; rfl
theorem lines_none {l : List UInt8} (h : ∀ c ∈ l, c ≠ 59) : linesL l = [] ∧ restL l = l := by
  have e : linesF l = ([], l) := by unfold linesF; rw [stl_plain l _ h]; rfl
  constructor
  · show (linesF _).1 = _; rw [e]
  · show (linesF _).2 = _; rw [e]
/-- What is behind the last sign. -/
theorem rest_last {p r : List UInt8} (h : ∀ c ∈ r, c ≠ 59) : restL (p ++ 59 :: r) = r := by
  show (linesF _).2 = _
  unfold linesF
  rw [List.foldl_append, List.foldl_cons]
  have e1 : ∀ x, stl x 59 = (x.1 ++ [x.2], []) := fun x => by unfold stl; simp
  rw [e1, stl_plain r _ h]; rfl

theorem lines_cut_yes {l : List UInt8} (h : 0 ≤ Lib.index l [59]) : linesL l = (Lib.cut l [59]).1 :: linesL (Lib.cut l [59]).2.1 := by
  obtain ⟨e, hp⟩ := cutK_yes h
  exact (congrArg linesL e).trans (linesF_cons hp).1
theorem lines_cut_no {l : List UInt8} (h : ¬ 0 ≤ Lib.index l [59]) : linesL l = [] := (lines_none (indexK_none (by omega))).1
theorem cut_len {l : List UInt8} (h : 0 ≤ Lib.index l [59]) : (Lib.cut l [59]).2.1.length < l.length := by
  obtain ⟨e, _⟩ := cutK_yes h
  have := congrArg List.length e
  simp at this; omega

theorem bang_list (s : ByteArray) (j : Nat) (hj : j < s.size) : s.data[j]! = s.data.toList[j]'(by simpa using hj) := by
  rw [getElem!_pos s.data j (by simpa using hj)]; simp
/-- What is behind the last sign, by its place. -/
theorem rest_at (s : ByteArray) : ∃ i : Nat, Lib.lastIndexByte s 59 + 1 = i ∧ i ≤ s.size ∧ restL s.data.toList = s.data.toList.drop i := by
  have hl : s.data.toList.length = s.size := by simp
  rcases Lib.lastIndexByte_spec s 59 with ⟨e, hn⟩ | ⟨i, hi, e, hc, hn⟩
  · refine ⟨0, by omega, by omega, ?_⟩
    rw [List.drop_zero]
    refine (lines_none fun c hm => ?_).2
    obtain ⟨j, hj, rfl⟩ := List.getElem_of_mem hm
    have := hn j (by omega)
    rw [bang_list s j (by omega)] at this
    intro e'; rw [e'] at this; exact this rfl
  · refine ⟨i + 1, by omega, by omega, ?_⟩
    have hc' : s.data.toList[i]'(by omega) = 59 := by
      rw [bang_list s i hi] at hc
      apply UInt8.toNat_inj.1
      have : (59 : UInt8).toNat = 59 := rfl
      omega
    have e1 : s.data.toList = s.data.toList.take i ++ 59 :: s.data.toList.drop (i + 1) := by
      rw [← hc', List.getElem_cons_drop, List.take_append_drop]
    rw [e1]
    have e2 : (s.data.toList.take i ++ 59 :: s.data.toList.drop (i + 1)).drop (i + 1) = s.data.toList.drop (i + 1) := by rw [← e1]
    rw [e2]
    refine rest_last fun c hm => ?_
    obtain ⟨j, hj, rfl⟩ := List.getElem_of_mem hm
    rw [List.length_drop] at hj
    rw [List.getElem_drop]
    have := hn (i + 1 + j) (by omega) (by omega)
    rw [bang_list s _ (by omega)] at this
    intro e'; rw [e'] at this; exact this rfl

end Go.Proofs.YtglpijjkihpeeaaGreatDoor

/- The layings of the library's contracts at this dump: that the bodies of the library functions that are met here are the bodies that the contracts were proved of. No condition. -/
namespace Go.Proofs
open Go.Shelf
def Tryz.laysM171_ren : Go.Shelf.Ren := ⟨fun | 171 => 194 | 243 => 205 | 246 => 210 | 283 => 212 | 284 => 213 | 285 => 214 | 286 => 215 | 129 => 219 | 317 => 218 | 318 => 220 | 319 => 221 | 320 => 222 | 337 => 228 | 338 => 229 | n => n, fun | 3 => 3 | 9 => 9 | 2 => 2 | 4 => 4 | 171 => 223 | 0 => 0 | 53 => 224 | 37 => 22 | 5 => 5 | 173 => 227 | 212 => 231 | 51 => 213 | 20 => 20 | 213 => 232 | 46 => 218 | 232 => 246 | 233 => 247 | n => n, fun | 17 => 3 | 18 => 6 | 19 => 7 | n => n⟩
theorem Tryz.laysM171 : Go.Proofs.LaysM.n171 Tryz.prog Tryz.laysM171_ren := {
  mixed := by kernel_rfl
  f129 := Tryz.func219.trans (congrArg some (by kernel_rfl))
  f171 := Tryz.func194.trans (congrArg some (by kernel_rfl))
  f243 := Tryz.func205.trans (congrArg some (by kernel_rfl))
  f246 := Tryz.func210.trans (congrArg some (by kernel_rfl))
  f283 := Tryz.func212.trans (congrArg some (by kernel_rfl))
  f284 := Tryz.func213.trans (congrArg some (by kernel_rfl))
  f285 := Tryz.func214.trans (congrArg some (by kernel_rfl))
  f286 := Tryz.func215.trans (congrArg some (by kernel_rfl))
  f317 := Tryz.func218.trans (congrArg some (by kernel_rfl))
  f318 := Tryz.func220.trans (congrArg some (by kernel_rfl))
  f319 := Tryz.func221.trans (congrArg some (by kernel_rfl))
  f320 := Tryz.func222.trans (congrArg some (by kernel_rfl))
  f337 := Tryz.func228.trans (congrArg some (by kernel_rfl))
  f338 := Tryz.func229.trans (congrArg some (by kernel_rfl))
  t0 := Tryz.underlying0
  a0 := Tryz.isAgg0
  z0 := Tryz.sizeOf0
  v0 := Tryz.zeroValue0
  t2 := Tryz.underlying2
  a2 := Tryz.isAgg2
  z2 := Tryz.sizeOf2
  v2 := Tryz.zeroValue2
  t3 := Tryz.underlying3
  a3 := Tryz.isAgg3
  z3 := Tryz.sizeOf3
  v3 := Tryz.zeroValue3
  t4 := Tryz.underlying4
  a4 := Tryz.isAgg4
  z4 := Tryz.sizeOf4
  v4 := Tryz.zeroValue4
  t5 := Tryz.underlying5
  a5 := Tryz.isAgg5
  z5 := Tryz.sizeOf5
  v5 := Tryz.zeroValue5
  t9 := Tryz.underlying9
  a9 := Tryz.isAgg9
  z9 := Tryz.sizeOf9
  v9 := Tryz.zeroValue9
  t20 := Tryz.underlying20
  a20 := Tryz.isAgg20
  z20 := Tryz.sizeOf20
  v20 := Tryz.zeroValue20
  t37 := Tryz.underlying22
  a37 := Tryz.isAgg22
  z37 := Tryz.sizeOf22
  v37 := Tryz.zeroValue22
  t46 := Tryz.underlying218
  a46 := Tryz.isAgg218
  z46 := Tryz.sizeOf218
  v46 := Tryz.zeroValue218
  t51 := Tryz.underlying213
  a51 := Tryz.isAgg213
  z51 := Tryz.sizeOf213
  v51 := Tryz.zeroValue213
  t53 := Tryz.underlying224
  a53 := Tryz.isAgg224
  z53 := Tryz.sizeOf224
  v53 := Tryz.zeroValue224
  t171 := Tryz.underlying223
  a171 := Tryz.isAgg223
  z171 := Tryz.sizeOf223
  v171 := Tryz.zeroValue223
  t173 := Tryz.underlying227
  a173 := Tryz.isAgg227
  z173 := Tryz.sizeOf227
  v173 := Tryz.zeroValue227
  t212 := Tryz.underlying231
  a212 := Tryz.isAgg231
  z212 := Tryz.sizeOf231
  v212 := Tryz.zeroValue231
  t213 := Tryz.underlying232
  a213 := Tryz.isAgg232
  z213 := Tryz.sizeOf232
  t232 := Tryz.underlying246
  a232 := Tryz.isAgg246
  z232 := Tryz.sizeOf246
  v232 := Tryz.zeroValue246
  t233 := Tryz.underlying247
  a233 := Tryz.isAgg247
  z233 := Tryz.sizeOf247
  v233 := Tryz.zeroValue247
  g17 := by kernel_rfl
  g18 := by kernel_rfl
  g19 := by kernel_rfl
  i0 := by kernel_rfl
  i2 := by kernel_rfl
  i3 := by kernel_rfl
  i4 := by kernel_rfl
  i5 := by kernel_rfl
  i9 := by kernel_rfl
  i20 := by kernel_rfl
  i37 := by kernel_rfl
  i46 := by kernel_rfl
  i51 := by kernel_rfl
  i53 := by kernel_rfl
  i171 := by kernel_rfl
  i173 := by kernel_rfl
  i212 := by kernel_rfl
  i232 := by kernel_rfl
  i233 := by kernel_rfl
  m17 := by kernel_rfl
  m18 := by kernel_rfl
  m19 := by kernel_rfl }
def Tryz.lays219_ren : Go.Shelf.Ren := ⟨fun | 219 => 191 | 217 => 199 | 225 => 200 | 224 => 201 | 267 => 202 | 266 => 206 | 314 => 207 | n => n, fun | 9 => 9 | 3 => 3 | 4 => 4 | 5 => 5 | 46 => 218 | 146 => 214 | 51 => 213 | n => n, fun | 1 => 0 | n => n⟩
theorem Tryz.lays219 : Go.Proofs.Lays.n219 Tryz.prog Tryz.lays219_ren := {
  mixed := by kernel_rfl
  f217 := Tryz.func199.trans (congrArg some (by kernel_rfl))
  f219 := Tryz.func191.trans (congrArg some (by kernel_rfl))
  f224 := Tryz.func201.trans (congrArg some (by kernel_rfl))
  f225 := Tryz.func200.trans (congrArg some (by kernel_rfl))
  f266 := Tryz.func206.trans (congrArg some (by kernel_rfl))
  f267 := Tryz.func202.trans (congrArg some (by kernel_rfl))
  f314 := Tryz.func207.trans (congrArg some (by kernel_rfl))
  t3 := Tryz.underlying3
  a3 := Tryz.isAgg3
  z3 := Tryz.sizeOf3
  v3 := Tryz.zeroValue3
  t4 := Tryz.underlying4
  a4 := Tryz.isAgg4
  z4 := Tryz.sizeOf4
  v4 := Tryz.zeroValue4
  t5 := Tryz.underlying5
  a5 := Tryz.isAgg5
  z5 := Tryz.sizeOf5
  v5 := Tryz.zeroValue5
  t9 := Tryz.underlying9
  a9 := Tryz.isAgg9
  z9 := Tryz.sizeOf9
  v9 := Tryz.zeroValue9
  t46 := Tryz.underlying218
  a46 := Tryz.isAgg218
  z46 := Tryz.sizeOf218
  v46 := Tryz.zeroValue218
  t51 := Tryz.underlying213
  a51 := Tryz.isAgg213
  z51 := Tryz.sizeOf213
  v51 := Tryz.zeroValue213
  t146 := Tryz.underlying214
  a146 := Tryz.isAgg214
  z146 := Tryz.sizeOf214
  v146 := Tryz.zeroValue214
  g1 := by kernel_rfl }
def Tryz.laysC172_ren : Go.Shelf.Ren := ⟨fun | 172 => 211 | 244 => 216 | 245 => 217 | 247 => 223 | 279 => 224 | 280 => 225 | 281 => 226 | 282 => 227 | 287 => 230 | 316 => 231 | 171 => 194 | 205 => 232 | 321 => 233 | 322 => 234 | 243 => 205 | 246 => 210 | 283 => 212 | 284 => 213 | 285 => 214 | 286 => 215 | 129 => 219 | 317 => 218 | 318 => 220 | 319 => 221 | 320 => 222 | 337 => 228 | 338 => 229 | n => n, fun | 9 => 9 | 3 => 3 | 75 => 191 | 76 => 192 | 4 => 4 | 5 => 5 | 167 => 234 | 37 => 22 | 0 => 0 | 85 => 235 | 2 => 2 | 168 => 237 | 53 => 224 | 175 => 241 | 46 => 218 | 210 => 244 | 127 => 204 | 145 => 251 | 143 => 249 | 21 => 21 | 171 => 223 | 173 => 227 | 212 => 231 | 51 => 213 | 20 => 20 | 213 => 232 | 232 => 246 | 233 => 247 | 80 => 195 | n => n, fun | 15 => 4 | 16 => 5 | 17 => 3 | 18 => 6 | 19 => 7 | n => n⟩
theorem Tryz.laysC172 : Go.Proofs.LaysC.n172 Tryz.prog Tryz.laysC172_ren := {
  mixed := by kernel_rfl
  f129 := Tryz.func219.trans (congrArg some (by kernel_rfl))
  f171 := Tryz.func194.trans (congrArg some (by kernel_rfl))
  f172 := Tryz.func211.trans (congrArg some (by kernel_rfl))
  f205 := Tryz.func232.trans (congrArg some (by kernel_rfl))
  f243 := Tryz.func205.trans (congrArg some (by kernel_rfl))
  f244 := Tryz.func216.trans (congrArg some (by kernel_rfl))
  f245 := Tryz.func217.trans (congrArg some (by kernel_rfl))
  f246 := Tryz.func210.trans (congrArg some (by kernel_rfl))
  f247 := Tryz.func223.trans (congrArg some (by kernel_rfl))
  f279 := Tryz.func224.trans (congrArg some (by kernel_rfl))
  f280 := Tryz.func225.trans (congrArg some (by kernel_rfl))
  f281 := Tryz.func226.trans (congrArg some (by kernel_rfl))
  f282 := Tryz.func227.trans (congrArg some (by kernel_rfl))
  f283 := Tryz.func212.trans (congrArg some (by kernel_rfl))
  f284 := Tryz.func213.trans (congrArg some (by kernel_rfl))
  f285 := Tryz.func214.trans (congrArg some (by kernel_rfl))
  f286 := Tryz.func215.trans (congrArg some (by kernel_rfl))
  f287 := Tryz.func230.trans (congrArg some (by kernel_rfl))
  f316 := Tryz.func231.trans (congrArg some (by kernel_rfl))
  f317 := Tryz.func218.trans (congrArg some (by kernel_rfl))
  f318 := Tryz.func220.trans (congrArg some (by kernel_rfl))
  f319 := Tryz.func221.trans (congrArg some (by kernel_rfl))
  f320 := Tryz.func222.trans (congrArg some (by kernel_rfl))
  f321 := Tryz.func233.trans (congrArg some (by kernel_rfl))
  f322 := Tryz.func234.trans (congrArg some (by kernel_rfl))
  f337 := Tryz.func228.trans (congrArg some (by kernel_rfl))
  f338 := Tryz.func229.trans (congrArg some (by kernel_rfl))
  t0 := Tryz.underlying0
  a0 := Tryz.isAgg0
  z0 := Tryz.sizeOf0
  v0 := Tryz.zeroValue0
  t2 := Tryz.underlying2
  a2 := Tryz.isAgg2
  z2 := Tryz.sizeOf2
  v2 := Tryz.zeroValue2
  t3 := Tryz.underlying3
  a3 := Tryz.isAgg3
  z3 := Tryz.sizeOf3
  v3 := Tryz.zeroValue3
  t4 := Tryz.underlying4
  a4 := Tryz.isAgg4
  z4 := Tryz.sizeOf4
  v4 := Tryz.zeroValue4
  t5 := Tryz.underlying5
  a5 := Tryz.isAgg5
  z5 := Tryz.sizeOf5
  v5 := Tryz.zeroValue5
  t9 := Tryz.underlying9
  a9 := Tryz.isAgg9
  z9 := Tryz.sizeOf9
  v9 := Tryz.zeroValue9
  t20 := Tryz.underlying20
  a20 := Tryz.isAgg20
  z20 := Tryz.sizeOf20
  v20 := Tryz.zeroValue20
  t21 := Tryz.underlying21
  a21 := Tryz.isAgg21
  z21 := Tryz.sizeOf21
  v21 := Tryz.zeroValue21
  t37 := Tryz.underlying22
  a37 := Tryz.isAgg22
  z37 := Tryz.sizeOf22
  v37 := Tryz.zeroValue22
  t46 := Tryz.underlying218
  a46 := Tryz.isAgg218
  z46 := Tryz.sizeOf218
  v46 := Tryz.zeroValue218
  t51 := Tryz.underlying213
  a51 := Tryz.isAgg213
  z51 := Tryz.sizeOf213
  v51 := Tryz.zeroValue213
  t53 := Tryz.underlying224
  a53 := Tryz.isAgg224
  z53 := Tryz.sizeOf224
  v53 := Tryz.zeroValue224
  t75 := Tryz.underlying191
  a75 := Tryz.isAgg191
  z75 := Tryz.sizeOf191
  v75 := Tryz.zeroValue191
  t76 := Tryz.underlying192
  a76 := Tryz.isAgg192
  z76 := Tryz.sizeOf192
  v76 := Tryz.zeroValue192
  t85 := Tryz.underlying235
  a85 := Tryz.isAgg235
  z85 := Tryz.sizeOf235
  v85 := Tryz.zeroValue235
  t127 := Tryz.underlying204
  a127 := Tryz.isAgg204
  z127 := Tryz.sizeOf204
  v127 := Tryz.zeroValue204
  t143 := Tryz.underlying249
  a143 := Tryz.isAgg249
  z143 := Tryz.sizeOf249
  v143 := Tryz.zeroValue249
  t145 := Tryz.underlying251
  a145 := Tryz.isAgg251
  z145 := Tryz.sizeOf251
  v145 := Tryz.zeroValue251
  t167 := Tryz.underlying234
  a167 := Tryz.isAgg234
  z167 := Tryz.sizeOf234
  v167 := Tryz.zeroValue234
  t168 := Tryz.underlying237
  a168 := Tryz.isAgg237
  z168 := Tryz.sizeOf237
  v168 := Tryz.zeroValue237
  t171 := Tryz.underlying223
  a171 := Tryz.isAgg223
  z171 := Tryz.sizeOf223
  v171 := Tryz.zeroValue223
  t173 := Tryz.underlying227
  a173 := Tryz.isAgg227
  z173 := Tryz.sizeOf227
  v173 := Tryz.zeroValue227
  t175 := Tryz.underlying241
  a175 := Tryz.isAgg241
  z175 := Tryz.sizeOf241
  v175 := Tryz.zeroValue241
  t210 := Tryz.underlying244
  a210 := Tryz.isAgg244
  z210 := Tryz.sizeOf244
  v210 := Tryz.zeroValue244
  t212 := Tryz.underlying231
  a212 := Tryz.isAgg231
  z212 := Tryz.sizeOf231
  v212 := Tryz.zeroValue231
  t213 := Tryz.underlying232
  a213 := Tryz.isAgg232
  z213 := Tryz.sizeOf232
  t232 := Tryz.underlying246
  a232 := Tryz.isAgg246
  z232 := Tryz.sizeOf246
  v232 := Tryz.zeroValue246
  t233 := Tryz.underlying247
  a233 := Tryz.isAgg247
  z233 := Tryz.sizeOf247
  v233 := Tryz.zeroValue247
  g15 := by kernel_rfl
  g16 := by kernel_rfl
  g17 := by kernel_rfl
  g18 := by kernel_rfl
  g19 := by kernel_rfl
  t80 := Tryz.underlying195
  a80 := Tryz.isAgg195
  z80 := Tryz.sizeOf195
  v80 := Tryz.zeroValue195
  i0 := by kernel_rfl
  i2 := by kernel_rfl
  i3 := by kernel_rfl
  i4 := by kernel_rfl
  i5 := by kernel_rfl
  i9 := by kernel_rfl
  i20 := by kernel_rfl
  i21 := by kernel_rfl
  i37 := by kernel_rfl
  i46 := by kernel_rfl
  i51 := by kernel_rfl
  i53 := by kernel_rfl
  i75 := by kernel_rfl
  i76 := by kernel_rfl
  i80 := by kernel_rfl
  i85 := by kernel_rfl
  i127 := by kernel_rfl
  i143 := by kernel_rfl
  i145 := by kernel_rfl
  i167 := by kernel_rfl
  i168 := by kernel_rfl
  i171 := by kernel_rfl
  i173 := by kernel_rfl
  i175 := by kernel_rfl
  i210 := by kernel_rfl
  i212 := by kernel_rfl
  i232 := by kernel_rfl
  i233 := by kernel_rfl
  m15 := by kernel_rfl
  m16 := by kernel_rfl
  m17 := by kernel_rfl
  m18 := by kernel_rfl
  m19 := by kernel_rfl
  c0 := by kernel_rfl
  c2 := by kernel_rfl
  c3 := by kernel_rfl
  c4 := by kernel_rfl
  c5 := by kernel_rfl
  c9 := by kernel_rfl
  c20 := by kernel_rfl
  c21 := by kernel_rfl
  c37 := by kernel_rfl
  c46 := by kernel_rfl
  c51 := by kernel_rfl
  c53 := by kernel_rfl
  c75 := by kernel_rfl
  c76 := by kernel_rfl
  c80 := by kernel_rfl
  c85 := by kernel_rfl
  c127 := by kernel_rfl
  c143 := by kernel_rfl
  c145 := by kernel_rfl
  c167 := by kernel_rfl
  c168 := by kernel_rfl
  c171 := by kernel_rfl
  c173 := by kernel_rfl
  c175 := by kernel_rfl
  c210 := by kernel_rfl
  c212 := by kernel_rfl
  c213 := by kernel_rfl
  c232 := by kernel_rfl
  c233 := by kernel_rfl }
def Tryz.lays148_ren : Go.Shelf.Ren := ⟨fun | 148 => 176 | 222 => 186 | 223 => 187 | 269 => 195 | n => n, fun | 9 => 9 | 3 => 3 | 4 => 4 | 5 => 5 | 146 => 214 | 51 => 213 | 46 => 218 | n => n, fun | n => n⟩
theorem Tryz.lays148 : Go.Proofs.Lays.n148 Tryz.prog Tryz.lays148_ren := {
  mixed := by kernel_rfl
  f148 := Tryz.func176.trans (congrArg some (by kernel_rfl))
  f222 := Tryz.func186.trans (congrArg some (by kernel_rfl))
  f223 := Tryz.func187.trans (congrArg some (by kernel_rfl))
  f269 := Tryz.func195.trans (congrArg some (by kernel_rfl))
  t3 := Tryz.underlying3
  a3 := Tryz.isAgg3
  z3 := Tryz.sizeOf3
  v3 := Tryz.zeroValue3
  t4 := Tryz.underlying4
  a4 := Tryz.isAgg4
  z4 := Tryz.sizeOf4
  v4 := Tryz.zeroValue4
  t5 := Tryz.underlying5
  a5 := Tryz.isAgg5
  z5 := Tryz.sizeOf5
  v5 := Tryz.zeroValue5
  t9 := Tryz.underlying9
  a9 := Tryz.isAgg9
  z9 := Tryz.sizeOf9
  v9 := Tryz.zeroValue9
  t46 := Tryz.underlying218
  a46 := Tryz.isAgg218
  z46 := Tryz.sizeOf218
  v46 := Tryz.zeroValue218
  t51 := Tryz.underlying213
  a51 := Tryz.isAgg213
  z51 := Tryz.sizeOf213
  v51 := Tryz.zeroValue213
  t146 := Tryz.underlying214
  a146 := Tryz.isAgg214
  z146 := Tryz.sizeOf214
  v146 := Tryz.zeroValue214 }
end Go.Proofs

/- The text cut at its first sign that ends a line, by the library; what is behind the last one. Condition: the text has at most 2^48 bytes. -/
namespace Go.Proofs.YtglpijjkihpeeaaGreatDoor
open Go.RowKit Go.Sort

set_option maxRecDepth 100000 in
set_option maxHeartbeats 800000 in
theorem cutSemiS_any (s : ByteArray) (w : World) (hs : s.size ≤ 281474976710656) :
    Calls Tryz.prog 182 #[.string s, .string ⟨#[59]⟩] w fun e w' => e = .returned (.tuple #[.string ⟨(Lib.cut s.data.toList [59]).1.toArray⟩, .string ⟨(Lib.cut s.data.toList [59]).2.1.toArray⟩, .bool (Lib.cut s.data.toList [59]).2.2]) ∧ ∃ n, w' = w.drewN n := by
  have hc : ∀ w, Calls Tryz.prog 191 #[.string s, .string ⟨#[59]⟩] w fun e w' => e = .returned (.int .i64 (Lib.index s.data.toList [59])) ∧ w' = w := by
    intro w; have := Any.stringslite_Index_one Tryz.lays219 s 59 w; rw [← Lib.index_one] at this; exact this
  have HC := Lib.hid hc
  clear hc
  rcases Lib.indexB_cases s ⟨#[59]⟩ with hix | ⟨i, hix, hroom⟩
  · obtain ⟨e1, e2, e3⟩ := Lib.cutB_miss s ⟨#[59]⟩ hix
    have hix' : Lib.index s.data.toList [59] = -1 := hix
    have E1 : Hid ((⟨(Lib.cut s.data.toList [59]).1.toArray⟩ : ByteArray) = s) := e1
    have E2 : Hid ((⟨(Lib.cut s.data.toList [59]).2.1.toArray⟩ : ByteArray) = ByteArray.empty) := e2
    have E3 : Hid ((Lib.cut s.data.toList [59]).2.2 = false) := e3
    have HI := Lib.hid hix'
    clear e1 e2 e3 hix hix'
    go_enter Tryz.func182, Tryz.ntmps182
    go_wp2_with (go_at_call 191; refine (HC.out _).mono ?_; rintro e w' ⟨rfl, rfl⟩; rw [HI.out])
    go_ret3
    exact ⟨by rw [E1.out, E2.out, E3.out]; rfl, 0, rfl⟩
  · obtain ⟨e1, e2, e3⟩ := Lib.cutB_hit s ⟨#[59]⟩ i hix
    have hix' : Lib.index s.data.toList [59] = i := hix
    have hr : i + 1 ≤ s.size := hroom
    have E1 : Hid ((⟨(Lib.cut s.data.toList [59]).1.toArray⟩ : ByteArray) = s.extract 0 i) := e1
    have E2 : Hid ((⟨(Lib.cut s.data.toList [59]).2.1.toArray⟩ : ByteArray) = s.extract (i + 1) s.size) := e2
    have E3 : Hid ((Lib.cut s.data.toList [59]).2.2 = true) := e3
    have HI := Lib.hid hix'
    clear e1 e2 e3 hix hix' hroom
    have c1 : (0 : Int) ≤ ↑i := by omega
    have c2 : (↑i : Int) ≤ ↑s.size := by omega
    have c3 : (0 : Int) ≤ ↑i + 1 := by omega
    have c4 : (↑i + 1 : Int) ≤ ↑s.size := by omega
    have c5 : IntKind.i64.wrap ((i : Int) + 1) = (i : Int) + 1 := IntWalk.i64_in _ (by omega)
    have c6 : ((i : Int) + 1).toNat = i + 1 := by omega
    go_enter Tryz.func182, Tryz.ntmps182
    go_wp2_with (go_at_call 191; refine (HC.out _).mono ?_; rintro e w' ⟨rfl, rfl⟩; rw [HI.out])
    go_region
    go_wp2
    go_ret3
    exact ⟨by rw [E1.out, E2.out, E3.out]; rfl, 1, rfl⟩

theorem cutSemi_any (s : ByteArray) (w : World) (hs : s.size ≤ 281474976710656) :
    Calls Tryz.prog 172 #[.string s, .string ⟨#[59]⟩] w fun e w' => e = .returned (.tuple #[.string ⟨(Lib.cut s.data.toList [59]).1.toArray⟩, .string ⟨(Lib.cut s.data.toList [59]).2.1.toArray⟩, .bool (Lib.cut s.data.toList [59]).2.2]) ∧ ∃ n, w' = w.drewN n := by
  go_enter Tryz.func172, Tryz.ntmps172
  go_wp2_with (go_at_call 182; refine (cutSemiS_any _ _ hs).mono ?_; rintro e w' ⟨rfl, n, rfl⟩)
  go_ret3
  exact ⟨rfl, n, rfl⟩


theorem lastSemi_any (s : ByteArray) (w : World) (hs : s.size ≤ 281474976710656) :
    Calls Tryz.prog 176 #[.string s, .string ⟨#[59]⟩] w fun e w' => e = .returned (.int .i64 (Lib.lastIndexByte s 59)) ∧ w' = w :=
  Any.strings_LastIndex_one Tryz.lays148 s ⟨#[59]⟩ rfl (by omega) w

set_option maxRecDepth 100000 in
set_option maxHeartbeats 800000 in
theorem rest_any (s : ByteArray) (w : World) (hs : s.size ≤ 281474976710656) :
    Calls Tryz.prog 162 #[.string s] w fun e w' => e = .returned (.string ⟨(restL s.data.toList).toArray⟩) ∧ w' = w := by
  obtain ⟨i, hi, hle, hr⟩ := rest_at s
  have c1 : (0 : Int) ≤ (i : Int) := by omega
  have c2 : (i : Int) ≤ (s.size : Int) := by omega
  have c5 : IntKind.i64.wrap (Lib.lastIndexByte s 59 + 1) = (i : Int) := by rw [hi]; exact IntWalk.i64_in _ (by omega)
  have HX : Hid (s.extract i s.size = ⟨(restL s.data.toList).toArray⟩) := by
    show s.extract i s.size = _
    rw [hr, ext_list, List.take_of_length_le (by rw [len_list]; omega)]
  have HI := Lib.hid hi
  clear hr hi
  go_enter Tryz.func162, Tryz.ntmps162
  go_wp2_with (go_at_call 176; refine (lastSemi_any _ _ hs).mono ?_; rintro e w' ⟨rfl, rfl⟩)
  go_ret
  exact ⟨by rw [← HX.out]; simp, rfl⟩

end Go.Proofs.YtglpijjkihpeeaaGreatDoor

/- The lines of a text, told one by one: what the program's iterator gives to each loop body. Condition: the text has at most 2^21 bytes. -/
namespace Go.Proofs.YtglpijjkihpeeaaGreatDoor
open Go.RowKit Go.Shelf

/-- How long a text is. -/
def szOf : Value → Nat | .string s => s.size | _ => 0

theorem grownBy_drewN (W : World) (n : Nat) : W.grownBy (W.drewN n) none := ⟨rfl, rfl, rfl, Nat.le_refl _, fun _ _ _ => rfl⟩

set_option maxRecDepth 100000 in
set_option maxHeartbeats 1000000 in
theorem tell_in (n : Nat) (hn : 1 ≤ n) (l Bn : Nat) (s : ByteArray) (hs : s.size ≤ 2097152) (J Jx : List (List UInt8) → World → Prop)
    (hY : ∀ pre x W, J pre W → pre.length < (linesL s.data.toList).length → YieldAt Fence.wide (n - 1) Tryz.prog l #[.string ⟨x.toArray⟩] W fun e W' =>
      (e = .returned (.bool true) ∧ J (pre ++ [x]) W' ∧ True) ∨ (e = .returned (.bool false) ∧ Jx (pre ++ [x]) W'))
    (W : World) (hJ : AbidesFrom W.heap.size J) (hBn : W.cell? ⟨Bn, 0, none⟩ = some (.string s)) (h0 : J [] W) :
    CallsIn Fence.wide n Tryz.prog 171 #[.func (.yield l) #[] #[], .pointer (some ⟨Bn, 0, none⟩)] W fun e W' => (∃ v, e = .returned v) ∧
      ((∃ ys, ys = linesL s.data.toList ∧ J ys W') ∨ (∃ pre, pre <+: linesL s.data.toList ∧ Jx pre W')) := by
  refine callsIn_of_wp Tryz.func171 rfl trivial ?_ rfl
  simp only [Tryz.ntmps171, List.size_toArray, List.length_cons, List.length_nil, Nat.reduceAdd, Nat.reduceSub, Array.replicate_succ, Array.replicate_zero, List.push_toArray, List.append_toArray, List.nil_append, List.cons_append]
  gi_wp2
  gi_loopw [3] (fun p wr => ∃ (pre : List (List UInt8)) (t : ByteArray), p = .string t ∧ t.size ≤ s.size ∧ linesL s.data.toList = pre ++ linesL t.data.toList ∧ J pre wr)
    (fun p _ => szOf p)
  case atStart =>
    exact ⟨[], s, rfl, Nat.le_refl _, rfl, h0⟩
  case round =>
    obtain ⟨pre, t, rfl, ht, hx, hJs⟩ := hrel
    by_cases hi : 0 ≤ Lib.index t.data.toList [59]
    · have h3 : (Lib.cut t.data.toList [59]).2.2 = true := by unfold Lib.cut; rw [if_pos hi]
      have hl := lines_cut_yes hi
      have hm := cut_len hi
      rw [len_list] at hm
      obtain ⟨x, hxx⟩ : ∃ x, x = (Lib.cut t.data.toList [59]).1 := ⟨_, rfl⟩
      obtain ⟨r, hrr⟩ : ∃ r, r = (Lib.cut t.data.toList [59]).2.1 := ⟨_, rfl⟩
      have hcut : ∀ w, Calls Tryz.prog 172 #[.string t, .string ⟨#[59]⟩] w fun e w' => e = .returned (.tuple #[.string ⟨x.toArray⟩, .string ⟨r.toArray⟩, .bool true]) ∧ ∃ n, w' = w.drewN n := by
        intro w; have := cutSemi_any t w (by omega); rw [h3, ← hxx, ← hrr] at this; exact this
      rw [← hxx, ← hrr] at hl
      rw [← hrr] at hm
      rw [hl] at hx
      have HC := Lib.hid hcut
      have HX := Lib.hid hx
      have hlen : pre.length < (linesL s.data.toList).length := by rw [hx]; simp
      clear hcut hxx hrr h3 hi hx hl
      gi_wp2_with (refine ⟨trivial, ?_⟩; gi_at_call 172; refine (callsIn_wide.2 (HC.out _)).mono ?_; rintro e w1 ⟨rfl, k, rfl⟩; obtain ⟨fn, tmps, assign, body, hy, hR⟩ := hY pre x _ (hJ _ _ _ none hJs (grownBy_drewN wr k) (fun r e => by cases e)) hlen)
      refine hR.mono ?_
      rintro e W3 (⟨rfl, hJ3, _⟩ | ⟨rfl, hJx3⟩)
      · gi_wp2
        go_roundw
        case rel => exact ⟨pre ++ [x], ⟨r.toArray⟩, rfl, by (have e : (⟨r.toArray⟩ : ByteArray).size = r.length := rfl); omega, by rw [HX.out]; simp, hJ3⟩
        case measure => show (⟨r.toArray⟩ : ByteArray).size < t.size; exact hm
      · gi_wp2
        refine bodyPost_ret (results_none rfl _ _ _) rfl ?_
        exact ⟨⟨_, rfl⟩, .inr ⟨pre ++ [x], ⟨linesL r, by rw [HX.out]; simp⟩, hJx3⟩⟩
    · have hcut : ∀ w, Calls Tryz.prog 172 #[.string t, .string ⟨#[59]⟩] w fun e w' => e = .returned (.tuple #[.string t, .string ⟨#[]⟩, .bool false]) ∧ ∃ n, w' = w.drewN n := by
        intro w; have := cutSemi_any t w (by omega); rw [cutK_no hi] at this; exact this
      have HC := Lib.hid hcut
      have hl := lines_cut_no hi
      rw [hl, List.append_nil] at hx
      have HX := Lib.hid hx
      clear hcut hi hl hx
      gi_wp2_with (refine ⟨trivial, ?_⟩; gi_at_call 172; refine (callsIn_wide.2 (HC.out _)).mono ?_; rintro e w1 ⟨rfl, k, rfl⟩)
      refine ⟨fun _ h => (by cases h), ?_⟩
      gi_wp2
      refine bodyPost_ret (results_none rfl _ _ _) rfl ?_
      exact ⟨⟨_, rfl⟩, .inl ⟨pre, HX.out.symm, hJ _ _ _ none hJs (grownBy_drewN wr k) (fun r e => by cases e)⟩⟩

theorem linesOf_any (s : ByteArray) (w : World) :
    Calls Tryz.prog 158 #[.string s] w fun e w' => e = .returned (.func (.func 171) #[] #[.pointer (some ⟨w.heap.size, 0, none⟩)]) ∧ w' = w.alloc (.cells #[.string s] 9) := by
  go_enter Tryz.func158, Tryz.ntmps158
  go_wp2
  go_ret
  exact ⟨rfl, rfl⟩

/-- What linesOf hands back tells the text's lines, in their order, until a round says no more. -/
theorem tell_stops (n : Nat) (hn : 1 ≤ n) (Bn : Nat) (s : ByteArray) (hs : s.size ≤ 2097152) (w : World) (hBn : Bn < w.heap.size) (hc : w.cell? ⟨Bn, 0, none⟩ = some (.string s)) :
    SeqStopsK Fence.wide n Tryz.prog 171 #[.pointer (some ⟨Bn, 0, none⟩)] (fun x : List UInt8 => #[Value.string ⟨x.toArray⟩]) (fun _ _ => True) (fun ys => ys = linesL s.data.toList) (fun pre => pre <+: linesL s.data.toList) (linesL s.data.toList).length w := fun l J Jx W hW hJ _ hY h0 =>
  tell_in n hn l Bn s hs J Jx hY W hJ ((hW.cell (p := ⟨Bn, 0, none⟩) hBn).trans hc) h0

end Go.Proofs.YtglpijjkihpeeaaGreatDoor
