/- RwrStream of the specification. Conditions: at most 2^22 ends; the text has at most 2^21 bytes. (Several texts, joined: MarkTab, Fresh, Box, IRwr, SLine, SStr, IStrm, SStrL.) -/
import Derived.Test.YtoidmmedpefjfaaGreatDoorTPspd
import Derived.Test.YtoidmmedpefjfaaGreatDoorOwnEnds
import Derived.Test.YtoidmmedpefjfaaGreatDoorTPspa
import Derived.Test.YtoidmmedpefjfaaGreatDoorTPspb
import Derived.Test.YtoidmmedpefjfaaGreatDoorTPspc
import Derived.Test.YtoidmmedpefjfaaGreatDoorILin
import Derived.Test.YtoidmmedpefjfaaGreatDoorGen
import Derived.Test.YtoidmmedpefjfaaGreatDoorLines
import Derived.Deep.RegionHeld3
import Derived.Deep.DeepCutAuto
import Derived.Test.YtoidmmedpefjfaaGreatDoorISeqS
import Derived.Test.YtoidmmedpefjfaaGreatDoorIBuild
import Derived.Test.YtoidmmedpefjfaaGreatDoorIStr
import Derived.RangeFuncWrites

/- How the law marks a table's ends and finds the marks again. Conditions: the marks from 1 on, at most 10^15. -/
namespace Go.Proofs.YtoidmmedpefjfaaGreatDoor
open Go.RowKit Go.Sort

theorem grown_setM {w w' : World} {b : Nat} (h : w.grownBy w' (some b)) (i : Nat) (v : Value) : w.grownBy (w'.setCell ⟨b, i, none⟩ v) (some b) :=
  ⟨h.os, h.tape, h.output, by simpa using h.size, fun k hk hne => by rw [Below.heap_setCell _ _ _ _ (fun e => hne (by rw [e]))]; exact h.block k hk hne⟩
theorem grown_below {w w' : World} {row : Option Nat} (h : Below w.heap.size w w') : w.grownBy w' row :=
  ⟨h.os, h.tape, h.output, h.size, fun k hk _ => h.block k hk⟩
/-- n marks of ends, from k on. -/
def marksE (k n : Nat) : List (Int × Int) := (List.range n).map fun i => (((k + 2 * i : Nat) : Int), ((k + 2 * i + 1 : Nat) : Int))
theorem marksE_len (k n : Nat) : (marksE k n).length = n := by simp [marksE]
theorem marksE_at (k n i : Nat) (h : i < (marksE k n).length) : (marksE k n)[i] = (((k + 2 * i : Nat) : Int), ((k + 2 * i + 1 : Nat) : Int)) := by simp [marksE]

end Go.Proofs.YtoidmmedpefjfaaGreatDoor

/- An answer's table: in memory of its own, empty or in cells that may be written; how the law marks it and finds the marks again. -/
namespace Go.Proofs.YtoidmmedpefjfaaGreatDoor
open Go.RowKit Go.Sort

/-- A table that an answer holds: nothing at all, or a table in cells that may be written, behind B. -/
def FreshTab (w : World) (B : Nat) (v : Value) (us : List (Int × Int)) : Prop := (us = [] ∧ ∃ a cap, v = .slice a 0 cap ∧ (a = none → cap = 0)) ∨ TabRoom w B v us
theorem FreshTab.tab {w : World} {B : Nat} {v : Value} {us : List (Int × Int)} (h : FreshTab w B v us) : TabAt w v us := by
  rcases h with ⟨rfl, a, cap, rfl, hc⟩ | h
  · exact ⟨a, cap, rfl, ⟨by simp, hc⟩, fun h => by simp at h⟩
  · exact h.tab
theorem FreshTab.below {w w' : World} {B C : Nat} {v : Value} {us : List (Int × Int)} (h : FreshTab w B v us) (hC : w.heap.size ≤ C) (hb : Below C w w') : FreshTab w' B v us := by
  rcases h with h | ⟨g, cap, rfl, h1, h2, h3, h4, h5⟩
  · exact .inl h
  · exact .inr ⟨g, cap, rfl, h1, h2, Nat.lt_of_lt_of_le h3 hb.size, h4.below hb (by omega), h5.below hb (by omega)⟩
/-- A table that lies elsewhere stays, when one row is marked. -/
theorem EndsAt.grown {w w' : World} {g : Nat} {es : List (Int × Int)} {row : Option Nat} (h : EndsAt w g es) (hg : w.grownBy w' row) (hne : some g ≠ row) : EndsAt w' g es := by
  intro i hi
  have hlt := World.block_lt_of_cell? w _ (h i hi).1
  have hk := hg.block g hlt hne
  have c := h i hi
  simp only [World.cell?] at c ⊢
  rw [hk]; exact c

theorem grown_none {w w' : World} {row : Option Nat} (h : w.grownBy w' none) : w.grownBy w' row :=
  ⟨h.os, h.tape, h.output, h.size, fun k hk _ => h.block k hk (by simp)⟩

end Go.Proofs.YtoidmmedpefjfaaGreatDoor

/- Boxes and tables through calls, marks and stores: what stays. No condition. -/
namespace Go.Proofs.YtoidmmedpefjfaaGreatDoor
open Go.RowKit Go.Sort

/-- A box of one cell that a call finds new. -/
theorem fresh1 {W w : World} {x : Value} {t : TypeId} (h : Below (W.alloc (.cells #[x] t)).heap.size (W.alloc (.cells #[x] t)) w) : w.cell? ⟨W.heap.size, 0, none⟩ = some x ∧ w.frozen? ⟨W.heap.size, 0, none⟩ = false :=
  ⟨by rw [h.cell (by simp)]; simp, by rw [h.frozen (by simp)]; exact (cell_new W _ _ 0).2⟩
theorem fresh1d {W w : World} {x : Value} {t : TypeId} (h : Below (W.alloc (.cells #[x] t)).drew.heap.size (W.alloc (.cells #[x] t)).drew w) : w.cell? ⟨W.heap.size, 0, none⟩ = some x ∧ w.frozen? ⟨W.heap.size, 0, none⟩ = false :=
  fresh1 (((Below.refl _ _).drew).trans h)
theorem box_below {w w' : World} {b i : Nat} {v : Value} (h : w.cell? ⟨b, i, none⟩ = some v) (hb : Below w.heap.size w w') : w'.cell? ⟨b, i, none⟩ = some v := by
  rw [hb.cell (p := ⟨b, i, none⟩) (World.block_lt_of_cell? w _ h)]; exact h
theorem box_frozen {w w' : World} {b i : Nat} {v : Value} (h : w.cell? ⟨b, i, none⟩ = some v) (hf : w.frozen? ⟨b, i, none⟩ = false) (hb : Below w.heap.size w w') : w'.frozen? ⟨b, i, none⟩ = false := by
  rw [hb.frozen (p := ⟨b, i, none⟩) (World.block_lt_of_cell? w _ h)]; exact hf
theorem cell_grown {w w' : World} {b i : Nat} {v : Value} {row : Option Nat} (h : w.cell? ⟨b, i, none⟩ = some v) (hg : w.grownBy w' row) (hne : some b ≠ row) : w'.cell? ⟨b, i, none⟩ = some v := by
  have hk := hg.block b (World.block_lt_of_cell? w _ h) hne
  simp only [World.cell?] at h ⊢
  rw [hk]; exact h
theorem OwnTab.fresh {w : World} {B : Nat} {v : Value} {es : List (Int × Int)} (h : OwnTab w B v es) : FreshTab w B v es := by
  rcases h.2 with ⟨rfl, h0⟩ | ⟨g, cap, cur, rfl, hB, hg, h2, _, hs, ht⟩
  · exact .inl ⟨List.eq_nil_of_length_eq_zero h0, none, 0, rfl, fun _ => rfl⟩
  · have hlt := (Array.getElem?_eq_some_iff.1 hg).1
    have hh := h.tab
    by_cases he : es = []
    · subst he
      exact .inl ⟨rfl, _, cap, rfl, fun e => by cases e⟩
    · obtain ⟨a, c, e1, _, hrow⟩ := hh
      obtain ⟨g', e2, hat⟩ := hrow (List.length_pos_iff.2 he)
      simp at e1
      obtain ⟨rfl, rfl⟩ := e1
      simp at e2
      subst e2
      refine .inr ⟨g, cap, rfl, h2, hB, hlt, hat, fun i hi => ⟨?_, by simp [World.frozen?, hg]⟩⟩
      have hi' : i < cur.size := by rw [hs]; exact Nat.lt_of_lt_of_le hi (Nat.mul_le_mul_right _ h2)
      exact ⟨cur[i], by simp [World.cell?, hg, hi']⟩
theorem FreshTab.nil (w : World) (B : Nat) : FreshTab w B (.slice none 0 0) [] := .inl ⟨rfl, none, 0, rfl, fun _ => rfl⟩
theorem FreshTab.form {w : World} {B : Nat} {v : Value} {us : List (Int × Int)} (h : FreshTab w B v us) : ∃ a c, v = .slice a us.length c := by
  rcases h with ⟨rfl, a, cap, rfl, _⟩ | ⟨g, cap, rfl, _⟩
  · exact ⟨a, cap, rfl⟩
  · exact ⟨_, cap, rfl⟩
theorem FreshTab.mono {w : World} {B B' : Nat} {v : Value} {us : List (Int × Int)} (h : FreshTab w B v us) (hB : B' ≤ B) : FreshTab w B' v us := by
  rcases h with h | h
  · exact .inl h
  · exact .inr (h.mono hB)
theorem FreshTab.setCell {w : World} {B : Nat} {v : Value} {us : List (Int × Int)} (h : FreshTab w B v us) {a : Addr} (ha : a.block < B) (u : Value) : FreshTab (w.setCell a u) B v us := by
  rcases h with h | h
  · exact .inl h
  · exact .inr (h.setCell ha u)
theorem FreshTab.later {w w' : World} {B : Nat} {v : Value} {us : List (Int × Int)} (h : FreshTab w B v us) (hb : Below w.heap.size w w') : FreshTab w' B v us := h.below (Nat.le_refl _) hb
/-- What a table's own block is: none, or one behind B. -/
theorem FreshTab.block {w : World} {B : Nat} {v : Value} {us : List (Int × Int)} (h : FreshTab w B v us) (hu : us ≠ []) {k : Nat} (hk : v.ownBlock = some k) : B ≤ k ∧ k < w.heap.size := by
  rcases h with h | ⟨g, cap, rfl, _, hB, hl, _⟩
  · exact absurd h.1 hu
  · simp [Value.ownBlock] at hk
    subst hk
    exact ⟨hB, hl⟩
theorem TabRoom.fresh {w : World} {B : Nat} {v : Value} {es : List (Int × Int)} (h : TabRoom w B v es) : FreshTab w B v es := .inr h
/-- A table whose row lies elsewhere stays, when one row is marked. -/
theorem FreshTab.grown {w w' : World} {B : Nat} {v : Value} {us : List (Int × Int)} {row : Option Nat} (h : FreshTab w B v us) (hg : w.grownBy w' row) (hne : ∀ k, row = some k → k < B) : FreshTab w' B v us := by
  rcases h with h | ⟨g, cap, rfl, h1, h2, h3, h4, h5⟩
  · exact .inl h
  · have hn : some g ≠ row := fun e => by have := hne g e.symm; omega
    refine .inr ⟨g, cap, rfl, h1, h2, Nat.lt_of_lt_of_le h3 hg.size, h4.grown hg hn, fun i hi => ?_⟩
    obtain ⟨⟨u, hu⟩, hf⟩ := h5 i hi
    refine ⟨⟨u, cell_grown hu hg hn⟩, ?_⟩
    rw [World.frozen?_of_block (hg.block g h3 hn)]; exact hf
/-- Marks in a row that is behind B turn nothing below B. -/
theorem below_markd {w w' : World} {B : Nat} {row : Option Nat} (hg : w.grownBy w' row) (hr : ∀ k, row = some k → B ≤ k) (hB : B ≤ w.heap.size) : Below B w w' :=
  ⟨hg.os, hg.tape, hg.output, hg.size, fun k hk => hg.block k (Nat.lt_of_lt_of_le hk hB) fun e => by have := hr k e.symm; omega⟩

end Go.Proofs.YtoidmmedpefjfaaGreatDoor

/- A line as it goes outside, and RwrLine, of the program. Conditions: the table is ok; the text has at most 2^21 bytes; the variables that are read hold what they are laid with. -/
namespace Go.Proofs.YtoidmmedpefjfaaGreatDoor
open Go.RowKit Go.Sort

set_option maxRecDepth 100000 in
set_option maxHeartbeats 1600000 in
theorem lineOutside_any (g1 g2 : Nat) (es : List (Int × Int)) (s : ByteArray) (w : World) (hs : s.size ≤ 2097152) (hb : Both w g1 g2 es) (hm : mapB es = true) (hv : ∀ w', Two g1 g2 w w' → VarsOk w') :
    Calls Tryz.prog 52 #[.agg #[.map (some g1), .map (some g2)], .string s] w fun e w' => e = .returned (.string ⟨(lineE es s.data.toList).2.toArray⟩) ∧ Both w' g1 g2 (lineE es s.data.toList).1 ∧ Two g1 g2 w w' := by
  have HBo : Hid (∀ w', Below w.heap.size w w' → Both w' g1 g2 es) := fun w' h => hb.later h
  have HV := Lib.hid hv
  have l1 := hb.lt.1
  have l2 := hb.lt.2
  clear hb hv
  rcases hx : saysE s.data.toList with _ | ⟨a, p⟩
  · have HB : Hid (∀ w, VarsOk w → Calls Tryz.prog 20 #[.string s] w fun e w' => e = .returned (.tuple #[.agg #[.int .i64 0, .int .i64 0], .bool false]) ∧ Below w.heap.size w w') := fun w hv => by have := implSays_any s w hs hv; rw [hx] at this; exact this
    have HE : Hid (lineE es s.data.toList = (es, s.data.toList)) := lineE_none hx
    rw [HE.out, str_same]
    clear hx HE hm
    go_enter Tryz.func52, Tryz.ntmps52
    go_wp2_with fail
    (go_at_call 20; refine (HB.out _ (HV.out _ (Two.of_below ((Below.refl _ _).alloc (Nat.le_refl _) _)))).mono ?_; rintro e w1 ⟨rfl, b1⟩; have B1 : Hid (Below w.heap.size w w1) := ((Below.refl _ _).alloc (Nat.le_refl _) _).trans (b1.mono (by simp)); clear b1)
    go_wp2_with fail
    go_ret
    have B2 : Below w.heap.size w (w1.alloc (.cells #[.int .i64 0, .int .i64 0] 34)) := B1.out.alloc B1.out.size _
    exact ⟨rfl, HBo.out _ B2, Two.of_below B2⟩
  · have HB : Hid (∀ w, VarsOk w → Calls Tryz.prog 20 #[.string s] w fun e w' => e = .returned (.tuple #[.agg #[.int .i64 a, .int .i64 p], .bool true]) ∧ Below w.heap.size w w') := fun w hv => by have := implSays_any s w hs hv; rw [hx] at this; exact this
    have hE := lineE_some (es := es) hx
    have hi := says_ins hx
    obtain ⟨us, hus⟩ : ∃ us, us = (putE es (a, p)).1 := ⟨_, rfl⟩
    obtain ⟨q, hq⟩ : ∃ q, q = (putE es (a, p)).2 := ⟨_, rfl⟩
    rw [← hus, ← hq] at hE
    have HG : Hid (∀ w, Both w g1 g2 es → Calls Tryz.prog 94 #[.agg #[.map (some g1), .map (some g2)], .agg #[.int .i64 a, .int .i64 p]] w fun e w' => e = .returned (.int .i64 q) ∧ Both w' g1 g2 us ∧ Two g1 g2 w w') := fun w h => by rw [hus, hq]; exact givePort_any g1 g2 es a p w h hm hi
    by_cases h0 : q = 0
    · rw [hE, if_pos h0]
      subst h0
      clear hE hx hus hq hm hi
      go_enter Tryz.func52, Tryz.ntmps52
      go_wp2_with fail
      (go_at_call 20; refine (HB.out _ (HV.out _ (Two.of_below ((Below.refl _ _).alloc (Nat.le_refl _) _)))).mono ?_; rintro e w1 ⟨rfl, b1⟩; have B1 : Hid (Below w.heap.size w w1) := ((Below.refl _ _).alloc (Nat.le_refl _) _).trans (b1.mono (by simp)); have t0 : ∀ o, (w1.alloc o).cell? ⟨w.heap.size, 0, none⟩ = some (.map (some g1)) := (fun o => by rw [cell_alloc_lt (by have := b1.size; simp at this; omega), b1.cell (by simp)]; simp); have t1 : ∀ o, (w1.alloc o).cell? ⟨w.heap.size, 1, none⟩ = some (.map (some g2)) := (fun o => by rw [cell_alloc_lt (by have := b1.size; simp at this; omega), b1.cell (by simp)]; simp); clear b1)
      have B2 : Hid (∀ o, Below w.heap.size w (w1.alloc o)) := fun o => B1.out.alloc B1.out.size o
      go_wp2_with fail
      (go_at_call 94; refine (HG.out _ (HBo.out _ (B2.out _))).mono ?_; rintro e w2 ⟨rfl, hb2, t2⟩; have HB2 := Lib.hid hb2; have T2 : Hid (Two g1 g2 w w2) := (Two.of_below (B2.out _)).trans t2; clear hb2 t2)
      go_wp2_with fail
      go_ret
      exact ⟨rfl, HB2.out, T2.out⟩
    · rw [hE, if_neg h0]
      have hqb : (q == 0) = false := by simpa using h0
      clear hE hx hus hq hm hi
      go_enter Tryz.func52, Tryz.ntmps52
      go_wp2_with fail
      (go_at_call 20; refine (HB.out _ (HV.out _ (Two.of_below ((Below.refl _ _).alloc (Nat.le_refl _) _)))).mono ?_; rintro e w1 ⟨rfl, b1⟩; have B1 : Hid (Below w.heap.size w w1) := ((Below.refl _ _).alloc (Nat.le_refl _) _).trans (b1.mono (by simp)); have t0 : ∀ o, (w1.alloc o).cell? ⟨w.heap.size, 0, none⟩ = some (.map (some g1)) := (fun o => by rw [cell_alloc_lt (by have := b1.size; simp at this; omega), b1.cell (by simp)]; simp); have t1 : ∀ o, (w1.alloc o).cell? ⟨w.heap.size, 1, none⟩ = some (.map (some g2)) := (fun o => by rw [cell_alloc_lt (by have := b1.size; simp at this; omega), b1.cell (by simp)]; simp); clear b1)
      have B2 : Hid (∀ o, Below w.heap.size w (w1.alloc o)) := fun o => B1.out.alloc B1.out.size o
      go_wp2_with fail
      (go_at_call 94; refine (HG.out _ (HBo.out _ (B2.out _))).mono ?_; rintro e w2 ⟨rfl, hb2, t2⟩; have HB2 := Lib.hid hb2; have T2 : Hid (Two g1 g2 w w2) := (Two.of_below (B2.out _)).trans t2; clear hb2 t2)
      go_wp2_with fail
      (go_at_call 95; refine (boxAt_any q _).mono ?_; rintro e w25 ⟨rfl, b25⟩; have HB25 := Lib.hid (HB2.out.later b25); have T25 : Hid (Two g1 g2 w w25) := T2.out.trans (Two.of_below b25); clear b25)
      go_wp2_with fail
      (go_at_call 25; refine (implLinPort_any 50 q _ (HV.out _ T25.out).tab).mono ?_; rintro e w3 ⟨rfl, b3⟩)
      go_wp2_with fail
      go_ret
      exact ⟨rfl, HB25.out.later b3, T25.out.trans (Two.of_below b3)⟩

/-- What RwrLine answers. -/
def rwrA (es : List (Int × Int)) (l : List UInt8) : List (Int × Int) × List UInt8 := if mapB es = true ∧ linB l = true then lineE es l else ([], [])

set_option maxRecDepth 100000 in
set_option maxHeartbeats 1600000 in
theorem implRwrLine_not (v : Value) (es : List (Int × Int)) (s : ByteArray) (w : World) (hn : es.length ≤ 4194304) (hs : s.size ≤ 2097152) (hwf : wfE es) (ht : TabAt w v es) (hno : (mapB es && linB s.data.toList) = false) :
    Calls Tryz.prog 14 #[.agg #[v], .string s] w fun e w' => e = .returned (.tuple #[.agg #[.slice none 0 0], .string ⟨#[]⟩]) ∧ Below w.heap.size w w' := by
  have HT := Lib.hid ht
  obtain ⟨ad, cap, rfl, hcap, hr⟩ := ht
  have hM : Hid (∀ w, TabAt w (.slice ad es.length cap) es → Calls Tryz.prog 21 #[.agg #[.slice ad es.length cap]] w fun e w' => e = .returned (.bool (mapB es)) ∧ Below w.heap.size w w') := fun w h => implMapOk_any _ es w hn hwf h
  have hL : Hid (∀ w, Calls Tryz.prog 23 #[.string s] w fun e w' => e = .returned (.bool (linB s.data.toList)) ∧ w = w') := fun w => implLin_any s w (by omega)
  clear hr hwf
  by_cases hm : mapB es = true
  · have hi : linB s.data.toList = false := by rw [hm] at hno; simpa using hno
    rw [hm] at hM
    rw [hi] at hL
    clear hno hm
    go_enter Tryz.func14, Tryz.ntmps14
    go_wp2_with (first
      | (go_at_call 21; refine (hM.out _ (HT.out.below (((Below.refl _ _).alloc (Nat.le_refl _) _).alloc (by simp) _))).mono ?_; rintro e w1 ⟨rfl, b1⟩; obtain ⟨_, cB, b01, z1⟩ := cell_two b1; have r0 := (cB 0).1; have g0 := (cB 0).2; simp at r0; clear cB)
      | (go_at_call 23; refine (hL.out _).mono ?_; rintro e w2 ⟨rfl, rfl⟩))
    refine bodyPost_ret (v := .tuple #[.agg #[.slice none 0 0], .string ⟨#[]⟩]) (by simp [results, Tryz.results14, go_sem, World.cell?_setCell_same _ _ _ r0]) rfl ⟨rfl, ?_⟩
    exact b01.setCell (by simp) _
  · have hm' : mapB es = false := by simpa using hm
    rw [hm'] at hM
    clear hno hm hm'
    go_enter Tryz.func14, Tryz.ntmps14
    go_wp2_with (go_at_call 21; refine (hM.out _ (HT.out.below (((Below.refl _ _).alloc (Nat.le_refl _) _).alloc (by simp) _))).mono ?_; rintro e w1 ⟨rfl, b1⟩; obtain ⟨_, cB, b01, z1⟩ := cell_two b1; have r0 := (cB 0).1; have g0 := (cB 0).2; simp at r0; clear cB)
    refine bodyPost_ret (v := .tuple #[.agg #[.slice none 0 0], .string ⟨#[]⟩]) (by simp [results, Tryz.results14, go_sem, World.cell?_setCell_same _ _ _ r0]) rfl ⟨rfl, ?_⟩
    exact b01.setCell (by simp) _

set_option maxRecDepth 100000 in
set_option maxHeartbeats 1600000 in
theorem implRwrLine_ok (v : Value) (es : List (Int × Int)) (s : ByteArray) (w : World) (hn : es.length ≤ 4194304) (hs : s.size ≤ 2097152) (ht : TabAt w v es) (hm : mapB es = true) (hl : linB s.data.toList = true) (hv : VarsOk w) :
    Calls Tryz.prog 14 #[.agg #[v], .string s] w fun e w' => ∃ g c, e = .returned (.tuple #[.agg #[.slice g (lineE es s.data.toList).1.length c], .string ⟨(lineE es s.data.toList).2.toArray⟩]) ∧ OwnTab w' w.heap.size (.slice g (lineE es s.data.toList).1.length c) (lineE es s.data.toList).1 ∧ Below w.heap.size w w' := by
  have HT := Lib.hid ht
  have hwf := mapB_wf hm
  obtain ⟨ad, cap, rfl, hcap, hr⟩ := ht
  have hM : Hid (∀ w, TabAt w (.slice ad es.length cap) es → Calls Tryz.prog 21 #[.agg #[.slice ad es.length cap]] w fun e w' => e = .returned (.bool true) ∧ Below w.heap.size w w') := fun w h => by rw [← hm]; exact implMapOk_any _ es w hn hwf h
  have hL : Hid (∀ w, Calls Tryz.prog 23 #[.string s] w fun e w' => e = .returned (.bool true) ∧ w = w') := fun w => by rw [← hl]; exact implLin_any s w (by omega)
  have HP : Hid (∀ w, TabAt w (.slice ad es.length cap) es → Calls Tryz.prog 51 #[.agg #[.slice ad es.length cap]] w fun e w' => ∃ g1 g2, e = .returned (.agg #[.map (some g1), .map (some g2)]) ∧ w.heap.size ≤ g1 ∧ w.heap.size ≤ g2 ∧ Both w' g1 g2 es ∧ Below w.heap.size w w') := fun w h => portsOf_any _ es w hn hwf h
  have HV : Hid (∀ w', Below w.heap.size w w' → VarsOk w') := fun w' h => hv.below h
  have hmu : mapB (lineE es s.data.toList).1 = true := lineE_ok hm
  obtain ⟨us, hus⟩ : ∃ us, us = (lineE es s.data.toList).1 := ⟨_, rfl⟩
  obtain ⟨q, hq⟩ : ∃ q, q = (lineE es s.data.toList).2.toArray := ⟨_, rfl⟩
  rw [← hus] at hmu
  have HG : Hid (∀ g1 g2 w, Both w g1 g2 es → (∀ w', Two g1 g2 w w' → VarsOk w') → Calls Tryz.prog 52 #[.agg #[.map (some g1), .map (some g2)], .string s] w fun e w' => e = .returned (.string ⟨q⟩) ∧ Both w' g1 g2 us ∧ Two g1 g2 w w') := fun g1 g2 w h h2 => by rw [hus, hq]; exact lineOutside_any g1 g2 es s w hs h hm h2
  have HO : Hid (∀ g1 g2 w, Both w g1 g2 us → Calls Tryz.prog 53 #[.agg #[.map (some g1), .map (some g2)]] w fun e w' => ∃ a c, e = .returned (.agg #[.slice a us.length c]) ∧ OwnTab w' w.heap.size (.slice a us.length c) us ∧ Below w.heap.size w w') := fun g1 g2 w h => tableOf_any g1 g2 us w h (valsL_ok hmu) (by have := mapB_le hmu; omega)
  rw [← hus, ← hq]
  clear hr hm hus hq hmu hwf hcap hn hl hs hv
  go_enter Tryz.func14, Tryz.ntmps14
  go_wp2_with fail
  (go_at_call 21; refine (hM.out _ (HT.out.below (((Below.refl _ _).alloc (Nat.le_refl _) _).alloc (by simp) _))).mono ?_; rintro e w1 ⟨rfl, b1⟩; obtain ⟨cA, cB, b01, z1⟩ := cell_two b1; have t0 := (cA 0).1; have r0 := (cB 0).1; have g0 := (cB 0).2; simp at t0 r0; have B1 := Lib.hid b01; clear cA cB b1 b01)
  go_wp2_with fail
  (go_at_call 23; refine (hL.out _).mono ?_; rintro e w2 ⟨rfl, rfl⟩)
  go_wp2_with fail
  (go_at_call 51; refine (HP.out _ (HT.out.below B1.out)).mono ?_; rintro e w3 ⟨g1, g2, rfl, l1, l2, hb, b3⟩; have z3 := b3.size; have m1 := hb.lt.1; have m2 := hb.lt.2; have HB : Hid (∀ o, Both (w3.alloc o) g1 g2 es) := (fun o => hb.later ((Below.refl _ _).alloc (Nat.le_refl _) o)); have B3 : Hid (Below w.heap.size w w3) := B1.out.trans (b3.mono (by omega)); have r3 : ∀ o, (w3.alloc o).cell? ⟨w.heap.size + 1, 0, none⟩ = some (.slice none 0 0) := (fun o => by rw [cell_alloc_lt (by omega), b3.cell (by simp; omega)]; exact r0); have g03 : ∀ o, (w3.alloc o).frozen? ⟨w.heap.size + 1, 0, none⟩ = false := (fun o => by rw [frozen_alloc_lt (by omega), b3.frozen (by simp; omega)]; exact g0); clear hb b3)
  have B4 : Hid (∀ o w', Two g1 g2 (w3.alloc o) w' → Below w.heap.size w w') := fun o w' h => (B3.out.alloc B3.out.size _).trans (h.below (by simp; omega) (by omega) (by omega))
  go_wp2_with fail
  (go_at_call 52; refine (HG.out g1 g2 _ (HB.out _) (fun w' h => HV.out _ (B4.out _ _ h))).mono ?_; rintro e w4 ⟨rfl, hb4, t4⟩; have HB4 := Lib.hid hb4; have z4 : w3.heap.size + 1 ≤ w4.heap.size := (by have := t4.size; simpa using this); have p0 : w4.cell? ⟨w3.heap.size, 0, none⟩ = some (.map (some g1)) := (by rw [t4.cell (by simp) (by omega) (by omega)]; simp); have p1 : w4.cell? ⟨w3.heap.size, 1, none⟩ = some (.map (some g2)) := (by rw [t4.cell (by simp) (by omega) (by omega)]; simp); have r4 : w4.cell? ⟨w.heap.size + 1, 0, none⟩ = some (.slice none 0 0) := (by rw [t4.cell (by simp; omega) (by omega) (by omega)]; exact r3 _); have g04 : w4.frozen? ⟨w.heap.size + 1, 0, none⟩ = false := (by rw [t4.frozen (by simp; omega) (by omega) (by omega)]; exact g03 _); have B5 : Hid (Below w.heap.size w w4) := B4.out _ _ t4; clear hb4 t4)
  go_wp2_with fail
  (go_at_call 53; refine (HO.out g1 g2 _ HB4.out).mono ?_; rintro e w5 ⟨g5, c5, rfl, o5, b5⟩; have O5 := Lib.hid o5; have r5 : w5.cell? ⟨w.heap.size + 1, 0, none⟩ = some (.slice none 0 0) := (by rw [b5.cell (by simp; omega)]; exact r4); have g05 : w5.frozen? ⟨w.heap.size + 1, 0, none⟩ = false := (by rw [b5.frozen (by simp; omega)]; exact g04); have B6 : Hid (Below w.heap.size w w5) := B5.out.trans (b5.mono (by omega)); clear o5 b5)
  go_wp2_with fail
  refine bodyPost_ret (v := .tuple #[.agg #[.slice g5 us.length c5], .string ⟨q⟩]) (by simp [results, Tryz.results14, go_sem, World.cell?_setCell_same _ _ _ r5]) rfl ⟨_, _, rfl, ?_, B6.out.setCell (by simp) _⟩
  exact OwnTab.mono (B := w4.heap.size) (ownsRow_setCell_below (a := ⟨w.heap.size + 1, 0, none⟩) O5.out (by simp; omega) _) (by omega)

end Go.Proofs.YtoidmmedpefjfaaGreatDoor

/- StrLines and StrOk of the specification, at every text. Condition: the text has at most 2^21 bytes. -/
namespace Go.Proofs.YtoidmmedpefjfaaGreatDoor
open Go.RowKit

set_option maxRecDepth 100000 in
set_option maxHeartbeats 800000 in
theorem specLines_any (s : ByteArray) (w : World) (hs : s.size ≤ 2097152) :
    Calls Tryz.prog 73 #[.string s] w fun e w' => ∃ v, e = .returned (.tuple #[v, .string ⟨(restL s.data.toList).toArray⟩]) ∧ w'.ownsRow w.heap.size 9 1 v (linesL s.data.toList).length ((linesL s.data.toList).map strV) ∧ Below w.heap.size w w' := by
  obtain ⟨i0, hi, hz0, hz1, hz2⟩ := info_parts infoStr
  go_enter Tryz.func73, Tryz.ntmps73
  go_wp2
  go_loopw [4, 5, 6] (fun v f i wr => ∃ (k m : Nat) (W0 : List (List UInt8) × List UInt8), k ≤ s.size ∧ i = .int .i64 k ∧ f = .int .i64 m ∧ m + W0.2.length = k ∧ W0 = linesF (s.data.toList.take k) ∧ wr.ownsRow w.heap.size 9 1 v W0.1.length (W0.1.map strV) ∧ Below w.heap.size w wr)
    (fun _ _ i _ => s.size - (intOf i).toNat)
  case atStart => exact ⟨0, 0, ([], []), Nat.zero_le _, rfl, rfl, rfl, rfl, World.ownsRow_made w #[] 0 (Nat.le_refl _) (Nat.zero_le _) rfl, (Below.refl _ _).alloc (Nat.le_refl _) _⟩
  case round =>
    obtain ⟨k, m, W0, hk, rfl, rfl, hm, hW, hown, hb⟩ := hrel
    have HW := Lib.hid hW
    have HM := Lib.hid hm
    have hlen : W0.1.length ≤ k := by
      have := lines_len (s.data.toList.take k)
      rw [hW]; simp [linesL] at this ⊢; omega
    have hmk : m ≤ k := by omega
    have hbs := hb.size
    clear hW hm
    by_cases hlt : k < s.size
    · have hsn : Hid (linesF (s.data.toList.take (k + 1)) = stl W0 s[k]) := by
        show linesF (s.data.toList.take (k + 1)) = stl W0 s[k]
        rw [take_snoc s k hlt, linesF_snoc, HW.out]
      by_cases h59 : s[k] = 59
      · have ht : (((s[k]).toNat : Int) == 59) = true := by rw [h59]; rfl
        have H59 : Hid (s[k] = 59) := h59
        have HX : Hid (s.extract m k = ⟨W0.2.toArray⟩) := by
          show s.extract m k = _
          have h1 := rest_drop (s.data.toList.take k)
          rw [show restL (s.data.toList.take k) = W0.2 by rw [HW.out]; rfl] at h1
          have h2 : (s.data.toList.take k).length - W0.2.length = m := by have := HM.out; simp; omega
          rw [h2] at h1
          rw [ext_list, ← h1]
        clear h59
        go_wp2_with (at_builtin; rw [HX.out]; refine wpList_append_own _ rfl (.tmp 18) (.tmp 23) 40 rfl w.heap.size 9 i0 (.string ⟨#[]⟩) 1 16 Tryz.underlying40 hi hz0 hz1 hz2 rfl (by decide) _ _ _ rfl (hown.alloc _) ⟨wr.heap.size, 0, none⟩ 1 1 [.string ⟨W0.2.toArray⟩] rfl rfl ?c1 ?c2 ?c3 ?c4 ?c5 ?_)
        case c1 =>
          intro j u hj
          match j, hj with
          | 0, hj => simp at hj; subst hj; simp [Addr.add]
        case c2 => intro u hu; simp at hu; subst hu; rfl
        case c3 => unfold maxLen; omega
        case c4 => omega
        case c5 => simp; omega
        · intro v' w1 hown' hgrow _
          go_wp2
          go_roundw
          case rel =>
            refine ⟨k + 1, k + 1, stl W0 s[k], by omega, by go_num, by go_num, ?_, hsn.out.symm, ?_, ?_⟩
            · rw [stl, if_pos H59.out]; simp
            · rw [stl, if_pos H59.out]; simpa [strV] using hown'
            · exact (hb.alloc hbs _).grown hgrow (by simp; omega) (fun k hk => (hown.lt k hk).1)
          case measure => simp [intOf]; omega
      · have ht : (((s[k]).toNat : Int) == 59) = false := by
          have e59 : (59 : UInt8).toNat = 59 := rfl
          simp; intro e; exact h59 (UInt8.toNat_inj.1 (by omega))
        have H59 : Hid (¬ s[k] = 59) := h59
        clear h59
        go_wp2
        go_roundw
        case rel =>
          refine ⟨k + 1, m, stl W0 s[k], by omega, by go_num, rfl, ?_, hsn.out.symm, ?_, hb⟩
          · have := HM.out
            rw [stl, if_neg H59.out]; simp; omega
          · rw [stl, if_neg H59.out]; exact hown
        case measure => simp [intOf]; omega
    · have HK : Hid (s.data.toList.take k = s.data.toList) := List.take_of_length_le (by rw [len_list]; omega)
      have HX : Hid (s.extract m s.size = ⟨(restL s.data.toList).toArray⟩) := by
        show s.extract m s.size = _
        have h1 := rest_drop s.data.toList
        have h0 : restL s.data.toList = W0.2 := by rw [HW.out, HK.out]; rfl
        have h2 : s.data.toList.length - (restL s.data.toList).length = m := by have := HM.out; rw [h0, len_list]; omega
        rw [h2] at h1
        rw [ext_list, List.take_of_length_le (by rw [len_list]; omega), ← h1]
      have HE : Hid (linesL s.data.toList = W0.1) := by
        show linesL s.data.toList = W0.1
        rw [HW.out, HK.out]; rfl
      have hm1 : (0 : Int) ≤ (m : Int) := by omega
      have hm2 : (m : Int) ≤ (s.size : Int) := by omega
      go_wp2_with fail
      go_region
      go_wp2
      go_ret2
      exact ⟨_, by rw [HX.out]; rfl, by rw [HE.out]; exact hown, hb.drew⟩

set_option maxRecDepth 100000 in
set_option maxHeartbeats 800000 in
theorem specStr_any (s : ByteArray) (w : World) (hs : s.size ≤ 2097152) :
    Calls Tryz.prog 29 #[.string s] w fun e w' => e = .returned (.bool (strB s.data.toList)) ∧ Below w.heap.size w w' := by
  by_cases h120 : 120 < s.size
  · go_enter Tryz.func29, Tryz.ntmps29
    go_wp2_with fail
    go_ret
    exact ⟨ret_bool (by unfold strB; rw [len_list, decide_eq_false (by omega)]; rfl), Below.refl _ _⟩
  · go_enter Tryz.func29, Tryz.ntmps29
    go_wp2_with (go_at_call 73; refine (specLines_any _ _ hs).mono ?_; rintro e w1 ⟨v, rfl, own1, b1⟩)
    obtain ⟨a1, cap1, rfl⟩ := own_form own1
    have hll := lines_len s.data.toList
    rw [len_list] at hll
    have sR : (⟨(restL s.data.toList).toArray⟩ : ByteArray).size ≤ 281474976710656 := by simp [ByteArray.size]; omega
    go_loop [5] (fun i => ∃ k : Nat, k ≤ (linesL s.data.toList).length ∧ i = .int .i64 k ∧ (∀ x ∈ (linesL s.data.toList).take k, linB x = true)) (fun i => (linesL s.data.toList).length - (intOf i).toNat)
    case atStart => exact ⟨0, Nat.zero_le _, rfl, by simp⟩
    case round =>
      obtain ⟨k, hk, rfl, hd⟩ := hrel
      have HD := Lib.hid hd
      clear hd
      by_cases hlt : k < (linesL s.data.toList).length
      · obtain ⟨g, cap, e1, gB, gl, hcap, hcells⟩ := own_cells own1 (by omega)
        obtain ⟨x, hx⟩ : ∃ x, x = (linesL s.data.toList)[k] := ⟨_, rfl⟩
        have hcell : w1.cell? ⟨g, k, none⟩ = some (strV x) := by
          rw [(hcells k (by simpa using hlt)).1]; simp [hx]
        have hxl : x.length ≤ s.size := by rw [← len_list]; exact line_len (by rw [hx]; exact List.getElem_mem _)
        have sX : (⟨x.toArray⟩ : ByteArray).size ≤ 281474976710656 := by simp [ByteArray.size]; omega
        simp at e1
        obtain ⟨rfl, rfl⟩ := e1
        have HX : Hid (x = (linesL s.data.toList)[k]) := hx
        clear hx hcells hxl
        unfold strV at hcell
        by_cases hb : linB x = true
        · have HB := Lib.hid hb
          go_wp2_with (go_at_call 18; refine (specLin_any _ _ sX).mono ?_; rintro e w' ⟨rfl, rfl⟩)
          go_round
          case rel =>
            refine ⟨k + 1, by omega, by go_num, ?_⟩
            rw [List.take_succ_eq_append_getElem hlt, ← HX.out]; intro y hy
            rcases List.mem_append.1 hy with hy | hy
            · exact HD.out y hy
            · simp at hy; subst hy; exact HB.out
          case measure => simp [intOf]; omega
        · have HB : Hid (strB s.data.toList = false) := by
            have : (linesL s.data.toList).all linB = false := by
              rw [List.all_eq_false]; exact ⟨x, by rw [HX.out]; exact List.getElem_mem _, hb⟩
            show (_ && _ && _) = false
            rw [this]; simp
          go_wp2_with (go_at_call 18; refine (specLin_any _ _ sX).mono ?_; rintro e w' ⟨rfl, rfl⟩)
          go_ret
          exact ⟨ret_bool HB.out.symm, b1⟩
      · have HS : Hid (strB s.data.toList = linB (restL s.data.toList)) := by
          have he : (linesL s.data.toList).take k = linesL s.data.toList := List.take_of_length_le (by omega)
          show (_ && _ && _) = _
          rw [len_list, decide_eq_true (by omega), ← he, List.all_eq_true.2 HD.out]; simp
        go_wp2_with (go_at_call 18; refine (specLin_any _ _ sR).mono ?_; rintro e w' ⟨rfl, rfl⟩)
        go_ret
        exact ⟨ret_bool (by rw [HS.out]), b1⟩

end Go.Proofs.YtoidmmedpefjfaaGreatDoor

/- l3Stream and RwrStream of the specification. Conditions: the table is ok; the text has at most 2^21 bytes. -/
namespace Go.Proofs.YtoidmmedpefjfaaGreatDoor
open Go.RowKit Go.Sort

theorem lpL_len' (a p : Int) : (lpL a p).length ≤ 20 := by
  unfold lpL
  split
  · rename_i h
    obtain ⟨h1, h2, h3, h4⟩ := end_bounds h
    have l1 := dec_len4 (k := a.toNat) (by omega)
    have l2 := dec_len4 (k := p.toNat) (by omega)
    simp [portL, endL]; omega
  · simp
theorem lineE_len (es : List (Int × Int)) (l : List UInt8) : (lineE es l).2.length ≤ l.length + 20 := by
  rcases h : saysE l with _ | e
  · rw [lineE_none h]
    simp
  · rw [lineE_some h]
    simp only
    split
    · simp [noneL]
    · have := lpL_len' 50 (putE es e).2
      omega
/-- One line more goes outside. -/
def strF (T : List (Int × Int) × List UInt8) (l : List UInt8) : List (Int × Int) × List UInt8 := ((lineE T.1 l).1, T.2 ++ (lineE T.1 l).2 ++ [59])
/-- Lines as they go outside, one behind the other, and the table then. -/
def streamE (es : List (Int × Int)) (ls : List (List UInt8)) : List (Int × Int) × List UInt8 := ls.foldl strF (es, [])
theorem streamE_snoc (es : List (Int × Int)) (ls : List (List UInt8)) (l : List UInt8) : streamE es (ls ++ [l]) = strF (streamE es ls) l := by simp [streamE]
theorem streamE_ok {es : List (Int × Int)} (hm : mapB es = true) (ls : List (List UInt8)) : mapB (streamE es ls).1 = true := by
  unfold streamE
  suffices h : ∀ (T : List (Int × Int) × List UInt8), mapB T.1 = true → mapB (ls.foldl strF T).1 = true from h _ hm
  induction ls with
  | nil => intro T h; exact h
  | cons l r ih => intro T h; exact ih _ (lineE_ok h)

/-- A block of cells of this type. -/
def Tag (w : World) (b : Nat) (t : TypeId) : Prop := ∃ cs fz, w.heap[b]? = some (.cells cs t fz)
theorem Tag.lt {w : World} {b : Nat} {t : TypeId} (h : Tag w b t) : b < w.heap.size := by
  obtain ⟨_, _, h⟩ := h
  exact (Array.getElem?_eq_some_iff.1 h).1
theorem Tag.later {w w' : World} {b : Nat} {t : TypeId} (h : Tag w b t) (hb : Below w.heap.size w w') : Tag w' b t := by
  have hl := h.lt
  obtain ⟨cs, fz, h⟩ := h
  exact ⟨cs, fz, (hb.block b hl).trans h⟩
theorem Tag.new (w : World) (cs : Array Value) (t : TypeId) : Tag (w.alloc (.cells cs t)) w.heap.size t := ⟨cs, _, heap_alloc_new w (.cells cs t)⟩
/-- A table that lies in a block of ends stays, when a cell of a block of another type is written. -/
theorem OwnTab.setTag {w : World} {B : Nat} {v : Value} {es : List (Int × Int)} {t : TypeId} (h : OwnTab w B v es) {a : Addr} (ht : Tag w a.block t) (hne : t ≠ 34) (u : Value) : OwnTab (w.setCell a u) B v es := by
  refine ⟨h.1, ?_⟩
  rcases h.2 with h2 | ⟨g, cap, cur, hv, hB, hg, r⟩
  · exact .inl h2
  · refine .inr ⟨g, cap, cur, hv, hB, ?_, r⟩
    rw [Below.heap_setCell _ _ _ _ fun e => ?_]
    · exact hg
    · obtain ⟨cs, fz, h1⟩ := ht
      rw [← e, hg] at h1
      injection h1 with h1
      injection h1 with _ h2 _
      exact hne h2.symm
theorem tab_ne : (25 : TypeId) ≠ 34 := by decide
theorem fresh1t {W w : World} {x : Value} {t : TypeId} (h : Below (W.alloc (.cells #[x] t)).heap.size (W.alloc (.cells #[x] t)) w) : Tag w W.heap.size t := (Tag.new W #[x] t).later h
theorem fresh1dt {W w : World} {x : Value} {t : TypeId} (h : Below (W.alloc (.cells #[x] t)).drew.heap.size (W.alloc (.cells #[x] t)).drew w) : Tag w W.heap.size t := fresh1t (((Below.refl _ _).drew).trans h)
theorem Tag.setCell {w : World} {b : Nat} {t : TypeId} (h : Tag w b t) (a : Addr) (u : Value) : Tag (w.setCell a u) b t := by
  obtain ⟨cs, fz, h⟩ := h
  by_cases e : b = a.block
  · subst e
    refine ⟨if a.spot.isSome then cs else cs.setIfInBounds a.off u, fz, ?_⟩
    show (w.heap.modify a.block _)[a.block]? = _
    rw [Array.getElem?_modify]
    simp [h]
  · exact ⟨cs, fz, (Below.heap_setCell _ _ _ _ e).trans h⟩

set_option maxRecDepth 100000 in
set_option maxHeartbeats 3200000 in
theorem specStream_any (B : Nat) (ad : Addr) (cap : Nat) (es : List (Int × Int)) (s : ByteArray) (w : World) (hm : mapB es = true) (hs : s.size ≤ 2097152) (hB : B ≤ w.heap.size) (ho : OwnTab w B (.slice (some ad) es.length cap) es) :
    Calls Tryz.prog 72 #[.agg #[.slice (some ad) es.length cap], .string s] w fun e w' => ∃ g c, e = .returned (.tuple #[.agg #[.slice (some g) (streamE es (linesL s.data.toList)).1.length c], .string ⟨(streamE es (linesL s.data.toList)).2.toArray⟩]) ∧ OwnTab w' B (.slice (some g) (streamE es (linesL s.data.toList)).1.length c) (streamE es (linesL s.data.toList)).1 ∧ Below w.heap.size w w' := by
  have HO := Lib.hid ho
  have HM := Lib.hid hm
  have hlz : ∀ x ∈ linesL s.data.toList, x.length ≤ 2097152 := fun x hx => by have := line_len hx; rw [len_list] at this; omega
  have hl0 := lines_len s.data.toList
  rw [len_list] at hl0
  have HL : Hid (∀ w, Calls Tryz.prog 73 #[.string s] w fun e w' => ∃ v, e = .returned (.tuple #[v, .string ⟨(restL s.data.toList).toArray⟩]) ∧ w'.ownsRow w.heap.size 9 1 v (linesL s.data.toList).length ((linesL s.data.toList).map strV) ∧ Below w.heap.size w w') := fun w => specLines_any s w hs
  obtain ⟨ls, hls⟩ : ∃ ls, ls = linesL s.data.toList := ⟨_, rfl⟩
  obtain ⟨rs, hrs⟩ : ∃ rs, rs = (restL s.data.toList).toArray := ⟨_, rfl⟩
  rw [← hls] at HL hlz hl0 ⊢
  rw [← hrs] at HL
  have hln : ls.length ≤ 2097152 := by omega
  have HLZ := Lib.hid hlz
  clear ho hm hls hrs hlz hl0
  go_enter Tryz.func72, Tryz.ntmps72
  go_wp2_with fail
  (go_at_call 73; refine (HL.out _).mono ?_; rintro e w1 ⟨vl, rfl, own1, b1⟩; obtain ⟨cA, cB, b01, z1⟩ := cell_two b1; have t0 := (cA 0).1; have f0 := (cA 0).2; have r0 := (cB 0).1; have g0 := (cB 0).2; simp at t0 r0; have own1 := own_base (B' := w.heap.size + 2) own1 (by simp <;> omega); obtain ⟨al, capl, rfl⟩ := own_form own1; have OWN1 := Lib.hid own1; have B1 := Lib.hid b01; have T0 : Hid (Tag w1 w.heap.size 25) := (⟨_, _, (b1.block w.heap.size (by simp <;> omega)).trans ((Below.heap_alloc _ _ _ (by simp <;> omega)).trans (heap_alloc_new w _))⟩ : Tag w1 w.heap.size 25); have T1 : Hid (Tag w1 (w.heap.size + 1) 25) := (by obtain ⟨cs, fz, hh⟩ := Tag.new (w.alloc (.cells #[.slice (some ad) es.length cap] 25)) #[.slice none 0 0] 25; simp only [World.size_alloc] at hh; exact ⟨cs, fz, (b1.block (w.heap.size + 1) (by simp)).trans hh⟩); clear cA cB b1 b01 own1)
  go_wp2_with fail
  go_loopw [8, 9, 10, 11] (fun o i _ _ wr => ∃ (k : Nat) (us : List (Int × Int)) (x : List UInt8) (g : Addr) (c : Nat), k ≤ ls.length ∧ i = .int .i64 k ∧ o = .string ⟨x.toArray⟩ ∧ (us, x) = streamE es (ls.take k) ∧ x.length ≤ k * 2097173 ∧ wr.cell? ⟨w.heap.size, 0, none⟩ = some (.slice (some g) us.length c) ∧ wr.frozen? ⟨w.heap.size, 0, none⟩ = false ∧ Tag wr w.heap.size 25 ∧ Tag wr (w.heap.size + 1) 25 ∧ OwnTab wr B (.slice (some g) us.length c) us ∧ wr.cell? ⟨w.heap.size + 1, 0, none⟩ = some (.slice none 0 0) ∧ wr.frozen? ⟨w.heap.size + 1, 0, none⟩ = false ∧ wr.ownsRow (w.heap.size + 2) 9 1 (.slice al ls.length capl) ls.length (ls.map strV) ∧ Below w.heap.size w wr ∧ w.heap.size + 2 ≤ wr.heap.size) (fun _ i _ _ _ => ls.length - (intOf i).toNat)
  case atStart => exact ⟨0, es, [], ad, cap, Nat.zero_le _, rfl, rfl, rfl, by simp, t0, f0, T0.out, T1.out, HO.out.below B1.out, r0, g0, OWN1.out, B1.out, z1⟩
  case round =>
    obtain ⟨k, us, x, g, c, hk, rfl, rfl, hT, hxk, t2, f2, tg, tg1, ho, r2, g2, own, hb, hz⟩ := hrel
    have HT := Lib.hid hT
    have HO2 := Lib.hid ho
    have HTG := Lib.hid tg
    have HTG1 := Lib.hid tg1
    clear tg1
    have HOW := Lib.hid own
    have HB := Lib.hid hb
    clear hT ho tg hb
    by_cases hlt : k < ls.length
    · obtain ⟨gl, cl, hv, hgB, hgl, hcl, hcells⟩ := own_cells own (by omega)
      simp at hv
      obtain ⟨rfl, rfl⟩ := hv
      obtain ⟨q0, _⟩ := hcells k (by simpa using hlt)
      simp only [List.getElem_map] at q0
      have hx := HLZ.out ls[k] (List.getElem_mem hlt)
      have HTK : Hid (ls.take (k + 1) = ls.take k ++ [ls[k]]) := List.take_succ_eq_append_getElem hlt
      obtain ⟨y, hy⟩ : ∃ y, y = ls[k] := ⟨_, rfl⟩
      rw [← hy] at q0 hx HTK
      have hul : us.length ≤ 6 := by
        have := mapB_le (streamE_ok HM.out (ls.take k))
        rw [← HT.out] at this
        exact this
      obtain ⟨us', hus⟩ : ∃ us', us' = (lineE us y).1 := ⟨_, rfl⟩
      obtain ⟨x', hx'⟩ : ∃ x', x' = (lineE us y).2 := ⟨_, rfl⟩
      have HN : Hid ((us', x ++ x' ++ [59]) = streamE es (ls.take (k + 1))) := by
        show _ = _
        rw [HTK.out, streamE_snoc, ← HT.out, hus, hx']; rfl
      have hxl : x'.length ≤ 2097172 := by have := lineE_len us y; rw [hx']; omega
      have hxb : x.length ≤ 4400000000000 := by have : k * 2097173 ≤ 2097152 * 2097173 := Nat.mul_le_mul_right _ (by omega); omega
      have hxn : (x ++ x' ++ [59]).length ≤ (k + 1) * 2097173 := by simp; omega
      have HXN := Lib.hid hxn
      clear hxn
      have HC : Hid (∀ w0, B ≤ w0.heap.size → OwnTab w0 B (.slice (some g) us.length c) us → Calls Tryz.prog 54 #[.agg #[.slice (some g) us.length c], strV y] w0 fun e w' => ∃ g c, e = .returned (.tuple #[.agg #[.slice (some g) us'.length c], .string ⟨x'.toArray⟩]) ∧ OwnTab w' B (.slice (some g) us'.length c) us' ∧ Below w0.heap.size w0 w') := fun w0 h1 h2 => by
        rw [hus, hx']
        exact specLine_any B g c us ⟨y.toArray⟩ w0 (by omega) (by show y.toArray.size ≤ _; simpa using hx) h1 h2
      have hk2 : (k : Int) ≤ (capl : Int) := by omega
      have hk3 : (k : Int) ≤ 2097152 := by omega
      have mk : Hid (∀ w', Below wr.heap.size wr w' → w'.cell? ⟨w.heap.size, 0, none⟩ = some (.slice (some g) us.length c) ∧ w'.cell? ⟨gl, k, none⟩ = some (strV y) ∧ Below wr.heap.size wr w') := fun w' h => ⟨box_below t2 h, box_below q0 h, h⟩
      clear hcells hy own hx hus hx'
      go_upto_region 6 with fail
      go_cut [10, 11] (fun s10 s11 wx => ∃ b g c, s10 = .pointer (some ⟨b, 0, none⟩) ∧ s11 = .string ⟨x'.toArray⟩ ∧ wx.cell? ⟨b, 0, none⟩ = some (.slice (some g) us'.length c) ∧ OwnTab wx B (.slice (some g) us'.length c) us' ∧ Below wr.heap.size wr wx)
      case first =>
        go_region_held3 (fun w' => w'.cell? ⟨w.heap.size, 0, none⟩ = some (.slice (some g) us.length c) ∧ w'.cell? ⟨gl, k, none⟩ = some (strV y) ∧ Below wr.heap.size wr w')
          (first
            | exact mk.out _ (Below.refl _ _).drew
            | exact mk.out _ cc
            | exact mk.out _ (cc.alloc cc.size _)
            | exact mk.out _ (cc.setCell (by first | (simp; done) | (simp; omega)) _)
            | exact mk.out _ (((Below.refl _ _).drew).alloc (Nat.le_refl _) _)
            | (trace_state; fail))
          (first | (go_at_call 54; have hS := (by assumption : _ ∧ _ ∧ Below wr.heap.size wr _); refine (HC.out _ (Nat.le_trans (by omega : B ≤ wr.heap.size) hS.2.2.size) (HO2.out.below hS.2.2)).mono ?_; rintro e wN ⟨gN, cN, rfl, oN, bN⟩; have ON := Lib.hid oN; have cc : Below wr.heap.size wr wN := hS.2.2.trans (bN.mono hS.2.2.size); (first | (have hk := fresh1 bN; obtain ⟨k0, kf⟩ := hk; have kt := fresh1t bN) | (have hk := fresh1d bN; obtain ⟨k0, kf⟩ := hk; have kt := fresh1dt bN) | skip)))
        all_goals (go_wp2_with fail; go_meet)
        all_goals (first | exact ⟨_, _, _, rfl, rfl, by simp, ON.out.below ((Below.refl _ _).alloc (Nat.le_refl _) _), cc.alloc cc.size _⟩ | exact ⟨_, _, _, rfl, rfl, World.cell?_setCell_same _ _ _ k0, ON.out.setTag kt tab_ne _, cc.setCell (by first | (simp; done) | (simp; omega)) _⟩ | (trace_state; fail))
      case rest =>
        obtain ⟨b, gN, cN, rfl, rfl, kN, oN, bN⟩ := hcut
        have ON := Lib.hid oN
        have BN := Lib.hid bN
        have t3 := box_below t2 bN
        have f3 := box_frozen t2 f2 bN
        have r3 := box_below r2 bN
        have g3 := box_frozen r2 g2 bN
        have TG3 := Lib.hid (HTG.out.later bN)
        have OW3 := Lib.hid (own_below HOW.out bN)
        have zN := bN.size
        have HSX : Hid ((⟨x.toArray⟩ : ByteArray) ++ ⟨x'.toArray⟩ ++ ⟨#[59]⟩ = ⟨(x ++ x' ++ [59]).toArray⟩) := by
          show _ = _
          apply ByteArray.ext
          apply Array.ext'
          simp
        clear oN bN t2 f2 r2 g2 q0
        clear hxk
        go_wp2_with fail
        go_roundw
        case rel =>
          refine ⟨k + 1, us', x ++ x' ++ [59], gN, cN, by omega, by go_num, by rw [HSX.out], HN.out, HXN.out, World.cell?_setCell_same _ _ _ t3, by rw [World.frozen?_setCell]; exact f3, TG3.out.setCell _ _, (HTG1.out.later BN.out).setCell _ _, ON.out.setTag TG3.out tab_ne _, ?_, by rw [World.frozen?_setCell]; exact g3, ownsRow_setCell_below OW3.out (by simp) _, ?_, by simp; omega⟩
          · rw [World.cell?_setCell_far _ ⟨w.heap.size, 0, none⟩ ⟨w.heap.size + 1, 0, none⟩ _ (by show w.heap.size ≠ w.heap.size + 1; omega)]; exact r3
          · exact (HB.out.trans (BN.out.mono (by omega))).setCell (by simp) _
        case measure => simp [intOf]; omega
    · have hke : k = ls.length := by omega
      have HTE : Hid ((us, x) = streamE es ls) := by show _ = _; rw [HT.out, hke, List.take_length]
      clear hlt
      go_wp2_with fail
      refine bodyPost_ret (v := .tuple #[.agg #[.slice (some g) us.length c], .string ⟨x.toArray⟩]) (by simp [results, Tryz.results72, go_sem, World.cell?_setCell_same _ _ _ r2]) rfl ?_
      rw [← HTE.out]
      refine ⟨g, c, rfl, HO2.out.setTag HTG1.out tab_ne _, HB.out.setCell (by simp) _⟩

end Go.Proofs.YtoidmmedpefjfaaGreatDoor

/- RwrStream of the program. Conditions: the table is ok; the text is a stream; the variables that are read hold what they are laid with. -/
namespace Go.Proofs.YtoidmmedpefjfaaGreatDoor
open Go.RowKit Go.Shelf Go.Sort
attribute [local go_sem] Oper.semAt_some

/-- What stays when a block that is no cells turns. -/
theorem heap_kept {w w' : World} {row : Option Nat} {b : Nat} {cs : Array Value} {t : TypeId} {fz : Nat × Nat} (h : w.heap[b]? = some (.cells cs t fz)) (hg : w.grownBy w' row) (hr : ∀ r, row = some r → ∃ o : Obj, w.heap[r]? = some o ∧ o.isCells = false) : w'.heap[b]? = some (.cells cs t fz) := by
  refine (hg.block b (Array.getElem?_eq_some_iff.1 h).1 fun e => ?_).trans h
  obtain ⟨o, ho, hc⟩ := hr b e.symm
  rw [h] at ho
  cases ho
  cases hc
theorem Bld.kept {w w' : World} {row : Option Nat} {B b : Nat} {l : List UInt8} (h : Bld B b l w) (hg : w.grownBy w' row) (hr : ∀ r, row = some r → ∃ o : Obj, w.heap[r]? = some o ∧ o.isCells = false) : Bld B b l w' := by
  have one : ∀ p, Lib.BuilderAtF 78 5 B b p (Lib.byteCells l) w → Lib.BuilderAtF 78 5 B b p (Lib.byteCells l) w' := by
    rintro p ⟨hB, v, hb, hown, hne⟩
    refine ⟨hB, v, heap_kept hb hg hr, ⟨hown.1, ?_⟩, hne⟩
    rcases hown.2 with h2 | ⟨g, cap, cur, fz, hv, hBg, hh, r⟩
    · exact .inl h2
    · exact .inr ⟨g, cap, cur, fz, hv, hBg, heap_kept hh hg hr, r⟩
  rcases h with h | h
  · exact .inl (one _ h)
  · exact .inr (one _ h)
theorem OwnTab.kept {w w' : World} {row : Option Nat} {B : Nat} {v : Value} {es : List (Int × Int)} (h : OwnTab w B v es) (hg : w.grownBy w' row) (hr : ∀ r, row = some r → ∃ o : Obj, w.heap[r]? = some o ∧ o.isCells = false) : OwnTab w' B v es := by
  refine ⟨h.1, ?_⟩
  rcases h.2 with h2 | ⟨g, cap, cur, hv, hB, hh, r⟩
  · exact .inl h2
  · exact .inr ⟨g, cap, cur, hv, hB, heap_kept hh hg hr, r⟩
theorem MapAt.kind {P : Program} {k : TypeId} {w : World} {b : Nat} {L : List (Value × Value)} (h : MapAt P k w b L) : ∃ o : Obj, w.heap[b]? = some o ∧ o.isCells = false ∧ ∀ c t fz, o ≠ .cells c t fz := by
  obtain ⟨es, clock, hb, _⟩ := h
  exact ⟨_, hb, rfl, fun _ _ _ e => by cases e⟩
/-- A builder stays one, when the two maps turn. -/
theorem Bld.two {w w' : World} {g1 g2 B b : Nat} {l : List UInt8} {us : List (Int × Int)} (h : Bld B b l w) (ht : Two g1 g2 w w') (hb : Both w g1 g2 us) : Bld B b l w' := by
  obtain ⟨o1, k1, c1, _⟩ := hb.1.kind
  obtain ⟨o2, k2, c2, _⟩ := hb.2.1.kind
  have keep : ∀ (c : Nat) (cs : Array Value) (t : TypeId) (fz : Nat × Nat), w.heap[c]? = some (.cells cs t fz) → w'.heap[c]? = some (.cells cs t fz) := fun c cs t fz hc => by
    refine (ht.block c (Array.getElem?_eq_some_iff.1 hc).1 (fun e => ?_) (fun e => ?_)).trans hc
    · rw [e, k1] at hc; cases hc; cases c1
    · rw [e, k2] at hc; cases hc; cases c2
  have one : ∀ p, Lib.BuilderAtF 78 5 B b p (Lib.byteCells l) w → Lib.BuilderAtF 78 5 B b p (Lib.byteCells l) w' := by
    rintro p ⟨hB, v, hb, hown, hne⟩
    refine ⟨hB, v, keep _ _ _ _ hb, ⟨hown.1, ?_⟩, hne⟩
    rcases hown.2 with h2 | ⟨g, cap, cur, fz, hv, hBg, hh, r⟩
    · exact .inl h2
    · exact .inr ⟨g, cap, cur, fz, hv, hBg, keep _ _ _ _ hh, r⟩
  rcases h with h | h
  · exact .inl (one _ h)
  · exact .inr (one _ h)
theorem Both.kept {w w' : World} {g1 g2 b : Nat} {us : List (Int × Int)} (h : Both w g1 g2 us) (hk : Kept b w w') (h1 : g1 ≠ b) (h2 : g2 ≠ b) : Both w' g1 g2 us := by
  obtain ⟨o1, k1, _, c1⟩ := h.1.kind
  obtain ⟨o2, k2, _, c2⟩ := h.2.1.kind
  exact ⟨h.1.same ((hk g1 o1 k1 (by simpa using h1) fun c fz => c1 c _ fz).trans k1.symm), h.2.1.same ((hk g2 o2 k2 (by simpa using h2) fun c fz => c2 c _ fz).trans k2.symm), h.2.2⟩
theorem heap_other {w w' : World} {b k : Nat} {cs : Array Value} {t : TypeId} {fz : Nat × Nat} (h : w.heap[k]? = some (.cells cs t fz)) (hk : Kept b w w') (hb : k ≠ b) (ht : t ≠ 5) : w'.heap[k]? = some (.cells cs t fz) :=
  hk k _ h (by simpa using hb) fun c fz' e => by injection e with _ e2 _; exact ht e2
theorem both_ne8 : (65 : TypeId) ≠ 5 := by decide
theorem tab_ne8 : (25 : TypeId) ≠ 5 := by decide
theorem keeps_two {B g1 g2 : Nat} {w w' : World} (h : Two g1 g2 w w') (h1 : g1 < B) (h2 : g2 < B) : KeepsFrom B w w' :=
  ⟨h.size, fun k o hB hk _ => (h.block k (Array.getElem?_eq_some_iff.1 hk).1 (by omega) (by omega)).trans hk⟩
theorem keeps_kept {B b : Nat} {w w' : World} (h : Kept b w w') (hs : w.heap.size ≤ w'.heap.size) (hb : b < B) : KeepsFrom B w w' :=
  ⟨hs, fun k o hB hk ho => h k o hk (by simp; omega) fun c fz e => by subst e; cases ho⟩
theorem cells_at {w : World} {b : Nat} {cs : Array Value} {t : TypeId} (h : w.heap[b]? = some (.cells cs t (0, 0))) (i : Nat) : w.cell? ⟨b, i, none⟩ = cs[i]? ∧ w.frozen? ⟨b, i, none⟩ = false :=
  ⟨by simp only [World.cell?, h]; simp, by simp only [World.frozen?, h]; simp⟩

theorem end_ne8 : (34 : TypeId) ≠ 5 := by decide
theorem OwnTab.other {w w' : World} {B b : Nat} {v : Value} {es : List (Int × Int)} (h : OwnTab w B v es) (hk : Kept b w w') (hb : b < B) : OwnTab w' B v es := by
  refine ⟨h.1, ?_⟩
  rcases h.2 with h2 | ⟨g, cap, cur, hv, hB, hh, r⟩
  · exact .inl h2
  · exact .inr ⟨g, cap, cur, hv, hB, heap_other hh hk (by omega) end_ne8, r⟩

/-- What a round finds: the table and the text of the lines that have gone. -/
def RoundOk (es : List (Int × Int)) (w0 : World) (s : ByteArray) (g1 g2 b3 r : Nat) (pre : List (LineOf s)) (W : World) : Prop :=
  ∃ us x, (us, x) = streamE es (pre.map Subtype.val) ∧ x.length ≤ pre.length * 2097173 ∧ Both W g1 g2 us ∧ Bld (b3 + 1) (b3 + 1) x W ∧ W.heap[b3]? = some (.cells #[.map (some g1), .map (some g2)] 65 (0, 0)) ∧ W.heap[r]? = some (.cells #[.slice none 0 0] 25 (0, 0)) ∧ Below w0.heap.size w0 W ∧ b3 + 3 ≤ W.heap.size
theorem roundOk_own (es : List (Int × Int)) (w0 : World) (s : ByteArray) (g1 g2 b3 r B : Nat) (h1 : g1 < B) (h2 : g2 < B) (hB : w0.heap.size ≤ B) : OwnFrom B (RoundOk es w0 s g1 g2 b3 r) := by
  rintro pre X Y row ⟨us, x, hT, hx, hb, hl, h3, hr3, hbl, hz⟩ hg hr
  have hr' : ∀ r, row = some r → ∃ o : Obj, X.heap[r]? = some o ∧ o.isCells = false := fun r e => (hr r e).2
  have hn : ∀ g, g < B → some g ≠ row := fun g hlt e => by have := (hr g e.symm).1; omega
  refine ⟨us, x, hT, hx, ⟨hb.1.same (hg.block g1 hb.1.lt (hn _ h1)), hb.2.1.same (hg.block g2 hb.2.1.lt (hn _ h2)), hb.2.2⟩, hl.kept hg hr', heap_kept h3 hg hr', heap_kept hr3 hg hr', hbl.grown hg hbl.size (fun k e => Nat.le_trans hB (hr k e).1), Nat.le_trans hz hg.size⟩

set_option maxRecDepth 100000 in
set_option maxHeartbeats 4000000 in
theorem implStream_in (n : Nat) (hn3 : 3 ≤ n) (v : Value) (es : List (Int × Int)) (s : ByteArray) (w : World) (hn : es.length ≤ 4194304) (hs : s.size ≤ 2097152) (ht : TabAt w v es) (hm : mapB es = true) (hl : strB s.data.toList = true) (hv : VarsOk w) :
    CallsIn Fence.wide n Tryz.prog 27 #[.agg #[v], .string s] w fun e w' => ∃ g c, e = .returned (.tuple #[.agg #[.slice g (streamE es (linesL s.data.toList)).1.length c], .string ⟨(streamE es (linesL s.data.toList)).2.toArray⟩]) ∧ OwnTab w' w.heap.size (.slice g (streamE es (linesL s.data.toList)).1.length c) (streamE es (linesL s.data.toList)).1 ∧ Below w.heap.size w w' := by
  have h1 : 1 ≤ n := by omega
  have HT := Lib.hid ht
  have hwf := mapB_wf hm
  obtain ⟨ad, cap, rfl, hcap, hr⟩ := ht
  have hM : Hid (∀ w, TabAt w (.slice ad es.length cap) es → Calls Tryz.prog 21 #[.agg #[.slice ad es.length cap]] w fun e w' => e = .returned (.bool true) ∧ Below w.heap.size w w') := fun w h => by rw [← hm]; exact implMapOk_any _ es w hn hwf h
  have hL : Hid (∀ w, Calls Tryz.prog 68 #[.string s] w fun e w' => e = .returned (.bool true) ∧ Below w.heap.size w w') := fun w => by rw [← hl]; exact implStr_any s w hs
  have HP : Hid (∀ w, TabAt w (.slice ad es.length cap) es → Calls Tryz.prog 51 #[.agg #[.slice ad es.length cap]] w fun e w' => ∃ g1 g2, e = .returned (.agg #[.map (some g1), .map (some g2)]) ∧ w.heap.size ≤ g1 ∧ w.heap.size ≤ g2 ∧ Both w' g1 g2 es ∧ Below w.heap.size w w') := fun w h => portsOf_any _ es w hn hwf h
  have HV : Hid (∀ w', Below w.heap.size w w' → VarsOk w') := fun w' h => hv.below h
  have HM := Lib.hid hm
  clear hr hm hwf hcap hn hl hv
  refine callsIn_of_wp_marks Tryz.func27 rfl trivial ?_ rfl
  simp only [Tryz.ntmps27, List.size_toArray, List.length_cons, List.length_nil, Nat.reduceAdd, Nat.reduceSub, Array.replicate_succ, Array.replicate_zero, List.push_toArray, List.append_toArray, List.nil_append, List.cons_append]
  gi_wp2_with (refine ⟨trivial, ?_⟩; first
    | (gi_at_call 21; refine (callsIn_wide.2 (hM.out _ (HT.out.below (((Below.refl _ _).alloc (Nat.le_refl _) _).alloc (by simp) _)))).mono ?_; rintro e w1 ⟨rfl, b1⟩; obtain ⟨cA, _, b01, z1⟩ := cell_two b1; have t0 := (cA 0).1; simp at t0; have hR1 : w1.heap[w.heap.size + 1]? = some (.cells #[.slice none 0 0] 25 (0, 0)) := (by have h := heap_alloc_new (w.alloc (.cells #[.slice ad es.length cap] 25)) (.cells #[.slice none 0 0] 25); simp only [World.size_alloc] at h; exact (b1.block (w.heap.size + 1) (by simp)).trans h); have HR1 := Lib.hid hR1; clear cA b1 hR1)
    | (gi_at_call 68; refine (callsIn_wide.2 (hL.out _)).mono ?_; rintro e w2 ⟨rfl, b2⟩; replace t0 := box_below t0 b2; replace HR1 := Lib.hid ((b2.block _ (by omega)).trans HR1.out); replace b01 := b01.trans (b2.mono (by omega)); replace z1 := Nat.le_trans z1 b2.size; clear b2)
    | (gi_at_call 51; refine (callsIn_wide.2 (HP.out _ (HT.out.below b01))).mono ?_; rintro e w3 ⟨g1, g2, rfl, l1, l2, hb, b3⟩; replace HR1 := Lib.hid ((b3.block _ (by omega)).trans HR1.out); have B3 := Lib.hid (b01.trans (b3.mono (by omega))); have z3 := b3.size; have m1 := hb.lt.1; have m2 := hb.lt.2; have HB := Lib.hid hb; clear b01 b3 hb t0)
    | (gi_at_call 69; refine (callsIn_wide.2 (linesOf_any _ _)).mono ?_; rintro e w' ⟨rfl, rfl⟩))
  obtain ⟨W0, hW0⟩ : ∃ W0, ((w3.alloc (.cells #[.map (some g1), .map (some g2)] 65)).alloc (.cells #[.pointer none, .slice none 0 0] 78)).alloc (.cells #[.string s] 9) = W0 := ⟨_, rfl⟩
  obtain ⟨b3, hb3⟩ : ∃ b3, b3 = w3.heap.size := ⟨_, rfl⟩
  have hs0 : W0.heap.size = b3 + 3 := by rw [← hW0, hb3]; simp
  have BW : Hid (Below w3.heap.size w3 W0) := by rw [← hW0]; exact (((Below.refl _ _).alloc (Nat.le_refl _) _).alloc (by simp) _).alloc (by simp; omega) _
  have hS : W0.cell? ⟨b3 + 2, 0, none⟩ = some (.string s) := by
    have := (cell_new ((w3.alloc (.cells #[.map (some g1), .map (some g2)] 65)).alloc (.cells #[.pointer none, .slice none 0 0] 78)) #[.string s] 9 0).1
    simp only [World.size_alloc] at this
    rw [← hW0, hb3]; exact this
  have I0 : RoundOk es w s g1 g2 b3 (w.heap.size + 1) [] W0 := by
    refine ⟨es, [], rfl, by simp, HB.out.later BW.out, ?_, ?_, ?_, B3.out.trans (BW.out.mono B3.out.size), by omega⟩
    · refine .inl ⟨Nat.le_refl _, .slice none 0 0, ?_, ⟨rfl, .inl ⟨rfl, rfl⟩⟩, fun e => by cases e⟩
      have := heap_alloc_new (w3.alloc (.cells #[.map (some g1), .map (some g2)] 65)) (.cells #[.pointer none, .slice none 0 0] 78)
      simp only [World.size_alloc] at this
      rw [← hW0, hb3, Below.heap_alloc _ _ _ (by simp)]
      exact this
    · rw [← hW0, hb3, Below.heap_alloc _ _ _ (by simp; omega), Below.heap_alloc _ _ _ (by simp)]
      exact heap_alloc_new w3 _
    · exact (BW.out.block _ (by omega)).trans HR1.out
  rw [hW0]
  rw [← hb3] at m1 m2 z3 ⊢
  have hs1 : W0.heap.size ≤ b3 + 3 := Nat.le_of_eq hs0
  have hs2 : b3 + 3 ≤ W0.heap.size := Nat.le_of_eq hs0.symm
  have hzw : w.heap.size + 2 ≤ b3 := by omega
  have HI0 := Lib.hid I0
  have HSt := Lib.hid hS
  have hln : (linesL s.data.toList).length ≤ 2097152 := by have := lines_len s.data.toList; rw [len_list] at this; omega
  clear hs0 hW0 hb3 I0 hS BW
  refine wpIn_rangeFunc_ownG rfl h1 (gf := 106) (lb := #[.pointer (some ⟨b3 + 1 + 1, 0, none⟩)]) rfl trivial (enters_of Tryz.func106 (by kernel_rfl) rfl)
    (tell_stopsS (n - 1) (by omega) (b3 + 2) s hs W0 (by omega) HSt.out) (fun _ _ => trivial) (fun _ _ _ _ _ _ _ _ => trivial) (Below.refl _ _) (fun _ => rfl)
    (RoundOk es w s g1 g2 b3 (w.heap.size + 1))
    (fun _ _ _ => False)
    (roundOk_own es w s g1 g2 b3 (w.heap.size + 1) W0.heap.size (by omega) (by omega) (by omega))
    (fun c => fun _ _ _ _ h _ _ => h.elim)
    HI0.out
    (fun x => { tmps := #[.agg #[.slice ad es.length cap], .string s, .pointer (some ⟨w.heap.size, 0, none⟩), undef, .pointer (some ⟨w.heap.size + 1, 0, none⟩), .string ⟨#[]⟩, .pointer (some ⟨b3, 0, none⟩), .pointer (some ⟨b3 + 1, 0, none⟩), .string ⟨x.1.toArray⟩, .agg #[.slice ad es.length cap], .bool true, .bool false, .bool false, .string s, .bool true, .bool false, .bool false, undef, .agg #[.slice ad es.length cap], .agg #[.map (some g1), .map (some g2)], .string s, .func (.func 106) #[] #[.pointer (some ⟨b3 + 1 + 1, 0, none⟩)], .string ⟨x.1.toArray⟩, undef, undef, undef, undef, undef, undef, undef, undef], defers := [] }) ?assign ?body ?done ?stop
  case assign =>
    intro l x W K hK
    gi_wp2
    exact hK
  case body =>
    rintro l pre x W ⟨us, y, hT, hy, hb, hbl, h3, hr3, hB, hz⟩ hpre
    have hmu : mapB us = true := by
      have := streamE_ok HM.out (pre.map Subtype.val)
      rw [← hT] at this
      exact this
    have hxl : x.1.length ≤ 2097152 := by have := line_len x.2; rw [len_list] at this; omega
    obtain ⟨us', hus⟩ : ∃ us', us' = (lineE us x.1).1 := ⟨_, rfl⟩
    obtain ⟨x', hx'⟩ : ∃ x', x' = (lineE us x.1).2 := ⟨_, rfl⟩
    have hx'l : x'.length ≤ 2097172 := by have := lineE_len us x.1; rw [hx']; omega
    have hyb : y.length ≤ 4400000000000 := by have : pre.length * 2097173 ≤ 2097152 * 2097173 := Nat.mul_le_mul_right _ (by omega); omega
    have HY : Hid ((y ++ (x' ++ [59])).length ≤ (pre ++ [x]).length * 2097173) := by show _ ≤ _; simp; omega
    have HN : Hid ((us', y ++ (x' ++ [59])) = streamE es ((pre ++ [x]).map Subtype.val)) := by
      show _ = _
      rw [List.map_append, List.map_singleton, streamE_snoc, ← hT, hus, hx']
      simp [strF]
    have HC : Hid (Calls Tryz.prog 52 #[.agg #[.map (some g1), .map (some g2)], .string ⟨x.1.toArray⟩] W fun e w' => e = .returned (.string ⟨x'.toArray⟩) ∧ Both w' g1 g2 us' ∧ Two g1 g2 W w') := by
      rw [hus, hx']
      exact lineOutside_any g1 g2 us ⟨x.1.toArray⟩ W (by show x.1.toArray.size ≤ _; simpa using hxl) hb hmu fun w' h => HV.out _ (hB.trans (h.below hB.size (by omega) (by omega)))
    have HW : Hid (∀ w, Bld (b3 + 1) (b3 + 1) y w → b3 + 1 ≤ w.heap.size → Calls Tryz.prog 70 #[.pointer (some ⟨b3 + 1, 0, none⟩), .string (⟨x'.toArray⟩ ++ ⟨#[59]⟩)] w fun e w' => e = .returned (.tuple #[.int .i64 ((x' ++ [59]).length : Int), .nilIface]) ∧ Bld (b3 + 1) (b3 + 1) (y ++ (x' ++ [59])) w' ∧ Below (b3 + 1) w w' ∧ Kept (b3 + 1) w w') := fun w h1 h2 => by
      rw [show (⟨x'.toArray⟩ ++ ⟨#[59]⟩ : ByteArray) = ⟨(x' ++ [59]).toArray⟩ from by apply ByteArray.ext; apply Array.ext'; simp]
      exact write_any (b3 + 1) (b3 + 1) y (x' ++ [59]) w h1 (by simp; omega) h2
    have p0 := (cells_at h3 0).1
    have p1 := (cells_at h3 1).1
    simp at p0 p1
    have HBo := Lib.hid hb
    have HBl := Lib.hid hbl
    have H3 := Lib.hid h3
    have HR3 := Lib.hid hr3
    have HB := Lib.hid hB
    have hd : 1 ≤ n - 1 - 1 := by omega
    clear hT hy hb hbl h3 hr3 hB hmu hus hx' hxl hyb
    gi_wp2_with (refine ⟨trivial, ?_⟩; first
      | (gi_at_call 52; refine (CallsIn.inRound l (callsIn_wide.2 HC.out)).mono ?_; rintro e W1 ⟨rfl, hb1, t1⟩; have HB1 := Lib.hid hb1; have T1 := Lib.hid t1; have zW := t1.size; clear hb1 t1)
      | (gi_at_call 70; refine (CallsIn.inRound l (callsIn_wide.2 (HW.out _ (HBl.out.two T1.out HBo.out) (by omega)))).mono ?_; rintro e W2 ⟨rfl, hl2, b2, k2⟩))
    have T1 := T1.out
    have e3 : W1.heap[b3]? = some (.cells #[.map (some g1), .map (some g2)] 65 (0, 0)) := (T1.block b3 (by omega) (by omega) (by omega)).trans H3.out
    have er : W1.heap[w.heap.size + 1]? = some (.cells #[.slice none 0 0] 25 (0, 0)) := (T1.block _ (by omega) (by omega) (by omega)).trans HR3.out
    exact ⟨(keeps_two T1 (by omega) (by omega)).trans (keeps_kept k2 b2.size (by omega)), trivial, us', y ++ (x' ++ [59]), HN.out, HY.out, HB1.out.kept k2 (by omega) (by omega), hl2, heap_other e3 k2 (by omega) both_ne8, heap_other er k2 (by omega) tab_ne8, (HB.out.trans (T1.below HB.out.size (by omega) (by omega))).trans (b2.mono (by omega)), by have := b2.size; omega⟩
  case done =>
    rintro D xs W hD hxs ⟨us, y, hT, hy, hb, hbl, h3, hr3, hB, hz⟩ hK
    rw [hxs] at hT
    have hmu : mapB us = true := by
      have := streamE_ok HM.out (linesL s.data.toList)
      rw [← hT] at this
      exact this
    have HO : Hid (Calls Tryz.prog 53 #[.agg #[.map (some g1), .map (some g2)]] W fun e w' => ∃ a c, e = .returned (.agg #[.slice a us.length c]) ∧ OwnTab w' W.heap.size (.slice a us.length c) us ∧ Below W.heap.size W w') := tableOf_any g1 g2 us W hb (valsL_ok hmu) (by have := mapB_le hmu; omega)
    have HS : Hid (∀ w, Bld (b3 + 1) (b3 + 1) y w → b3 + 1 ≤ w.heap.size → Calls Tryz.prog 71 #[.pointer (some ⟨b3 + 1, 0, none⟩)] w fun e w' => e = .returned (.string ⟨y.toArray⟩) ∧ Bld (b3 + 1) (b3 + 1) y w' ∧ Below (b3 + 1) w w' ∧ Kept (b3 + 1) w w') := fun w h1 h2 => buildString_any (b3 + 1) (b3 + 1) y w h1 h2
    have p0 := (cells_at h3 0).1
    have p1 := (cells_at h3 1).1
    simp at p0 p1
    have HBo := Lib.hid hb
    have HBl := Lib.hid hbl
    have HR3 := Lib.hid hr3
    have HB := Lib.hid hB
    have HK := Lib.hid hK
    have HTT := Lib.hid hT
    clear hT hy hb hbl h3 hr3 hB hmu hxs hK
    gi_wp2_with (refine ⟨trivial, ?_⟩; first
      | (gi_at_call 53; refine (callsIn_wide.2 HO.out).mono ?_; rintro e W1 ⟨ga, ca, rfl, o1, b1⟩; have O1 := Lib.hid o1; have B1 := Lib.hid b1; have zW := b1.size; clear o1 b1)
      | (gi_at_call 71; refine (callsIn_wide.2 (HS.out _ (HBl.out.two (Two.of_below B1.out) HBo.out) (by omega))).mono ?_; rintro e W2 ⟨rfl, _, b2, k2⟩; have z2 := b2.size; have hr2 := heap_other ((B1.out.block _ (by omega)).trans HR3.out) k2 (by omega) tab_ne8; have hc2 := (cells_at hr2 0).1; have hf2 := (cells_at hr2 0).2; simp at hc2; have HR2 := Lib.hid hr2; have B2 := Lib.hid b2; have K2 := Lib.hid k2; clear b2 k2 hr2))
    have hD2 : W2.heap[D]? = some (.deferred (some [])) := K2.out D _ ((B1.out.block D (Array.getElem?_eq_some_iff.1 HK.out).1).trans HK.out) (by simp; omega) (fun c fz e => by cases e)
    have hK' := (KeepsOthers.setCell W2 ⟨w.heap.size + 1, 0, none⟩ (.slice ga us.length ca)).same D _ hD2 rfl
    have O2 : OwnTab W2 W.heap.size (.slice ga us.length ca) us := O1.out.other K2.out (by omega)
    have BB : Below w.heap.size w W2 := (HB.out.trans (B1.out.mono (by omega))).trans (B2.out.mono (by omega))
    have hc3 : (W2.setCell ⟨w.heap.size + 1, 0, none⟩ (.slice ga us.length ca)).cell? ⟨w.heap.size + 1, 0, none⟩ = some (.slice ga us.length ca) := World.cell?_setCell_same _ _ _ hc2
    have hg := grownBy_putObj' (W2.setCell ⟨w.heap.size + 1, 0, none⟩ (.slice ga us.length ca)) D (.deferred none)
    have hrw : ∀ r, some D = some r → ∃ o : Obj, (W2.setCell ⟨w.heap.size + 1, 0, none⟩ (.slice ga us.length ca)).heap[r]? = some o ∧ o.isCells = false := fun r e => by cases e; exact ⟨_, hK', rfl⟩
    refine ⟨by simp, .inl ⟨_, _, rfl, run_takeDeferred hK', ?_⟩⟩
    have hc5 := cell_kept hc3 hg hrw
    refine ⟨.tuple #[.agg #[.slice ga us.length ca], .string ⟨y.toArray⟩], ?_, ga, ca, ?_, ?_, ?_⟩
    · simp [results, Tryz.results27, go_sem, hc5]
    · rw [← HTT.out]
    · rw [← HTT.out]
      exact OwnTab.kept (OwnTab.mono (B := W.heap.size) (ownsRow_setCell_below (a := ⟨w.heap.size + 1, 0, none⟩) O2 (by simp; omega) _) (by omega)) hg hrw
    · exact (BB.setCell (by simp) _).trans (belowK_b (w := w) (Nat.le_refl _) _ D _ _ (by omega) hK' rfl rfl)
  case stop =>
    intro D c pre W hD hpre hx
    exact hx.elim

end Go.Proofs.YtoidmmedpefjfaaGreatDoor

/- RwrStream of the specification. Conditions: at most 2^22 ends; the text has at most 2^21 bytes. -/
namespace Go.Proofs.YtoidmmedpefjfaaGreatDoor
open Go.RowKit Go.Sort

set_option maxRecDepth 100000 in
set_option maxHeartbeats 1600000 in
/-- RwrStream of what is no table, or of no line: nothing. -/
theorem specRwrStream_not (v : Value) (es : List (Int × Int)) (s : ByteArray) (w : World) (hn : es.length ≤ 4194304) (hs : s.size ≤ 2097152) (ht : TabAt w v es) (hno : (mapB es && strB s.data.toList) = false) :
    Calls Tryz.prog 28 #[.agg #[v], .string s] w fun e w' => e = .returned (.tuple #[.agg #[.slice none 0 0], .string ⟨#[]⟩]) ∧ Below w.heap.size w w' := by
  have HT := Lib.hid ht
  obtain ⟨ad, cap, rfl, hcap, hr⟩ := ht
  have hM : Hid (∀ w, TabAt w (.slice ad es.length cap) es → Calls Tryz.prog 17 #[.agg #[.slice ad es.length cap]] w fun e w' => e = .returned (.bool (mapB es)) ∧ Below w.heap.size w w') := fun w h => specMapOk_any _ es w hn h
  have hL : Hid (∀ w, Calls Tryz.prog 29 #[.string s] w fun e w' => e = .returned (.bool (strB s.data.toList)) ∧ Below w.heap.size w w') := fun w => specStr_any s w hs
  clear hr
  by_cases hm : mapB es = true
  · have hi : strB s.data.toList = false := by rw [hm] at hno; simpa using hno
    rw [hm] at hM
    rw [hi] at hL
    clear hno hm hi
    go_enter Tryz.func28, Tryz.ntmps28
    go_wp2_with (first
      | (go_at_call 17; refine (hM.out _ (HT.out.below (((Below.refl _ _).alloc (Nat.le_refl _) _).alloc (by simp) _))).mono ?_; rintro e w1 ⟨rfl, b1⟩; obtain ⟨cA, cB, b01, z1⟩ := cell_two b1; have r0 := (cB 0).1; have g0 := (cB 0).2; simp at r0; clear cA cB)
      | (go_at_call 29; refine (hL.out _).mono ?_; rintro e w2 ⟨rfl, b2⟩; replace g0 := box_frozen r0 g0 b2; replace r0 := box_below r0 b2; replace b01 := b01.trans (b2.mono (by omega))))
    refine bodyPost_ret (v := .tuple #[.agg #[.slice none 0 0], .string ⟨#[]⟩]) (by simp [results, Tryz.results28, go_sem, World.cell?_setCell_same _ _ _ r0]) rfl ⟨rfl, ?_⟩
    exact b01.setCell (by simp) _
  · have hm' : mapB es = false := by simpa using hm
    rw [hm'] at hM
    clear hno hm hm'
    go_enter Tryz.func28, Tryz.ntmps28
    go_wp2_with (go_at_call 17; refine (hM.out _ (HT.out.below (((Below.refl _ _).alloc (Nat.le_refl _) _).alloc (by simp) _))).mono ?_; rintro e w1 ⟨rfl, b1⟩; obtain ⟨cA, cB, b01, z1⟩ := cell_two b1; have r0 := (cB 0).1; have g0 := (cB 0).2; simp at r0; clear cA cB)
    refine bodyPost_ret (v := .tuple #[.agg #[.slice none 0 0], .string ⟨#[]⟩]) (by simp [results, Tryz.results28, go_sem, World.cell?_setCell_same _ _ _ r0]) rfl ⟨rfl, ?_⟩
    exact b01.setCell (by simp) _

set_option maxRecDepth 100000 in
set_option maxHeartbeats 1600000 in
/-- RwrStream of a table and a stream: the table then, in memory of the call's own, and the line. -/
theorem specRwrStream_ok (v : Value) (es : List (Int × Int)) (s : ByteArray) (w : World) (hn : es.length ≤ 4194304) (hs : s.size ≤ 2097152) (ht : TabAt w v es) (hm : mapB es = true) (hi : strB s.data.toList = true) :
    Calls Tryz.prog 28 #[.agg #[v], .string s] w fun e w' => ∃ g c, e = .returned (.tuple #[.agg #[.slice (some g) (streamE es (linesL s.data.toList)).1.length c], .string ⟨(streamE es (linesL s.data.toList)).2.toArray⟩]) ∧ OwnTab w' w.heap.size (.slice (some g) (streamE es (linesL s.data.toList)).1.length c) (streamE es (linesL s.data.toList)).1 ∧ Below w.heap.size w w' := by
  have HT := Lib.hid ht
  obtain ⟨ad, cap, rfl, hcap, hr⟩ := ht
  have hM : Hid (∀ w, TabAt w (.slice ad es.length cap) es → Calls Tryz.prog 17 #[.agg #[.slice ad es.length cap]] w fun e w' => e = .returned (.bool true) ∧ Below w.heap.size w w') := fun w h => by rw [← hm]; exact specMapOk_any _ es w hn h
  have hL : Hid (∀ w, Calls Tryz.prog 29 #[.string s] w fun e w' => e = .returned (.bool true) ∧ Below w.heap.size w w') := fun w => by rw [← hi]; exact specStr_any s w hs
  have hP0 : Hid (∀ (B : Nat) (ad : Addr) (cap : Nat) (w : World), B ≤ w.heap.size → OwnTab w B (.slice (some ad) es.length cap) es → Calls Tryz.prog 72 #[.agg #[.slice (some ad) es.length cap], .string s] w fun e w' => ∃ g c, e = .returned (.tuple #[.agg #[.slice (some g) (streamE es (linesL s.data.toList)).1.length c], .string ⟨(streamE es (linesL s.data.toList)).2.toArray⟩]) ∧ OwnTab w' B (.slice (some g) (streamE es (linesL s.data.toList)).1.length c) (streamE es (linesL s.data.toList)).1 ∧ Below w.heap.size w w') := fun B ad cap w h1 h2 => specStream_any B ad cap es s w hm hs h1 h2
  have hC : Hid (∀ wx, TabAt wx (.slice ad es.length cap) es → Calls Tryz.prog 55 #[.agg #[.slice ad es.length cap]] wx fun e w' => ∃ g c, e = .returned (.agg #[.slice (some g) es.length c]) ∧ OwnTab w' wx.heap.size (.slice (some g) es.length c) es ∧ Below wx.heap.size wx w') := fun wx h => specCopy_any _ es wx hn h
  obtain ⟨us, hus⟩ : ∃ us, us = (streamE es (linesL s.data.toList)).1 := ⟨_, rfl⟩
  obtain ⟨q, hq⟩ : ∃ q, q = (streamE es (linesL s.data.toList)).2.toArray := ⟨_, rfl⟩
  have hP : Hid (∀ (B : Nat) (ad : Addr) (cap : Nat) (w : World), B ≤ w.heap.size → OwnTab w B (.slice (some ad) es.length cap) es → Calls Tryz.prog 72 #[.agg #[.slice (some ad) es.length cap], .string s] w fun e w' => ∃ g c, e = .returned (.tuple #[.agg #[.slice (some g) us.length c], .string ⟨q⟩]) ∧ OwnTab w' B (.slice (some g) us.length c) us ∧ Below w.heap.size w w') := by rw [hus, hq]; exact hP0
  rw [← hus, ← hq]
  clear hr hm hi hus hq hP0
  go_enter Tryz.func28, Tryz.ntmps28
  go_upto_region 3 with (first
    | (go_at_call 17; refine (hM.out _ (HT.out.below (((Below.refl _ _).alloc (Nat.le_refl _) _).alloc (by simp) _))).mono ?_; rintro e w1 ⟨rfl, b1⟩; obtain ⟨cA, cB, b01, z1⟩ := cell_two b1; have t0 := (cA 0).1; have r0 := (cB 0).1; have g0 := (cB 0).2; simp at t0 r0; clear cA cB b1)
    | (go_at_call 29; refine (hL.out _).mono ?_; rintro e w2 ⟨rfl, b2⟩; replace t0 := box_below t0 b2; replace g0 := box_frozen r0 g0 b2; replace r0 := box_below r0 b2; replace b01 := b01.trans (b2.mono (by omega)); replace z1 := Nat.le_trans z1 b2.size))
  have B01 := Lib.hid b01
  clear b01
  go_wp2_with fail
  (go_at_call 55; refine (hC.out _ (HT.out.below B01.out)).mono ?_; rintro e w3 ⟨g3, c3, rfl, o3, b3⟩; have O3 := Lib.hid o3; have B3 := Lib.hid b3; clear o3 b3)
  have r3 : w3.cell? ⟨w.heap.size + 1, 0, none⟩ = some (.slice none 0 0) := (by rw [B3.out.cell (by simp; omega)]; exact r0)
  have g03 : w3.frozen? ⟨w.heap.size + 1, 0, none⟩ = false := (by rw [B3.out.frozen (by simp; omega)]; exact g0)
  have z3 := B3.out.size
  go_wp2_with fail
  (go_at_call 72; refine (hP.out w2.heap.size _ _ _ B3.out.size O3.out).mono ?_; rintro e w4 ⟨g4, c4, rfl, o4, b4⟩; have O4 := Lib.hid o4; have B4 := Lib.hid b4; clear o4 b4)
  have r4 : w4.cell? ⟨w.heap.size + 1, 0, none⟩ = some (.slice none 0 0) := (by rw [B4.out.cell (by simp; omega)]; exact r3)
  have g04 : w4.frozen? ⟨w.heap.size + 1, 0, none⟩ = false := (by rw [B4.out.frozen (by simp; omega)]; exact g03)
  go_wp2_with fail
  refine bodyPost_ret (v := .tuple #[.agg #[.slice (some g4) us.length c4], .string ⟨q⟩]) (by simp [results, Tryz.results28, go_sem, World.cell?_setCell_same _ _ _ r4]) rfl ⟨_, _, rfl, ?_, ?_⟩
  · exact OwnTab.mono (B := w2.heap.size) (ownsRow_setCell_below O4.out (by simp; omega) _) (by omega)
  · exact ((B01.out.trans (B3.out.mono (by omega))).trans (B4.out.mono (by omega))).setCell (by simp) _

end Go.Proofs.YtoidmmedpefjfaaGreatDoor
