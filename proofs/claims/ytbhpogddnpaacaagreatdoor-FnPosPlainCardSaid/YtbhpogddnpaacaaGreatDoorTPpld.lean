/- A line as it goes outside, and RwrLine, of the program. Conditions: the table is ok; the text has at most 2^21 bytes; the variables that are read hold what they are laid with. (Several texts, joined: EqEnd, LawTab, ToEnd, ToTab, MarkTab, Fresh, Box, IRwr.) -/
import Derived.Test.YtbhpogddnpaacaaGreatDoorBase
import Derived.Test.YtbhpogddnpaacaaGreatDoorSMap
import Derived.Test.YtbhpogddnpaacaaGreatDoorOwnEnds
import Derived.OwnWalk
import Derived.Deep.RegionHeld
import Derived.Test.YtbhpogddnpaacaaGreatDoorTPpla
import Derived.Test.YtbhpogddnpaacaaGreatDoorTPplb
import Derived.Test.YtbhpogddnpaacaaGreatDoorTPplc
import Derived.Test.YtbhpogddnpaacaaGreatDoorILin

/- How the law compares two ends: of one end it says that it is the same. No condition. -/
namespace Go.Proofs.YtbhpogddnpaacaaGreatDoor
open Go.RowKit

end Go.Proofs.YtbhpogddnpaacaaGreatDoor

/- The laws' own words on tables of ends: their size, whether two are the same. Condition: at most 2^22 ends. -/
namespace Go.Proofs.YtbhpogddnpaacaaGreatDoor
open Go.RowKit Go.Sort

end Go.Proofs.YtbhpogddnpaacaaGreatDoor

/- An end as the law has it becomes an end of the program. No condition. -/
namespace Go.Proofs.YtbhpogddnpaacaaGreatDoor
open Go.RowKit

end Go.Proofs.YtbhpogddnpaacaaGreatDoor

/- The laws' own tables: how an argument becomes one of the program's, in new memory. Condition: at most 2^22 ends. -/
namespace Go.Proofs.YtbhpogddnpaacaaGreatDoor
open Go.RowKit Go.Sort

/-- m cells that may be written. -/
def Room (w : World) (g m : Nat) : Prop := ∀ i, i < m → (∃ u, w.cell? ⟨g, i, none⟩ = some u) ∧ w.frozen? ⟨g, i, none⟩ = false
theorem Room.below {w w' : World} {B g m : Nat} (h : Room w g m) (hb : Below B w w') (hg : g < B) : Room w' g m :=
  fun i hi => ⟨by rw [hb.cell (p := ⟨g, i, none⟩) hg]; exact (h i hi).1, (hb.frozen (p := ⟨g, i, none⟩) hg).trans (h i hi).2⟩
theorem Room.set {w : World} {g m j : Nat} (h : Room w g m) (hj : j < m) (u : Value) : Room (w.setCell ⟨g, j, none⟩ u) g m := by
  intro i hi
  refine ⟨?_, by rw [World.frozen?_setCell]; exact (h i hi).2⟩
  by_cases e : j = i
  · subst e
    obtain ⟨x, hx⟩ := (h j hj).1
    exact ⟨u, World.cell?_setCell_same _ _ _ hx⟩
  · obtain ⟨x, hx⟩ := (h i hi).1
    exact ⟨x, by rw [World.cell?_setCell_other _ _ _ u (by intro q; injection q with _ q2; exact e q2)]; exact hx⟩
theorem own_room {w : World} {B g n cap : Nat} {e : TypeId} {size : Nat} {xs : List Value} (h : w.ownsRow B e size (.slice (some ⟨g, 0, none⟩) n cap) n xs) : Room w g (n * size) ∧ B ≤ g ∧ g < w.heap.size := by
  rcases h.2 with ⟨h0, _⟩ | ⟨g', cap', cur, hv, hB, hg, h2, _, hs, ht⟩
  · cases h0
  · simp at hv
    obtain ⟨rfl, rfl⟩ := hv
    have hlt := (Array.getElem?_eq_some_iff.1 hg).1
    refine ⟨fun i hi => ⟨?_, by simp [World.frozen?, hg]⟩, hB, hlt⟩
    have hi' : i < cur.size := by rw [hs]; exact Nat.lt_of_lt_of_le hi (Nat.mul_le_mul_right _ h2)
    exact ⟨cur[i], by simp [World.cell?, hg, hi']⟩
/-- A table in cells that may be written. -/
def TabRoom (w : World) (B : Nat) (v : Value) (es : List (Int × Int)) : Prop := ∃ g cap, v = .slice (some ⟨g, 0, none⟩) es.length cap ∧ es.length ≤ cap ∧ B ≤ g ∧ g < w.heap.size ∧ EndsAt w g es ∧ Room w g (es.length * 2)
theorem TabRoom.tab {w : World} {B : Nat} {v : Value} {es : List (Int × Int)} (h : TabRoom w B v es) : TabAt w v es := by
  obtain ⟨g, cap, rfl, h1, _, _, h2, _⟩ := h
  exact ⟨_, cap, rfl, ⟨h1, by simp⟩, fun _ => ⟨g, rfl, h2⟩⟩

theorem addrs_ne {g i j : Nat} (h : i ≠ j) : (⟨g, i, none⟩ : Addr) ≠ ⟨g, j, none⟩ := by intro e; injection e with _ e2; exact h e2
/-- One end more is written. -/
theorem EndsAt.push {w : World} {g m k : Nat} {es fs : List (Int × Int)} {a p : Int} (hf : fs.length = k + 1) (ht : fs.take k = es.take k) (hk : k ≤ es.length) (hap : ∀ h : k < fs.length, (a, p) = fs[k]) (he : EndsAt w g (es.take k)) (hr : Room w g m) (hm : k * 2 + 1 < m) :
    EndsAt ((w.setCell ⟨g, k * 2, none⟩ (.int .i64 a)).setCell ⟨g, k * 2 + 1, none⟩ (.int .i64 p)) g fs := by
  intro i hi
  obtain ⟨x0, h0⟩ := (hr (k * 2) (by omega)).1
  obtain ⟨x1, h1⟩ := (hr (k * 2 + 1) (by omega)).1
  have h1' : (w.setCell ⟨g, k * 2, none⟩ (.int .i64 a)).cell? ⟨g, k * 2 + 1, none⟩ = some x1 := by rw [World.cell?_setCell_other _ _ _ _ (addrs_ne (by omega))]; exact h1
  by_cases e : i = k
  · subst e
    have hq := hap hi
    rw [← hq]
    refine ⟨?_, World.cell?_setCell_same _ _ _ h1'⟩
    rw [World.cell?_setCell_other _ _ _ _ (addrs_ne (by omega))]
    exact World.cell?_setCell_same _ _ _ h0
  · have hik : i < k := by omega
    have hg := he i (by simp; omega)
    have hq : fs[i] = (es.take k)[i]'(by simp; omega) := by
      have h2 : (fs.take k)[i]? = (es.take k)[i]? := by rw [ht]
      rw [List.getElem?_take_of_lt hik, List.getElem?_eq_getElem hi, List.getElem?_eq_getElem (by simp; omega)] at h2
      exact Option.some.inj h2
    rw [hq]
    refine ⟨?_, ?_⟩
    · rw [World.cell?_setCell_other _ _ _ _ (addrs_ne (by omega)), World.cell?_setCell_other _ _ _ _ (addrs_ne (by omega))]; exact hg.1
    · rw [World.cell?_setCell_other _ _ _ _ (addrs_ne (by omega)), World.cell?_setCell_other _ _ _ _ (addrs_ne (by omega))]; exact hg.2

theorem TabRoom.setCell {w : World} {B : Nat} {v : Value} {es : List (Int × Int)} (h : TabRoom w B v es) {a : Addr} (ha : a.block < B) (u : Value) : TabRoom (w.setCell a u) B v es := by
  obtain ⟨g, cap, rfl, h1, h2, h3, h4, h5⟩ := h
  have hc : ∀ i, (w.setCell a u).cell? ⟨g, i, none⟩ = w.cell? ⟨g, i, none⟩ := fun i => World.cell?_setCell_other _ _ _ _ (by intro e; subst e; simp at ha; omega)
  refine ⟨g, cap, rfl, h1, h2, by simp; omega, fun i hi => ?_, fun i hi => ?_⟩
  · rw [hc, hc]; exact h4 i hi
  · rw [hc, World.frozen?_setCell]; exact h5 i hi
theorem TabRoom.mono {w : World} {B B' : Nat} {v : Value} {es : List (Int × Int)} (h : TabRoom w B v es) (hB : B' ≤ B) : TabRoom w B' v es := by
  obtain ⟨g, cap, rfl, h1, h2, h3, h4, h5⟩ := h
  exact ⟨g, cap, rfl, h1, by omega, h3, h4, h5⟩
theorem TabRoom.below {w w' : World} {B : Nat} {v : Value} {es : List (Int × Int)} (h : TabRoom w B v es) (hb : Below w.heap.size w w') : TabRoom w' B v es := by
  obtain ⟨g, cap, rfl, h1, h2, h3, h4, h5⟩ := h
  exact ⟨g, cap, rfl, h1, h2, Nat.lt_of_lt_of_le h3 hb.size, h4.below hb h3, h5.below hb h3⟩

end Go.Proofs.YtbhpogddnpaacaaGreatDoor

/- How the law marks a table's ends and finds the marks again. Conditions: the marks from 1 on, at most 10^15. -/
namespace Go.Proofs.YtbhpogddnpaacaaGreatDoor
open Go.RowKit Go.Sort

theorem grown_setM {w w' : World} {b : Nat} (h : w.grownBy w' (some b)) (i : Nat) (v : Value) : w.grownBy (w'.setCell ⟨b, i, none⟩ v) (some b) :=
  ⟨h.os, h.tape, h.output, by simpa using h.size, fun k hk hne => by rw [Below.heap_setCell _ _ _ _ (fun e => hne (by rw [e]))]; exact h.block k hk hne⟩
theorem grown_below {w w' : World} {row : Option Nat} (h : Below w.heap.size w w') : w.grownBy w' row :=
  ⟨h.os, h.tape, h.output, h.size, fun k hk _ => h.block k hk⟩
/-- n marks of ends, from k on. -/
def marksE (k n : Nat) : List (Int × Int) := (List.range n).map fun i => (((k + 2 * i : Nat) : Int), ((k + 2 * i + 1 : Nat) : Int))
theorem marksE_len (k n : Nat) : (marksE k n).length = n := by simp [marksE]
theorem marksE_at (k n i : Nat) (h : i < (marksE k n).length) : (marksE k n)[i] = (((k + 2 * i : Nat) : Int), ((k + 2 * i + 1 : Nat) : Int)) := by simp [marksE]

end Go.Proofs.YtbhpogddnpaacaaGreatDoor

/- An answer's table: in memory of its own, empty or in cells that may be written; how the law marks it and finds the marks again. -/
namespace Go.Proofs.YtbhpogddnpaacaaGreatDoor
open Go.RowKit Go.Sort

/-- A table that an answer holds: nothing at all, or a table in cells that may be written, behind B. -/
def FreshTab (w : World) (B : Nat) (v : Value) (us : List (Int × Int)) : Prop := (us = [] ∧ ∃ a cap, v = .slice a 0 cap ∧ (a = none → cap = 0)) ∨ TabRoom w B v us
theorem FreshTab.tab {w : World} {B : Nat} {v : Value} {us : List (Int × Int)} (h : FreshTab w B v us) : TabAt w v us := by
  rcases h with ⟨rfl, a, cap, rfl, hc⟩ | h
  · exact ⟨a, cap, rfl, ⟨by simp, hc⟩, fun h => by simp at h⟩
  · exact h.tab
theorem FreshTab.below {w w' : World} {B C : Nat} {v : Value} {us : List (Int × Int)} (h : FreshTab w B v us) (hC : w.heap.size ≤ C) (hb : Below C w w') : FreshTab w' B v us := by
  rcases h with h | ⟨g, cap, rfl, h1, h2, h3, h4, h5⟩
  · exact .inl h
  · exact .inr ⟨g, cap, rfl, h1, h2, Nat.lt_of_lt_of_le h3 hb.size, h4.below hb (by omega), h5.below hb (by omega)⟩
/-- A table that lies elsewhere stays, when one row is marked. -/
theorem EndsAt.grown {w w' : World} {g : Nat} {es : List (Int × Int)} {row : Option Nat} (h : EndsAt w g es) (hg : w.grownBy w' row) (hne : some g ≠ row) : EndsAt w' g es := by
  intro i hi
  have hlt := World.block_lt_of_cell? w _ (h i hi).1
  have hk := hg.block g hlt hne
  have c := h i hi
  simp only [World.cell?] at c ⊢
  rw [hk]; exact c

theorem grown_none {w w' : World} {row : Option Nat} (h : w.grownBy w' none) : w.grownBy w' row :=
  ⟨h.os, h.tape, h.output, h.size, fun k hk _ => h.block k hk (by simp)⟩

end Go.Proofs.YtbhpogddnpaacaaGreatDoor

/- Boxes and tables through calls, marks and stores: what stays. No condition. -/
namespace Go.Proofs.YtbhpogddnpaacaaGreatDoor
open Go.RowKit Go.Sort

/-- A box of one cell that a call finds new. -/
theorem fresh1 {W w : World} {x : Value} {t : TypeId} (h : Below (W.alloc (.cells #[x] t)).heap.size (W.alloc (.cells #[x] t)) w) : w.cell? ⟨W.heap.size, 0, none⟩ = some x ∧ w.frozen? ⟨W.heap.size, 0, none⟩ = false :=
  ⟨by rw [h.cell (by simp)]; simp, by rw [h.frozen (by simp)]; exact (cell_new W _ _ 0).2⟩
theorem fresh1d {W w : World} {x : Value} {t : TypeId} (h : Below (W.alloc (.cells #[x] t)).drew.heap.size (W.alloc (.cells #[x] t)).drew w) : w.cell? ⟨W.heap.size, 0, none⟩ = some x ∧ w.frozen? ⟨W.heap.size, 0, none⟩ = false :=
  fresh1 (((Below.refl _ _).drew).trans h)
theorem box_below {w w' : World} {b i : Nat} {v : Value} (h : w.cell? ⟨b, i, none⟩ = some v) (hb : Below w.heap.size w w') : w'.cell? ⟨b, i, none⟩ = some v := by
  rw [hb.cell (p := ⟨b, i, none⟩) (World.block_lt_of_cell? w _ h)]; exact h
theorem box_frozen {w w' : World} {b i : Nat} {v : Value} (h : w.cell? ⟨b, i, none⟩ = some v) (hf : w.frozen? ⟨b, i, none⟩ = false) (hb : Below w.heap.size w w') : w'.frozen? ⟨b, i, none⟩ = false := by
  rw [hb.frozen (p := ⟨b, i, none⟩) (World.block_lt_of_cell? w _ h)]; exact hf
theorem cell_grown {w w' : World} {b i : Nat} {v : Value} {row : Option Nat} (h : w.cell? ⟨b, i, none⟩ = some v) (hg : w.grownBy w' row) (hne : some b ≠ row) : w'.cell? ⟨b, i, none⟩ = some v := by
  have hk := hg.block b (World.block_lt_of_cell? w _ h) hne
  simp only [World.cell?] at h ⊢
  rw [hk]; exact h
theorem OwnTab.fresh {w : World} {B : Nat} {v : Value} {es : List (Int × Int)} (h : OwnTab w B v es) : FreshTab w B v es := by
  rcases h.2 with ⟨rfl, h0⟩ | ⟨g, cap, cur, rfl, hB, hg, h2, _, hs, ht⟩
  · exact .inl ⟨List.eq_nil_of_length_eq_zero h0, none, 0, rfl, fun _ => rfl⟩
  · have hlt := (Array.getElem?_eq_some_iff.1 hg).1
    have hh := h.tab
    by_cases he : es = []
    · subst he
      exact .inl ⟨rfl, _, cap, rfl, fun e => by cases e⟩
    · obtain ⟨a, c, e1, _, hrow⟩ := hh
      obtain ⟨g', e2, hat⟩ := hrow (List.length_pos_iff.2 he)
      simp at e1
      obtain ⟨rfl, rfl⟩ := e1
      simp at e2
      subst e2
      refine .inr ⟨g, cap, rfl, h2, hB, hlt, hat, fun i hi => ⟨?_, by simp [World.frozen?, hg]⟩⟩
      have hi' : i < cur.size := by rw [hs]; exact Nat.lt_of_lt_of_le hi (Nat.mul_le_mul_right _ h2)
      exact ⟨cur[i], by simp [World.cell?, hg, hi']⟩
theorem FreshTab.nil (w : World) (B : Nat) : FreshTab w B (.slice none 0 0) [] := .inl ⟨rfl, none, 0, rfl, fun _ => rfl⟩
theorem FreshTab.form {w : World} {B : Nat} {v : Value} {us : List (Int × Int)} (h : FreshTab w B v us) : ∃ a c, v = .slice a us.length c := by
  rcases h with ⟨rfl, a, cap, rfl, _⟩ | ⟨g, cap, rfl, _⟩
  · exact ⟨a, cap, rfl⟩
  · exact ⟨_, cap, rfl⟩
theorem FreshTab.mono {w : World} {B B' : Nat} {v : Value} {us : List (Int × Int)} (h : FreshTab w B v us) (hB : B' ≤ B) : FreshTab w B' v us := by
  rcases h with h | h
  · exact .inl h
  · exact .inr (h.mono hB)
theorem FreshTab.setCell {w : World} {B : Nat} {v : Value} {us : List (Int × Int)} (h : FreshTab w B v us) {a : Addr} (ha : a.block < B) (u : Value) : FreshTab (w.setCell a u) B v us := by
  rcases h with h | h
  · exact .inl h
  · exact .inr (h.setCell ha u)
theorem FreshTab.later {w w' : World} {B : Nat} {v : Value} {us : List (Int × Int)} (h : FreshTab w B v us) (hb : Below w.heap.size w w') : FreshTab w' B v us := h.below (Nat.le_refl _) hb
/-- What a table's own block is: none, or one behind B. -/
theorem FreshTab.block {w : World} {B : Nat} {v : Value} {us : List (Int × Int)} (h : FreshTab w B v us) (hu : us ≠ []) {k : Nat} (hk : v.ownBlock = some k) : B ≤ k ∧ k < w.heap.size := by
  rcases h with h | ⟨g, cap, rfl, _, hB, hl, _⟩
  · exact absurd h.1 hu
  · simp [Value.ownBlock] at hk
    subst hk
    exact ⟨hB, hl⟩
theorem TabRoom.fresh {w : World} {B : Nat} {v : Value} {es : List (Int × Int)} (h : TabRoom w B v es) : FreshTab w B v es := .inr h
/-- A table whose row lies elsewhere stays, when one row is marked. -/
theorem FreshTab.grown {w w' : World} {B : Nat} {v : Value} {us : List (Int × Int)} {row : Option Nat} (h : FreshTab w B v us) (hg : w.grownBy w' row) (hne : ∀ k, row = some k → k < B) : FreshTab w' B v us := by
  rcases h with h | ⟨g, cap, rfl, h1, h2, h3, h4, h5⟩
  · exact .inl h
  · have hn : some g ≠ row := fun e => by have := hne g e.symm; omega
    refine .inr ⟨g, cap, rfl, h1, h2, Nat.lt_of_lt_of_le h3 hg.size, h4.grown hg hn, fun i hi => ?_⟩
    obtain ⟨⟨u, hu⟩, hf⟩ := h5 i hi
    refine ⟨⟨u, cell_grown hu hg hn⟩, ?_⟩
    rw [World.frozen?_of_block (hg.block g h3 hn)]; exact hf
/-- Marks in a row that is behind B turn nothing below B. -/
theorem below_markd {w w' : World} {B : Nat} {row : Option Nat} (hg : w.grownBy w' row) (hr : ∀ k, row = some k → B ≤ k) (hB : B ≤ w.heap.size) : Below B w w' :=
  ⟨hg.os, hg.tape, hg.output, hg.size, fun k hk => hg.block k (Nat.lt_of_lt_of_le hk hB) fun e => by have := hr k e.symm; omega⟩

end Go.Proofs.YtbhpogddnpaacaaGreatDoor

/- A line as it goes outside, and RwrLine, of the program. Conditions: the table is ok; the text has at most 2^21 bytes; the variables that are read hold what they are laid with. -/
namespace Go.Proofs.YtbhpogddnpaacaaGreatDoor
open Go.RowKit Go.Sort

set_option maxRecDepth 100000 in
set_option maxHeartbeats 1600000 in
theorem lineOutside_any (g1 g2 : Nat) (es : List (Int × Int)) (s : ByteArray) (w : World) (hs : s.size ≤ 2097152) (hb : Both w g1 g2 es) (hm : mapB es = true) (hv : ∀ w', Two g1 g2 w w' → VarsOk w') :
    Calls Tryz.prog 32 #[.agg #[.map (some g1), .map (some g2)], .string s] w fun e w' => e = .returned (.string ⟨(lineE es s.data.toList).2.toArray⟩) ∧ Both w' g1 g2 (lineE es s.data.toList).1 ∧ Two g1 g2 w w' := by
  have HBo : Hid (∀ w', Below w.heap.size w w' → Both w' g1 g2 es) := fun w' h => hb.later h
  have HV := Lib.hid hv
  have l1 := hb.lt.1
  have l2 := hb.lt.2
  clear hb hv
  rcases hx : saysE s.data.toList with _ | ⟨a, p⟩
  · have HB : Hid (∀ w, VarsOk w → Calls Tryz.prog 11 #[.string s] w fun e w' => e = .returned (.tuple #[.agg #[.int .i64 0, .int .i64 0], .bool false]) ∧ Below w.heap.size w w') := fun w hv => by have := implSays_any s w hs hv; rw [hx] at this; exact this
    have HE : Hid (lineE es s.data.toList = (es, s.data.toList)) := lineE_none hx
    rw [HE.out, str_same]
    clear hx HE hm
    go_enter Tryz.func32, Tryz.ntmps32
    go_wp2_with fail
    (go_at_call 11; refine (HB.out _ (HV.out _ (Two.of_below ((Below.refl _ _).alloc (Nat.le_refl _) _)))).mono ?_; rintro e w1 ⟨rfl, b1⟩; have B1 : Hid (Below w.heap.size w w1) := ((Below.refl _ _).alloc (Nat.le_refl _) _).trans (b1.mono (by simp)); clear b1)
    go_wp2_with fail
    go_ret
    have B2 : Below w.heap.size w (w1.alloc (.cells #[.int .i64 0, .int .i64 0] 36)) := B1.out.alloc B1.out.size _
    exact ⟨rfl, HBo.out _ B2, Two.of_below B2⟩
  · have HB : Hid (∀ w, VarsOk w → Calls Tryz.prog 11 #[.string s] w fun e w' => e = .returned (.tuple #[.agg #[.int .i64 a, .int .i64 p], .bool true]) ∧ Below w.heap.size w w') := fun w hv => by have := implSays_any s w hs hv; rw [hx] at this; exact this
    have hE := lineE_some (es := es) hx
    have hi := says_ins hx
    obtain ⟨us, hus⟩ : ∃ us, us = (putE es (a, p)).1 := ⟨_, rfl⟩
    obtain ⟨q, hq⟩ : ∃ q, q = (putE es (a, p)).2 := ⟨_, rfl⟩
    rw [← hus, ← hq] at hE
    have HG : Hid (∀ w, Both w g1 g2 es → Calls Tryz.prog 59 #[.agg #[.map (some g1), .map (some g2)], .agg #[.int .i64 a, .int .i64 p]] w fun e w' => e = .returned (.int .i64 q) ∧ Both w' g1 g2 us ∧ Two g1 g2 w w') := fun w h => by rw [hus, hq]; exact givePort_any g1 g2 es a p w h hm hi
    by_cases h0 : q = 0
    · rw [hE, if_pos h0]
      subst h0
      clear hE hx hus hq hm hi
      go_enter Tryz.func32, Tryz.ntmps32
      go_wp2_with fail
      (go_at_call 11; refine (HB.out _ (HV.out _ (Two.of_below ((Below.refl _ _).alloc (Nat.le_refl _) _)))).mono ?_; rintro e w1 ⟨rfl, b1⟩; have B1 : Hid (Below w.heap.size w w1) := ((Below.refl _ _).alloc (Nat.le_refl _) _).trans (b1.mono (by simp)); have t0 : ∀ o, (w1.alloc o).cell? ⟨w.heap.size, 0, none⟩ = some (.map (some g1)) := (fun o => by rw [cell_alloc_lt (by have := b1.size; simp at this; omega), b1.cell (by simp)]; simp); have t1 : ∀ o, (w1.alloc o).cell? ⟨w.heap.size, 1, none⟩ = some (.map (some g2)) := (fun o => by rw [cell_alloc_lt (by have := b1.size; simp at this; omega), b1.cell (by simp)]; simp); clear b1)
      have B2 : Hid (∀ o, Below w.heap.size w (w1.alloc o)) := fun o => B1.out.alloc B1.out.size o
      go_wp2_with fail
      (go_at_call 59; refine (HG.out _ (HBo.out _ (B2.out _))).mono ?_; rintro e w2 ⟨rfl, hb2, t2⟩; have HB2 := Lib.hid hb2; have T2 : Hid (Two g1 g2 w w2) := (Two.of_below (B2.out _)).trans t2; clear hb2 t2)
      go_wp2_with fail
      go_ret
      exact ⟨rfl, HB2.out, T2.out⟩
    · rw [hE, if_neg h0]
      have hqb : (q == 0) = false := by simpa using h0
      clear hE hx hus hq hm hi
      go_enter Tryz.func32, Tryz.ntmps32
      go_wp2_with fail
      (go_at_call 11; refine (HB.out _ (HV.out _ (Two.of_below ((Below.refl _ _).alloc (Nat.le_refl _) _)))).mono ?_; rintro e w1 ⟨rfl, b1⟩; have B1 : Hid (Below w.heap.size w w1) := ((Below.refl _ _).alloc (Nat.le_refl _) _).trans (b1.mono (by simp)); have t0 : ∀ o, (w1.alloc o).cell? ⟨w.heap.size, 0, none⟩ = some (.map (some g1)) := (fun o => by rw [cell_alloc_lt (by have := b1.size; simp at this; omega), b1.cell (by simp)]; simp); have t1 : ∀ o, (w1.alloc o).cell? ⟨w.heap.size, 1, none⟩ = some (.map (some g2)) := (fun o => by rw [cell_alloc_lt (by have := b1.size; simp at this; omega), b1.cell (by simp)]; simp); clear b1)
      have B2 : Hid (∀ o, Below w.heap.size w (w1.alloc o)) := fun o => B1.out.alloc B1.out.size o
      go_wp2_with fail
      (go_at_call 59; refine (HG.out _ (HBo.out _ (B2.out _))).mono ?_; rintro e w2 ⟨rfl, hb2, t2⟩; have HB2 := Lib.hid hb2; have T2 : Hid (Two g1 g2 w w2) := (Two.of_below (B2.out _)).trans t2; clear hb2 t2)
      go_wp2_with fail
      (go_at_call 61; refine (boxAt_any q _).mono ?_; rintro e w25 ⟨rfl, b25⟩; have HB25 := Lib.hid (HB2.out.later b25); have T25 : Hid (Two g1 g2 w w25) := T2.out.trans (Two.of_below b25); clear b25)
      go_wp2_with fail
      (go_at_call 60; refine (implLinPort_any 50 q _ (HV.out _ T25.out).tab).mono ?_; rintro e w3 ⟨rfl, b3⟩)
      go_wp2_with fail
      go_ret
      exact ⟨rfl, HB25.out.later b3, T25.out.trans (Two.of_below b3)⟩

/-- What RwrLine answers. -/
def rwrA (es : List (Int × Int)) (l : List UInt8) : List (Int × Int) × List UInt8 := if mapB es = true ∧ linB l = true then lineE es l else ([], [])

end Go.Proofs.YtbhpogddnpaacaaGreatDoor
