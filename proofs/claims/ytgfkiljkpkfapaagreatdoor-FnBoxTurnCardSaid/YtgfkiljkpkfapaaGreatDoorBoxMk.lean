/- A box as data, in memory: how the law compares boxes, marks one and finds the marks again. Condition: at most 2^22 rules, ends and streams each. -/
import Derived.Test.YtgfkiljkpkfapaaGreatDoorMarkRl
import Derived.Test.YtgfkiljkpkfapaaGreatDoorMarkCn
import Derived.Test.YtgfkiljkpkfapaaGreatDoorBoxThree
import Derived.Test.YtgfkiljkpkfapaaGreatDoorFresh
import Derived.Test.YtgfkiljkpkfapaaGreatDoorLawTab
namespace Go.Proofs.YtgfkiljkpkfapaaGreatDoor
open Go.RowKit Go.Sort

/-- A box: its rules, its table's ends, its streams. -/
structure Bx where
  rs : List Rl
  es : List (Int × Int)
  cs : List Cn
/-- A table that nobody else holds. -/
def FrTb (w : World) (B : Nat) (v : Value) (es : List (Int × Int)) : Prop := FrL 31 2 (fun e : Int × Int => [Value.int .i64 e.1, Value.int .i64 e.2]) w B v es
theorem enC_len (e : Int × Int) : ([Value.int .i64 e.1, Value.int .i64 e.2] : List Value).length = 2 := rfl
theorem flatE_flatC (es : List (Int × Int)) : flatE es = flatC (fun e : Int × Int => [Value.int .i64 e.1, Value.int .i64 e.2]) es := by
  induction es with
  | nil => rfl
  | cons e r ih => simp [flatE, flatC] at ih ⊢; exact ih
theorem FrTb.ends {w : World} {g : Nat} {es : List (Int × Int)} (h : RowAt w g (flatC (fun e : Int × Int => [Value.int .i64 e.1, Value.int .i64 e.2]) es)) : EndsAt w g es ∧ Room w g (es.length * 2) := by
  refine ⟨fun i hi => ⟨?_, ?_⟩, fun i hi => ?_⟩
  · have := (h.elem enC_len i hi 0 (by decide) (.int .i64 es[i].1) rfl).1
    simpa using this
  · exact (h.elem enC_len i hi 1 (by decide) (.int .i64 es[i].2) rfl).1
  · have hl : i < (flatC (fun e : Int × Int => [Value.int .i64 e.1, Value.int .i64 e.2]) es).length := by rw [flatC_len enC_len]; exact hi
    exact ⟨⟨_, (h i hl).1⟩, (h i hl).2⟩
theorem FrTb.tab {w : World} {B : Nat} {v : Value} {es : List (Int × Int)} (h : FrTb w B v es) : TabAt w v es := by
  by_cases hn : 0 < es.length
  · obtain ⟨g, cap, cur, rfl, hc, _, _, _, hr⟩ := FrL.block h hn
    exact ⟨_, cap, rfl, ⟨hc, by simp⟩, fun _ => ⟨g, rfl, (FrTb.ends (hr (by decide) enC_len)).1⟩⟩
  · have h0 : es = [] := List.eq_nil_of_length_eq_zero (by omega)
    subst h0
    obtain ⟨a, cap, rfl, hc⟩ := FrL.form h
    exact ⟨a, cap, rfl, ⟨Nat.zero_le _, hc⟩, fun h => by simp at h⟩
theorem OwnTab.fr {w : World} {B : Nat} {v : Value} {es : List (Int × Int)} (h : OwnTab w B v es) : FrTb w B v es := by
  refine FrL.own ?_
  have := h
  unfold OwnTab at this
  rwa [flatE_flatC] at this

/-- A box that reads so. -/
def RdBx (w : World) (v : Value) (b : Bx) : Prop := ∃ r t c, v = .agg #[r, t, c] ∧ RdRl w r b.rs ∧ TabAt w t b.es ∧ RdCn w c b.cs
/-- A box whose lists nobody else holds. -/
def FrBx (w : World) (B : Nat) (v : Value) (b : Bx) : Prop := ∃ r t c, v = .agg #[r, t, c] ∧ FrRl w B r b.rs ∧ FrTb w B t b.es ∧ FrCn w B c b.cs
theorem FrBx.rd {w : World} {B : Nat} {v : Value} {b : Bx} (h : FrBx w B v b) : RdBx w v b := by
  obtain ⟨r, t, c, rfl, h1, h2, h3⟩ := h
  exact ⟨r, t, c, rfl, FrRl.rd h1, FrTb.tab h2, FrCn.rd h3⟩
theorem RdBx.below {w w' : World} {v : Value} {b : Bx} (h : RdBx w v b) (hb : Below w.heap.size w w') : RdBx w' v b := by
  obtain ⟨r, t, c, rfl, h1, h2, h3⟩ := h
  exact ⟨r, t, c, rfl, h1.below hb, h2.below hb, h3.below hb⟩
theorem FrBx.later {w w' : World} {B : Nat} {v : Value} {b : Bx} (h : FrBx w B v b) (hb : Below w.heap.size w w') : FrBx w' B v b := by
  obtain ⟨r, t, c, rfl, h1, h2, h3⟩ := h
  exact ⟨r, t, c, rfl, FrL.later h1 hb, FrL.later h2 hb, FrL.later h3 hb⟩
theorem FrBx.base {w : World} {B B' : Nat} {v : Value} {b : Bx} (h : FrBx w B v b) (hB : B' ≤ B) : FrBx w B' v b := by
  obtain ⟨r, t, c, rfl, h1, h2, h3⟩ := h
  exact ⟨r, t, c, rfl, FrL.base h1 hB, FrL.base h2 hB, FrL.base h3 hB⟩
theorem FrBx.setCell {w : World} {B : Nat} {v : Value} {b : Bx} {a : Addr} (h : FrBx w B v b) (ha : a.block < B) (u : Value) : FrBx (w.setCell a u) B v b := by
  obtain ⟨r, t, c, rfl, h1, h2, h3⟩ := h
  exact ⟨r, t, c, rfl, FrL.setCell h1 ha u, FrL.setCell h2 ha u, FrL.setCell h3 ha u⟩
theorem FrBx.form {w : World} {B : Nat} {v : Value} {b : Bx} (h : FrBx w B v b) : ∃ a1 c1 a2 c2 a3 c3, v = .agg #[.slice a1 b.rs.length c1, .slice a2 b.es.length c2, .slice a3 b.cs.length c3] := by
  obtain ⟨r, t, c, rfl, h1, h2, h3⟩ := h
  obtain ⟨a1, c1, rfl, _⟩ := FrL.form h1
  obtain ⟨a2, c2, rfl, _⟩ := FrL.form h2
  obtain ⟨a3, c3, rfl, _⟩ := FrL.form h3
  exact ⟨a1, c1, a2, c2, a3, c3, rfl⟩
theorem RdBx.form {w : World} {v : Value} {b : Bx} (h : RdBx w v b) : ∃ a1 c1 a2 c2 a3 c3, v = .agg #[.slice a1 b.rs.length c1, .slice a2 b.es.length c2, .slice a3 b.cs.length c3] := by
  obtain ⟨r, t, c, rfl, ⟨a1, c1, rfl, _⟩, ⟨a2, c2, rfl, _⟩, ⟨a3, c3, rfl, _⟩⟩ := h
  exact ⟨a1, c1, a2, c2, a3, c3, rfl⟩

/-- How many marks a box takes. -/
def bxN (b : Bx) : Nat := 1 + 7 * b.rs.length + 2 * b.es.length + 7 * b.cs.length
/-- A box in which the marks from 1 on stand. -/
def MkBx (w : World) (v : Value) (b : Bx) : Prop := ∃ r t c, v = .agg #[r, t, c] ∧ RcRl w r (marksR 1 b.rs.length) ∧ TabAt w t (marksE (1 + 7 * b.rs.length) b.es.length) ∧ RdCn w c (marksC (1 + 7 * b.rs.length + 2 * b.es.length) b.cs.length)
theorem MkBx.below {w w' : World} {v : Value} {b : Bx} (h : MkBx w v b) (hb : Below w.heap.size w w') : MkBx w' v b := by
  obtain ⟨r, t, c, rfl, h1, h2, h3⟩ := h
  exact ⟨r, t, c, rfl, h1.below hb, h2.below hb, h3.below hb⟩
/-- What is read in a list stays, when another row turns. -/
theorem RdC.grown {α : Type} {c : α → List Value} {w w' : World} {v : Value} {xs : List α} {row : Option Nat} (h : RdC c w v xs) (hg : w.grownBy w' row) (hne : 0 < xs.length → ∀ g, v.ownBlock = some g → row ≠ some g) : RdC c w' v xs := by
  obtain ⟨a, cap, rfl, hc, hr⟩ := h
  refine ⟨a, cap, rfl, hc, fun hn => ?_⟩
  obtain ⟨g, rfl, hrow⟩ := hr hn
  refine ⟨g, rfl, fun i hi => ?_⟩
  have hlt : g < w.heap.size := World.block_lt_of_cell? w _ (hrow i hi).1
  have hb := hg.block g hlt (fun e => hne hn g rfl e.symm)
  exact ⟨(World.cell?_of_block (a := ⟨g, i, none⟩) hb).trans (hrow i hi).1, (World.frozen?_of_block (a := ⟨g, i, none⟩) hb).trans (hrow i hi).2⟩
theorem TabAt.grown {w w' : World} {v : Value} {es : List (Int × Int)} {row : Option Nat} (h : TabAt w v es) (hg : w.grownBy w' row) (hne : 0 < es.length → ∀ g, v.ownBlock = some g → row ≠ some g) : TabAt w' v es := by
  obtain ⟨a, cap, rfl, hc, hr⟩ := h
  refine ⟨a, cap, rfl, hc, fun hn => ?_⟩
  obtain ⟨g, rfl, he⟩ := hr hn
  exact ⟨g, rfl, he.grown hg (fun e => hne hn g rfl e.symm)⟩
theorem grown_two {w w1 w2 : World} {B : Nat} {r1 r2 : Option Nat} (h1 : w.grownBy w1 r1) (hr1 : ∀ j, r1 = some j → B ≤ j) (h2 : w1.grownBy w2 r2) (hr2 : ∀ j, r2 = some j → B ≤ j) (hB : B ≤ w.heap.size) : Below B w w2 :=
  (below_grown h1 hr1 hB).trans (below_grown h2 hr2 (Nat.le_trans hB h1.size))

/-- The box's rows lie below this block. -/
def UpBx (U : Nat) (v : Value) (b : Bx) : Prop := ∀ r t c, v = .agg #[r, t, c] → (0 < b.rs.length → ∀ g, r.ownBlock = some g → g < U) ∧ (0 < b.es.length → ∀ g, t.ownBlock = some g → g < U) ∧ (0 < b.cs.length → ∀ g, c.ownBlock = some g → g < U)
theorem FrL.up {α : Type} {t : TypeId} {k : Nat} {c : α → List Value} {w : World} {B : Nat} {v : Value} {xs : List α} (h : FrL t k c w B v xs) (hn : 0 < xs.length) : ∀ g, v.ownBlock = some g → B ≤ g ∧ g < w.heap.size := by
  intro g hg
  obtain ⟨g', _, _, rfl, _, hB, hl, _⟩ := FrL.block h hn
  simp [Value.ownBlock] at hg
  subst hg
  exact ⟨hB, hl⟩
theorem FrBx.up {w : World} {B : Nat} {v : Value} {b : Bx} (h : FrBx w B v b) : UpBx w.heap.size v b := by
  obtain ⟨r, t, c, rfl, h1, h2, h3⟩ := h
  intro r' t' c' e
  simp at e
  obtain ⟨rfl, rfl, rfl⟩ := e
  exact ⟨fun hn g hg => (FrL.up h1 hn g hg).2, fun hn g hg => (FrL.up h2 hn g hg).2, fun hn g hg => (FrL.up h3 hn g hg).2⟩
theorem FrBx.grown {w w' : World} {B : Nat} {v : Value} {b : Bx} {row : Option Nat} (h : FrBx w B v b) (hg : w.grownBy w' row) (hr : ∀ j, row = some j → j < B) : FrBx w' B v b := by
  obtain ⟨r, t, c, rfl, h1, h2, h3⟩ := h
  exact ⟨r, t, c, rfl, FrL.grown h1 hg (fun hn g hg e => by have := hr _ e; have := (FrL.up h1 hn g hg).1; omega), FrL.grown h2 hg (fun hn g hg e => by have := hr _ e; have := (FrL.up h2 hn g hg).1; omega), FrL.grown h3 hg (fun hn g hg e => by have := hr _ e; have := (FrL.up h3 hn g hg).1; omega)⟩

end Go.Proofs.YtgfkiljkpkfapaaGreatDoor
