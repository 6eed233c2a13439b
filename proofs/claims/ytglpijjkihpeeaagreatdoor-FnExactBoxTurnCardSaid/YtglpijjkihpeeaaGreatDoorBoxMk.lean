/- A box as data, in memory: how the law compares boxes, marks one and finds the marks again. Condition: at most 2^22 rules, ends and streams each. -/
import Derived.Test.YtglpijjkihpeeaaGreatDoorMarkRl
import Derived.Test.YtglpijjkihpeeaaGreatDoorMarkCn
import Derived.Test.YtglpijjkihpeeaaGreatDoorBoxThree
import Derived.Test.YtglpijjkihpeeaaGreatDoorFresh
import Derived.Test.YtglpijjkihpeeaaGreatDoorLawTab
namespace Go.Proofs.YtglpijjkihpeeaaGreatDoor
open Go.RowKit Go.Sort

/-- A box: its rules, its table's ends, its streams. -/
structure Bx where
  rs : List Rl
  es : List (Int × Int)
  cs : List Cn
/-- A table that nobody else holds. -/
def FrTb (w : World) (B : Nat) (v : Value) (es : List (Int × Int)) : Prop := FrL 53 2 (fun e : Int × Int => [Value.int .i64 e.1, Value.int .i64 e.2]) w B v es
theorem enC_len (e : Int × Int) : ([Value.int .i64 e.1, Value.int .i64 e.2] : List Value).length = 2 := rfl
theorem flatE_flatC (es : List (Int × Int)) : flatE es = flatC (fun e : Int × Int => [Value.int .i64 e.1, Value.int .i64 e.2]) es := by
  induction es with
  | nil => rfl
  | cons e r ih => simp [flatE, flatC] at ih ⊢; exact ih
theorem FrTb.ends {w : World} {g : Nat} {es : List (Int × Int)} (h : RowAt w g (flatC (fun e : Int × Int => [Value.int .i64 e.1, Value.int .i64 e.2]) es)) : EndsAt w g es ∧ Room w g (es.length * 2) := by
  refine ⟨fun i hi => ⟨?_, ?_⟩, fun i hi => ?_⟩
  · have := (h.elem enC_len i hi 0 (by decide) (.int .i64 es[i].1) rfl).1
    simpa using this
  · exact (h.elem enC_len i hi 1 (by decide) (.int .i64 es[i].2) rfl).1
  · have hl : i < (flatC (fun e : Int × Int => [Value.int .i64 e.1, Value.int .i64 e.2]) es).length := by rw [flatC_len enC_len]; exact hi
    exact ⟨⟨_, (h i hl).1⟩, (h i hl).2⟩
theorem FrTb.tab {w : World} {B : Nat} {v : Value} {es : List (Int × Int)} (h : FrTb w B v es) : TabAt w v es := by
  by_cases hn : 0 < es.length
  · obtain ⟨g, cap, cur, rfl, hc, _, _, _, hr⟩ := FrL.block h hn
    exact ⟨_, cap, rfl, ⟨hc, by simp⟩, fun _ => ⟨g, rfl, (FrTb.ends (hr (by decide) enC_len)).1⟩⟩
  · have h0 : es = [] := List.eq_nil_of_length_eq_zero (by omega)
    subst h0
    obtain ⟨a, cap, rfl, hc⟩ := FrL.form h
    exact ⟨a, cap, rfl, ⟨Nat.zero_le _, hc⟩, fun h => by simp at h⟩
theorem OwnTab.fr {w : World} {B : Nat} {v : Value} {es : List (Int × Int)} (h : OwnTab w B v es) : FrTb w B v es := by
  refine FrL.own ?_
  have := h
  unfold OwnTab at this
  rwa [flatE_flatC] at this

set_option maxRecDepth 100000 in
set_option maxHeartbeats 800000 in
theorem markTb_own (k B : Nat) (v : Value) (es : List (Int × Int)) (w : World) (hn : k + 2 * es.length ≤ 1000000000000000) (ho : FrTb w B v es) :
    Calls Tryz.prog 70 #[.agg #[v], .int .i64 k] w fun e w' => e = .returned (.int .i64 (k + 2 * es.length : Nat)) ∧ TabAt w' v (marksE k es.length) ∧ ∃ row, w.grownBy w' row ∧ ∀ j, row = some j → v.ownBlock = some j ∧ B ≤ j ∧ j < w.heap.size ∧ 0 < es.length := by
  by_cases hz : 0 < es.length
  · obtain ⟨g, cap, cur, rfl, hc, hB, hg, _, hr⟩ := FrL.block ho hz
    obtain ⟨_, hroom⟩ := FrTb.ends (hr (by decide) enC_len)
    have HM : Hid (∀ w, Room w g (es.length * 2) → Calls Tryz.prog 86 #[.slice (some ⟨g, 0, none⟩) es.length cap, .int .i64 k] w fun e w' => e = .returned (.int .i64 (k + 2 * es.length : Nat)) ∧ EndsAt w' g (marksE k es.length) ∧ Room w' g (es.length * 2) ∧ w.grownBy w' (some g)) := fun w h => markEnds_any k es.length g cap w hn hc h
    have R0 : Hid (Room (w.alloc (.cells #[.slice (some ⟨g, 0, none⟩) es.length cap] 27)) g (es.length * 2)) := Room.below hroom ((Below.refl _ _).alloc (Nat.le_refl _) _) hg
    obtain ⟨n, hnn⟩ : ∃ n, n = es.length := ⟨_, rfl⟩
    rw [← hnn] at HM R0 hc hz ⊢
    have G0 : Hid (w.grownBy (w.alloc (.cells #[.slice (some ⟨g, 0, none⟩) n cap] 27)) (some g)) := grown_of_below ((Below.refl _ _).alloc (Nat.le_refl _) _)
    clear hroom hr hnn
    go_enter Tryz.func70, Tryz.ntmps70
    go_wp2_with (go_at_call 86; refine (HM.out _ R0.out).mono ?_; rintro e w1 ⟨rfl, h1, _, h2⟩)
    go_ret
    refine ⟨rfl, ⟨_, cap, by rw [marksE_len], ⟨by rw [marksE_len]; exact hc, by simp⟩, fun _ => ⟨g, rfl, h1⟩⟩, some g, ?_, fun j hj => by cases hj; exact ⟨rfl, hB, hg, hz⟩⟩
    exact ⟨h2.os.trans G0.out.os, h2.tape.trans G0.out.tape, h2.output.trans G0.out.output, Nat.le_trans G0.out.size h2.size, fun k hk hne => (h2.block k (Nat.lt_of_lt_of_le hk G0.out.size) hne).trans (G0.out.block k hk hne)⟩
  · obtain ⟨a, cap, rfl, hc⟩ := FrL.form ho
    have h0 : es.length = 0 := by omega
    have HC : Hid (∀ w, Calls Tryz.prog 86 #[.slice a 0 cap, .int .i64 k] w fun e w' => e = .returned (.int .i64 k) ∧ w = w') := fun w => markEmpty a cap k w
    rw [h0]
    clear h0 ho hz
    go_enter Tryz.func70, Tryz.ntmps70
    go_wp2_with (go_at_call 86; refine (HC.out _).mono ?_; rintro e w1 ⟨rfl, rfl⟩)
    go_ret
    exact ⟨rfl, ⟨a, cap, rfl, ⟨Nat.zero_le _, hc⟩, fun h => by simp [marksE] at h⟩, none, World.grownBy_alloc w _ _, fun j hj => by cases hj⟩

set_option maxRecDepth 100000 in
set_option maxHeartbeats 800000 in
theorem heldTb_any (k : Nat) (v : Value) (n : Nat) (w : World) (hn : k + 2 * n ≤ 1000000000000000) (ho : TabAt w v (marksE k n)) :
    Calls Tryz.prog 73 #[.agg #[v], .int .i64 k] w fun e w' => e = .returned (.int .i64 (k + 2 * n : Nat)) ∧ Below w.heap.size w w' := by
  obtain ⟨a, cap, rfl, ⟨hc, hc0⟩, hr⟩ := ho
  rw [marksE_len] at hc hr ⊢
  by_cases hz : 0 < n
  · obtain ⟨g, rfl, he⟩ := hr hz
    have HM : Hid (∀ w, EndsAt w g (marksE k n) → Calls Tryz.prog 89 #[.slice (some ⟨g, 0, none⟩) n cap, .int .i64 k] w fun e w' => e = .returned (.int .i64 (k + 2 * n : Nat)) ∧ Below w.heap.size w w') := fun w h => heldEnds_any k n g cap w hn hc h
    have B0 : Hid (Below w.heap.size w (w.alloc (.cells #[.slice (some ⟨g, 0, none⟩) n cap] 27))) := (Below.refl _ _).alloc (Nat.le_refl _) _
    have R0 : Hid (EndsAt (w.alloc (.cells #[.slice (some ⟨g, 0, none⟩) n cap] 27)) g (marksE k n)) := he.below B0.out (he.lt (by rw [marksE_len]; exact hz))
    have hneg : ¬ ((k + 2 * n : Nat) : Int) < 0 := by omega
    obtain ⟨m, hm⟩ : ∃ m : Int, m = ((k + 2 * n : Nat) : Int) := ⟨_, rfl⟩
    rw [← hm] at HM hneg ⊢
    clear he hr hm
    go_enter Tryz.func73, Tryz.ntmps73
    go_wp2_with (go_at_call 89; refine (HM.out _ R0.out).mono ?_; rintro e w1 ⟨rfl, b1⟩)
    go_ret
    exact ⟨rfl, B0.out.trans (b1.mono (by simp))⟩
  · have h0 : n = 0 := by omega
    subst h0
    have HC : Hid (∀ w, Calls Tryz.prog 89 #[.slice a 0 cap, .int .i64 k] w fun e w' => e = .returned (.int .i64 k) ∧ w = w') := fun w => heldEmpty a cap k w
    have hneg : ¬ ((k : Nat) : Int) < 0 := by omega
    clear hr
    go_enter Tryz.func73, Tryz.ntmps73
    go_wp2_with (go_at_call 89; refine (HC.out _).mono ?_; rintro e w1 ⟨rfl, rfl⟩)
    go_ret
    exact ⟨rfl, (Below.refl _ _).alloc (Nat.le_refl _) _⟩

/-- A box that reads so. -/
def RdBx (w : World) (v : Value) (b : Bx) : Prop := ∃ r t c, v = .agg #[r, t, c] ∧ RdRl w r b.rs ∧ TabAt w t b.es ∧ RdCn w c b.cs
/-- A box whose lists nobody else holds. -/
def FrBx (w : World) (B : Nat) (v : Value) (b : Bx) : Prop := ∃ r t c, v = .agg #[r, t, c] ∧ FrRl w B r b.rs ∧ FrTb w B t b.es ∧ FrCn w B c b.cs
theorem FrBx.rd {w : World} {B : Nat} {v : Value} {b : Bx} (h : FrBx w B v b) : RdBx w v b := by
  obtain ⟨r, t, c, rfl, h1, h2, h3⟩ := h
  exact ⟨r, t, c, rfl, FrRl.rd h1, FrTb.tab h2, FrCn.rd h3⟩
theorem RdBx.below {w w' : World} {v : Value} {b : Bx} (h : RdBx w v b) (hb : Below w.heap.size w w') : RdBx w' v b := by
  obtain ⟨r, t, c, rfl, h1, h2, h3⟩ := h
  exact ⟨r, t, c, rfl, h1.below hb, h2.below hb, h3.below hb⟩
theorem FrBx.later {w w' : World} {B : Nat} {v : Value} {b : Bx} (h : FrBx w B v b) (hb : Below w.heap.size w w') : FrBx w' B v b := by
  obtain ⟨r, t, c, rfl, h1, h2, h3⟩ := h
  exact ⟨r, t, c, rfl, FrL.later h1 hb, FrL.later h2 hb, FrL.later h3 hb⟩
theorem FrBx.base {w : World} {B B' : Nat} {v : Value} {b : Bx} (h : FrBx w B v b) (hB : B' ≤ B) : FrBx w B' v b := by
  obtain ⟨r, t, c, rfl, h1, h2, h3⟩ := h
  exact ⟨r, t, c, rfl, FrL.base h1 hB, FrL.base h2 hB, FrL.base h3 hB⟩
theorem FrBx.setCell {w : World} {B : Nat} {v : Value} {b : Bx} {a : Addr} (h : FrBx w B v b) (ha : a.block < B) (u : Value) : FrBx (w.setCell a u) B v b := by
  obtain ⟨r, t, c, rfl, h1, h2, h3⟩ := h
  exact ⟨r, t, c, rfl, FrL.setCell h1 ha u, FrL.setCell h2 ha u, FrL.setCell h3 ha u⟩
theorem FrBx.form {w : World} {B : Nat} {v : Value} {b : Bx} (h : FrBx w B v b) : ∃ a1 c1 a2 c2 a3 c3, v = .agg #[.slice a1 b.rs.length c1, .slice a2 b.es.length c2, .slice a3 b.cs.length c3] := by
  obtain ⟨r, t, c, rfl, h1, h2, h3⟩ := h
  obtain ⟨a1, c1, rfl, _⟩ := FrL.form h1
  obtain ⟨a2, c2, rfl, _⟩ := FrL.form h2
  obtain ⟨a3, c3, rfl, _⟩ := FrL.form h3
  exact ⟨a1, c1, a2, c2, a3, c3, rfl⟩
theorem RdBx.form {w : World} {v : Value} {b : Bx} (h : RdBx w v b) : ∃ a1 c1 a2 c2 a3 c3, v = .agg #[.slice a1 b.rs.length c1, .slice a2 b.es.length c2, .slice a3 b.cs.length c3] := by
  obtain ⟨r, t, c, rfl, ⟨a1, c1, rfl, _⟩, ⟨a2, c2, rfl, _⟩, ⟨a3, c3, rfl, _⟩⟩ := h
  exact ⟨a1, c1, a2, c2, a3, c3, rfl⟩

set_option maxRecDepth 100000 in
set_option maxHeartbeats 1600000 in
theorem eqBox_same (v1 v2 : Value) (b : Bx) (w : World) (hr : b.rs.length ≤ 4194304) (he : b.es.length ≤ 4194304) (hc : b.cs.length ≤ 4194304) (h1 : RdBx w v1 b) (h2 : RdBx w v2 b) :
    Calls Tryz.prog 20 #[v1, v2] w fun e w' => e = .returned (.bool true) ∧ Below w.heap.size w w' := by
  obtain ⟨r1, t1, c1, rfl, hr1, ht1, hc1⟩ := h1
  obtain ⟨r2, t2, c2, rfl, hr2, ht2, hc2⟩ := h2
  obtain ⟨W0, hW0⟩ : ∃ W, W = (w.alloc (.cells #[r1, t1, c1] 30)).alloc (.cells #[r2, t2, c2] 30) := ⟨_, rfl⟩
  have hB : Below w.heap.size w W0 := by rw [hW0]; exact ((Below.refl _ _).alloc (Nat.le_refl _) _).alloc (by simp) _
  have hsz : W0.heap.size = w.heap.size + 2 := by rw [hW0]; simp
  have K1 : Hid (Blk W0 w.heap.size 30 [r1, t1, c1]) := by rw [hW0]; exact (three_new w r1 t1 c1 _).below ((Below.refl _ _).alloc (Nat.le_refl _) _)
  have K2 : Hid (Blk W0 (w.heap.size + 1) 30 [r2, t2, c2]) := by
    show Blk W0 (w.heap.size + 1) 30 [r2, t2, c2]
    rw [hW0]
    have := three_new (w.alloc (.cells #[r1, t1, c1] 30)) r2 t2 c2 30
    simpa using this
  have BB := Lib.hid hB
  have A1 := Lib.hid (hr1.below hB)
  have A2 := Lib.hid (hr2.below hB)
  have T1 := Lib.hid (ht1.below hB)
  have T2 := Lib.hid (ht2.below hB)
  have D1 := Lib.hid (hc1.below hB)
  have D2 := Lib.hid (hc2.below hB)
  obtain ⟨a1, k1, rfl, _⟩ := hr1
  obtain ⟨a2, k2, rfl, _⟩ := hr2
  obtain ⟨a3, k3, rfl, _⟩ := ht1
  obtain ⟨a4, k4, rfl, _⟩ := ht2
  obtain ⟨a5, k5, rfl, _⟩ := hc1
  obtain ⟨a6, k6, rfl, _⟩ := hc2
  clear hB
  subst hW0
  go_enter Tryz.func20, Tryz.ntmps20
  go_wp2_with fail
  (go_at_call 32; refine (eqRuls_same _ _ b.rs _ hr A1.out A2.out).mono ?_; rintro e w1 ⟨rfl, b1⟩)
  have z1 := b1.size
  have B1 := Lib.hid b1
  clear b1
  obtain ⟨⟨p0, p1, p2⟩, _⟩ := three_all (K1.out.below B1.out)
  obtain ⟨⟨q0, q1, q2⟩, _⟩ := three_all (K2.out.below B1.out)
  go_wp2_with fail
  (go_at_call 67; refine (eqTab_same _ _ b.es _ he (T1.out.below B1.out) (T2.out.below B1.out)).mono ?_; rintro e w2 ⟨rfl, b2⟩)
  have B2 := Lib.hid (B1.out.trans (b2.mono z1))
  have z2 := B2.out.size
  clear b2 p0 p1 p2 q0 q1 q2
  obtain ⟨⟨p0, p1, p2⟩, _⟩ := three_all (K1.out.below B2.out)
  obtain ⟨⟨q0, q1, q2⟩, _⟩ := three_all (K2.out.below B2.out)
  go_wp2_with fail
  (go_at_call 68; refine (eqConns_same _ _ b.cs _ hc (D1.out.below B2.out) (D2.out.below B2.out)).mono ?_; rintro e w3 ⟨rfl, b3⟩)
  go_wp2_with fail
  go_ret
  exact ⟨rfl, BB.out.trans ((B2.out.trans (b3.mono z2)).mono (by omega))⟩

/-- How many marks a box takes. -/
def bxN (b : Bx) : Nat := 1 + 7 * b.rs.length + 2 * b.es.length + 7 * b.cs.length
/-- A box in which the marks from 1 on stand. -/
def MkBx (w : World) (v : Value) (b : Bx) : Prop := ∃ r t c, v = .agg #[r, t, c] ∧ RcRl w r (marksR 1 b.rs.length) ∧ TabAt w t (marksE (1 + 7 * b.rs.length) b.es.length) ∧ RdCn w c (marksC (1 + 7 * b.rs.length + 2 * b.es.length) b.cs.length)
theorem MkBx.below {w w' : World} {v : Value} {b : Bx} (h : MkBx w v b) (hb : Below w.heap.size w w') : MkBx w' v b := by
  obtain ⟨r, t, c, rfl, h1, h2, h3⟩ := h
  exact ⟨r, t, c, rfl, h1.below hb, h2.below hb, h3.below hb⟩
/-- What is read in a list stays, when another row turns. -/
theorem RdC.grown {α : Type} {c : α → List Value} {w w' : World} {v : Value} {xs : List α} {row : Option Nat} (h : RdC c w v xs) (hg : w.grownBy w' row) (hne : 0 < xs.length → ∀ g, v.ownBlock = some g → row ≠ some g) : RdC c w' v xs := by
  obtain ⟨a, cap, rfl, hc, hr⟩ := h
  refine ⟨a, cap, rfl, hc, fun hn => ?_⟩
  obtain ⟨g, rfl, hrow⟩ := hr hn
  refine ⟨g, rfl, fun i hi => ?_⟩
  have hlt : g < w.heap.size := World.block_lt_of_cell? w _ (hrow i hi).1
  have hb := hg.block g hlt (fun e => hne hn g rfl e.symm)
  exact ⟨(World.cell?_of_block (a := ⟨g, i, none⟩) hb).trans (hrow i hi).1, (World.frozen?_of_block (a := ⟨g, i, none⟩) hb).trans (hrow i hi).2⟩
theorem TabAt.grown {w w' : World} {v : Value} {es : List (Int × Int)} {row : Option Nat} (h : TabAt w v es) (hg : w.grownBy w' row) (hne : 0 < es.length → ∀ g, v.ownBlock = some g → row ≠ some g) : TabAt w' v es := by
  obtain ⟨a, cap, rfl, hc, hr⟩ := h
  refine ⟨a, cap, rfl, hc, fun hn => ?_⟩
  obtain ⟨g, rfl, he⟩ := hr hn
  exact ⟨g, rfl, he.grown hg (fun e => hne hn g rfl e.symm)⟩
theorem grown_two {w w1 w2 : World} {B : Nat} {r1 r2 : Option Nat} (h1 : w.grownBy w1 r1) (hr1 : ∀ j, r1 = some j → B ≤ j) (h2 : w1.grownBy w2 r2) (hr2 : ∀ j, r2 = some j → B ≤ j) (hB : B ≤ w.heap.size) : Below B w w2 :=
  (below_grown h1 hr1 hB).trans (below_grown h2 hr2 (Nat.le_trans hB h1.size))

/-- The box's rows lie below this block. -/
def UpBx (U : Nat) (v : Value) (b : Bx) : Prop := ∀ r t c, v = .agg #[r, t, c] → (0 < b.rs.length → ∀ g, r.ownBlock = some g → g < U) ∧ (0 < b.es.length → ∀ g, t.ownBlock = some g → g < U) ∧ (0 < b.cs.length → ∀ g, c.ownBlock = some g → g < U)
theorem FrL.up {α : Type} {t : TypeId} {k : Nat} {c : α → List Value} {w : World} {B : Nat} {v : Value} {xs : List α} (h : FrL t k c w B v xs) (hn : 0 < xs.length) : ∀ g, v.ownBlock = some g → B ≤ g ∧ g < w.heap.size := by
  intro g hg
  obtain ⟨g', _, _, rfl, _, hB, hl, _⟩ := FrL.block h hn
  simp [Value.ownBlock] at hg
  subst hg
  exact ⟨hB, hl⟩
theorem FrBx.up {w : World} {B : Nat} {v : Value} {b : Bx} (h : FrBx w B v b) : UpBx w.heap.size v b := by
  obtain ⟨r, t, c, rfl, h1, h2, h3⟩ := h
  intro r' t' c' e
  simp at e
  obtain ⟨rfl, rfl, rfl⟩ := e
  exact ⟨fun hn g hg => (FrL.up h1 hn g hg).2, fun hn g hg => (FrL.up h2 hn g hg).2, fun hn g hg => (FrL.up h3 hn g hg).2⟩
theorem FrBx.grown {w w' : World} {B : Nat} {v : Value} {b : Bx} {row : Option Nat} (h : FrBx w B v b) (hg : w.grownBy w' row) (hr : ∀ j, row = some j → j < B) : FrBx w' B v b := by
  obtain ⟨r, t, c, rfl, h1, h2, h3⟩ := h
  exact ⟨r, t, c, rfl, FrL.grown h1 hg (fun hn g hg e => by have := hr _ e; have := (FrL.up h1 hn g hg).1; omega), FrL.grown h2 hg (fun hn g hg e => by have := hr _ e; have := (FrL.up h2 hn g hg).1; omega), FrL.grown h3 hg (fun hn g hg e => by have := hr _ e; have := (FrL.up h3 hn g hg).1; omega)⟩

set_option maxRecDepth 100000 in
set_option maxHeartbeats 1600000 in
theorem markBox_any (B U : Nat) (v : Value) (b : Bx) (w : World) (hr : b.rs.length ≤ 4194304) (he : b.es.length ≤ 4194304) (hc : b.cs.length ≤ 4194304) (hB : B ≤ w.heap.size) (h : FrBx w B v b) (hU : UpBx U v b) :
    Calls Tryz.prog 22 #[v, .int .i64 1] w fun e w' => e = .returned (.int .i64 (bxN b : Nat)) ∧ MkBx w' v b ∧ Below B w w' ∧ ∀ k, U ≤ k → k < w.heap.size → w'.heap[k]? = w.heap[k]? := by
  obtain ⟨r, t, c, rfl, h1, h2, h3⟩ := h
  obtain ⟨hu1, hu2, hu3⟩ := hU r t c rfl
  have U1 := Lib.hid hu1
  have U2 := Lib.hid hu2
  have U3 := Lib.hid hu3
  clear hu1 hu2 hu3 hU
  obtain ⟨W0, hW0⟩ : ∃ W, W = w.alloc (.cells #[r, t, c] 30) := ⟨_, rfl⟩
  have hB0 : Below w.heap.size w W0 := by rw [hW0]; exact (Below.refl _ _).alloc (Nat.le_refl _) _
  have hs0 : W0.heap.size = w.heap.size + 1 := by rw [hW0]; simp
  have K0 : Hid (Blk W0 w.heap.size 30 [r, t, c]) := by rw [hW0]; exact three_new w r t c _
  have F1 := Lib.hid (FrL.later h1 hB0)
  have F2 := Lib.hid (FrL.later h2 hB0)
  have F3 := Lib.hid (FrL.later h3 hB0)
  have n12 : Hid (0 < b.rs.length → 0 < b.es.length → ∀ g, r.ownBlock = some g → t.ownBlock ≠ some g) := fun x y => FrL.apart h1 h2 (by decide) x y
  have n13 : Hid (0 < b.rs.length → 0 < b.cs.length → ∀ g, r.ownBlock = some g → c.ownBlock ≠ some g) := fun x y => FrL.apart h1 h3 (by decide) x y
  have n23 : Hid (0 < b.es.length → 0 < b.cs.length → ∀ g, t.ownBlock = some g → c.ownBlock ≠ some g) := fun x y => FrL.apart h2 h3 (by decide) x y
  obtain ⟨a1, k1, rfl, _⟩ := FrL.form h1
  obtain ⟨a2, k2, rfl, _⟩ := FrL.form h2
  obtain ⟨a3, k3, rfl, _⟩ := FrL.form h3
  have BB := Lib.hid hB0
  obtain ⟨m1, e1⟩ : ∃ m : Nat, m = 1 + 7 * b.rs.length := ⟨_, rfl⟩
  obtain ⟨m2, e2⟩ : ∃ m : Nat, m = m1 + 2 * b.es.length := ⟨_, rfl⟩
  have q1 : m1 ≤ 100000000 := by omega
  have q2 : m2 ≤ 100000000 := by omega
  have p1 : 1 ≤ m1 := by omega
  have p2 : 1 ≤ m2 := by omega
  have E1 := Lib.hid e1
  have E2 := Lib.hid e2
  have C1 : Hid (∀ w, FrRl w B (.slice a1 b.rs.length k1) b.rs → Calls Tryz.prog 34 #[.slice a1 b.rs.length k1, .int .i64 1] w fun e w' => e = .returned (.int .i64 (m1 : Nat)) ∧ RcRl w' (.slice a1 b.rs.length k1) (marksR 1 b.rs.length) ∧ ∃ row, w.grownBy w' row ∧ ∀ j, row = some j → (Value.slice a1 b.rs.length k1).ownBlock = some j ∧ B ≤ j ∧ j < w.heap.size ∧ 0 < b.rs.length) := fun w h => by rw [e1]; exact markRuls_own 1 B _ b.rs w (by omega) h
  have C2 : Hid (∀ w, FrTb w B (.slice a2 b.es.length k2) b.es → Calls Tryz.prog 70 #[.agg #[.slice a2 b.es.length k2], .int .i64 (m1 : Nat)] w fun e w' => e = .returned (.int .i64 (m2 : Nat)) ∧ TabAt w' (.slice a2 b.es.length k2) (marksE m1 b.es.length) ∧ ∃ row, w.grownBy w' row ∧ ∀ j, row = some j → (Value.slice a2 b.es.length k2).ownBlock = some j ∧ B ≤ j ∧ j < w.heap.size ∧ 0 < b.es.length) := fun w h => by rw [e2]; exact markTb_own m1 B _ b.es w (by omega) h
  have C3 : Hid (∀ w, FrCn w B (.slice a3 b.cs.length k3) b.cs → Calls Tryz.prog 71 #[.slice a3 b.cs.length k3, .int .i64 (m2 : Nat)] w fun e w' => e = .returned (.int .i64 (bxN b : Nat)) ∧ RdCn w' (.slice a3 b.cs.length k3) (marksC m2 b.cs.length) ∧ ∃ row, w.grownBy w' row ∧ ∀ j, row = some j → (Value.slice a3 b.cs.length k3).ownBlock = some j ∧ B ≤ j ∧ j < w.heap.size ∧ 0 < b.cs.length) := fun w h => by
    have := markConns_own m2 B _ b.cs w p2 (by omega) h
    rwa [show m2 + 7 * b.cs.length = bxN b from by unfold bxN; omega] at this
  obtain ⟨n, hn⟩ : ∃ n, n = bxN b := ⟨_, rfl⟩
  rw [← hn] at C3 ⊢
  have hBk : w.heap.size ≠ w.heap.size → False := fun h => h rfl
  have hv1 : Hid (∀ j, (Value.slice a1 b.rs.length k1).ownBlock = some j → 0 < b.rs.length → j < w.heap.size) := fun j hj hn => by
    obtain ⟨g, _, _, e, _, _, hg, _⟩ := FrL.block h1 hn
    rw [e] at hj; simp [Value.ownBlock] at hj; omega
  have hv2 : Hid (∀ j, (Value.slice a2 b.es.length k2).ownBlock = some j → 0 < b.es.length → j < w.heap.size) := fun j hj hn => by
    obtain ⟨g, _, _, e, _, _, hg, _⟩ := FrL.block h2 hn
    rw [e] at hj; simp [Value.ownBlock] at hj; omega
  have HB := Lib.hid hB
  have HH : Hid (∀ k, k < w.heap.size → W0.heap[k]? = w.heap[k]?) := fun k hk => hB0.block k hk
  clear hn e1 e2 hB0 hBk h1 h2 h3
  subst hW0
  go_enter Tryz.func22, Tryz.ntmps22
  go_wp2_with fail
  (go_at_call 34; refine (C1.out _ F1.out).mono ?_; rintro e w1 ⟨rfl, rd1, row1, gr1, hr1⟩)
  have G1 := Lib.hid gr1
  have R1 := Lib.hid hr1
  have M1 := Lib.hid rd1
  have K1 : Hid (Blk w1 w.heap.size 30 [.slice a1 b.rs.length k1, .slice a2 b.es.length k2, .slice a3 b.cs.length k3]) := (gr1.block w.heap.size (by omega) (fun e => by obtain ⟨hj, _, _, hl⟩ := hr1 _ e.symm; have := hv1.out _ hj hl; omega)).trans K0.out
  have F21 : Hid (FrTb w1 B (.slice a2 b.es.length k2) b.es) := FrL.grown F2.out gr1 (fun hy g hg e => by obtain ⟨hj, _, _, hl⟩ := hr1 _ e; exact n12.out hl hy g hj hg)
  have F31 : Hid (FrCn w1 B (.slice a3 b.cs.length k3) b.cs) := FrL.grown F3.out gr1 (fun hy g hg e => by obtain ⟨hj, _, _, hl⟩ := hr1 _ e; exact n13.out hl hy g hj hg)
  clear gr1 hr1 rd1
  obtain ⟨⟨x0, x1, x2⟩, _⟩ := three_all K1.out
  go_wp2_with fail
  (go_at_call 70; refine (C2.out _ F21.out).mono ?_; rintro e w2 ⟨rfl, rd2, row2, gr2, hr2⟩)
  have G2 := Lib.hid gr2
  have R2 := Lib.hid hr2
  have M2 := Lib.hid rd2
  have M12 : Hid (RcRl w2 (.slice a1 b.rs.length k1) (marksR 1 b.rs.length)) := RdC.grown M1.out gr2 (fun hx g hg e => by obtain ⟨hj, _, _, hl⟩ := hr2 _ e; rw [marksR_len] at hx; exact n12.out hx hl g hg hj)
  have K2 : Hid (Blk w2 w.heap.size 30 [.slice a1 b.rs.length k1, .slice a2 b.es.length k2, .slice a3 b.cs.length k3]) := (gr2.block w.heap.size (by have := G1.out.size; omega) (fun e => by obtain ⟨hj, _, _, hl⟩ := hr2 _ e.symm; have := hv2.out _ hj hl; omega)).trans K1.out
  have F32 : Hid (FrCn w2 B (.slice a3 b.cs.length k3) b.cs) := FrL.grown F31.out gr2 (fun hy g hg e => by obtain ⟨hj, _, _, hl⟩ := hr2 _ e; exact n23.out hl hy g hj hg)
  clear gr2 hr2 rd2 x0 x1 x2
  obtain ⟨⟨x0, x1, x2⟩, _⟩ := three_all K2.out
  go_wp2_with fail
  (go_at_call 71; refine (C3.out _ F32.out).mono ?_; rintro e w3 ⟨rfl, rd3, row3, gr3, hr3⟩)
  have M3 := Lib.hid rd3
  have G3 := Lib.hid gr3
  have R3 := Lib.hid hr3
  have M13 : Hid (RcRl w3 (.slice a1 b.rs.length k1) (marksR 1 b.rs.length)) := RdC.grown M12.out gr3 (fun hx g hg e => by obtain ⟨hj, _, _, hl⟩ := hr3 _ e; rw [marksR_len] at hx; exact n13.out hx hl g hg hj)
  have M23 : Hid (TabAt w3 (.slice a2 b.es.length k2) (marksE m1 b.es.length)) := TabAt.grown M2.out gr3 (fun hx g hg e => by obtain ⟨hj, _, _, hl⟩ := hr3 _ e; rw [marksE_len] at hx; exact n23.out hx hl g hg hj)
  clear gr3 hr3 rd3 x0 x1 x2
  go_wp2_with fail
  go_ret
  refine ⟨rfl, ⟨_, _, _, rfl, M13.out, ?_, ?_⟩, ?_, fun k hU hk => ?_⟩
  · rw [← E1.out]; exact M23.out
  · rw [← E1.out, ← E2.out]; exact M3.out
  · refine (BB.out.mono HB.out).trans ((grown_two G1.out (fun j e => (R1.out j e).2.1) G2.out (fun j e => (R2.out j e).2.1) (by have := HB.out; omega)).trans (below_grown G3.out (fun j e => (R3.out j e).2.1) ?_))
    have := G1.out.size
    have := G2.out.size
    have := HB.out
    omega
  · have s1 := G1.out.size
    have s2 := G2.out.size
    have k1 := G1.out.block k (by simp; omega) (fun e => by obtain ⟨hj, _, _, hl⟩ := R1.out _ e.symm; have := U1.out hl _ hj; omega)
    have k2 := G2.out.block k (by simp at s1; omega) (fun e => by obtain ⟨hj, _, _, hl⟩ := R2.out _ e.symm; have := U2.out hl _ hj; omega)
    have k3 := G3.out.block k (by simp at s1; omega) (fun e => by obtain ⟨hj, _, _, hl⟩ := R3.out _ e.symm; have := U3.out hl _ hj; omega)
    exact k3.trans (k2.trans (k1.trans (HH.out k hk)))

set_option maxRecDepth 100000 in
set_option maxHeartbeats 1600000 in
theorem heldBox_any (v : Value) (b : Bx) (w : World) (hr : b.rs.length ≤ 4194304) (he : b.es.length ≤ 4194304) (hc : b.cs.length ≤ 4194304) (h : MkBx w v b) :
    Calls Tryz.prog 23 #[v, .int .i64 1] w fun e w' => e = .returned (.int .i64 (bxN b : Nat)) ∧ Below w.heap.size w w' := by
  obtain ⟨r, t, c, rfl, h1, h2, h3⟩ := h
  obtain ⟨W0, hW0⟩ : ∃ W, W = w.alloc (.cells #[r, t, c] 30) := ⟨_, rfl⟩
  have hB0 : Below w.heap.size w W0 := by rw [hW0]; exact (Below.refl _ _).alloc (Nat.le_refl _) _
  have hs0 : W0.heap.size = w.heap.size + 1 := by rw [hW0]; simp
  have K0 : Hid (Blk W0 w.heap.size 30 [r, t, c]) := by rw [hW0]; exact three_new w r t c _
  have F1 := Lib.hid (h1.below hB0)
  have F2 := Lib.hid (h2.below hB0)
  have F3 := Lib.hid (h3.below hB0)
  obtain ⟨a1, k1, rfl, _⟩ := h1
  obtain ⟨a2, k2, rfl, _⟩ := h2
  obtain ⟨a3, k3, rfl, _⟩ := h3
  rw [marksR_len] at F1 K0 hW0 ⊢
  rw [marksE_len] at F2 K0 hW0 ⊢
  rw [marksC_len] at F3 K0 hW0 ⊢
  have BB := Lib.hid hB0
  obtain ⟨m1, e1⟩ : ∃ m : Nat, m = 1 + 7 * b.rs.length := ⟨_, rfl⟩
  obtain ⟨m2, e2⟩ : ∃ m : Nat, m = m1 + 2 * b.es.length := ⟨_, rfl⟩
  rw [← e1] at F2 F3
  rw [← e2] at F3
  have C1 : Hid (∀ w, RcRl w (.slice a1 b.rs.length k1) (marksR 1 b.rs.length) → Calls Tryz.prog 72 #[.slice a1 b.rs.length k1, .int .i64 1] w fun e w' => e = .returned (.int .i64 (m1 : Int)) ∧ Below w.heap.size w w') := fun w h => by rw [e1]; exact heldRuls_any 1 _ b.rs.length w (by omega) h
  have C2 : Hid (∀ w, TabAt w (.slice a2 b.es.length k2) (marksE m1 b.es.length) → Calls Tryz.prog 73 #[.agg #[.slice a2 b.es.length k2], .int .i64 (m1 : Int)] w fun e w' => e = .returned (.int .i64 (m2 : Int)) ∧ Below w.heap.size w w') := fun w h => by rw [e2]; exact heldTb_any m1 _ b.es.length w (by omega) h
  have C3 : Hid (∀ w, RdCn w (.slice a3 b.cs.length k3) (marksC m2 b.cs.length) → Calls Tryz.prog 74 #[.slice a3 b.cs.length k3, .int .i64 (m2 : Int)] w fun e w' => e = .returned (.int .i64 (bxN b : Int)) ∧ Below w.heap.size w w') := fun w h => by
    have := heldConns_any m2 _ b.cs.length w (by omega) (by omega) h
    rwa [show m2 + 7 * b.cs.length = bxN b from by unfold bxN; omega] at this
  obtain ⟨n1, f1⟩ : ∃ n : Int, n = (m1 : Int) := ⟨_, rfl⟩
  obtain ⟨n2, f2⟩ : ∃ n : Int, n = (m2 : Int) := ⟨_, rfl⟩
  obtain ⟨n, f3⟩ : ∃ n : Int, n = (bxN b : Int) := ⟨_, rfl⟩
  rw [← f1] at C1 C2
  rw [← f2] at C2 C3
  rw [← f3] at C3 ⊢
  have g1 : ¬ n1 < 0 := by omega
  have g2 : ¬ n2 < 0 := by omega
  have g3 : ¬ n < 0 := by omega
  clear f1 f2 f3 e1 e2 hB0
  subst hW0
  go_enter Tryz.func23, Tryz.ntmps23
  go_wp2_with fail
  (go_at_call 72; refine (C1.out _ F1.out).mono ?_; rintro e w1 ⟨rfl, b1⟩)
  have B1 := Lib.hid b1
  clear b1
  obtain ⟨⟨x0, x1, x2⟩, _⟩ := three_all (K0.out.below B1.out)
  go_wp2_with fail
  (go_at_call 73; refine (C2.out _ (F2.out.below B1.out)).mono ?_; rintro e w2 ⟨rfl, b2⟩)
  have B2 := Lib.hid (B1.out.trans (b2.mono B1.out.size))
  clear b2 x0 x1 x2
  obtain ⟨⟨x0, x1, x2⟩, _⟩ := three_all (K0.out.below B2.out)
  go_wp2_with fail
  (go_at_call 74; refine (C3.out _ (F3.out.below B2.out)).mono ?_; rintro e w3 ⟨rfl, b3⟩)
  go_wp2_with fail
  go_ret
  exact ⟨rfl, BB.out.trans ((B2.out.trans (b3.mono B2.out.size)).mono (by omega))⟩

end Go.Proofs.YtglpijjkihpeeaaGreatDoor
