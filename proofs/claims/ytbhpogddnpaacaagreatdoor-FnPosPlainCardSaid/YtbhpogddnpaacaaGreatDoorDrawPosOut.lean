/- The table, the stream and the place that are drawn for the laws of places. Condition: the code lies in memory. -/
import Derived.Test.YtbhpogddnpaacaaGreatDoorDrawTab
import Derived.Test.YtbhpogddnpaacaaGreatDoorDrawRS
import Derived.IntWalk
import Derived.Deep.RegionHeld3
import Derived.Below
namespace Go.Proofs.YtbhpogddnpaacaaGreatDoor
open Go.RowKit Go.Sort

theorem arr_seven (k : Nat) (h : k < 7) : ∃ v : Nat, ((#[.int .i64 0, .int .i64 0, .int .i64 1, .int .i64 1, .int .i64 2, .int .i64 3, .int .i64 4]) : Array Value)[k]? = some (.int .i64 (v : Int)) ∧ v < 5 ∧ ∀ h, ([Value.int .i64 0, .int .i64 0, .int .i64 1, .int .i64 1, .int .i64 2, .int .i64 3, .int .i64 4] : List Value)[k]'h = .int .i64 (v : Int) := by
  match k, h with
  | 0, _ => exact ⟨0, rfl, by omega, fun _ => rfl⟩
  | 1, _ => exact ⟨0, rfl, by omega, fun _ => rfl⟩
  | 2, _ => exact ⟨1, rfl, by omega, fun _ => rfl⟩
  | 3, _ => exact ⟨1, rfl, by omega, fun _ => rfl⟩
  | 4, _ => exact ⟨2, rfl, by omega, fun _ => rfl⟩
  | 5, _ => exact ⟨3, rfl, by omega, fun _ => rfl⟩
  | 6, _ => exact ⟨4, rfl, by omega, fun _ => rfl⟩
theorem arr_five (k1 k2 v : Nat) (h1 : k1 < 130) (h2 : k2 < 40) (h : v < 5) : ∃ q : Int, ((#[.int .i64 (k1 : Int), .int .i64 (k2 : Int), .int .i64 (-1), .int .i64 9223372036854775807, .int .i64 0]) : Array Value)[v]? = some (.int .i64 q) ∧ (Lit.int .i64 q).wf = true ∧ ∀ h, ([Value.int .i64 (k1 : Int), .int .i64 (k2 : Int), .int .i64 (-1), .int .i64 9223372036854775807, .int .i64 0] : List Value)[v]'h = .int .i64 q := by
  match v, h with
  | 0, _ => exact ⟨_, rfl, WalkArith.wf_i64 (by omega), fun _ => rfl⟩
  | 1, _ => exact ⟨_, rfl, WalkArith.wf_i64 (by omega), fun _ => rfl⟩
  | 2, _ => exact ⟨_, rfl, WalkArith.wf_i64 (by omega), fun _ => rfl⟩
  | 3, _ => exact ⟨_, rfl, WalkArith.wf_i64 (by omega), fun _ => rfl⟩
  | 4, _ => exact ⟨_, rfl, WalkArith.wf_i64 (by omega), fun _ => rfl⟩
theorem bodyPost_letter {P : Program} {f : Func} {Post : Ending → World → Prop} {x : Exit} {a : Act} {Q : World → Prop} {W : World} (h1 : Q W) (h2 : ∀ W, Q W → bodyPost P f Post x a W) : bodyPost P f Post x a W := h2 W h1

/-- What holds all through the drawn region: the table's cell, the table, what lay there, the result's cell; the literals where they lie; the result where it is stored. -/
def ST (w0 : World) (x R T n0 : Nat) (tv : Value) (us : List (Int × Int)) (w' : World) : Prop :=
  w'.cell? ⟨T, 0, none⟩ = some tv ∧ OwnTab w' n0 tv us ∧ Below x w0 w' ∧ (∃ v, w'.cell? ⟨x, 0, none⟩ = some v) ∧ w'.frozen? ⟨x, 0, none⟩ = false ∧ R < w'.heap.size ∧ (x < n0 ∧ R < n0 ∧ x < R ∧ T ≠ x ∧ T ≠ R ∧ w0.heap.size = x)
theorem ST.grown {w0 w w' : World} {x R T n0 : Nat} {tv : Value} {us : List (Int × Int)} (h : ST w0 x R T n0 tv us w) (hg : w.grownBy w' (some R)) : ST w0 x R T n0 tv us w' := by
  obtain ⟨h1, h2, h3, ⟨v, h4⟩, h5, h6, h7, h8, h9, h10, h11, h12⟩ := h
  exact ⟨gbox h1 hg h11, h2.grown hg h8, h3.grown hg (by have := h3.size; omega) (fun k e => by cases e; omega), ⟨v, gbox h4 hg (by omega)⟩, gboxf h4 h5 hg (by omega), Nat.lt_of_lt_of_le h6 hg.size, h7, h8, h9, h10, h11, h12⟩
theorem ST.setx {w0 w : World} {x R T n0 : Nat} {tv : Value} {us : List (Int × Int)} (h : ST w0 x R T n0 tv us w) (u : Value) : ST w0 x R T n0 tv us (w.setCell ⟨x, 0, none⟩ u) := by
  obtain ⟨h1, h2, h3, ⟨v, h4⟩, h5, h6, h7, h8, h9, h10, h11, h12⟩ := h
  refine ⟨?_, ownsRow_setCell_below (a := ⟨x, 0, none⟩) h2 h7 u, h3.setCell (p := ⟨x, 0, none⟩) (Nat.le_refl _) u, ⟨u, World.cell?_setCell_same _ _ _ h4⟩, ?_, ?_, h7, h8, h9, h10, h11, h12⟩
  · rw [World.cell?_setCell_far _ _ _ _ (by simpa using fun e => h10 e.symm)]; exact h1
  · simpa using h5
  · simpa using h6
/-- ST, and the literals, and the result. -/
def SS (w0 : World) (x R T n0 : Nat) (tv : Value) (us : List (Int × Int)) (ob : Option Nat) (oa : Option (Nat × Nat × Nat)) (xv : Option Value) (w' : World) : Prop :=
  ST w0 x R T n0 tv us w' ∧ (∀ b, ob = some b → (b < w'.heap.size ∧ b ≠ R ∧ x < b) ∧ ∀ i, w'.cell? ⟨b, i, none⟩ = ((#[.int .i64 0, .int .i64 0, .int .i64 1, .int .i64 1, .int .i64 2, .int .i64 3, .int .i64 4]) : Array Value)[i]?) ∧
    (∀ b, oa = some b → (b.1 < w'.heap.size ∧ b.1 ≠ R ∧ x < b.1) ∧ ∀ i, w'.cell? ⟨b.1, i, none⟩ = ((#[.int .i64 (b.2.1 : Int), .int .i64 (b.2.2 : Int), .int .i64 (-1), .int .i64 9223372036854775807, .int .i64 0]) : Array Value)[i]?) ∧ ∀ v, xv = some v → w'.cell? ⟨x, 0, none⟩ = some v
section
variable {w0 w w' : World} {x R T n0 : Nat} {tv : Value} {us : List (Int × Int)} {ob : Option Nat} {oa : Option (Nat × Nat × Nat)} {xv : Option Value}
theorem SS.grown (h : SS w0 x R T n0 tv us ob oa xv w) (hg : w.grownBy w' (some R)) : SS w0 x R T n0 tv us ob oa xv w' := by
  have hxR : x ≠ R := by have := h.1.2.2.2.2.2.2.2.2.1; omega
  exact ⟨h.1.grown hg, fun b e => ⟨⟨Nat.lt_of_lt_of_le (h.2.1 b e).1.1 hg.size, (h.2.1 b e).1.2⟩, fun i => by rw [(gcell hg (h.2.1 b e).1.1 (h.2.1 b e).1.2.1 i).1]; exact (h.2.1 b e).2 i⟩,
    fun b e => ⟨⟨Nat.lt_of_lt_of_le (h.2.2.1 b e).1.1 hg.size, (h.2.2.1 b e).1.2⟩, fun i => by rw [(gcell hg (h.2.2.1 b e).1.1 (h.2.2.1 b e).1.2.1 i).1]; exact (h.2.2.1 b e).2 i⟩, fun v e => gbox (h.2.2.2 v e) hg hxR⟩
theorem SS.alloc (h : SS w0 x R T n0 tv us ob oa xv w) (o : Obj) : SS w0 x R T n0 tv us ob oa xv (w.alloc o) := h.grown (World.grownBy_alloc _ _ _)
theorem SS.setv (h : SS w0 x R T n0 tv us ob oa xv w) (u : Value) : SS w0 x R T n0 tv us ob oa (some u) (w.setCell ⟨x, 0, none⟩ u) := by
  obtain ⟨v, h4⟩ := h.1.2.2.2.1
  refine ⟨h.1.setx u, fun b e => ⟨by simpa using (h.2.1 b e).1, fun i => ?_⟩, fun b e => ⟨by simpa using (h.2.2.1 b e).1, fun i => ?_⟩, fun v e => by cases e; exact World.cell?_setCell_same _ _ _ h4⟩
  · rw [World.cell?_setCell_far _ _ _ _ (by have := (h.2.1 b e).1.2.2; show x ≠ b; omega)]; exact (h.2.1 b e).2 i
  · rw [World.cell?_setCell_far _ _ _ _ (by have := (h.2.2.1 b e).1.2.2; show x ≠ b.1; omega)]; exact (h.2.2.1 b e).2 i
theorem SS.setx (h : SS w0 x R T n0 tv us ob oa none w) (u : Value) : SS w0 x R T n0 tv us ob oa none (w.setCell ⟨x, 0, none⟩ u) :=
  ⟨(h.setv u).1, (h.setv u).2.1, (h.setv u).2.2.1, fun v e => by cases e⟩
theorem SS.newB {b : Nat} (h : SS w0 x R T n0 tv us none oa xv w) (hb : b = w.heap.size) (t : TypeId) : SS w0 x R T n0 tv us (some b) oa xv (w.alloc (.cells #[.int .i64 0, .int .i64 0, .int .i64 1, .int .i64 1, .int .i64 2, .int .i64 3, .int .i64 4] t)) := by
  subst hb
  have h1 := h.1.2.2.2.2.2.1
  have h2 := h.1.2.2.2.2.2.2.2.2.1
  exact ⟨(h.alloc _).1, fun b e => by cases e; exact ⟨⟨by simp, by omega, by omega⟩, fun i => (cell_new _ _ _ _).1⟩, (h.alloc _).2.2.1, (h.alloc _).2.2.2⟩
theorem SS.newA {b k1 k2 : Nat} (h : SS w0 x R T n0 tv us ob none xv w) (hb : b = w.heap.size) (t : TypeId) : SS w0 x R T n0 tv us ob (some (b, k1, k2)) xv (w.alloc (.cells #[.int .i64 (k1 : Int), .int .i64 (k2 : Int), .int .i64 (-1), .int .i64 9223372036854775807, .int .i64 0] t)) := by
  subst hb
  have h1 := h.1.2.2.2.2.2.1
  have h2 := h.1.2.2.2.2.2.2.2.2.1
  exact ⟨(h.alloc _).1, (h.alloc _).2.1, fun b e => by cases e; exact ⟨⟨by simp, by simp; omega, by simp; omega⟩, fun i => (cell_new _ _ _ _).1⟩, (h.alloc _).2.2.2⟩
end
/-- What is held all through may be made stronger, at a world that meets it. -/
theorem wpAnyH_more {P : Program} {md : Region.Mode} {ops : Array Oper} {Q : Exit → Act → World → Prop} {S S' : World → Prop} (hw : ∀ w, S' w → S w) : ∀ (fuel : Nat) (listed : Array Bool) (a : Act) (w : World), wpAnyH P md ops Q S' fuel listed a w → wpAnyH P md ops Q S fuel listed a w
  | 0, _, _, _, h => h
  | fuel + 1, _, _, _, h => ⟨h.1, fun i hi => wpOp_mono (fun a' w' h' => ⟨hw _ h'.1, wpAnyH_more hw fuel _ a' w' h'.2⟩) (h.2 i hi)⟩
theorem wpAnyH_hand {P : Program} {md : Region.Mode} {ops : Array Oper} {Q : Exit → Act → World → Prop} {S S' F : World → Prop} {fuel : Nat} {listed : Array Bool} {a : Act} {W : World} (hw : ∀ w, S' w → S w) (h1 : F W) (h2 : ∀ W', F W' → wpAnyH P md ops Q S' fuel listed a W') : wpAnyH P md ops Q S fuel listed a W :=
  wpAnyH_more hw _ _ _ _ (h2 W h1)

set_option maxRecDepth 100000 in
set_option maxHeartbeats 3200000 in
theorem drawPosOut_any (ao : Option Addr) (n cap : Nat) (w : World) (h : BytesIn w ao n) (hn : n ≤ cap) :
    Calls Tryz.prog 13 #[.slice ao n cap] w fun e w' => ∃ g c us s q, e = .returned (.tuple #[.agg #[.slice g (us : List (Int × Int)).length c], .string (s : ByteArray), .int .i64 q]) ∧ OwnTab w' w.heap.size (.slice g us.length c) us ∧ (us.length ≤ 8 ∧ SmE us) ∧ s.size ≤ 200 ∧ (Lit.int .i64 q).wf = true ∧ Below w.heap.size w w' := by
  have H := Lib.hid h
  clear h
  go_enter Tryz.func13, Tryz.ntmps13
  go_wp2_with fail
  (go_at_call 35; refine (open_any ao n cap _ (H.out.below ((Below.refl _ _).alloc (Nat.le_refl _) _)) hn).mono ?_; rintro e w1 ⟨R, rfl, hR, b1, r1⟩)
  have s1 := b1.size
  simp only [World.size_alloc] at s1 hR r1
  have R1 := Lib.hid r1
  have B1 := Lib.hid b1
  have hRl := r1.lt
  have x1 : w1.cell? ⟨w.heap.size, 0, none⟩ = some (.slice none 0 0) := by rw [b1.cell (by simp)]; simp
  have f1 : w1.frozen? ⟨w.heap.size, 0, none⟩ = false := by rw [b1.frozen (by simp)]; exact (cell_new w _ _ 0).2
  have bW : Hid (∀ w', w1.grownBy w' (some R) → Below w.heap.size w w' ∧ w'.cell? ⟨w.heap.size, 0, none⟩ = some (.slice none 0 0) ∧ w'.frozen? ⟨w.heap.size, 0, none⟩ = false) := fun w' hg => ⟨((Below.refl _ w).alloc (Nat.le_refl _) _).trans ((B1.out.mono (by simp)).grown hg (by omega) (fun k e => by cases e; omega)), gbox x1 hg (by omega), gboxf x1 f1 hg (by omega)⟩
  clear r1 b1
  go_wp2_with fail
  (go_at_call 36; refine (drawRwrStream_any ao n cap _ (H.out.below (((Below.refl _ w).alloc (Nat.le_refl _) _).trans (B1.out.mono (by simp)))) hn).mono ?_; rintro e w2 ⟨g, c, us, s, rfl, ho, hu, hs, b2⟩)
  obtain ⟨W3, hW3⟩ : ∃ W3, W3 = w2.alloc (.cells #[.slice g us.length c] 25) := ⟨_, rfl⟩
  obtain ⟨T, hT⟩ : ∃ T, T = w2.heap.size := ⟨_, rfl⟩
  have z2 := b2.size
  have q2 : Below w1.heap.size w1 W3 := by rw [hW3]; exact b2.alloc z2 _
  have gW : Hid (w1.grownBy W3 (some R)) := grownB q2
  have t3 : W3.cell? ⟨T, 0, none⟩ = some (.slice g us.length c) := by rw [hW3, hT]; exact (cell_new w2 _ _ 0).1
  have O3 : Hid (OwnTab W3 w1.heap.size (.slice g us.length c) us) := by rw [hW3]; exact ho.below ((Below.refl _ _).alloc (Nat.le_refl _) _)
  have R3 : Hid (Rd (w.heap.size + 1) R 0 W3) := rd_below R1.out q2 (Nat.le_refl _)
  have HU := Lib.hid hu
  have hTR : T ≠ R := by omega
  have hTx : T ≠ w.heap.size := by omega
  clear ho hu b2 x1 f1 q2
  go_wp2_with fail
  rw [← hW3, ← hT]
  clear hW3 hT
  have nR3 : W3.heap.size ≠ R := by have := R3.out.lt; omega
  go_upto_region 3 with fail
  have hST : SS w w.heap.size R T w1.heap.size (.slice g us.length c) us none none none W3 := by
    have hb := bW.out _ gW.out
    exact ⟨⟨t3, O3.out, hb.1, ⟨_, hb.2.1⟩, hb.2.2, R3.out.lt, by omega, hRl, by omega, hTx, hTR, rfl⟩, fun _ e => (by cases e), fun _ e => (by cases e), fun _ e => (by cases e)⟩
  refine wp_region_held_drew (S := SS w w.heap.size R T w1.heap.size (.slice g us.length c) us none none none) (by kernel_rfl) (hST.grown (grownB (Below.refl _ _).drew)) (fun hS0 => ?_)
  have hR0 := rd_drew R3.out
  refine wpAnyH_hand (S' := SS w w.heap.size R T w1.heap.size (.slice g us.length c) us none none none) (F := fun W' => SS w w.heap.size R T w1.heap.size (.slice g us.length c) us none none none W' ∧ Rd (w.heap.size + 1) R 0 W') (fun _ h' => h') ⟨hS0, hR0⟩ ?_
  clear hS0 hR0 hST R3 O3 t3 gW nR3
  rintro W4 ⟨hS, hR⟩
  refine wpAnyH_take (i := 0) (oi := { dst := some 15, op := Op.load 25 (Operand.tmp 6), type := 25, pos := "l20_draw.go:261", after := #[], guard := none }) (v := ?v1) rfl (by kernel_rfl) (by kernel_rfl) (by kernel_rfl) (fun _ _ _ h => h) (Or.inl ⟨by rfl, ?h1⟩) hS ?r1
  case h1 => (intro w' hSw; have h0 := hSw.1.1; go_simp) <;> with_reducible rfl
  case r1 =>
  try simp only [Act.put, List.setIfInBounds_toArray, List.set_cons_zero, List.set_cons_succ]
  refine wpAnyH_take (i := 1) (oi := { dst := some 16, op := Op.move (Operand.tmp 7), type := 9, pos := "l20_draw.go:261", after := #[{ on := 14, ground := Ground.gcOnly Departure.lateStores }], guard := none }) (v := ?v2) rfl (by kernel_rfl) (by kernel_rfl) (by kernel_rfl) (fun _ _ _ h => h) (Or.inl ⟨by rfl, ?h2⟩) hS ?r2
  case h2 => (intro w' hSw; go_simp) <;> with_reducible rfl
  case r2 =>
  try simp only [Act.put, List.setIfInBounds_toArray, List.set_cons_zero, List.set_cons_succ]
  refine wpAnyH_take (i := 2) (oi := { dst := some 17, op := Op.move (Operand.tmp 5), type := 69, pos := "l20_draw.go:261", after := #[], guard := none }) (v := ?v3) rfl (by kernel_rfl) (by kernel_rfl) (by kernel_rfl) (fun _ _ _ h => h) (Or.inl ⟨by rfl, ?h3⟩) hS ?r3
  case h3 => (intro w' hSw; go_simp) <;> with_reducible rfl
  case r3 =>
  try simp only [Act.put, List.setIfInBounds_toArray, List.set_cons_zero, List.set_cons_succ]
  refine wpAnyH_take (i := 4) (oi := { dst := some 19, op := Op.move (Operand.tmp 5), type := 69, pos := "l20_draw.go:261", after := #[], guard := none }) (v := ?v4) rfl (by kernel_rfl) (by kernel_rfl) (by kernel_rfl) (fun _ _ _ h => h) (Or.inl ⟨by rfl, ?h4⟩) hS ?r4
  case h4 => (intro w' hSw; go_simp) <;> with_reducible rfl
  case r4 =>
  try simp only [Act.put, List.setIfInBounds_toArray, List.set_cons_zero, List.set_cons_succ]
  refine wpAnyH_take (i := 8) (oi := { dst := some 23, op := Op.move (Operand.tmp 5), type := 69, pos := "l20_draw.go:261", after := #[], guard := none }) (v := ?v5) rfl (by kernel_rfl) (by kernel_rfl) (by kernel_rfl) (fun _ _ _ h => h) (Or.inl ⟨by rfl, ?h5⟩) hS ?r5
  case h5 => (intro w' hSw; go_simp) <;> with_reducible rfl
  case r5 =>
  try simp only [Act.put, List.setIfInBounds_toArray, List.set_cons_zero, List.set_cons_succ]
  refine wpAnyH_ready (rs := [3, 7]) (by kernel_rfl) (by simp) ?_
  refine AllReadyH.cons (o := { dst := some 18, op := Op.call { callee := Callee.value (Operand.func 37), args := #[Operand.tmp 17, Operand.const (Value.int IntKind.i64 130)], argTypes := #[69, 3] }, type := 3, pos := "l20_draw.go:261", after := #[{ on := 2, ground := Ground.data }], guard := none }) rfl (fun K hK => ?_) ?_
  · go_simp
    (go_at_call 37; refine (pick_any 130 (w.heap.size + 1) R 0 _ hR (by omega)).mono ?_; rintro e wN ⟨k1, rfl, hk, gN, rN⟩)
    have hk1 : k1 < 130 := by omega
    refine hK.out _ _ (hS.grown gN) (fun hS2 => ?_)
    clear hK K gN hk hS hR
    have hS := hS2
    have hR := rN
    clear hS2 rN
    try simp only [Act.put, List.setIfInBounds_toArray, List.set_cons_zero, List.set_cons_succ]
    refine wpAnyH_ready (rs := [5, 7]) (by kernel_rfl) (by simp) ?_
    refine AllReadyH.cons (o := { dst := some 20, op := Op.call { callee := Callee.value (Operand.func 37), args := #[Operand.tmp 19, Operand.const (Value.int IntKind.i64 40)], argTypes := #[69, 3] }, type := 3, pos := "l20_draw.go:261", after := #[{ on := 4, ground := Ground.data }, { on := 3, ground := Ground.chain }], guard := none }) rfl (fun K hK => ?_) ?_
    · go_simp
      (go_at_call 37; refine (pick_any 40 (w.heap.size + 1) R 1 _ hR (by omega)).mono ?_; rintro e wN ⟨k2, rfl, hk, gN, rN⟩)
      have hk2 : k2 < 40 := by omega
      refine hK.out _ _ (hS.grown gN) (fun hS2 => ?_)
      clear hK K gN hk hS hR
      have hS := hS2
      have hR := rN
      clear hS2 rN
      try simp only [Act.put, List.setIfInBounds_toArray, List.set_cons_zero, List.set_cons_succ]
      refine wpAnyH_ready (rs := [6, 7, 9]) (by kernel_rfl) (by simp) ?_
      refine AllReadyH.cons (o := { dst := some 21, op := Op.buildSlice 72 5 #[(0, Operand.tmp 18), (1, Operand.tmp 20), (2, Operand.const (Value.int IntKind.i64 (-1))), (3, Operand.const (Value.int IntKind.i64 9223372036854775807)), (4, Operand.const (Value.int IntKind.i64 0))], type := 72, pos := "l20_draw.go:261", after := #[{ on := 3, ground := Ground.data }, { on := 5, ground := Ground.data }, { on := 15, ground := Ground.gcOnly Departure.lateStores }], guard := none }) rfl (fun K hK => ?_) ?_
      · obtain ⟨bA, hbA⟩ : ∃ b, b = wN.heap.size := ⟨_, rfl⟩
        have hS3 := hS.newA (k1 := k1) (k2 := k2) hbA
        go_simp
        rw [← hbA]
        refine hK.out _ _ (hS.alloc _) (fun _ => ?_)
        clear hK K
        refine wpAnyH_hand (S' := SS w w.heap.size R T w1.heap.size (.slice g us.length c) us none (some (bA, k1, k2)) none) (F := fun W' => SS w w.heap.size R T w1.heap.size (.slice g us.length c) us none (some (bA, k1, k2)) none W' ∧ Rd (w.heap.size + 1) R 2 W') (fun w' h' => ⟨h'.1, h'.2.1, fun b e => (by cases e), h'.2.2.2⟩) ⟨hS3 _, rd_alloc hR _⟩ ?_
        clear hS hR hS3 hbA
        rintro X7 ⟨hS, hR⟩
        try simp only [Act.put, List.setIfInBounds_toArray, List.set_cons_zero, List.set_cons_succ]
        refine wpAnyH_ready (rs := [7, 9]) (by kernel_rfl) (by simp) ?_
        refine AllReadyH.cons (o := { dst := some 22, op := Op.buildSlice 72 7 #[(0, Operand.const (Value.int IntKind.i64 0)), (1, Operand.const (Value.int IntKind.i64 0)), (2, Operand.const (Value.int IntKind.i64 1)), (3, Operand.const (Value.int IntKind.i64 1)), (4, Operand.const (Value.int IntKind.i64 2)), (5, Operand.const (Value.int IntKind.i64 3)), (6, Operand.const (Value.int IntKind.i64 4))], type := 72, pos := "l20_draw.go:261", after := #[{ on := 15, ground := Ground.gcOnly Departure.lateStores }], guard := none }) rfl (fun K hK => ?_) ?_
        · obtain ⟨bB, hbB⟩ : ∃ b, b = X7.heap.size := ⟨_, rfl⟩
          have hS3 := hS.newB hbB
          go_simp
          rw [← hbB]
          refine hK.out _ _ (hS.alloc _) (fun _ => ?_)
          clear hK K
          refine wpAnyH_hand (S' := SS w w.heap.size R T w1.heap.size (.slice g us.length c) us (some bB) (some (bA, k1, k2)) none) (F := fun W' => SS w w.heap.size R T w1.heap.size (.slice g us.length c) us (some bB) (some (bA, k1, k2)) none W' ∧ Rd (w.heap.size + 1) R 2 W') (fun w' h' => ⟨h'.1, fun b e => (by cases e), h'.2.2.1, h'.2.2.2⟩) ⟨hS3 _, rd_alloc hR _⟩ ?_
          clear hS hR hS3 hbB
          rintro X8 ⟨hS, hR⟩
          try simp only [Act.put, List.setIfInBounds_toArray, List.set_cons_zero, List.set_cons_succ]
          refine wpAnyH_ready (rs := [9]) (by kernel_rfl) (by simp) ?_
          refine AllReadyH.cons (o := { dst := some 24, op := Op.call { callee := Callee.value (Operand.func 37), args := #[Operand.tmp 23, Operand.const (Value.int IntKind.i64 7)], argTypes := #[69, 3] }, type := 3, pos := "l20_draw.go:261", after := #[{ on := 8, ground := Ground.data }, { on := 5, ground := Ground.chain }], guard := none }) rfl (fun K hK => ?_) ?_
          · go_simp
            (go_at_call 37; refine (pick_any 7 (w.heap.size + 1) R 2 _ hR (by omega)).mono ?_; rintro e wN ⟨k3, rfl, hk, gN, rN⟩)
            have hk3 : k3 < 7 := by omega
            refine hK.out _ _ (hS.grown gN) (fun hS2 => ?_)
            clear hK K gN hk hS hR
            have hS := hS2
            have hR := rN
            clear hS2 rN
            have hk3i : (k3 : Int) < 7 := by omega
            obtain ⟨v, hv, hv5, hvl⟩ := arr_seven k3 hk3
            obtain ⟨q, hq, hqw, hql⟩ := arr_five k1 k2 v hk1 hk2 hv5
            have hv5i : (v : Int) < 5 := by omega
            try simp only [Act.put, List.setIfInBounds_toArray, List.set_cons_zero, List.set_cons_succ]
            refine wpAnyH_take (i := 10) (oi := { dst := some 25, op := Op.indexAddr 72 (Operand.tmp 22) (Operand.tmp 24), type := 0, pos := "l20_draw.go:261", after := #[{ on := 7, ground := Ground.data }, { on := 9, ground := Ground.data }, { on := 15, ground := Ground.gcOnly Departure.lateStores }], guard := none }) (v := ?v11) rfl (by kernel_rfl) (by kernel_rfl) (by kernel_rfl) (fun _ _ _ h => h) (Or.inl ⟨by rfl, ?h11⟩) hS ?r11
            case h11 => (intro w' hSw; go_simp) <;> with_reducible rfl
            case r11 =>
            try simp only [Act.put, List.setIfInBounds_toArray, List.set_cons_zero, List.set_cons_succ]
            refine wpAnyH_take (i := 11) (oi := { dst := some 26, op := Op.load 3 (Operand.tmp 25), type := 3, pos := "l20_draw.go:261", after := #[{ on := 10, ground := Ground.data }, { on := 15, ground := Ground.gcOnly Departure.lateStores }], guard := none }) (v := ?v12) rfl (by kernel_rfl) (by kernel_rfl) (by kernel_rfl) (fun _ _ _ h => h) (Or.inl ⟨by rfl, ?h12⟩) hS ?r12
            case h12 => (intro w' hSw; have h0 := (hSw.2.1 bB rfl).2 k3; rw [hv] at h0; go_simp) <;> with_reducible rfl
            case r12 =>
            try simp only [Act.put, List.setIfInBounds_toArray, List.set_cons_zero, List.set_cons_succ]
            refine wpAnyH_take (i := 12) (oi := { dst := some 27, op := Op.indexAddr 72 (Operand.tmp 21) (Operand.tmp 26), type := 0, pos := "l20_draw.go:261", after := #[{ on := 6, ground := Ground.data }, { on := 11, ground := Ground.data }, { on := 15, ground := Ground.gcOnly Departure.lateStores }], guard := none }) (v := ?v13) rfl (by kernel_rfl) (by kernel_rfl) (by kernel_rfl) (fun _ _ _ h => h) (Or.inl ⟨by rfl, ?h13⟩) hS ?r13
            case h13 => (intro w' hSw; go_simp) <;> with_reducible rfl
            case r13 =>
            try simp only [Act.put, List.setIfInBounds_toArray, List.set_cons_zero, List.set_cons_succ]
            refine wpAnyH_take (i := 13) (oi := { dst := some 28, op := Op.load 3 (Operand.tmp 27), type := 3, pos := "l20_draw.go:261", after := #[{ on := 12, ground := Ground.data }, { on := 15, ground := Ground.gcOnly Departure.lateStores }], guard := none }) (v := ?v14) rfl (by kernel_rfl) (by kernel_rfl) (by kernel_rfl) (fun _ _ _ h => h) (Or.inl ⟨by rfl, ?h14⟩) hS ?r14
            case h14 => (intro w' hSw; have h0 := (hSw.2.2.1 (bA, k1, k2) rfl).2 v; rw [hq] at h0; go_simp) <;> with_reducible rfl
            case r14 =>
            try simp only [Act.put, List.setIfInBounds_toArray, List.set_cons_zero, List.set_cons_succ]
            refine wpAnyH_ready (rs := [14]) (by kernel_rfl) (by simp) ?_
            refine AllReadyH.cons (o := { dst := none, op := Op.store 25 (Operand.tmp 2) (Operand.tmp 15), type := 0, pos := "l20_draw.go:261", after := #[{ on := 0, ground := Ground.data }, { on := 9, ground := Ground.chain }, { on := 0, ground := Ground.phase }, { on := 1, ground := Ground.textOnly Departure.lateStores }, { on := 2, ground := Ground.textOnly Departure.lateStores }, { on := 3, ground := Ground.textOnly Departure.lateStoresUnsure }, { on := 4, ground := Ground.textOnly Departure.lateStores }, { on := 5, ground := Ground.textOnly Departure.lateStoresUnsure }, { on := 6, ground := Ground.textOnly Departure.lateStores }, { on := 7, ground := Ground.textOnly Departure.lateStores }, { on := 8, ground := Ground.textOnly Departure.lateStores }, { on := 9, ground := Ground.textOnly Departure.lateStoresUnsure }, { on := 10, ground := Ground.textOnly Departure.lateStores }, { on := 11, ground := Ground.textOnly Departure.lateStores }, { on := 12, ground := Ground.textOnly Departure.lateStores }, { on := 13, ground := Ground.textOnly Departure.lateStores }], guard := none }) rfl (fun K hK => ?_) ?_
            · obtain ⟨xv, hx⟩ := hS.1.2.2.2.1
              have hxf := hS.1.2.2.2.2.1
              go_simp
              refine hK.out _ _ (hS.setx _) (fun _ => ?_)
              clear hK K
              refine wpAnyH_hand (S' := SS w w.heap.size R T w1.heap.size (.slice g us.length c) us (some bB) (some (bA, k1, k2)) (some (.slice g us.length c))) (F := SS w w.heap.size R T w1.heap.size (.slice g us.length c) us (some bB) (some (bA, k1, k2)) (some (.slice g us.length c))) (fun w' h' => ⟨h'.1, h'.2.1, h'.2.2.1, fun v e => (by cases e)⟩) (hS.setv _) ?_
              clear hS hR hx hxf
              rintro X14 hS
              have hR : True := trivial
              try simp only [Act.put, List.setIfInBounds_toArray, List.set_cons_zero, List.set_cons_succ]
              refine wpAnyH_take (i := 15) (oi := { dst := some 3, op := Op.assign (Operand.tmp 16), type := 9, pos := "l20_draw.go:261", after := #[{ on := 1, ground := Ground.data }, { on := 14, ground := Ground.chain }, { on := 0, ground := Ground.phase }, { on := 1, ground := Ground.phase }, { on := 2, ground := Ground.textOnly Departure.lateStores }, { on := 3, ground := Ground.textOnly Departure.lateStoresUnsure }, { on := 4, ground := Ground.textOnly Departure.lateStores }, { on := 5, ground := Ground.textOnly Departure.lateStoresUnsure }, { on := 6, ground := Ground.textOnly Departure.lateStores }, { on := 7, ground := Ground.textOnly Departure.lateStores }, { on := 8, ground := Ground.textOnly Departure.lateStores }, { on := 9, ground := Ground.textOnly Departure.lateStoresUnsure }, { on := 10, ground := Ground.textOnly Departure.lateStores }, { on := 11, ground := Ground.textOnly Departure.lateStores }, { on := 12, ground := Ground.textOnly Departure.lateStores }, { on := 13, ground := Ground.textOnly Departure.lateStores }, { on := 14, ground := Ground.phase }], guard := none }) (v := ?v16) rfl (by kernel_rfl) (by kernel_rfl) (by kernel_rfl) (fun _ _ _ h => h) (Or.inl ⟨by rfl, ?h16⟩) hS ?r16
              case h16 => (intro w' hSw; go_simp) <;> with_reducible rfl
              case r16 =>
              try simp only [Act.put, List.setIfInBounds_toArray, List.set_cons_zero, List.set_cons_succ]
              refine wpAnyH_take (i := 16) (oi := { dst := some 4, op := Op.assign (Operand.tmp 28), type := 3, pos := "l20_draw.go:261", after := #[{ on := 13, ground := Ground.data }, { on := 15, ground := Ground.chain }, { on := 0, ground := Ground.phase }, { on := 1, ground := Ground.phase }, { on := 2, ground := Ground.phase }, { on := 3, ground := Ground.phase }, { on := 4, ground := Ground.phase }, { on := 5, ground := Ground.phase }, { on := 6, ground := Ground.phase }, { on := 7, ground := Ground.phase }, { on := 8, ground := Ground.phase }, { on := 9, ground := Ground.phase }, { on := 10, ground := Ground.phase }, { on := 11, ground := Ground.phase }, { on := 12, ground := Ground.phase }, { on := 13, ground := Ground.phase }, { on := 14, ground := Ground.phase }, { on := 15, ground := Ground.phase }], guard := none }) (v := ?v17) rfl (by kernel_rfl) (by kernel_rfl) (by kernel_rfl) (fun _ _ _ h => h) (Or.inl ⟨by rfl, ?h17⟩) hS ?r17
              case h17 => (intro w' hSw; go_simp) <;> with_reducible rfl
              case r17 =>
              try simp only [Act.put, List.setIfInBounds_toArray, List.set_cons_zero, List.set_cons_succ]
              refine wpAnyH_done (by kernel_rfl) ?_ _
              have hx := hS.2.2.2 _ rfl
              go_wp2_with fail
              exact bodyPost_ret (v := .tuple #[.agg #[.slice g us.length c], .string s, .int .i64 q]) (by simp [results, Tryz.results13, go_sem, hx]) rfl ⟨_, _, us, s, q, rfl, OwnTab.mono hS.1.2.1 (by have := hS.1.2.2.2.2.2.2.1; omega), HU.out, hs, hqw, hS.1.2.2.1⟩
            exact AllReadyH.nil
          exact AllReadyH.nil
        refine AllReadyH.cons (o := { dst := some 24, op := Op.call { callee := Callee.value (Operand.func 37), args := #[Operand.tmp 23, Operand.const (Value.int IntKind.i64 7)], argTypes := #[69, 3] }, type := 3, pos := "l20_draw.go:261", after := #[{ on := 8, ground := Ground.data }, { on := 5, ground := Ground.chain }], guard := none }) rfl (fun K hK => ?_) ?_
        · go_simp
          (go_at_call 37; refine (pick_any 7 (w.heap.size + 1) R 2 _ hR (by omega)).mono ?_; rintro e wN ⟨k3, rfl, hk, gN, rN⟩)
          have hk3 : k3 < 7 := by omega
          refine hK.out _ _ (hS.grown gN) (fun hS2 => ?_)
          clear hK K gN hk hS hR
          have hS := hS2
          have hR := rN
          clear hS2 rN
          have hk3i : (k3 : Int) < 7 := by omega
          obtain ⟨v, hv, hv5, hvl⟩ := arr_seven k3 hk3
          obtain ⟨q, hq, hqw, hql⟩ := arr_five k1 k2 v hk1 hk2 hv5
          have hv5i : (v : Int) < 5 := by omega
          try simp only [Act.put, List.setIfInBounds_toArray, List.set_cons_zero, List.set_cons_succ]
          refine wpAnyH_ready (rs := [7, 14]) (by kernel_rfl) (by simp) ?_
          refine AllReadyH.cons (o := { dst := some 22, op := Op.buildSlice 72 7 #[(0, Operand.const (Value.int IntKind.i64 0)), (1, Operand.const (Value.int IntKind.i64 0)), (2, Operand.const (Value.int IntKind.i64 1)), (3, Operand.const (Value.int IntKind.i64 1)), (4, Operand.const (Value.int IntKind.i64 2)), (5, Operand.const (Value.int IntKind.i64 3)), (6, Operand.const (Value.int IntKind.i64 4))], type := 72, pos := "l20_draw.go:261", after := #[{ on := 15, ground := Ground.gcOnly Departure.lateStores }], guard := none }) rfl (fun K hK => ?_) ?_
          · obtain ⟨bB, hbB⟩ : ∃ b, b = wN.heap.size := ⟨_, rfl⟩
            have hS3 := hS.newB hbB
            go_simp
            rw [← hbB]
            refine hK.out _ _ (hS.alloc _) (fun _ => ?_)
            clear hK K
            refine wpAnyH_hand (S' := SS w w.heap.size R T w1.heap.size (.slice g us.length c) us (some bB) (some (bA, k1, k2)) none) (F := fun W' => SS w w.heap.size R T w1.heap.size (.slice g us.length c) us (some bB) (some (bA, k1, k2)) none W' ∧ Rd (w.heap.size + 1) R 3 W') (fun w' h' => ⟨h'.1, fun b e => (by cases e), h'.2.2.1, h'.2.2.2⟩) ⟨hS3 _, rd_alloc hR _⟩ ?_
            clear hS hR hS3 hbB
            rintro X18 ⟨hS, hR⟩
            try simp only [Act.put, List.setIfInBounds_toArray, List.set_cons_zero, List.set_cons_succ]
            refine wpAnyH_take (i := 10) (oi := { dst := some 25, op := Op.indexAddr 72 (Operand.tmp 22) (Operand.tmp 24), type := 0, pos := "l20_draw.go:261", after := #[{ on := 7, ground := Ground.data }, { on := 9, ground := Ground.data }, { on := 15, ground := Ground.gcOnly Departure.lateStores }], guard := none }) (v := ?v20) rfl (by kernel_rfl) (by kernel_rfl) (by kernel_rfl) (fun _ _ _ h => h) (Or.inl ⟨by rfl, ?h20⟩) hS ?r20
            case h20 => (intro w' hSw; go_simp) <;> with_reducible rfl
            case r20 =>
            try simp only [Act.put, List.setIfInBounds_toArray, List.set_cons_zero, List.set_cons_succ]
            refine wpAnyH_take (i := 11) (oi := { dst := some 26, op := Op.load 3 (Operand.tmp 25), type := 3, pos := "l20_draw.go:261", after := #[{ on := 10, ground := Ground.data }, { on := 15, ground := Ground.gcOnly Departure.lateStores }], guard := none }) (v := ?v21) rfl (by kernel_rfl) (by kernel_rfl) (by kernel_rfl) (fun _ _ _ h => h) (Or.inl ⟨by rfl, ?h21⟩) hS ?r21
            case h21 => (intro w' hSw; have h0 := (hSw.2.1 bB rfl).2 k3; rw [hv] at h0; go_simp) <;> with_reducible rfl
            case r21 =>
            try simp only [Act.put, List.setIfInBounds_toArray, List.set_cons_zero, List.set_cons_succ]
            refine wpAnyH_take (i := 12) (oi := { dst := some 27, op := Op.indexAddr 72 (Operand.tmp 21) (Operand.tmp 26), type := 0, pos := "l20_draw.go:261", after := #[{ on := 6, ground := Ground.data }, { on := 11, ground := Ground.data }, { on := 15, ground := Ground.gcOnly Departure.lateStores }], guard := none }) (v := ?v22) rfl (by kernel_rfl) (by kernel_rfl) (by kernel_rfl) (fun _ _ _ h => h) (Or.inl ⟨by rfl, ?h22⟩) hS ?r22
            case h22 => (intro w' hSw; go_simp) <;> with_reducible rfl
            case r22 =>
            try simp only [Act.put, List.setIfInBounds_toArray, List.set_cons_zero, List.set_cons_succ]
            refine wpAnyH_take (i := 13) (oi := { dst := some 28, op := Op.load 3 (Operand.tmp 27), type := 3, pos := "l20_draw.go:261", after := #[{ on := 12, ground := Ground.data }, { on := 15, ground := Ground.gcOnly Departure.lateStores }], guard := none }) (v := ?v23) rfl (by kernel_rfl) (by kernel_rfl) (by kernel_rfl) (fun _ _ _ h => h) (Or.inl ⟨by rfl, ?h23⟩) hS ?r23
            case h23 => (intro w' hSw; have h0 := (hSw.2.2.1 (bA, k1, k2) rfl).2 v; rw [hq] at h0; go_simp) <;> with_reducible rfl
            case r23 =>
            try simp only [Act.put, List.setIfInBounds_toArray, List.set_cons_zero, List.set_cons_succ]
            refine wpAnyH_ready (rs := [14]) (by kernel_rfl) (by simp) ?_
            refine AllReadyH.cons (o := { dst := none, op := Op.store 25 (Operand.tmp 2) (Operand.tmp 15), type := 0, pos := "l20_draw.go:261", after := #[{ on := 0, ground := Ground.data }, { on := 9, ground := Ground.chain }, { on := 0, ground := Ground.phase }, { on := 1, ground := Ground.textOnly Departure.lateStores }, { on := 2, ground := Ground.textOnly Departure.lateStores }, { on := 3, ground := Ground.textOnly Departure.lateStoresUnsure }, { on := 4, ground := Ground.textOnly Departure.lateStores }, { on := 5, ground := Ground.textOnly Departure.lateStoresUnsure }, { on := 6, ground := Ground.textOnly Departure.lateStores }, { on := 7, ground := Ground.textOnly Departure.lateStores }, { on := 8, ground := Ground.textOnly Departure.lateStores }, { on := 9, ground := Ground.textOnly Departure.lateStoresUnsure }, { on := 10, ground := Ground.textOnly Departure.lateStores }, { on := 11, ground := Ground.textOnly Departure.lateStores }, { on := 12, ground := Ground.textOnly Departure.lateStores }, { on := 13, ground := Ground.textOnly Departure.lateStores }], guard := none }) rfl (fun K hK => ?_) ?_
            · obtain ⟨xv, hx⟩ := hS.1.2.2.2.1
              have hxf := hS.1.2.2.2.2.1
              go_simp
              refine hK.out _ _ (hS.setx _) (fun _ => ?_)
              clear hK K
              refine wpAnyH_hand (S' := SS w w.heap.size R T w1.heap.size (.slice g us.length c) us (some bB) (some (bA, k1, k2)) (some (.slice g us.length c))) (F := SS w w.heap.size R T w1.heap.size (.slice g us.length c) us (some bB) (some (bA, k1, k2)) (some (.slice g us.length c))) (fun w' h' => ⟨h'.1, h'.2.1, h'.2.2.1, fun v e => (by cases e)⟩) (hS.setv _) ?_
              clear hS hR hx hxf
              rintro X23 hS
              have hR : True := trivial
              try simp only [Act.put, List.setIfInBounds_toArray, List.set_cons_zero, List.set_cons_succ]
              refine wpAnyH_take (i := 15) (oi := { dst := some 3, op := Op.assign (Operand.tmp 16), type := 9, pos := "l20_draw.go:261", after := #[{ on := 1, ground := Ground.data }, { on := 14, ground := Ground.chain }, { on := 0, ground := Ground.phase }, { on := 1, ground := Ground.phase }, { on := 2, ground := Ground.textOnly Departure.lateStores }, { on := 3, ground := Ground.textOnly Departure.lateStoresUnsure }, { on := 4, ground := Ground.textOnly Departure.lateStores }, { on := 5, ground := Ground.textOnly Departure.lateStoresUnsure }, { on := 6, ground := Ground.textOnly Departure.lateStores }, { on := 7, ground := Ground.textOnly Departure.lateStores }, { on := 8, ground := Ground.textOnly Departure.lateStores }, { on := 9, ground := Ground.textOnly Departure.lateStoresUnsure }, { on := 10, ground := Ground.textOnly Departure.lateStores }, { on := 11, ground := Ground.textOnly Departure.lateStores }, { on := 12, ground := Ground.textOnly Departure.lateStores }, { on := 13, ground := Ground.textOnly Departure.lateStores }, { on := 14, ground := Ground.phase }], guard := none }) (v := ?v25) rfl (by kernel_rfl) (by kernel_rfl) (by kernel_rfl) (fun _ _ _ h => h) (Or.inl ⟨by rfl, ?h25⟩) hS ?r25
              case h25 => (intro w' hSw; go_simp) <;> with_reducible rfl
              case r25 =>
              try simp only [Act.put, List.setIfInBounds_toArray, List.set_cons_zero, List.set_cons_succ]
              refine wpAnyH_take (i := 16) (oi := { dst := some 4, op := Op.assign (Operand.tmp 28), type := 3, pos := "l20_draw.go:261", after := #[{ on := 13, ground := Ground.data }, { on := 15, ground := Ground.chain }, { on := 0, ground := Ground.phase }, { on := 1, ground := Ground.phase }, { on := 2, ground := Ground.phase }, { on := 3, ground := Ground.phase }, { on := 4, ground := Ground.phase }, { on := 5, ground := Ground.phase }, { on := 6, ground := Ground.phase }, { on := 7, ground := Ground.phase }, { on := 8, ground := Ground.phase }, { on := 9, ground := Ground.phase }, { on := 10, ground := Ground.phase }, { on := 11, ground := Ground.phase }, { on := 12, ground := Ground.phase }, { on := 13, ground := Ground.phase }, { on := 14, ground := Ground.phase }, { on := 15, ground := Ground.phase }], guard := none }) (v := ?v26) rfl (by kernel_rfl) (by kernel_rfl) (by kernel_rfl) (fun _ _ _ h => h) (Or.inl ⟨by rfl, ?h26⟩) hS ?r26
              case h26 => (intro w' hSw; go_simp) <;> with_reducible rfl
              case r26 =>
              try simp only [Act.put, List.setIfInBounds_toArray, List.set_cons_zero, List.set_cons_succ]
              refine wpAnyH_done (by kernel_rfl) ?_ _
              have hx := hS.2.2.2 _ rfl
              go_wp2_with fail
              exact bodyPost_ret (v := .tuple #[.agg #[.slice g us.length c], .string s, .int .i64 q]) (by simp [results, Tryz.results13, go_sem, hx]) rfl ⟨_, _, us, s, q, rfl, OwnTab.mono hS.1.2.1 (by have := hS.1.2.2.2.2.2.2.1; omega), HU.out, hs, hqw, hS.1.2.2.1⟩
            exact AllReadyH.nil
          refine AllReadyH.cons (o := { dst := none, op := Op.store 25 (Operand.tmp 2) (Operand.tmp 15), type := 0, pos := "l20_draw.go:261", after := #[{ on := 0, ground := Ground.data }, { on := 9, ground := Ground.chain }, { on := 0, ground := Ground.phase }, { on := 1, ground := Ground.textOnly Departure.lateStores }, { on := 2, ground := Ground.textOnly Departure.lateStores }, { on := 3, ground := Ground.textOnly Departure.lateStoresUnsure }, { on := 4, ground := Ground.textOnly Departure.lateStores }, { on := 5, ground := Ground.textOnly Departure.lateStoresUnsure }, { on := 6, ground := Ground.textOnly Departure.lateStores }, { on := 7, ground := Ground.textOnly Departure.lateStores }, { on := 8, ground := Ground.textOnly Departure.lateStores }, { on := 9, ground := Ground.textOnly Departure.lateStoresUnsure }, { on := 10, ground := Ground.textOnly Departure.lateStores }, { on := 11, ground := Ground.textOnly Departure.lateStores }, { on := 12, ground := Ground.textOnly Departure.lateStores }, { on := 13, ground := Ground.textOnly Departure.lateStores }], guard := none }) rfl (fun K hK => ?_) ?_
          · obtain ⟨xv, hx⟩ := hS.1.2.2.2.1
            have hxf := hS.1.2.2.2.2.1
            go_simp
            refine hK.out _ _ (hS.setx _) (fun _ => ?_)
            clear hK K
            refine wpAnyH_hand (S' := SS w w.heap.size R T w1.heap.size (.slice g us.length c) us none (some (bA, k1, k2)) (some (.slice g us.length c))) (F := SS w w.heap.size R T w1.heap.size (.slice g us.length c) us none (some (bA, k1, k2)) (some (.slice g us.length c))) (fun w' h' => ⟨h'.1, h'.2.1, h'.2.2.1, fun v e => (by cases e)⟩) (hS.setv _) ?_
            clear hS hR hx hxf
            rintro X26 hS
            have hR : True := trivial
            try simp only [Act.put, List.setIfInBounds_toArray, List.set_cons_zero, List.set_cons_succ]
            refine wpAnyH_take (i := 15) (oi := { dst := some 3, op := Op.assign (Operand.tmp 16), type := 9, pos := "l20_draw.go:261", after := #[{ on := 1, ground := Ground.data }, { on := 14, ground := Ground.chain }, { on := 0, ground := Ground.phase }, { on := 1, ground := Ground.phase }, { on := 2, ground := Ground.textOnly Departure.lateStores }, { on := 3, ground := Ground.textOnly Departure.lateStoresUnsure }, { on := 4, ground := Ground.textOnly Departure.lateStores }, { on := 5, ground := Ground.textOnly Departure.lateStoresUnsure }, { on := 6, ground := Ground.textOnly Departure.lateStores }, { on := 7, ground := Ground.textOnly Departure.lateStores }, { on := 8, ground := Ground.textOnly Departure.lateStores }, { on := 9, ground := Ground.textOnly Departure.lateStoresUnsure }, { on := 10, ground := Ground.textOnly Departure.lateStores }, { on := 11, ground := Ground.textOnly Departure.lateStores }, { on := 12, ground := Ground.textOnly Departure.lateStores }, { on := 13, ground := Ground.textOnly Departure.lateStores }, { on := 14, ground := Ground.phase }], guard := none }) (v := ?v28) rfl (by kernel_rfl) (by kernel_rfl) (by kernel_rfl) (fun _ _ _ h => h) (Or.inl ⟨by rfl, ?h28⟩) hS ?r28
            case h28 => (intro w' hSw; go_simp) <;> with_reducible rfl
            case r28 =>
            try simp only [Act.put, List.setIfInBounds_toArray, List.set_cons_zero, List.set_cons_succ]
            refine wpAnyH_ready (rs := [7]) (by kernel_rfl) (by simp) ?_
            refine AllReadyH.cons (o := { dst := some 22, op := Op.buildSlice 72 7 #[(0, Operand.const (Value.int IntKind.i64 0)), (1, Operand.const (Value.int IntKind.i64 0)), (2, Operand.const (Value.int IntKind.i64 1)), (3, Operand.const (Value.int IntKind.i64 1)), (4, Operand.const (Value.int IntKind.i64 2)), (5, Operand.const (Value.int IntKind.i64 3)), (6, Operand.const (Value.int IntKind.i64 4))], type := 72, pos := "l20_draw.go:261", after := #[{ on := 15, ground := Ground.gcOnly Departure.lateStores }], guard := none }) rfl (fun K hK => ?_) ?_
            · obtain ⟨bB, hbB⟩ : ∃ b, b = X26.heap.size := ⟨_, rfl⟩
              have hS3 := hS.newB hbB
              go_simp
              rw [← hbB]
              refine hK.out _ _ (hS.alloc _) (fun _ => ?_)
              clear hK K
              refine wpAnyH_hand (S' := SS w w.heap.size R T w1.heap.size (.slice g us.length c) us (some bB) (some (bA, k1, k2)) (some (.slice g us.length c))) (F := SS w w.heap.size R T w1.heap.size (.slice g us.length c) us (some bB) (some (bA, k1, k2)) (some (.slice g us.length c))) (fun w' h' => ⟨h'.1, fun b e => (by cases e), h'.2.2.1, h'.2.2.2⟩) (hS3 _) ?_
              clear hS hR hS3 hbB
              rintro X28 hS
              have hR : True := trivial
              try simp only [Act.put, List.setIfInBounds_toArray, List.set_cons_zero, List.set_cons_succ]
              refine wpAnyH_take (i := 10) (oi := { dst := some 25, op := Op.indexAddr 72 (Operand.tmp 22) (Operand.tmp 24), type := 0, pos := "l20_draw.go:261", after := #[{ on := 7, ground := Ground.data }, { on := 9, ground := Ground.data }, { on := 15, ground := Ground.gcOnly Departure.lateStores }], guard := none }) (v := ?v30) rfl (by kernel_rfl) (by kernel_rfl) (by kernel_rfl) (fun _ _ _ h => h) (Or.inl ⟨by rfl, ?h30⟩) hS ?r30
              case h30 => (intro w' hSw; go_simp) <;> with_reducible rfl
              case r30 =>
              try simp only [Act.put, List.setIfInBounds_toArray, List.set_cons_zero, List.set_cons_succ]
              refine wpAnyH_take (i := 11) (oi := { dst := some 26, op := Op.load 3 (Operand.tmp 25), type := 3, pos := "l20_draw.go:261", after := #[{ on := 10, ground := Ground.data }, { on := 15, ground := Ground.gcOnly Departure.lateStores }], guard := none }) (v := ?v31) rfl (by kernel_rfl) (by kernel_rfl) (by kernel_rfl) (fun _ _ _ h => h) (Or.inl ⟨by rfl, ?h31⟩) hS ?r31
              case h31 => (intro w' hSw; have h0 := (hSw.2.1 bB rfl).2 k3; rw [hv] at h0; go_simp) <;> with_reducible rfl
              case r31 =>
              try simp only [Act.put, List.setIfInBounds_toArray, List.set_cons_zero, List.set_cons_succ]
              refine wpAnyH_take (i := 12) (oi := { dst := some 27, op := Op.indexAddr 72 (Operand.tmp 21) (Operand.tmp 26), type := 0, pos := "l20_draw.go:261", after := #[{ on := 6, ground := Ground.data }, { on := 11, ground := Ground.data }, { on := 15, ground := Ground.gcOnly Departure.lateStores }], guard := none }) (v := ?v32) rfl (by kernel_rfl) (by kernel_rfl) (by kernel_rfl) (fun _ _ _ h => h) (Or.inl ⟨by rfl, ?h32⟩) hS ?r32
              case h32 => (intro w' hSw; go_simp) <;> with_reducible rfl
              case r32 =>
              try simp only [Act.put, List.setIfInBounds_toArray, List.set_cons_zero, List.set_cons_succ]
              refine wpAnyH_take (i := 13) (oi := { dst := some 28, op := Op.load 3 (Operand.tmp 27), type := 3, pos := "l20_draw.go:261", after := #[{ on := 12, ground := Ground.data }, { on := 15, ground := Ground.gcOnly Departure.lateStores }], guard := none }) (v := ?v33) rfl (by kernel_rfl) (by kernel_rfl) (by kernel_rfl) (fun _ _ _ h => h) (Or.inl ⟨by rfl, ?h33⟩) hS ?r33
              case h33 => (intro w' hSw; have h0 := (hSw.2.2.1 (bA, k1, k2) rfl).2 v; rw [hq] at h0; go_simp) <;> with_reducible rfl
              case r33 =>
              try simp only [Act.put, List.setIfInBounds_toArray, List.set_cons_zero, List.set_cons_succ]
              refine wpAnyH_take (i := 16) (oi := { dst := some 4, op := Op.assign (Operand.tmp 28), type := 3, pos := "l20_draw.go:261", after := #[{ on := 13, ground := Ground.data }, { on := 15, ground := Ground.chain }, { on := 0, ground := Ground.phase }, { on := 1, ground := Ground.phase }, { on := 2, ground := Ground.phase }, { on := 3, ground := Ground.phase }, { on := 4, ground := Ground.phase }, { on := 5, ground := Ground.phase }, { on := 6, ground := Ground.phase }, { on := 7, ground := Ground.phase }, { on := 8, ground := Ground.phase }, { on := 9, ground := Ground.phase }, { on := 10, ground := Ground.phase }, { on := 11, ground := Ground.phase }, { on := 12, ground := Ground.phase }, { on := 13, ground := Ground.phase }, { on := 14, ground := Ground.phase }, { on := 15, ground := Ground.phase }], guard := none }) (v := ?v34) rfl (by kernel_rfl) (by kernel_rfl) (by kernel_rfl) (fun _ _ _ h => h) (Or.inl ⟨by rfl, ?h34⟩) hS ?r34
              case h34 => (intro w' hSw; go_simp) <;> with_reducible rfl
              case r34 =>
              try simp only [Act.put, List.setIfInBounds_toArray, List.set_cons_zero, List.set_cons_succ]
              refine wpAnyH_done (by kernel_rfl) ?_ _
              have hx := hS.2.2.2 _ rfl
              go_wp2_with fail
              exact bodyPost_ret (v := .tuple #[.agg #[.slice g us.length c], .string s, .int .i64 q]) (by simp [results, Tryz.results13, go_sem, hx]) rfl ⟨_, _, us, s, q, rfl, OwnTab.mono hS.1.2.1 (by have := hS.1.2.2.2.2.2.2.1; omega), HU.out, hs, hqw, hS.1.2.2.1⟩
            exact AllReadyH.nil
          exact AllReadyH.nil
        exact AllReadyH.nil
      refine AllReadyH.cons (o := { dst := some 22, op := Op.buildSlice 72 7 #[(0, Operand.const (Value.int IntKind.i64 0)), (1, Operand.const (Value.int IntKind.i64 0)), (2, Operand.const (Value.int IntKind.i64 1)), (3, Operand.const (Value.int IntKind.i64 1)), (4, Operand.const (Value.int IntKind.i64 2)), (5, Operand.const (Value.int IntKind.i64 3)), (6, Operand.const (Value.int IntKind.i64 4))], type := 72, pos := "l20_draw.go:261", after := #[{ on := 15, ground := Ground.gcOnly Departure.lateStores }], guard := none }) rfl (fun K hK => ?_) ?_
      · obtain ⟨bB, hbB⟩ : ∃ b, b = wN.heap.size := ⟨_, rfl⟩
        have hS3 := hS.newB hbB
        go_simp
        rw [← hbB]
        refine hK.out _ _ (hS.alloc _) (fun _ => ?_)
        clear hK K
        refine wpAnyH_hand (S' := SS w w.heap.size R T w1.heap.size (.slice g us.length c) us (some bB) none none) (F := fun W' => SS w w.heap.size R T w1.heap.size (.slice g us.length c) us (some bB) none none W' ∧ Rd (w.heap.size + 1) R 2 W') (fun w' h' => ⟨h'.1, fun b e => (by cases e), h'.2.2.1, h'.2.2.2⟩) ⟨hS3 _, rd_alloc hR _⟩ ?_
        clear hS hR hS3 hbB
        rintro X34 ⟨hS, hR⟩
        try simp only [Act.put, List.setIfInBounds_toArray, List.set_cons_zero, List.set_cons_succ]
        refine wpAnyH_ready (rs := [6, 9]) (by kernel_rfl) (by simp) ?_
        refine AllReadyH.cons (o := { dst := some 21, op := Op.buildSlice 72 5 #[(0, Operand.tmp 18), (1, Operand.tmp 20), (2, Operand.const (Value.int IntKind.i64 (-1))), (3, Operand.const (Value.int IntKind.i64 9223372036854775807)), (4, Operand.const (Value.int IntKind.i64 0))], type := 72, pos := "l20_draw.go:261", after := #[{ on := 3, ground := Ground.data }, { on := 5, ground := Ground.data }, { on := 15, ground := Ground.gcOnly Departure.lateStores }], guard := none }) rfl (fun K hK => ?_) ?_
        · obtain ⟨bA, hbA⟩ : ∃ b, b = X34.heap.size := ⟨_, rfl⟩
          have hS3 := hS.newA (k1 := k1) (k2 := k2) hbA
          go_simp
          rw [← hbA]
          refine hK.out _ _ (hS.alloc _) (fun _ => ?_)
          clear hK K
          refine wpAnyH_hand (S' := SS w w.heap.size R T w1.heap.size (.slice g us.length c) us (some bB) (some (bA, k1, k2)) none) (F := fun W' => SS w w.heap.size R T w1.heap.size (.slice g us.length c) us (some bB) (some (bA, k1, k2)) none W' ∧ Rd (w.heap.size + 1) R 2 W') (fun w' h' => ⟨h'.1, h'.2.1, fun b e => (by cases e), h'.2.2.2⟩) ⟨hS3 _, rd_alloc hR _⟩ ?_
          clear hS hR hS3 hbA
          rintro X35 ⟨hS, hR⟩
          try simp only [Act.put, List.setIfInBounds_toArray, List.set_cons_zero, List.set_cons_succ]
          refine wpAnyH_ready (rs := [9]) (by kernel_rfl) (by simp) ?_
          refine AllReadyH.cons (o := { dst := some 24, op := Op.call { callee := Callee.value (Operand.func 37), args := #[Operand.tmp 23, Operand.const (Value.int IntKind.i64 7)], argTypes := #[69, 3] }, type := 3, pos := "l20_draw.go:261", after := #[{ on := 8, ground := Ground.data }, { on := 5, ground := Ground.chain }], guard := none }) rfl (fun K hK => ?_) ?_
          · go_simp
            (go_at_call 37; refine (pick_any 7 (w.heap.size + 1) R 2 _ hR (by omega)).mono ?_; rintro e wN ⟨k3, rfl, hk, gN, rN⟩)
            have hk3 : k3 < 7 := by omega
            refine hK.out _ _ (hS.grown gN) (fun hS2 => ?_)
            clear hK K gN hk hS hR
            have hS := hS2
            have hR := rN
            clear hS2 rN
            have hk3i : (k3 : Int) < 7 := by omega
            obtain ⟨v, hv, hv5, hvl⟩ := arr_seven k3 hk3
            obtain ⟨q, hq, hqw, hql⟩ := arr_five k1 k2 v hk1 hk2 hv5
            have hv5i : (v : Int) < 5 := by omega
            try simp only [Act.put, List.setIfInBounds_toArray, List.set_cons_zero, List.set_cons_succ]
            refine wpAnyH_take (i := 10) (oi := { dst := some 25, op := Op.indexAddr 72 (Operand.tmp 22) (Operand.tmp 24), type := 0, pos := "l20_draw.go:261", after := #[{ on := 7, ground := Ground.data }, { on := 9, ground := Ground.data }, { on := 15, ground := Ground.gcOnly Departure.lateStores }], guard := none }) (v := ?v38) rfl (by kernel_rfl) (by kernel_rfl) (by kernel_rfl) (fun _ _ _ h => h) (Or.inl ⟨by rfl, ?h38⟩) hS ?r38
            case h38 => (intro w' hSw; go_simp) <;> with_reducible rfl
            case r38 =>
            try simp only [Act.put, List.setIfInBounds_toArray, List.set_cons_zero, List.set_cons_succ]
            refine wpAnyH_take (i := 11) (oi := { dst := some 26, op := Op.load 3 (Operand.tmp 25), type := 3, pos := "l20_draw.go:261", after := #[{ on := 10, ground := Ground.data }, { on := 15, ground := Ground.gcOnly Departure.lateStores }], guard := none }) (v := ?v39) rfl (by kernel_rfl) (by kernel_rfl) (by kernel_rfl) (fun _ _ _ h => h) (Or.inl ⟨by rfl, ?h39⟩) hS ?r39
            case h39 => (intro w' hSw; have h0 := (hSw.2.1 bB rfl).2 k3; rw [hv] at h0; go_simp) <;> with_reducible rfl
            case r39 =>
            try simp only [Act.put, List.setIfInBounds_toArray, List.set_cons_zero, List.set_cons_succ]
            refine wpAnyH_take (i := 12) (oi := { dst := some 27, op := Op.indexAddr 72 (Operand.tmp 21) (Operand.tmp 26), type := 0, pos := "l20_draw.go:261", after := #[{ on := 6, ground := Ground.data }, { on := 11, ground := Ground.data }, { on := 15, ground := Ground.gcOnly Departure.lateStores }], guard := none }) (v := ?v40) rfl (by kernel_rfl) (by kernel_rfl) (by kernel_rfl) (fun _ _ _ h => h) (Or.inl ⟨by rfl, ?h40⟩) hS ?r40
            case h40 => (intro w' hSw; go_simp) <;> with_reducible rfl
            case r40 =>
            try simp only [Act.put, List.setIfInBounds_toArray, List.set_cons_zero, List.set_cons_succ]
            refine wpAnyH_take (i := 13) (oi := { dst := some 28, op := Op.load 3 (Operand.tmp 27), type := 3, pos := "l20_draw.go:261", after := #[{ on := 12, ground := Ground.data }, { on := 15, ground := Ground.gcOnly Departure.lateStores }], guard := none }) (v := ?v41) rfl (by kernel_rfl) (by kernel_rfl) (by kernel_rfl) (fun _ _ _ h => h) (Or.inl ⟨by rfl, ?h41⟩) hS ?r41
            case h41 => (intro w' hSw; have h0 := (hSw.2.2.1 (bA, k1, k2) rfl).2 v; rw [hq] at h0; go_simp) <;> with_reducible rfl
            case r41 =>
            try simp only [Act.put, List.setIfInBounds_toArray, List.set_cons_zero, List.set_cons_succ]
            refine wpAnyH_ready (rs := [14]) (by kernel_rfl) (by simp) ?_
            refine AllReadyH.cons (o := { dst := none, op := Op.store 25 (Operand.tmp 2) (Operand.tmp 15), type := 0, pos := "l20_draw.go:261", after := #[{ on := 0, ground := Ground.data }, { on := 9, ground := Ground.chain }, { on := 0, ground := Ground.phase }, { on := 1, ground := Ground.textOnly Departure.lateStores }, { on := 2, ground := Ground.textOnly Departure.lateStores }, { on := 3, ground := Ground.textOnly Departure.lateStoresUnsure }, { on := 4, ground := Ground.textOnly Departure.lateStores }, { on := 5, ground := Ground.textOnly Departure.lateStoresUnsure }, { on := 6, ground := Ground.textOnly Departure.lateStores }, { on := 7, ground := Ground.textOnly Departure.lateStores }, { on := 8, ground := Ground.textOnly Departure.lateStores }, { on := 9, ground := Ground.textOnly Departure.lateStoresUnsure }, { on := 10, ground := Ground.textOnly Departure.lateStores }, { on := 11, ground := Ground.textOnly Departure.lateStores }, { on := 12, ground := Ground.textOnly Departure.lateStores }, { on := 13, ground := Ground.textOnly Departure.lateStores }], guard := none }) rfl (fun K hK => ?_) ?_
            · obtain ⟨xv, hx⟩ := hS.1.2.2.2.1
              have hxf := hS.1.2.2.2.2.1
              go_simp
              refine hK.out _ _ (hS.setx _) (fun _ => ?_)
              clear hK K
              refine wpAnyH_hand (S' := SS w w.heap.size R T w1.heap.size (.slice g us.length c) us (some bB) (some (bA, k1, k2)) (some (.slice g us.length c))) (F := SS w w.heap.size R T w1.heap.size (.slice g us.length c) us (some bB) (some (bA, k1, k2)) (some (.slice g us.length c))) (fun w' h' => ⟨h'.1, h'.2.1, h'.2.2.1, fun v e => (by cases e)⟩) (hS.setv _) ?_
              clear hS hR hx hxf
              rintro X41 hS
              have hR : True := trivial
              try simp only [Act.put, List.setIfInBounds_toArray, List.set_cons_zero, List.set_cons_succ]
              refine wpAnyH_take (i := 15) (oi := { dst := some 3, op := Op.assign (Operand.tmp 16), type := 9, pos := "l20_draw.go:261", after := #[{ on := 1, ground := Ground.data }, { on := 14, ground := Ground.chain }, { on := 0, ground := Ground.phase }, { on := 1, ground := Ground.phase }, { on := 2, ground := Ground.textOnly Departure.lateStores }, { on := 3, ground := Ground.textOnly Departure.lateStoresUnsure }, { on := 4, ground := Ground.textOnly Departure.lateStores }, { on := 5, ground := Ground.textOnly Departure.lateStoresUnsure }, { on := 6, ground := Ground.textOnly Departure.lateStores }, { on := 7, ground := Ground.textOnly Departure.lateStores }, { on := 8, ground := Ground.textOnly Departure.lateStores }, { on := 9, ground := Ground.textOnly Departure.lateStoresUnsure }, { on := 10, ground := Ground.textOnly Departure.lateStores }, { on := 11, ground := Ground.textOnly Departure.lateStores }, { on := 12, ground := Ground.textOnly Departure.lateStores }, { on := 13, ground := Ground.textOnly Departure.lateStores }, { on := 14, ground := Ground.phase }], guard := none }) (v := ?v43) rfl (by kernel_rfl) (by kernel_rfl) (by kernel_rfl) (fun _ _ _ h => h) (Or.inl ⟨by rfl, ?h43⟩) hS ?r43
              case h43 => (intro w' hSw; go_simp) <;> with_reducible rfl
              case r43 =>
              try simp only [Act.put, List.setIfInBounds_toArray, List.set_cons_zero, List.set_cons_succ]
              refine wpAnyH_take (i := 16) (oi := { dst := some 4, op := Op.assign (Operand.tmp 28), type := 3, pos := "l20_draw.go:261", after := #[{ on := 13, ground := Ground.data }, { on := 15, ground := Ground.chain }, { on := 0, ground := Ground.phase }, { on := 1, ground := Ground.phase }, { on := 2, ground := Ground.phase }, { on := 3, ground := Ground.phase }, { on := 4, ground := Ground.phase }, { on := 5, ground := Ground.phase }, { on := 6, ground := Ground.phase }, { on := 7, ground := Ground.phase }, { on := 8, ground := Ground.phase }, { on := 9, ground := Ground.phase }, { on := 10, ground := Ground.phase }, { on := 11, ground := Ground.phase }, { on := 12, ground := Ground.phase }, { on := 13, ground := Ground.phase }, { on := 14, ground := Ground.phase }, { on := 15, ground := Ground.phase }], guard := none }) (v := ?v44) rfl (by kernel_rfl) (by kernel_rfl) (by kernel_rfl) (fun _ _ _ h => h) (Or.inl ⟨by rfl, ?h44⟩) hS ?r44
              case h44 => (intro w' hSw; go_simp) <;> with_reducible rfl
              case r44 =>
              try simp only [Act.put, List.setIfInBounds_toArray, List.set_cons_zero, List.set_cons_succ]
              refine wpAnyH_done (by kernel_rfl) ?_ _
              have hx := hS.2.2.2 _ rfl
              go_wp2_with fail
              exact bodyPost_ret (v := .tuple #[.agg #[.slice g us.length c], .string s, .int .i64 q]) (by simp [results, Tryz.results13, go_sem, hx]) rfl ⟨_, _, us, s, q, rfl, OwnTab.mono hS.1.2.1 (by have := hS.1.2.2.2.2.2.2.1; omega), HU.out, hs, hqw, hS.1.2.2.1⟩
            exact AllReadyH.nil
          exact AllReadyH.nil
        refine AllReadyH.cons (o := { dst := some 24, op := Op.call { callee := Callee.value (Operand.func 37), args := #[Operand.tmp 23, Operand.const (Value.int IntKind.i64 7)], argTypes := #[69, 3] }, type := 3, pos := "l20_draw.go:261", after := #[{ on := 8, ground := Ground.data }, { on := 5, ground := Ground.chain }], guard := none }) rfl (fun K hK => ?_) ?_
        · go_simp
          (go_at_call 37; refine (pick_any 7 (w.heap.size + 1) R 2 _ hR (by omega)).mono ?_; rintro e wN ⟨k3, rfl, hk, gN, rN⟩)
          have hk3 : k3 < 7 := by omega
          refine hK.out _ _ (hS.grown gN) (fun hS2 => ?_)
          clear hK K gN hk hS hR
          have hS := hS2
          have hR := rN
          clear hS2 rN
          have hk3i : (k3 : Int) < 7 := by omega
          obtain ⟨v, hv, hv5, hvl⟩ := arr_seven k3 hk3
          obtain ⟨q, hq, hqw, hql⟩ := arr_five k1 k2 v hk1 hk2 hv5
          have hv5i : (v : Int) < 5 := by omega
          try simp only [Act.put, List.setIfInBounds_toArray, List.set_cons_zero, List.set_cons_succ]
          refine wpAnyH_take (i := 10) (oi := { dst := some 25, op := Op.indexAddr 72 (Operand.tmp 22) (Operand.tmp 24), type := 0, pos := "l20_draw.go:261", after := #[{ on := 7, ground := Ground.data }, { on := 9, ground := Ground.data }, { on := 15, ground := Ground.gcOnly Departure.lateStores }], guard := none }) (v := ?v46) rfl (by kernel_rfl) (by kernel_rfl) (by kernel_rfl) (fun _ _ _ h => h) (Or.inl ⟨by rfl, ?h46⟩) hS ?r46
          case h46 => (intro w' hSw; go_simp) <;> with_reducible rfl
          case r46 =>
          try simp only [Act.put, List.setIfInBounds_toArray, List.set_cons_zero, List.set_cons_succ]
          refine wpAnyH_take (i := 11) (oi := { dst := some 26, op := Op.load 3 (Operand.tmp 25), type := 3, pos := "l20_draw.go:261", after := #[{ on := 10, ground := Ground.data }, { on := 15, ground := Ground.gcOnly Departure.lateStores }], guard := none }) (v := ?v47) rfl (by kernel_rfl) (by kernel_rfl) (by kernel_rfl) (fun _ _ _ h => h) (Or.inl ⟨by rfl, ?h47⟩) hS ?r47
          case h47 => (intro w' hSw; have h0 := (hSw.2.1 bB rfl).2 k3; rw [hv] at h0; go_simp) <;> with_reducible rfl
          case r47 =>
          try simp only [Act.put, List.setIfInBounds_toArray, List.set_cons_zero, List.set_cons_succ]
          refine wpAnyH_ready (rs := [6, 14]) (by kernel_rfl) (by simp) ?_
          refine AllReadyH.cons (o := { dst := some 21, op := Op.buildSlice 72 5 #[(0, Operand.tmp 18), (1, Operand.tmp 20), (2, Operand.const (Value.int IntKind.i64 (-1))), (3, Operand.const (Value.int IntKind.i64 9223372036854775807)), (4, Operand.const (Value.int IntKind.i64 0))], type := 72, pos := "l20_draw.go:261", after := #[{ on := 3, ground := Ground.data }, { on := 5, ground := Ground.data }, { on := 15, ground := Ground.gcOnly Departure.lateStores }], guard := none }) rfl (fun K hK => ?_) ?_
          · obtain ⟨bA, hbA⟩ : ∃ b, b = wN.heap.size := ⟨_, rfl⟩
            have hS3 := hS.newA (k1 := k1) (k2 := k2) hbA
            go_simp
            rw [← hbA]
            refine hK.out _ _ (hS.alloc _) (fun _ => ?_)
            clear hK K
            refine wpAnyH_hand (S' := SS w w.heap.size R T w1.heap.size (.slice g us.length c) us (some bB) (some (bA, k1, k2)) none) (F := fun W' => SS w w.heap.size R T w1.heap.size (.slice g us.length c) us (some bB) (some (bA, k1, k2)) none W' ∧ Rd (w.heap.size + 1) R 3 W') (fun w' h' => ⟨h'.1, h'.2.1, fun b e => (by cases e), h'.2.2.2⟩) ⟨hS3 _, rd_alloc hR _⟩ ?_
            clear hS hR hS3 hbA
            rintro X47 ⟨hS, hR⟩
            try simp only [Act.put, List.setIfInBounds_toArray, List.set_cons_zero, List.set_cons_succ]
            refine wpAnyH_take (i := 12) (oi := { dst := some 27, op := Op.indexAddr 72 (Operand.tmp 21) (Operand.tmp 26), type := 0, pos := "l20_draw.go:261", after := #[{ on := 6, ground := Ground.data }, { on := 11, ground := Ground.data }, { on := 15, ground := Ground.gcOnly Departure.lateStores }], guard := none }) (v := ?v49) rfl (by kernel_rfl) (by kernel_rfl) (by kernel_rfl) (fun _ _ _ h => h) (Or.inl ⟨by rfl, ?h49⟩) hS ?r49
            case h49 => (intro w' hSw; go_simp) <;> with_reducible rfl
            case r49 =>
            try simp only [Act.put, List.setIfInBounds_toArray, List.set_cons_zero, List.set_cons_succ]
            refine wpAnyH_take (i := 13) (oi := { dst := some 28, op := Op.load 3 (Operand.tmp 27), type := 3, pos := "l20_draw.go:261", after := #[{ on := 12, ground := Ground.data }, { on := 15, ground := Ground.gcOnly Departure.lateStores }], guard := none }) (v := ?v50) rfl (by kernel_rfl) (by kernel_rfl) (by kernel_rfl) (fun _ _ _ h => h) (Or.inl ⟨by rfl, ?h50⟩) hS ?r50
            case h50 => (intro w' hSw; have h0 := (hSw.2.2.1 (bA, k1, k2) rfl).2 v; rw [hq] at h0; go_simp) <;> with_reducible rfl
            case r50 =>
            try simp only [Act.put, List.setIfInBounds_toArray, List.set_cons_zero, List.set_cons_succ]
            refine wpAnyH_ready (rs := [14]) (by kernel_rfl) (by simp) ?_
            refine AllReadyH.cons (o := { dst := none, op := Op.store 25 (Operand.tmp 2) (Operand.tmp 15), type := 0, pos := "l20_draw.go:261", after := #[{ on := 0, ground := Ground.data }, { on := 9, ground := Ground.chain }, { on := 0, ground := Ground.phase }, { on := 1, ground := Ground.textOnly Departure.lateStores }, { on := 2, ground := Ground.textOnly Departure.lateStores }, { on := 3, ground := Ground.textOnly Departure.lateStoresUnsure }, { on := 4, ground := Ground.textOnly Departure.lateStores }, { on := 5, ground := Ground.textOnly Departure.lateStoresUnsure }, { on := 6, ground := Ground.textOnly Departure.lateStores }, { on := 7, ground := Ground.textOnly Departure.lateStores }, { on := 8, ground := Ground.textOnly Departure.lateStores }, { on := 9, ground := Ground.textOnly Departure.lateStoresUnsure }, { on := 10, ground := Ground.textOnly Departure.lateStores }, { on := 11, ground := Ground.textOnly Departure.lateStores }, { on := 12, ground := Ground.textOnly Departure.lateStores }, { on := 13, ground := Ground.textOnly Departure.lateStores }], guard := none }) rfl (fun K hK => ?_) ?_
            · obtain ⟨xv, hx⟩ := hS.1.2.2.2.1
              have hxf := hS.1.2.2.2.2.1
              go_simp
              refine hK.out _ _ (hS.setx _) (fun _ => ?_)
              clear hK K
              refine wpAnyH_hand (S' := SS w w.heap.size R T w1.heap.size (.slice g us.length c) us (some bB) (some (bA, k1, k2)) (some (.slice g us.length c))) (F := SS w w.heap.size R T w1.heap.size (.slice g us.length c) us (some bB) (some (bA, k1, k2)) (some (.slice g us.length c))) (fun w' h' => ⟨h'.1, h'.2.1, h'.2.2.1, fun v e => (by cases e)⟩) (hS.setv _) ?_
              clear hS hR hx hxf
              rintro X50 hS
              have hR : True := trivial
              try simp only [Act.put, List.setIfInBounds_toArray, List.set_cons_zero, List.set_cons_succ]
              refine wpAnyH_take (i := 15) (oi := { dst := some 3, op := Op.assign (Operand.tmp 16), type := 9, pos := "l20_draw.go:261", after := #[{ on := 1, ground := Ground.data }, { on := 14, ground := Ground.chain }, { on := 0, ground := Ground.phase }, { on := 1, ground := Ground.phase }, { on := 2, ground := Ground.textOnly Departure.lateStores }, { on := 3, ground := Ground.textOnly Departure.lateStoresUnsure }, { on := 4, ground := Ground.textOnly Departure.lateStores }, { on := 5, ground := Ground.textOnly Departure.lateStoresUnsure }, { on := 6, ground := Ground.textOnly Departure.lateStores }, { on := 7, ground := Ground.textOnly Departure.lateStores }, { on := 8, ground := Ground.textOnly Departure.lateStores }, { on := 9, ground := Ground.textOnly Departure.lateStoresUnsure }, { on := 10, ground := Ground.textOnly Departure.lateStores }, { on := 11, ground := Ground.textOnly Departure.lateStores }, { on := 12, ground := Ground.textOnly Departure.lateStores }, { on := 13, ground := Ground.textOnly Departure.lateStores }, { on := 14, ground := Ground.phase }], guard := none }) (v := ?v52) rfl (by kernel_rfl) (by kernel_rfl) (by kernel_rfl) (fun _ _ _ h => h) (Or.inl ⟨by rfl, ?h52⟩) hS ?r52
              case h52 => (intro w' hSw; go_simp) <;> with_reducible rfl
              case r52 =>
              try simp only [Act.put, List.setIfInBounds_toArray, List.set_cons_zero, List.set_cons_succ]
              refine wpAnyH_take (i := 16) (oi := { dst := some 4, op := Op.assign (Operand.tmp 28), type := 3, pos := "l20_draw.go:261", after := #[{ on := 13, ground := Ground.data }, { on := 15, ground := Ground.chain }, { on := 0, ground := Ground.phase }, { on := 1, ground := Ground.phase }, { on := 2, ground := Ground.phase }, { on := 3, ground := Ground.phase }, { on := 4, ground := Ground.phase }, { on := 5, ground := Ground.phase }, { on := 6, ground := Ground.phase }, { on := 7, ground := Ground.phase }, { on := 8, ground := Ground.phase }, { on := 9, ground := Ground.phase }, { on := 10, ground := Ground.phase }, { on := 11, ground := Ground.phase }, { on := 12, ground := Ground.phase }, { on := 13, ground := Ground.phase }, { on := 14, ground := Ground.phase }, { on := 15, ground := Ground.phase }], guard := none }) (v := ?v53) rfl (by kernel_rfl) (by kernel_rfl) (by kernel_rfl) (fun _ _ _ h => h) (Or.inl ⟨by rfl, ?h53⟩) hS ?r53
              case h53 => (intro w' hSw; go_simp) <;> with_reducible rfl
              case r53 =>
              try simp only [Act.put, List.setIfInBounds_toArray, List.set_cons_zero, List.set_cons_succ]
              refine wpAnyH_done (by kernel_rfl) ?_ _
              have hx := hS.2.2.2 _ rfl
              go_wp2_with fail
              exact bodyPost_ret (v := .tuple #[.agg #[.slice g us.length c], .string s, .int .i64 q]) (by simp [results, Tryz.results13, go_sem, hx]) rfl ⟨_, _, us, s, q, rfl, OwnTab.mono hS.1.2.1 (by have := hS.1.2.2.2.2.2.2.1; omega), HU.out, hs, hqw, hS.1.2.2.1⟩
            exact AllReadyH.nil
          refine AllReadyH.cons (o := { dst := none, op := Op.store 25 (Operand.tmp 2) (Operand.tmp 15), type := 0, pos := "l20_draw.go:261", after := #[{ on := 0, ground := Ground.data }, { on := 9, ground := Ground.chain }, { on := 0, ground := Ground.phase }, { on := 1, ground := Ground.textOnly Departure.lateStores }, { on := 2, ground := Ground.textOnly Departure.lateStores }, { on := 3, ground := Ground.textOnly Departure.lateStoresUnsure }, { on := 4, ground := Ground.textOnly Departure.lateStores }, { on := 5, ground := Ground.textOnly Departure.lateStoresUnsure }, { on := 6, ground := Ground.textOnly Departure.lateStores }, { on := 7, ground := Ground.textOnly Departure.lateStores }, { on := 8, ground := Ground.textOnly Departure.lateStores }, { on := 9, ground := Ground.textOnly Departure.lateStoresUnsure }, { on := 10, ground := Ground.textOnly Departure.lateStores }, { on := 11, ground := Ground.textOnly Departure.lateStores }, { on := 12, ground := Ground.textOnly Departure.lateStores }, { on := 13, ground := Ground.textOnly Departure.lateStores }], guard := none }) rfl (fun K hK => ?_) ?_
          · obtain ⟨xv, hx⟩ := hS.1.2.2.2.1
            have hxf := hS.1.2.2.2.2.1
            go_simp
            refine hK.out _ _ (hS.setx _) (fun _ => ?_)
            clear hK K
            refine wpAnyH_hand (S' := SS w w.heap.size R T w1.heap.size (.slice g us.length c) us (some bB) none (some (.slice g us.length c))) (F := SS w w.heap.size R T w1.heap.size (.slice g us.length c) us (some bB) none (some (.slice g us.length c))) (fun w' h' => ⟨h'.1, h'.2.1, h'.2.2.1, fun v e => (by cases e)⟩) (hS.setv _) ?_
            clear hS hR hx hxf
            rintro X53 hS
            have hR : True := trivial
            try simp only [Act.put, List.setIfInBounds_toArray, List.set_cons_zero, List.set_cons_succ]
            refine wpAnyH_take (i := 15) (oi := { dst := some 3, op := Op.assign (Operand.tmp 16), type := 9, pos := "l20_draw.go:261", after := #[{ on := 1, ground := Ground.data }, { on := 14, ground := Ground.chain }, { on := 0, ground := Ground.phase }, { on := 1, ground := Ground.phase }, { on := 2, ground := Ground.textOnly Departure.lateStores }, { on := 3, ground := Ground.textOnly Departure.lateStoresUnsure }, { on := 4, ground := Ground.textOnly Departure.lateStores }, { on := 5, ground := Ground.textOnly Departure.lateStoresUnsure }, { on := 6, ground := Ground.textOnly Departure.lateStores }, { on := 7, ground := Ground.textOnly Departure.lateStores }, { on := 8, ground := Ground.textOnly Departure.lateStores }, { on := 9, ground := Ground.textOnly Departure.lateStoresUnsure }, { on := 10, ground := Ground.textOnly Departure.lateStores }, { on := 11, ground := Ground.textOnly Departure.lateStores }, { on := 12, ground := Ground.textOnly Departure.lateStores }, { on := 13, ground := Ground.textOnly Departure.lateStores }, { on := 14, ground := Ground.phase }], guard := none }) (v := ?v55) rfl (by kernel_rfl) (by kernel_rfl) (by kernel_rfl) (fun _ _ _ h => h) (Or.inl ⟨by rfl, ?h55⟩) hS ?r55
            case h55 => (intro w' hSw; go_simp) <;> with_reducible rfl
            case r55 =>
            try simp only [Act.put, List.setIfInBounds_toArray, List.set_cons_zero, List.set_cons_succ]
            refine wpAnyH_ready (rs := [6]) (by kernel_rfl) (by simp) ?_
            refine AllReadyH.cons (o := { dst := some 21, op := Op.buildSlice 72 5 #[(0, Operand.tmp 18), (1, Operand.tmp 20), (2, Operand.const (Value.int IntKind.i64 (-1))), (3, Operand.const (Value.int IntKind.i64 9223372036854775807)), (4, Operand.const (Value.int IntKind.i64 0))], type := 72, pos := "l20_draw.go:261", after := #[{ on := 3, ground := Ground.data }, { on := 5, ground := Ground.data }, { on := 15, ground := Ground.gcOnly Departure.lateStores }], guard := none }) rfl (fun K hK => ?_) ?_
            · obtain ⟨bA, hbA⟩ : ∃ b, b = X53.heap.size := ⟨_, rfl⟩
              have hS3 := hS.newA (k1 := k1) (k2 := k2) hbA
              go_simp
              rw [← hbA]
              refine hK.out _ _ (hS.alloc _) (fun _ => ?_)
              clear hK K
              refine wpAnyH_hand (S' := SS w w.heap.size R T w1.heap.size (.slice g us.length c) us (some bB) (some (bA, k1, k2)) (some (.slice g us.length c))) (F := SS w w.heap.size R T w1.heap.size (.slice g us.length c) us (some bB) (some (bA, k1, k2)) (some (.slice g us.length c))) (fun w' h' => ⟨h'.1, h'.2.1, fun b e => (by cases e), h'.2.2.2⟩) (hS3 _) ?_
              clear hS hR hS3 hbA
              rintro X55 hS
              have hR : True := trivial
              try simp only [Act.put, List.setIfInBounds_toArray, List.set_cons_zero, List.set_cons_succ]
              refine wpAnyH_take (i := 12) (oi := { dst := some 27, op := Op.indexAddr 72 (Operand.tmp 21) (Operand.tmp 26), type := 0, pos := "l20_draw.go:261", after := #[{ on := 6, ground := Ground.data }, { on := 11, ground := Ground.data }, { on := 15, ground := Ground.gcOnly Departure.lateStores }], guard := none }) (v := ?v57) rfl (by kernel_rfl) (by kernel_rfl) (by kernel_rfl) (fun _ _ _ h => h) (Or.inl ⟨by rfl, ?h57⟩) hS ?r57
              case h57 => (intro w' hSw; go_simp) <;> with_reducible rfl
              case r57 =>
              try simp only [Act.put, List.setIfInBounds_toArray, List.set_cons_zero, List.set_cons_succ]
              refine wpAnyH_take (i := 13) (oi := { dst := some 28, op := Op.load 3 (Operand.tmp 27), type := 3, pos := "l20_draw.go:261", after := #[{ on := 12, ground := Ground.data }, { on := 15, ground := Ground.gcOnly Departure.lateStores }], guard := none }) (v := ?v58) rfl (by kernel_rfl) (by kernel_rfl) (by kernel_rfl) (fun _ _ _ h => h) (Or.inl ⟨by rfl, ?h58⟩) hS ?r58
              case h58 => (intro w' hSw; have h0 := (hSw.2.2.1 (bA, k1, k2) rfl).2 v; rw [hq] at h0; go_simp) <;> with_reducible rfl
              case r58 =>
              try simp only [Act.put, List.setIfInBounds_toArray, List.set_cons_zero, List.set_cons_succ]
              refine wpAnyH_take (i := 16) (oi := { dst := some 4, op := Op.assign (Operand.tmp 28), type := 3, pos := "l20_draw.go:261", after := #[{ on := 13, ground := Ground.data }, { on := 15, ground := Ground.chain }, { on := 0, ground := Ground.phase }, { on := 1, ground := Ground.phase }, { on := 2, ground := Ground.phase }, { on := 3, ground := Ground.phase }, { on := 4, ground := Ground.phase }, { on := 5, ground := Ground.phase }, { on := 6, ground := Ground.phase }, { on := 7, ground := Ground.phase }, { on := 8, ground := Ground.phase }, { on := 9, ground := Ground.phase }, { on := 10, ground := Ground.phase }, { on := 11, ground := Ground.phase }, { on := 12, ground := Ground.phase }, { on := 13, ground := Ground.phase }, { on := 14, ground := Ground.phase }, { on := 15, ground := Ground.phase }], guard := none }) (v := ?v59) rfl (by kernel_rfl) (by kernel_rfl) (by kernel_rfl) (fun _ _ _ h => h) (Or.inl ⟨by rfl, ?h59⟩) hS ?r59
              case h59 => (intro w' hSw; go_simp) <;> with_reducible rfl
              case r59 =>
              try simp only [Act.put, List.setIfInBounds_toArray, List.set_cons_zero, List.set_cons_succ]
              refine wpAnyH_done (by kernel_rfl) ?_ _
              have hx := hS.2.2.2 _ rfl
              go_wp2_with fail
              exact bodyPost_ret (v := .tuple #[.agg #[.slice g us.length c], .string s, .int .i64 q]) (by simp [results, Tryz.results13, go_sem, hx]) rfl ⟨_, _, us, s, q, rfl, OwnTab.mono hS.1.2.1 (by have := hS.1.2.2.2.2.2.2.1; omega), HU.out, hs, hqw, hS.1.2.2.1⟩
            exact AllReadyH.nil
          exact AllReadyH.nil
        exact AllReadyH.nil
      refine AllReadyH.cons (o := { dst := some 24, op := Op.call { callee := Callee.value (Operand.func 37), args := #[Operand.tmp 23, Operand.const (Value.int IntKind.i64 7)], argTypes := #[69, 3] }, type := 3, pos := "l20_draw.go:261", after := #[{ on := 8, ground := Ground.data }, { on := 5, ground := Ground.chain }], guard := none }) rfl (fun K hK => ?_) ?_
      · go_simp
        (go_at_call 37; refine (pick_any 7 (w.heap.size + 1) R 2 _ hR (by omega)).mono ?_; rintro e wN ⟨k3, rfl, hk, gN, rN⟩)
        have hk3 : k3 < 7 := by omega
        refine hK.out _ _ (hS.grown gN) (fun hS2 => ?_)
        clear hK K gN hk hS hR
        have hS := hS2
        have hR := rN
        clear hS2 rN
        have hk3i : (k3 : Int) < 7 := by omega
        obtain ⟨v, hv, hv5, hvl⟩ := arr_seven k3 hk3
        obtain ⟨q, hq, hqw, hql⟩ := arr_five k1 k2 v hk1 hk2 hv5
        have hv5i : (v : Int) < 5 := by omega
        try simp only [Act.put, List.setIfInBounds_toArray, List.set_cons_zero, List.set_cons_succ]
        refine wpAnyH_ready (rs := [6, 7, 14]) (by kernel_rfl) (by simp) ?_
        refine AllReadyH.cons (o := { dst := some 21, op := Op.buildSlice 72 5 #[(0, Operand.tmp 18), (1, Operand.tmp 20), (2, Operand.const (Value.int IntKind.i64 (-1))), (3, Operand.const (Value.int IntKind.i64 9223372036854775807)), (4, Operand.const (Value.int IntKind.i64 0))], type := 72, pos := "l20_draw.go:261", after := #[{ on := 3, ground := Ground.data }, { on := 5, ground := Ground.data }, { on := 15, ground := Ground.gcOnly Departure.lateStores }], guard := none }) rfl (fun K hK => ?_) ?_
        · obtain ⟨bA, hbA⟩ : ∃ b, b = wN.heap.size := ⟨_, rfl⟩
          have hS3 := hS.newA (k1 := k1) (k2 := k2) hbA
          go_simp
          rw [← hbA]
          refine hK.out _ _ (hS.alloc _) (fun _ => ?_)
          clear hK K
          refine wpAnyH_hand (S' := SS w w.heap.size R T w1.heap.size (.slice g us.length c) us none (some (bA, k1, k2)) none) (F := fun W' => SS w w.heap.size R T w1.heap.size (.slice g us.length c) us none (some (bA, k1, k2)) none W' ∧ Rd (w.heap.size + 1) R 3 W') (fun w' h' => ⟨h'.1, h'.2.1, fun b e => (by cases e), h'.2.2.2⟩) ⟨hS3 _, rd_alloc hR _⟩ ?_
          clear hS hR hS3 hbA
          rintro X60 ⟨hS, hR⟩
          try simp only [Act.put, List.setIfInBounds_toArray, List.set_cons_zero, List.set_cons_succ]
          refine wpAnyH_ready (rs := [7, 14]) (by kernel_rfl) (by simp) ?_
          refine AllReadyH.cons (o := { dst := some 22, op := Op.buildSlice 72 7 #[(0, Operand.const (Value.int IntKind.i64 0)), (1, Operand.const (Value.int IntKind.i64 0)), (2, Operand.const (Value.int IntKind.i64 1)), (3, Operand.const (Value.int IntKind.i64 1)), (4, Operand.const (Value.int IntKind.i64 2)), (5, Operand.const (Value.int IntKind.i64 3)), (6, Operand.const (Value.int IntKind.i64 4))], type := 72, pos := "l20_draw.go:261", after := #[{ on := 15, ground := Ground.gcOnly Departure.lateStores }], guard := none }) rfl (fun K hK => ?_) ?_
          · obtain ⟨bB, hbB⟩ : ∃ b, b = X60.heap.size := ⟨_, rfl⟩
            have hS3 := hS.newB hbB
            go_simp
            rw [← hbB]
            refine hK.out _ _ (hS.alloc _) (fun _ => ?_)
            clear hK K
            refine wpAnyH_hand (S' := SS w w.heap.size R T w1.heap.size (.slice g us.length c) us (some bB) (some (bA, k1, k2)) none) (F := fun W' => SS w w.heap.size R T w1.heap.size (.slice g us.length c) us (some bB) (some (bA, k1, k2)) none W' ∧ Rd (w.heap.size + 1) R 3 W') (fun w' h' => ⟨h'.1, fun b e => (by cases e), h'.2.2.1, h'.2.2.2⟩) ⟨hS3 _, rd_alloc hR _⟩ ?_
            clear hS hR hS3 hbB
            rintro X61 ⟨hS, hR⟩
            try simp only [Act.put, List.setIfInBounds_toArray, List.set_cons_zero, List.set_cons_succ]
            refine wpAnyH_take (i := 10) (oi := { dst := some 25, op := Op.indexAddr 72 (Operand.tmp 22) (Operand.tmp 24), type := 0, pos := "l20_draw.go:261", after := #[{ on := 7, ground := Ground.data }, { on := 9, ground := Ground.data }, { on := 15, ground := Ground.gcOnly Departure.lateStores }], guard := none }) (v := ?v63) rfl (by kernel_rfl) (by kernel_rfl) (by kernel_rfl) (fun _ _ _ h => h) (Or.inl ⟨by rfl, ?h63⟩) hS ?r63
            case h63 => (intro w' hSw; go_simp) <;> with_reducible rfl
            case r63 =>
            try simp only [Act.put, List.setIfInBounds_toArray, List.set_cons_zero, List.set_cons_succ]
            refine wpAnyH_take (i := 11) (oi := { dst := some 26, op := Op.load 3 (Operand.tmp 25), type := 3, pos := "l20_draw.go:261", after := #[{ on := 10, ground := Ground.data }, { on := 15, ground := Ground.gcOnly Departure.lateStores }], guard := none }) (v := ?v64) rfl (by kernel_rfl) (by kernel_rfl) (by kernel_rfl) (fun _ _ _ h => h) (Or.inl ⟨by rfl, ?h64⟩) hS ?r64
            case h64 => (intro w' hSw; have h0 := (hSw.2.1 bB rfl).2 k3; rw [hv] at h0; go_simp) <;> with_reducible rfl
            case r64 =>
            try simp only [Act.put, List.setIfInBounds_toArray, List.set_cons_zero, List.set_cons_succ]
            refine wpAnyH_take (i := 12) (oi := { dst := some 27, op := Op.indexAddr 72 (Operand.tmp 21) (Operand.tmp 26), type := 0, pos := "l20_draw.go:261", after := #[{ on := 6, ground := Ground.data }, { on := 11, ground := Ground.data }, { on := 15, ground := Ground.gcOnly Departure.lateStores }], guard := none }) (v := ?v65) rfl (by kernel_rfl) (by kernel_rfl) (by kernel_rfl) (fun _ _ _ h => h) (Or.inl ⟨by rfl, ?h65⟩) hS ?r65
            case h65 => (intro w' hSw; go_simp) <;> with_reducible rfl
            case r65 =>
            try simp only [Act.put, List.setIfInBounds_toArray, List.set_cons_zero, List.set_cons_succ]
            refine wpAnyH_take (i := 13) (oi := { dst := some 28, op := Op.load 3 (Operand.tmp 27), type := 3, pos := "l20_draw.go:261", after := #[{ on := 12, ground := Ground.data }, { on := 15, ground := Ground.gcOnly Departure.lateStores }], guard := none }) (v := ?v66) rfl (by kernel_rfl) (by kernel_rfl) (by kernel_rfl) (fun _ _ _ h => h) (Or.inl ⟨by rfl, ?h66⟩) hS ?r66
            case h66 => (intro w' hSw; have h0 := (hSw.2.2.1 (bA, k1, k2) rfl).2 v; rw [hq] at h0; go_simp) <;> with_reducible rfl
            case r66 =>
            try simp only [Act.put, List.setIfInBounds_toArray, List.set_cons_zero, List.set_cons_succ]
            refine wpAnyH_ready (rs := [14]) (by kernel_rfl) (by simp) ?_
            refine AllReadyH.cons (o := { dst := none, op := Op.store 25 (Operand.tmp 2) (Operand.tmp 15), type := 0, pos := "l20_draw.go:261", after := #[{ on := 0, ground := Ground.data }, { on := 9, ground := Ground.chain }, { on := 0, ground := Ground.phase }, { on := 1, ground := Ground.textOnly Departure.lateStores }, { on := 2, ground := Ground.textOnly Departure.lateStores }, { on := 3, ground := Ground.textOnly Departure.lateStoresUnsure }, { on := 4, ground := Ground.textOnly Departure.lateStores }, { on := 5, ground := Ground.textOnly Departure.lateStoresUnsure }, { on := 6, ground := Ground.textOnly Departure.lateStores }, { on := 7, ground := Ground.textOnly Departure.lateStores }, { on := 8, ground := Ground.textOnly Departure.lateStores }, { on := 9, ground := Ground.textOnly Departure.lateStoresUnsure }, { on := 10, ground := Ground.textOnly Departure.lateStores }, { on := 11, ground := Ground.textOnly Departure.lateStores }, { on := 12, ground := Ground.textOnly Departure.lateStores }, { on := 13, ground := Ground.textOnly Departure.lateStores }], guard := none }) rfl (fun K hK => ?_) ?_
            · obtain ⟨xv, hx⟩ := hS.1.2.2.2.1
              have hxf := hS.1.2.2.2.2.1
              go_simp
              refine hK.out _ _ (hS.setx _) (fun _ => ?_)
              clear hK K
              refine wpAnyH_hand (S' := SS w w.heap.size R T w1.heap.size (.slice g us.length c) us (some bB) (some (bA, k1, k2)) (some (.slice g us.length c))) (F := SS w w.heap.size R T w1.heap.size (.slice g us.length c) us (some bB) (some (bA, k1, k2)) (some (.slice g us.length c))) (fun w' h' => ⟨h'.1, h'.2.1, h'.2.2.1, fun v e => (by cases e)⟩) (hS.setv _) ?_
              clear hS hR hx hxf
              rintro X66 hS
              have hR : True := trivial
              try simp only [Act.put, List.setIfInBounds_toArray, List.set_cons_zero, List.set_cons_succ]
              refine wpAnyH_take (i := 15) (oi := { dst := some 3, op := Op.assign (Operand.tmp 16), type := 9, pos := "l20_draw.go:261", after := #[{ on := 1, ground := Ground.data }, { on := 14, ground := Ground.chain }, { on := 0, ground := Ground.phase }, { on := 1, ground := Ground.phase }, { on := 2, ground := Ground.textOnly Departure.lateStores }, { on := 3, ground := Ground.textOnly Departure.lateStoresUnsure }, { on := 4, ground := Ground.textOnly Departure.lateStores }, { on := 5, ground := Ground.textOnly Departure.lateStoresUnsure }, { on := 6, ground := Ground.textOnly Departure.lateStores }, { on := 7, ground := Ground.textOnly Departure.lateStores }, { on := 8, ground := Ground.textOnly Departure.lateStores }, { on := 9, ground := Ground.textOnly Departure.lateStoresUnsure }, { on := 10, ground := Ground.textOnly Departure.lateStores }, { on := 11, ground := Ground.textOnly Departure.lateStores }, { on := 12, ground := Ground.textOnly Departure.lateStores }, { on := 13, ground := Ground.textOnly Departure.lateStores }, { on := 14, ground := Ground.phase }], guard := none }) (v := ?v68) rfl (by kernel_rfl) (by kernel_rfl) (by kernel_rfl) (fun _ _ _ h => h) (Or.inl ⟨by rfl, ?h68⟩) hS ?r68
              case h68 => (intro w' hSw; go_simp) <;> with_reducible rfl
              case r68 =>
              try simp only [Act.put, List.setIfInBounds_toArray, List.set_cons_zero, List.set_cons_succ]
              refine wpAnyH_take (i := 16) (oi := { dst := some 4, op := Op.assign (Operand.tmp 28), type := 3, pos := "l20_draw.go:261", after := #[{ on := 13, ground := Ground.data }, { on := 15, ground := Ground.chain }, { on := 0, ground := Ground.phase }, { on := 1, ground := Ground.phase }, { on := 2, ground := Ground.phase }, { on := 3, ground := Ground.phase }, { on := 4, ground := Ground.phase }, { on := 5, ground := Ground.phase }, { on := 6, ground := Ground.phase }, { on := 7, ground := Ground.phase }, { on := 8, ground := Ground.phase }, { on := 9, ground := Ground.phase }, { on := 10, ground := Ground.phase }, { on := 11, ground := Ground.phase }, { on := 12, ground := Ground.phase }, { on := 13, ground := Ground.phase }, { on := 14, ground := Ground.phase }, { on := 15, ground := Ground.phase }], guard := none }) (v := ?v69) rfl (by kernel_rfl) (by kernel_rfl) (by kernel_rfl) (fun _ _ _ h => h) (Or.inl ⟨by rfl, ?h69⟩) hS ?r69
              case h69 => (intro w' hSw; go_simp) <;> with_reducible rfl
              case r69 =>
              try simp only [Act.put, List.setIfInBounds_toArray, List.set_cons_zero, List.set_cons_succ]
              refine wpAnyH_done (by kernel_rfl) ?_ _
              have hx := hS.2.2.2 _ rfl
              go_wp2_with fail
              exact bodyPost_ret (v := .tuple #[.agg #[.slice g us.length c], .string s, .int .i64 q]) (by simp [results, Tryz.results13, go_sem, hx]) rfl ⟨_, _, us, s, q, rfl, OwnTab.mono hS.1.2.1 (by have := hS.1.2.2.2.2.2.2.1; omega), HU.out, hs, hqw, hS.1.2.2.1⟩
            exact AllReadyH.nil
          refine AllReadyH.cons (o := { dst := none, op := Op.store 25 (Operand.tmp 2) (Operand.tmp 15), type := 0, pos := "l20_draw.go:261", after := #[{ on := 0, ground := Ground.data }, { on := 9, ground := Ground.chain }, { on := 0, ground := Ground.phase }, { on := 1, ground := Ground.textOnly Departure.lateStores }, { on := 2, ground := Ground.textOnly Departure.lateStores }, { on := 3, ground := Ground.textOnly Departure.lateStoresUnsure }, { on := 4, ground := Ground.textOnly Departure.lateStores }, { on := 5, ground := Ground.textOnly Departure.lateStoresUnsure }, { on := 6, ground := Ground.textOnly Departure.lateStores }, { on := 7, ground := Ground.textOnly Departure.lateStores }, { on := 8, ground := Ground.textOnly Departure.lateStores }, { on := 9, ground := Ground.textOnly Departure.lateStoresUnsure }, { on := 10, ground := Ground.textOnly Departure.lateStores }, { on := 11, ground := Ground.textOnly Departure.lateStores }, { on := 12, ground := Ground.textOnly Departure.lateStores }, { on := 13, ground := Ground.textOnly Departure.lateStores }], guard := none }) rfl (fun K hK => ?_) ?_
          · obtain ⟨xv, hx⟩ := hS.1.2.2.2.1
            have hxf := hS.1.2.2.2.2.1
            go_simp
            refine hK.out _ _ (hS.setx _) (fun _ => ?_)
            clear hK K
            refine wpAnyH_hand (S' := SS w w.heap.size R T w1.heap.size (.slice g us.length c) us none (some (bA, k1, k2)) (some (.slice g us.length c))) (F := SS w w.heap.size R T w1.heap.size (.slice g us.length c) us none (some (bA, k1, k2)) (some (.slice g us.length c))) (fun w' h' => ⟨h'.1, h'.2.1, h'.2.2.1, fun v e => (by cases e)⟩) (hS.setv _) ?_
            clear hS hR hx hxf
            rintro X69 hS
            have hR : True := trivial
            try simp only [Act.put, List.setIfInBounds_toArray, List.set_cons_zero, List.set_cons_succ]
            refine wpAnyH_take (i := 15) (oi := { dst := some 3, op := Op.assign (Operand.tmp 16), type := 9, pos := "l20_draw.go:261", after := #[{ on := 1, ground := Ground.data }, { on := 14, ground := Ground.chain }, { on := 0, ground := Ground.phase }, { on := 1, ground := Ground.phase }, { on := 2, ground := Ground.textOnly Departure.lateStores }, { on := 3, ground := Ground.textOnly Departure.lateStoresUnsure }, { on := 4, ground := Ground.textOnly Departure.lateStores }, { on := 5, ground := Ground.textOnly Departure.lateStoresUnsure }, { on := 6, ground := Ground.textOnly Departure.lateStores }, { on := 7, ground := Ground.textOnly Departure.lateStores }, { on := 8, ground := Ground.textOnly Departure.lateStores }, { on := 9, ground := Ground.textOnly Departure.lateStoresUnsure }, { on := 10, ground := Ground.textOnly Departure.lateStores }, { on := 11, ground := Ground.textOnly Departure.lateStores }, { on := 12, ground := Ground.textOnly Departure.lateStores }, { on := 13, ground := Ground.textOnly Departure.lateStores }, { on := 14, ground := Ground.phase }], guard := none }) (v := ?v71) rfl (by kernel_rfl) (by kernel_rfl) (by kernel_rfl) (fun _ _ _ h => h) (Or.inl ⟨by rfl, ?h71⟩) hS ?r71
            case h71 => (intro w' hSw; go_simp) <;> with_reducible rfl
            case r71 =>
            try simp only [Act.put, List.setIfInBounds_toArray, List.set_cons_zero, List.set_cons_succ]
            refine wpAnyH_ready (rs := [7]) (by kernel_rfl) (by simp) ?_
            refine AllReadyH.cons (o := { dst := some 22, op := Op.buildSlice 72 7 #[(0, Operand.const (Value.int IntKind.i64 0)), (1, Operand.const (Value.int IntKind.i64 0)), (2, Operand.const (Value.int IntKind.i64 1)), (3, Operand.const (Value.int IntKind.i64 1)), (4, Operand.const (Value.int IntKind.i64 2)), (5, Operand.const (Value.int IntKind.i64 3)), (6, Operand.const (Value.int IntKind.i64 4))], type := 72, pos := "l20_draw.go:261", after := #[{ on := 15, ground := Ground.gcOnly Departure.lateStores }], guard := none }) rfl (fun K hK => ?_) ?_
            · obtain ⟨bB, hbB⟩ : ∃ b, b = X69.heap.size := ⟨_, rfl⟩
              have hS3 := hS.newB hbB
              go_simp
              rw [← hbB]
              refine hK.out _ _ (hS.alloc _) (fun _ => ?_)
              clear hK K
              refine wpAnyH_hand (S' := SS w w.heap.size R T w1.heap.size (.slice g us.length c) us (some bB) (some (bA, k1, k2)) (some (.slice g us.length c))) (F := SS w w.heap.size R T w1.heap.size (.slice g us.length c) us (some bB) (some (bA, k1, k2)) (some (.slice g us.length c))) (fun w' h' => ⟨h'.1, fun b e => (by cases e), h'.2.2.1, h'.2.2.2⟩) (hS3 _) ?_
              clear hS hR hS3 hbB
              rintro X71 hS
              have hR : True := trivial
              try simp only [Act.put, List.setIfInBounds_toArray, List.set_cons_zero, List.set_cons_succ]
              refine wpAnyH_take (i := 10) (oi := { dst := some 25, op := Op.indexAddr 72 (Operand.tmp 22) (Operand.tmp 24), type := 0, pos := "l20_draw.go:261", after := #[{ on := 7, ground := Ground.data }, { on := 9, ground := Ground.data }, { on := 15, ground := Ground.gcOnly Departure.lateStores }], guard := none }) (v := ?v73) rfl (by kernel_rfl) (by kernel_rfl) (by kernel_rfl) (fun _ _ _ h => h) (Or.inl ⟨by rfl, ?h73⟩) hS ?r73
              case h73 => (intro w' hSw; go_simp) <;> with_reducible rfl
              case r73 =>
              try simp only [Act.put, List.setIfInBounds_toArray, List.set_cons_zero, List.set_cons_succ]
              refine wpAnyH_take (i := 11) (oi := { dst := some 26, op := Op.load 3 (Operand.tmp 25), type := 3, pos := "l20_draw.go:261", after := #[{ on := 10, ground := Ground.data }, { on := 15, ground := Ground.gcOnly Departure.lateStores }], guard := none }) (v := ?v74) rfl (by kernel_rfl) (by kernel_rfl) (by kernel_rfl) (fun _ _ _ h => h) (Or.inl ⟨by rfl, ?h74⟩) hS ?r74
              case h74 => (intro w' hSw; have h0 := (hSw.2.1 bB rfl).2 k3; rw [hv] at h0; go_simp) <;> with_reducible rfl
              case r74 =>
              try simp only [Act.put, List.setIfInBounds_toArray, List.set_cons_zero, List.set_cons_succ]
              refine wpAnyH_take (i := 12) (oi := { dst := some 27, op := Op.indexAddr 72 (Operand.tmp 21) (Operand.tmp 26), type := 0, pos := "l20_draw.go:261", after := #[{ on := 6, ground := Ground.data }, { on := 11, ground := Ground.data }, { on := 15, ground := Ground.gcOnly Departure.lateStores }], guard := none }) (v := ?v75) rfl (by kernel_rfl) (by kernel_rfl) (by kernel_rfl) (fun _ _ _ h => h) (Or.inl ⟨by rfl, ?h75⟩) hS ?r75
              case h75 => (intro w' hSw; go_simp) <;> with_reducible rfl
              case r75 =>
              try simp only [Act.put, List.setIfInBounds_toArray, List.set_cons_zero, List.set_cons_succ]
              refine wpAnyH_take (i := 13) (oi := { dst := some 28, op := Op.load 3 (Operand.tmp 27), type := 3, pos := "l20_draw.go:261", after := #[{ on := 12, ground := Ground.data }, { on := 15, ground := Ground.gcOnly Departure.lateStores }], guard := none }) (v := ?v76) rfl (by kernel_rfl) (by kernel_rfl) (by kernel_rfl) (fun _ _ _ h => h) (Or.inl ⟨by rfl, ?h76⟩) hS ?r76
              case h76 => (intro w' hSw; have h0 := (hSw.2.2.1 (bA, k1, k2) rfl).2 v; rw [hq] at h0; go_simp) <;> with_reducible rfl
              case r76 =>
              try simp only [Act.put, List.setIfInBounds_toArray, List.set_cons_zero, List.set_cons_succ]
              refine wpAnyH_take (i := 16) (oi := { dst := some 4, op := Op.assign (Operand.tmp 28), type := 3, pos := "l20_draw.go:261", after := #[{ on := 13, ground := Ground.data }, { on := 15, ground := Ground.chain }, { on := 0, ground := Ground.phase }, { on := 1, ground := Ground.phase }, { on := 2, ground := Ground.phase }, { on := 3, ground := Ground.phase }, { on := 4, ground := Ground.phase }, { on := 5, ground := Ground.phase }, { on := 6, ground := Ground.phase }, { on := 7, ground := Ground.phase }, { on := 8, ground := Ground.phase }, { on := 9, ground := Ground.phase }, { on := 10, ground := Ground.phase }, { on := 11, ground := Ground.phase }, { on := 12, ground := Ground.phase }, { on := 13, ground := Ground.phase }, { on := 14, ground := Ground.phase }, { on := 15, ground := Ground.phase }], guard := none }) (v := ?v77) rfl (by kernel_rfl) (by kernel_rfl) (by kernel_rfl) (fun _ _ _ h => h) (Or.inl ⟨by rfl, ?h77⟩) hS ?r77
              case h77 => (intro w' hSw; go_simp) <;> with_reducible rfl
              case r77 =>
              try simp only [Act.put, List.setIfInBounds_toArray, List.set_cons_zero, List.set_cons_succ]
              refine wpAnyH_done (by kernel_rfl) ?_ _
              have hx := hS.2.2.2 _ rfl
              go_wp2_with fail
              exact bodyPost_ret (v := .tuple #[.agg #[.slice g us.length c], .string s, .int .i64 q]) (by simp [results, Tryz.results13, go_sem, hx]) rfl ⟨_, _, us, s, q, rfl, OwnTab.mono hS.1.2.1 (by have := hS.1.2.2.2.2.2.2.1; omega), HU.out, hs, hqw, hS.1.2.2.1⟩
            exact AllReadyH.nil
          exact AllReadyH.nil
        refine AllReadyH.cons (o := { dst := some 22, op := Op.buildSlice 72 7 #[(0, Operand.const (Value.int IntKind.i64 0)), (1, Operand.const (Value.int IntKind.i64 0)), (2, Operand.const (Value.int IntKind.i64 1)), (3, Operand.const (Value.int IntKind.i64 1)), (4, Operand.const (Value.int IntKind.i64 2)), (5, Operand.const (Value.int IntKind.i64 3)), (6, Operand.const (Value.int IntKind.i64 4))], type := 72, pos := "l20_draw.go:261", after := #[{ on := 15, ground := Ground.gcOnly Departure.lateStores }], guard := none }) rfl (fun K hK => ?_) ?_
        · obtain ⟨bB, hbB⟩ : ∃ b, b = wN.heap.size := ⟨_, rfl⟩
          have hS3 := hS.newB hbB
          go_simp
          rw [← hbB]
          refine hK.out _ _ (hS.alloc _) (fun _ => ?_)
          clear hK K
          refine wpAnyH_hand (S' := SS w w.heap.size R T w1.heap.size (.slice g us.length c) us (some bB) none none) (F := fun W' => SS w w.heap.size R T w1.heap.size (.slice g us.length c) us (some bB) none none W' ∧ Rd (w.heap.size + 1) R 3 W') (fun w' h' => ⟨h'.1, fun b e => (by cases e), h'.2.2.1, h'.2.2.2⟩) ⟨hS3 _, rd_alloc hR _⟩ ?_
          clear hS hR hS3 hbB
          rintro X77 ⟨hS, hR⟩
          try simp only [Act.put, List.setIfInBounds_toArray, List.set_cons_zero, List.set_cons_succ]
          refine wpAnyH_take (i := 10) (oi := { dst := some 25, op := Op.indexAddr 72 (Operand.tmp 22) (Operand.tmp 24), type := 0, pos := "l20_draw.go:261", after := #[{ on := 7, ground := Ground.data }, { on := 9, ground := Ground.data }, { on := 15, ground := Ground.gcOnly Departure.lateStores }], guard := none }) (v := ?v79) rfl (by kernel_rfl) (by kernel_rfl) (by kernel_rfl) (fun _ _ _ h => h) (Or.inl ⟨by rfl, ?h79⟩) hS ?r79
          case h79 => (intro w' hSw; go_simp) <;> with_reducible rfl
          case r79 =>
          try simp only [Act.put, List.setIfInBounds_toArray, List.set_cons_zero, List.set_cons_succ]
          refine wpAnyH_take (i := 11) (oi := { dst := some 26, op := Op.load 3 (Operand.tmp 25), type := 3, pos := "l20_draw.go:261", after := #[{ on := 10, ground := Ground.data }, { on := 15, ground := Ground.gcOnly Departure.lateStores }], guard := none }) (v := ?v80) rfl (by kernel_rfl) (by kernel_rfl) (by kernel_rfl) (fun _ _ _ h => h) (Or.inl ⟨by rfl, ?h80⟩) hS ?r80
          case h80 => (intro w' hSw; have h0 := (hSw.2.1 bB rfl).2 k3; rw [hv] at h0; go_simp) <;> with_reducible rfl
          case r80 =>
          try simp only [Act.put, List.setIfInBounds_toArray, List.set_cons_zero, List.set_cons_succ]
          refine wpAnyH_ready (rs := [6, 14]) (by kernel_rfl) (by simp) ?_
          refine AllReadyH.cons (o := { dst := some 21, op := Op.buildSlice 72 5 #[(0, Operand.tmp 18), (1, Operand.tmp 20), (2, Operand.const (Value.int IntKind.i64 (-1))), (3, Operand.const (Value.int IntKind.i64 9223372036854775807)), (4, Operand.const (Value.int IntKind.i64 0))], type := 72, pos := "l20_draw.go:261", after := #[{ on := 3, ground := Ground.data }, { on := 5, ground := Ground.data }, { on := 15, ground := Ground.gcOnly Departure.lateStores }], guard := none }) rfl (fun K hK => ?_) ?_
          · obtain ⟨bA, hbA⟩ : ∃ b, b = X77.heap.size := ⟨_, rfl⟩
            have hS3 := hS.newA (k1 := k1) (k2 := k2) hbA
            go_simp
            rw [← hbA]
            refine hK.out _ _ (hS.alloc _) (fun _ => ?_)
            clear hK K
            refine wpAnyH_hand (S' := SS w w.heap.size R T w1.heap.size (.slice g us.length c) us (some bB) (some (bA, k1, k2)) none) (F := fun W' => SS w w.heap.size R T w1.heap.size (.slice g us.length c) us (some bB) (some (bA, k1, k2)) none W' ∧ Rd (w.heap.size + 1) R 3 W') (fun w' h' => ⟨h'.1, h'.2.1, fun b e => (by cases e), h'.2.2.2⟩) ⟨hS3 _, rd_alloc hR _⟩ ?_
            clear hS hR hS3 hbA
            rintro X80 ⟨hS, hR⟩
            try simp only [Act.put, List.setIfInBounds_toArray, List.set_cons_zero, List.set_cons_succ]
            refine wpAnyH_take (i := 12) (oi := { dst := some 27, op := Op.indexAddr 72 (Operand.tmp 21) (Operand.tmp 26), type := 0, pos := "l20_draw.go:261", after := #[{ on := 6, ground := Ground.data }, { on := 11, ground := Ground.data }, { on := 15, ground := Ground.gcOnly Departure.lateStores }], guard := none }) (v := ?v82) rfl (by kernel_rfl) (by kernel_rfl) (by kernel_rfl) (fun _ _ _ h => h) (Or.inl ⟨by rfl, ?h82⟩) hS ?r82
            case h82 => (intro w' hSw; go_simp) <;> with_reducible rfl
            case r82 =>
            try simp only [Act.put, List.setIfInBounds_toArray, List.set_cons_zero, List.set_cons_succ]
            refine wpAnyH_take (i := 13) (oi := { dst := some 28, op := Op.load 3 (Operand.tmp 27), type := 3, pos := "l20_draw.go:261", after := #[{ on := 12, ground := Ground.data }, { on := 15, ground := Ground.gcOnly Departure.lateStores }], guard := none }) (v := ?v83) rfl (by kernel_rfl) (by kernel_rfl) (by kernel_rfl) (fun _ _ _ h => h) (Or.inl ⟨by rfl, ?h83⟩) hS ?r83
            case h83 => (intro w' hSw; have h0 := (hSw.2.2.1 (bA, k1, k2) rfl).2 v; rw [hq] at h0; go_simp) <;> with_reducible rfl
            case r83 =>
            try simp only [Act.put, List.setIfInBounds_toArray, List.set_cons_zero, List.set_cons_succ]
            refine wpAnyH_ready (rs := [14]) (by kernel_rfl) (by simp) ?_
            refine AllReadyH.cons (o := { dst := none, op := Op.store 25 (Operand.tmp 2) (Operand.tmp 15), type := 0, pos := "l20_draw.go:261", after := #[{ on := 0, ground := Ground.data }, { on := 9, ground := Ground.chain }, { on := 0, ground := Ground.phase }, { on := 1, ground := Ground.textOnly Departure.lateStores }, { on := 2, ground := Ground.textOnly Departure.lateStores }, { on := 3, ground := Ground.textOnly Departure.lateStoresUnsure }, { on := 4, ground := Ground.textOnly Departure.lateStores }, { on := 5, ground := Ground.textOnly Departure.lateStoresUnsure }, { on := 6, ground := Ground.textOnly Departure.lateStores }, { on := 7, ground := Ground.textOnly Departure.lateStores }, { on := 8, ground := Ground.textOnly Departure.lateStores }, { on := 9, ground := Ground.textOnly Departure.lateStoresUnsure }, { on := 10, ground := Ground.textOnly Departure.lateStores }, { on := 11, ground := Ground.textOnly Departure.lateStores }, { on := 12, ground := Ground.textOnly Departure.lateStores }, { on := 13, ground := Ground.textOnly Departure.lateStores }], guard := none }) rfl (fun K hK => ?_) ?_
            · obtain ⟨xv, hx⟩ := hS.1.2.2.2.1
              have hxf := hS.1.2.2.2.2.1
              go_simp
              refine hK.out _ _ (hS.setx _) (fun _ => ?_)
              clear hK K
              refine wpAnyH_hand (S' := SS w w.heap.size R T w1.heap.size (.slice g us.length c) us (some bB) (some (bA, k1, k2)) (some (.slice g us.length c))) (F := SS w w.heap.size R T w1.heap.size (.slice g us.length c) us (some bB) (some (bA, k1, k2)) (some (.slice g us.length c))) (fun w' h' => ⟨h'.1, h'.2.1, h'.2.2.1, fun v e => (by cases e)⟩) (hS.setv _) ?_
              clear hS hR hx hxf
              rintro X83 hS
              have hR : True := trivial
              try simp only [Act.put, List.setIfInBounds_toArray, List.set_cons_zero, List.set_cons_succ]
              refine wpAnyH_take (i := 15) (oi := { dst := some 3, op := Op.assign (Operand.tmp 16), type := 9, pos := "l20_draw.go:261", after := #[{ on := 1, ground := Ground.data }, { on := 14, ground := Ground.chain }, { on := 0, ground := Ground.phase }, { on := 1, ground := Ground.phase }, { on := 2, ground := Ground.textOnly Departure.lateStores }, { on := 3, ground := Ground.textOnly Departure.lateStoresUnsure }, { on := 4, ground := Ground.textOnly Departure.lateStores }, { on := 5, ground := Ground.textOnly Departure.lateStoresUnsure }, { on := 6, ground := Ground.textOnly Departure.lateStores }, { on := 7, ground := Ground.textOnly Departure.lateStores }, { on := 8, ground := Ground.textOnly Departure.lateStores }, { on := 9, ground := Ground.textOnly Departure.lateStoresUnsure }, { on := 10, ground := Ground.textOnly Departure.lateStores }, { on := 11, ground := Ground.textOnly Departure.lateStores }, { on := 12, ground := Ground.textOnly Departure.lateStores }, { on := 13, ground := Ground.textOnly Departure.lateStores }, { on := 14, ground := Ground.phase }], guard := none }) (v := ?v85) rfl (by kernel_rfl) (by kernel_rfl) (by kernel_rfl) (fun _ _ _ h => h) (Or.inl ⟨by rfl, ?h85⟩) hS ?r85
              case h85 => (intro w' hSw; go_simp) <;> with_reducible rfl
              case r85 =>
              try simp only [Act.put, List.setIfInBounds_toArray, List.set_cons_zero, List.set_cons_succ]
              refine wpAnyH_take (i := 16) (oi := { dst := some 4, op := Op.assign (Operand.tmp 28), type := 3, pos := "l20_draw.go:261", after := #[{ on := 13, ground := Ground.data }, { on := 15, ground := Ground.chain }, { on := 0, ground := Ground.phase }, { on := 1, ground := Ground.phase }, { on := 2, ground := Ground.phase }, { on := 3, ground := Ground.phase }, { on := 4, ground := Ground.phase }, { on := 5, ground := Ground.phase }, { on := 6, ground := Ground.phase }, { on := 7, ground := Ground.phase }, { on := 8, ground := Ground.phase }, { on := 9, ground := Ground.phase }, { on := 10, ground := Ground.phase }, { on := 11, ground := Ground.phase }, { on := 12, ground := Ground.phase }, { on := 13, ground := Ground.phase }, { on := 14, ground := Ground.phase }, { on := 15, ground := Ground.phase }], guard := none }) (v := ?v86) rfl (by kernel_rfl) (by kernel_rfl) (by kernel_rfl) (fun _ _ _ h => h) (Or.inl ⟨by rfl, ?h86⟩) hS ?r86
              case h86 => (intro w' hSw; go_simp) <;> with_reducible rfl
              case r86 =>
              try simp only [Act.put, List.setIfInBounds_toArray, List.set_cons_zero, List.set_cons_succ]
              refine wpAnyH_done (by kernel_rfl) ?_ _
              have hx := hS.2.2.2 _ rfl
              go_wp2_with fail
              exact bodyPost_ret (v := .tuple #[.agg #[.slice g us.length c], .string s, .int .i64 q]) (by simp [results, Tryz.results13, go_sem, hx]) rfl ⟨_, _, us, s, q, rfl, OwnTab.mono hS.1.2.1 (by have := hS.1.2.2.2.2.2.2.1; omega), HU.out, hs, hqw, hS.1.2.2.1⟩
            exact AllReadyH.nil
          refine AllReadyH.cons (o := { dst := none, op := Op.store 25 (Operand.tmp 2) (Operand.tmp 15), type := 0, pos := "l20_draw.go:261", after := #[{ on := 0, ground := Ground.data }, { on := 9, ground := Ground.chain }, { on := 0, ground := Ground.phase }, { on := 1, ground := Ground.textOnly Departure.lateStores }, { on := 2, ground := Ground.textOnly Departure.lateStores }, { on := 3, ground := Ground.textOnly Departure.lateStoresUnsure }, { on := 4, ground := Ground.textOnly Departure.lateStores }, { on := 5, ground := Ground.textOnly Departure.lateStoresUnsure }, { on := 6, ground := Ground.textOnly Departure.lateStores }, { on := 7, ground := Ground.textOnly Departure.lateStores }, { on := 8, ground := Ground.textOnly Departure.lateStores }, { on := 9, ground := Ground.textOnly Departure.lateStoresUnsure }, { on := 10, ground := Ground.textOnly Departure.lateStores }, { on := 11, ground := Ground.textOnly Departure.lateStores }, { on := 12, ground := Ground.textOnly Departure.lateStores }, { on := 13, ground := Ground.textOnly Departure.lateStores }], guard := none }) rfl (fun K hK => ?_) ?_
          · obtain ⟨xv, hx⟩ := hS.1.2.2.2.1
            have hxf := hS.1.2.2.2.2.1
            go_simp
            refine hK.out _ _ (hS.setx _) (fun _ => ?_)
            clear hK K
            refine wpAnyH_hand (S' := SS w w.heap.size R T w1.heap.size (.slice g us.length c) us (some bB) none (some (.slice g us.length c))) (F := SS w w.heap.size R T w1.heap.size (.slice g us.length c) us (some bB) none (some (.slice g us.length c))) (fun w' h' => ⟨h'.1, h'.2.1, h'.2.2.1, fun v e => (by cases e)⟩) (hS.setv _) ?_
            clear hS hR hx hxf
            rintro X86 hS
            have hR : True := trivial
            try simp only [Act.put, List.setIfInBounds_toArray, List.set_cons_zero, List.set_cons_succ]
            refine wpAnyH_take (i := 15) (oi := { dst := some 3, op := Op.assign (Operand.tmp 16), type := 9, pos := "l20_draw.go:261", after := #[{ on := 1, ground := Ground.data }, { on := 14, ground := Ground.chain }, { on := 0, ground := Ground.phase }, { on := 1, ground := Ground.phase }, { on := 2, ground := Ground.textOnly Departure.lateStores }, { on := 3, ground := Ground.textOnly Departure.lateStoresUnsure }, { on := 4, ground := Ground.textOnly Departure.lateStores }, { on := 5, ground := Ground.textOnly Departure.lateStoresUnsure }, { on := 6, ground := Ground.textOnly Departure.lateStores }, { on := 7, ground := Ground.textOnly Departure.lateStores }, { on := 8, ground := Ground.textOnly Departure.lateStores }, { on := 9, ground := Ground.textOnly Departure.lateStoresUnsure }, { on := 10, ground := Ground.textOnly Departure.lateStores }, { on := 11, ground := Ground.textOnly Departure.lateStores }, { on := 12, ground := Ground.textOnly Departure.lateStores }, { on := 13, ground := Ground.textOnly Departure.lateStores }, { on := 14, ground := Ground.phase }], guard := none }) (v := ?v88) rfl (by kernel_rfl) (by kernel_rfl) (by kernel_rfl) (fun _ _ _ h => h) (Or.inl ⟨by rfl, ?h88⟩) hS ?r88
            case h88 => (intro w' hSw; go_simp) <;> with_reducible rfl
            case r88 =>
            try simp only [Act.put, List.setIfInBounds_toArray, List.set_cons_zero, List.set_cons_succ]
            refine wpAnyH_ready (rs := [6]) (by kernel_rfl) (by simp) ?_
            refine AllReadyH.cons (o := { dst := some 21, op := Op.buildSlice 72 5 #[(0, Operand.tmp 18), (1, Operand.tmp 20), (2, Operand.const (Value.int IntKind.i64 (-1))), (3, Operand.const (Value.int IntKind.i64 9223372036854775807)), (4, Operand.const (Value.int IntKind.i64 0))], type := 72, pos := "l20_draw.go:261", after := #[{ on := 3, ground := Ground.data }, { on := 5, ground := Ground.data }, { on := 15, ground := Ground.gcOnly Departure.lateStores }], guard := none }) rfl (fun K hK => ?_) ?_
            · obtain ⟨bA, hbA⟩ : ∃ b, b = X86.heap.size := ⟨_, rfl⟩
              have hS3 := hS.newA (k1 := k1) (k2 := k2) hbA
              go_simp
              rw [← hbA]
              refine hK.out _ _ (hS.alloc _) (fun _ => ?_)
              clear hK K
              refine wpAnyH_hand (S' := SS w w.heap.size R T w1.heap.size (.slice g us.length c) us (some bB) (some (bA, k1, k2)) (some (.slice g us.length c))) (F := SS w w.heap.size R T w1.heap.size (.slice g us.length c) us (some bB) (some (bA, k1, k2)) (some (.slice g us.length c))) (fun w' h' => ⟨h'.1, h'.2.1, fun b e => (by cases e), h'.2.2.2⟩) (hS3 _) ?_
              clear hS hR hS3 hbA
              rintro X88 hS
              have hR : True := trivial
              try simp only [Act.put, List.setIfInBounds_toArray, List.set_cons_zero, List.set_cons_succ]
              refine wpAnyH_take (i := 12) (oi := { dst := some 27, op := Op.indexAddr 72 (Operand.tmp 21) (Operand.tmp 26), type := 0, pos := "l20_draw.go:261", after := #[{ on := 6, ground := Ground.data }, { on := 11, ground := Ground.data }, { on := 15, ground := Ground.gcOnly Departure.lateStores }], guard := none }) (v := ?v90) rfl (by kernel_rfl) (by kernel_rfl) (by kernel_rfl) (fun _ _ _ h => h) (Or.inl ⟨by rfl, ?h90⟩) hS ?r90
              case h90 => (intro w' hSw; go_simp) <;> with_reducible rfl
              case r90 =>
              try simp only [Act.put, List.setIfInBounds_toArray, List.set_cons_zero, List.set_cons_succ]
              refine wpAnyH_take (i := 13) (oi := { dst := some 28, op := Op.load 3 (Operand.tmp 27), type := 3, pos := "l20_draw.go:261", after := #[{ on := 12, ground := Ground.data }, { on := 15, ground := Ground.gcOnly Departure.lateStores }], guard := none }) (v := ?v91) rfl (by kernel_rfl) (by kernel_rfl) (by kernel_rfl) (fun _ _ _ h => h) (Or.inl ⟨by rfl, ?h91⟩) hS ?r91
              case h91 => (intro w' hSw; have h0 := (hSw.2.2.1 (bA, k1, k2) rfl).2 v; rw [hq] at h0; go_simp) <;> with_reducible rfl
              case r91 =>
              try simp only [Act.put, List.setIfInBounds_toArray, List.set_cons_zero, List.set_cons_succ]
              refine wpAnyH_take (i := 16) (oi := { dst := some 4, op := Op.assign (Operand.tmp 28), type := 3, pos := "l20_draw.go:261", after := #[{ on := 13, ground := Ground.data }, { on := 15, ground := Ground.chain }, { on := 0, ground := Ground.phase }, { on := 1, ground := Ground.phase }, { on := 2, ground := Ground.phase }, { on := 3, ground := Ground.phase }, { on := 4, ground := Ground.phase }, { on := 5, ground := Ground.phase }, { on := 6, ground := Ground.phase }, { on := 7, ground := Ground.phase }, { on := 8, ground := Ground.phase }, { on := 9, ground := Ground.phase }, { on := 10, ground := Ground.phase }, { on := 11, ground := Ground.phase }, { on := 12, ground := Ground.phase }, { on := 13, ground := Ground.phase }, { on := 14, ground := Ground.phase }, { on := 15, ground := Ground.phase }], guard := none }) (v := ?v92) rfl (by kernel_rfl) (by kernel_rfl) (by kernel_rfl) (fun _ _ _ h => h) (Or.inl ⟨by rfl, ?h92⟩) hS ?r92
              case h92 => (intro w' hSw; go_simp) <;> with_reducible rfl
              case r92 =>
              try simp only [Act.put, List.setIfInBounds_toArray, List.set_cons_zero, List.set_cons_succ]
              refine wpAnyH_done (by kernel_rfl) ?_ _
              have hx := hS.2.2.2 _ rfl
              go_wp2_with fail
              exact bodyPost_ret (v := .tuple #[.agg #[.slice g us.length c], .string s, .int .i64 q]) (by simp [results, Tryz.results13, go_sem, hx]) rfl ⟨_, _, us, s, q, rfl, OwnTab.mono hS.1.2.1 (by have := hS.1.2.2.2.2.2.2.1; omega), HU.out, hs, hqw, hS.1.2.2.1⟩
            exact AllReadyH.nil
          exact AllReadyH.nil
        refine AllReadyH.cons (o := { dst := none, op := Op.store 25 (Operand.tmp 2) (Operand.tmp 15), type := 0, pos := "l20_draw.go:261", after := #[{ on := 0, ground := Ground.data }, { on := 9, ground := Ground.chain }, { on := 0, ground := Ground.phase }, { on := 1, ground := Ground.textOnly Departure.lateStores }, { on := 2, ground := Ground.textOnly Departure.lateStores }, { on := 3, ground := Ground.textOnly Departure.lateStoresUnsure }, { on := 4, ground := Ground.textOnly Departure.lateStores }, { on := 5, ground := Ground.textOnly Departure.lateStoresUnsure }, { on := 6, ground := Ground.textOnly Departure.lateStores }, { on := 7, ground := Ground.textOnly Departure.lateStores }, { on := 8, ground := Ground.textOnly Departure.lateStores }, { on := 9, ground := Ground.textOnly Departure.lateStoresUnsure }, { on := 10, ground := Ground.textOnly Departure.lateStores }, { on := 11, ground := Ground.textOnly Departure.lateStores }, { on := 12, ground := Ground.textOnly Departure.lateStores }, { on := 13, ground := Ground.textOnly Departure.lateStores }], guard := none }) rfl (fun K hK => ?_) ?_
        · obtain ⟨xv, hx⟩ := hS.1.2.2.2.1
          have hxf := hS.1.2.2.2.2.1
          go_simp
          refine hK.out _ _ (hS.setx _) (fun _ => ?_)
          clear hK K
          refine wpAnyH_hand (S' := SS w w.heap.size R T w1.heap.size (.slice g us.length c) us none none (some (.slice g us.length c))) (F := SS w w.heap.size R T w1.heap.size (.slice g us.length c) us none none (some (.slice g us.length c))) (fun w' h' => ⟨h'.1, h'.2.1, h'.2.2.1, fun v e => (by cases e)⟩) (hS.setv _) ?_
          clear hS hR hx hxf
          rintro X92 hS
          have hR : True := trivial
          try simp only [Act.put, List.setIfInBounds_toArray, List.set_cons_zero, List.set_cons_succ]
          refine wpAnyH_take (i := 15) (oi := { dst := some 3, op := Op.assign (Operand.tmp 16), type := 9, pos := "l20_draw.go:261", after := #[{ on := 1, ground := Ground.data }, { on := 14, ground := Ground.chain }, { on := 0, ground := Ground.phase }, { on := 1, ground := Ground.phase }, { on := 2, ground := Ground.textOnly Departure.lateStores }, { on := 3, ground := Ground.textOnly Departure.lateStoresUnsure }, { on := 4, ground := Ground.textOnly Departure.lateStores }, { on := 5, ground := Ground.textOnly Departure.lateStoresUnsure }, { on := 6, ground := Ground.textOnly Departure.lateStores }, { on := 7, ground := Ground.textOnly Departure.lateStores }, { on := 8, ground := Ground.textOnly Departure.lateStores }, { on := 9, ground := Ground.textOnly Departure.lateStoresUnsure }, { on := 10, ground := Ground.textOnly Departure.lateStores }, { on := 11, ground := Ground.textOnly Departure.lateStores }, { on := 12, ground := Ground.textOnly Departure.lateStores }, { on := 13, ground := Ground.textOnly Departure.lateStores }, { on := 14, ground := Ground.phase }], guard := none }) (v := ?v94) rfl (by kernel_rfl) (by kernel_rfl) (by kernel_rfl) (fun _ _ _ h => h) (Or.inl ⟨by rfl, ?h94⟩) hS ?r94
          case h94 => (intro w' hSw; go_simp) <;> with_reducible rfl
          case r94 =>
          try simp only [Act.put, List.setIfInBounds_toArray, List.set_cons_zero, List.set_cons_succ]
          refine wpAnyH_ready (rs := [6, 7]) (by kernel_rfl) (by simp) ?_
          refine AllReadyH.cons (o := { dst := some 21, op := Op.buildSlice 72 5 #[(0, Operand.tmp 18), (1, Operand.tmp 20), (2, Operand.const (Value.int IntKind.i64 (-1))), (3, Operand.const (Value.int IntKind.i64 9223372036854775807)), (4, Operand.const (Value.int IntKind.i64 0))], type := 72, pos := "l20_draw.go:261", after := #[{ on := 3, ground := Ground.data }, { on := 5, ground := Ground.data }, { on := 15, ground := Ground.gcOnly Departure.lateStores }], guard := none }) rfl (fun K hK => ?_) ?_
          · obtain ⟨bA, hbA⟩ : ∃ b, b = X92.heap.size := ⟨_, rfl⟩
            have hS3 := hS.newA (k1 := k1) (k2 := k2) hbA
            go_simp
            rw [← hbA]
            refine hK.out _ _ (hS.alloc _) (fun _ => ?_)
            clear hK K
            refine wpAnyH_hand (S' := SS w w.heap.size R T w1.heap.size (.slice g us.length c) us none (some (bA, k1, k2)) (some (.slice g us.length c))) (F := SS w w.heap.size R T w1.heap.size (.slice g us.length c) us none (some (bA, k1, k2)) (some (.slice g us.length c))) (fun w' h' => ⟨h'.1, h'.2.1, fun b e => (by cases e), h'.2.2.2⟩) (hS3 _) ?_
            clear hS hR hS3 hbA
            rintro X94 hS
            have hR : True := trivial
            try simp only [Act.put, List.setIfInBounds_toArray, List.set_cons_zero, List.set_cons_succ]
            refine wpAnyH_ready (rs := [7]) (by kernel_rfl) (by simp) ?_
            refine AllReadyH.cons (o := { dst := some 22, op := Op.buildSlice 72 7 #[(0, Operand.const (Value.int IntKind.i64 0)), (1, Operand.const (Value.int IntKind.i64 0)), (2, Operand.const (Value.int IntKind.i64 1)), (3, Operand.const (Value.int IntKind.i64 1)), (4, Operand.const (Value.int IntKind.i64 2)), (5, Operand.const (Value.int IntKind.i64 3)), (6, Operand.const (Value.int IntKind.i64 4))], type := 72, pos := "l20_draw.go:261", after := #[{ on := 15, ground := Ground.gcOnly Departure.lateStores }], guard := none }) rfl (fun K hK => ?_) ?_
            · obtain ⟨bB, hbB⟩ : ∃ b, b = X94.heap.size := ⟨_, rfl⟩
              have hS3 := hS.newB hbB
              go_simp
              rw [← hbB]
              refine hK.out _ _ (hS.alloc _) (fun _ => ?_)
              clear hK K
              refine wpAnyH_hand (S' := SS w w.heap.size R T w1.heap.size (.slice g us.length c) us (some bB) (some (bA, k1, k2)) (some (.slice g us.length c))) (F := SS w w.heap.size R T w1.heap.size (.slice g us.length c) us (some bB) (some (bA, k1, k2)) (some (.slice g us.length c))) (fun w' h' => ⟨h'.1, fun b e => (by cases e), h'.2.2.1, h'.2.2.2⟩) (hS3 _) ?_
              clear hS hR hS3 hbB
              rintro X95 hS
              have hR : True := trivial
              try simp only [Act.put, List.setIfInBounds_toArray, List.set_cons_zero, List.set_cons_succ]
              refine wpAnyH_take (i := 10) (oi := { dst := some 25, op := Op.indexAddr 72 (Operand.tmp 22) (Operand.tmp 24), type := 0, pos := "l20_draw.go:261", after := #[{ on := 7, ground := Ground.data }, { on := 9, ground := Ground.data }, { on := 15, ground := Ground.gcOnly Departure.lateStores }], guard := none }) (v := ?v97) rfl (by kernel_rfl) (by kernel_rfl) (by kernel_rfl) (fun _ _ _ h => h) (Or.inl ⟨by rfl, ?h97⟩) hS ?r97
              case h97 => (intro w' hSw; go_simp) <;> with_reducible rfl
              case r97 =>
              try simp only [Act.put, List.setIfInBounds_toArray, List.set_cons_zero, List.set_cons_succ]
              refine wpAnyH_take (i := 11) (oi := { dst := some 26, op := Op.load 3 (Operand.tmp 25), type := 3, pos := "l20_draw.go:261", after := #[{ on := 10, ground := Ground.data }, { on := 15, ground := Ground.gcOnly Departure.lateStores }], guard := none }) (v := ?v98) rfl (by kernel_rfl) (by kernel_rfl) (by kernel_rfl) (fun _ _ _ h => h) (Or.inl ⟨by rfl, ?h98⟩) hS ?r98
              case h98 => (intro w' hSw; have h0 := (hSw.2.1 bB rfl).2 k3; rw [hv] at h0; go_simp) <;> with_reducible rfl
              case r98 =>
              try simp only [Act.put, List.setIfInBounds_toArray, List.set_cons_zero, List.set_cons_succ]
              refine wpAnyH_take (i := 12) (oi := { dst := some 27, op := Op.indexAddr 72 (Operand.tmp 21) (Operand.tmp 26), type := 0, pos := "l20_draw.go:261", after := #[{ on := 6, ground := Ground.data }, { on := 11, ground := Ground.data }, { on := 15, ground := Ground.gcOnly Departure.lateStores }], guard := none }) (v := ?v99) rfl (by kernel_rfl) (by kernel_rfl) (by kernel_rfl) (fun _ _ _ h => h) (Or.inl ⟨by rfl, ?h99⟩) hS ?r99
              case h99 => (intro w' hSw; go_simp) <;> with_reducible rfl
              case r99 =>
              try simp only [Act.put, List.setIfInBounds_toArray, List.set_cons_zero, List.set_cons_succ]
              refine wpAnyH_take (i := 13) (oi := { dst := some 28, op := Op.load 3 (Operand.tmp 27), type := 3, pos := "l20_draw.go:261", after := #[{ on := 12, ground := Ground.data }, { on := 15, ground := Ground.gcOnly Departure.lateStores }], guard := none }) (v := ?v100) rfl (by kernel_rfl) (by kernel_rfl) (by kernel_rfl) (fun _ _ _ h => h) (Or.inl ⟨by rfl, ?h100⟩) hS ?r100
              case h100 => (intro w' hSw; have h0 := (hSw.2.2.1 (bA, k1, k2) rfl).2 v; rw [hq] at h0; go_simp) <;> with_reducible rfl
              case r100 =>
              try simp only [Act.put, List.setIfInBounds_toArray, List.set_cons_zero, List.set_cons_succ]
              refine wpAnyH_take (i := 16) (oi := { dst := some 4, op := Op.assign (Operand.tmp 28), type := 3, pos := "l20_draw.go:261", after := #[{ on := 13, ground := Ground.data }, { on := 15, ground := Ground.chain }, { on := 0, ground := Ground.phase }, { on := 1, ground := Ground.phase }, { on := 2, ground := Ground.phase }, { on := 3, ground := Ground.phase }, { on := 4, ground := Ground.phase }, { on := 5, ground := Ground.phase }, { on := 6, ground := Ground.phase }, { on := 7, ground := Ground.phase }, { on := 8, ground := Ground.phase }, { on := 9, ground := Ground.phase }, { on := 10, ground := Ground.phase }, { on := 11, ground := Ground.phase }, { on := 12, ground := Ground.phase }, { on := 13, ground := Ground.phase }, { on := 14, ground := Ground.phase }, { on := 15, ground := Ground.phase }], guard := none }) (v := ?v101) rfl (by kernel_rfl) (by kernel_rfl) (by kernel_rfl) (fun _ _ _ h => h) (Or.inl ⟨by rfl, ?h101⟩) hS ?r101
              case h101 => (intro w' hSw; go_simp) <;> with_reducible rfl
              case r101 =>
              try simp only [Act.put, List.setIfInBounds_toArray, List.set_cons_zero, List.set_cons_succ]
              refine wpAnyH_done (by kernel_rfl) ?_ _
              have hx := hS.2.2.2 _ rfl
              go_wp2_with fail
              exact bodyPost_ret (v := .tuple #[.agg #[.slice g us.length c], .string s, .int .i64 q]) (by simp [results, Tryz.results13, go_sem, hx]) rfl ⟨_, _, us, s, q, rfl, OwnTab.mono hS.1.2.1 (by have := hS.1.2.2.2.2.2.2.1; omega), HU.out, hs, hqw, hS.1.2.2.1⟩
            exact AllReadyH.nil
          refine AllReadyH.cons (o := { dst := some 22, op := Op.buildSlice 72 7 #[(0, Operand.const (Value.int IntKind.i64 0)), (1, Operand.const (Value.int IntKind.i64 0)), (2, Operand.const (Value.int IntKind.i64 1)), (3, Operand.const (Value.int IntKind.i64 1)), (4, Operand.const (Value.int IntKind.i64 2)), (5, Operand.const (Value.int IntKind.i64 3)), (6, Operand.const (Value.int IntKind.i64 4))], type := 72, pos := "l20_draw.go:261", after := #[{ on := 15, ground := Ground.gcOnly Departure.lateStores }], guard := none }) rfl (fun K hK => ?_) ?_
          · obtain ⟨bB, hbB⟩ : ∃ b, b = X92.heap.size := ⟨_, rfl⟩
            have hS3 := hS.newB hbB
            go_simp
            rw [← hbB]
            refine hK.out _ _ (hS.alloc _) (fun _ => ?_)
            clear hK K
            refine wpAnyH_hand (S' := SS w w.heap.size R T w1.heap.size (.slice g us.length c) us (some bB) none (some (.slice g us.length c))) (F := SS w w.heap.size R T w1.heap.size (.slice g us.length c) us (some bB) none (some (.slice g us.length c))) (fun w' h' => ⟨h'.1, fun b e => (by cases e), h'.2.2.1, h'.2.2.2⟩) (hS3 _) ?_
            clear hS hR hS3 hbB
            rintro X101 hS
            have hR : True := trivial
            try simp only [Act.put, List.setIfInBounds_toArray, List.set_cons_zero, List.set_cons_succ]
            refine wpAnyH_take (i := 10) (oi := { dst := some 25, op := Op.indexAddr 72 (Operand.tmp 22) (Operand.tmp 24), type := 0, pos := "l20_draw.go:261", after := #[{ on := 7, ground := Ground.data }, { on := 9, ground := Ground.data }, { on := 15, ground := Ground.gcOnly Departure.lateStores }], guard := none }) (v := ?v103) rfl (by kernel_rfl) (by kernel_rfl) (by kernel_rfl) (fun _ _ _ h => h) (Or.inl ⟨by rfl, ?h103⟩) hS ?r103
            case h103 => (intro w' hSw; go_simp) <;> with_reducible rfl
            case r103 =>
            try simp only [Act.put, List.setIfInBounds_toArray, List.set_cons_zero, List.set_cons_succ]
            refine wpAnyH_take (i := 11) (oi := { dst := some 26, op := Op.load 3 (Operand.tmp 25), type := 3, pos := "l20_draw.go:261", after := #[{ on := 10, ground := Ground.data }, { on := 15, ground := Ground.gcOnly Departure.lateStores }], guard := none }) (v := ?v104) rfl (by kernel_rfl) (by kernel_rfl) (by kernel_rfl) (fun _ _ _ h => h) (Or.inl ⟨by rfl, ?h104⟩) hS ?r104
            case h104 => (intro w' hSw; have h0 := (hSw.2.1 bB rfl).2 k3; rw [hv] at h0; go_simp) <;> with_reducible rfl
            case r104 =>
            try simp only [Act.put, List.setIfInBounds_toArray, List.set_cons_zero, List.set_cons_succ]
            refine wpAnyH_ready (rs := [6]) (by kernel_rfl) (by simp) ?_
            refine AllReadyH.cons (o := { dst := some 21, op := Op.buildSlice 72 5 #[(0, Operand.tmp 18), (1, Operand.tmp 20), (2, Operand.const (Value.int IntKind.i64 (-1))), (3, Operand.const (Value.int IntKind.i64 9223372036854775807)), (4, Operand.const (Value.int IntKind.i64 0))], type := 72, pos := "l20_draw.go:261", after := #[{ on := 3, ground := Ground.data }, { on := 5, ground := Ground.data }, { on := 15, ground := Ground.gcOnly Departure.lateStores }], guard := none }) rfl (fun K hK => ?_) ?_
            · obtain ⟨bA, hbA⟩ : ∃ b, b = X101.heap.size := ⟨_, rfl⟩
              have hS3 := hS.newA (k1 := k1) (k2 := k2) hbA
              go_simp
              rw [← hbA]
              refine hK.out _ _ (hS.alloc _) (fun _ => ?_)
              clear hK K
              refine wpAnyH_hand (S' := SS w w.heap.size R T w1.heap.size (.slice g us.length c) us (some bB) (some (bA, k1, k2)) (some (.slice g us.length c))) (F := SS w w.heap.size R T w1.heap.size (.slice g us.length c) us (some bB) (some (bA, k1, k2)) (some (.slice g us.length c))) (fun w' h' => ⟨h'.1, h'.2.1, fun b e => (by cases e), h'.2.2.2⟩) (hS3 _) ?_
              clear hS hR hS3 hbA
              rintro X104 hS
              have hR : True := trivial
              try simp only [Act.put, List.setIfInBounds_toArray, List.set_cons_zero, List.set_cons_succ]
              refine wpAnyH_take (i := 12) (oi := { dst := some 27, op := Op.indexAddr 72 (Operand.tmp 21) (Operand.tmp 26), type := 0, pos := "l20_draw.go:261", after := #[{ on := 6, ground := Ground.data }, { on := 11, ground := Ground.data }, { on := 15, ground := Ground.gcOnly Departure.lateStores }], guard := none }) (v := ?v106) rfl (by kernel_rfl) (by kernel_rfl) (by kernel_rfl) (fun _ _ _ h => h) (Or.inl ⟨by rfl, ?h106⟩) hS ?r106
              case h106 => (intro w' hSw; go_simp) <;> with_reducible rfl
              case r106 =>
              try simp only [Act.put, List.setIfInBounds_toArray, List.set_cons_zero, List.set_cons_succ]
              refine wpAnyH_take (i := 13) (oi := { dst := some 28, op := Op.load 3 (Operand.tmp 27), type := 3, pos := "l20_draw.go:261", after := #[{ on := 12, ground := Ground.data }, { on := 15, ground := Ground.gcOnly Departure.lateStores }], guard := none }) (v := ?v107) rfl (by kernel_rfl) (by kernel_rfl) (by kernel_rfl) (fun _ _ _ h => h) (Or.inl ⟨by rfl, ?h107⟩) hS ?r107
              case h107 => (intro w' hSw; have h0 := (hSw.2.2.1 (bA, k1, k2) rfl).2 v; rw [hq] at h0; go_simp) <;> with_reducible rfl
              case r107 =>
              try simp only [Act.put, List.setIfInBounds_toArray, List.set_cons_zero, List.set_cons_succ]
              refine wpAnyH_take (i := 16) (oi := { dst := some 4, op := Op.assign (Operand.tmp 28), type := 3, pos := "l20_draw.go:261", after := #[{ on := 13, ground := Ground.data }, { on := 15, ground := Ground.chain }, { on := 0, ground := Ground.phase }, { on := 1, ground := Ground.phase }, { on := 2, ground := Ground.phase }, { on := 3, ground := Ground.phase }, { on := 4, ground := Ground.phase }, { on := 5, ground := Ground.phase }, { on := 6, ground := Ground.phase }, { on := 7, ground := Ground.phase }, { on := 8, ground := Ground.phase }, { on := 9, ground := Ground.phase }, { on := 10, ground := Ground.phase }, { on := 11, ground := Ground.phase }, { on := 12, ground := Ground.phase }, { on := 13, ground := Ground.phase }, { on := 14, ground := Ground.phase }, { on := 15, ground := Ground.phase }], guard := none }) (v := ?v108) rfl (by kernel_rfl) (by kernel_rfl) (by kernel_rfl) (fun _ _ _ h => h) (Or.inl ⟨by rfl, ?h108⟩) hS ?r108
              case h108 => (intro w' hSw; go_simp) <;> with_reducible rfl
              case r108 =>
              try simp only [Act.put, List.setIfInBounds_toArray, List.set_cons_zero, List.set_cons_succ]
              refine wpAnyH_done (by kernel_rfl) ?_ _
              have hx := hS.2.2.2 _ rfl
              go_wp2_with fail
              exact bodyPost_ret (v := .tuple #[.agg #[.slice g us.length c], .string s, .int .i64 q]) (by simp [results, Tryz.results13, go_sem, hx]) rfl ⟨_, _, us, s, q, rfl, OwnTab.mono hS.1.2.1 (by have := hS.1.2.2.2.2.2.2.1; omega), HU.out, hs, hqw, hS.1.2.2.1⟩
            exact AllReadyH.nil
          exact AllReadyH.nil
        exact AllReadyH.nil
      exact AllReadyH.nil
    refine AllReadyH.cons (o := { dst := some 22, op := Op.buildSlice 72 7 #[(0, Operand.const (Value.int IntKind.i64 0)), (1, Operand.const (Value.int IntKind.i64 0)), (2, Operand.const (Value.int IntKind.i64 1)), (3, Operand.const (Value.int IntKind.i64 1)), (4, Operand.const (Value.int IntKind.i64 2)), (5, Operand.const (Value.int IntKind.i64 3)), (6, Operand.const (Value.int IntKind.i64 4))], type := 72, pos := "l20_draw.go:261", after := #[{ on := 15, ground := Ground.gcOnly Departure.lateStores }], guard := none }) rfl (fun K hK => ?_) ?_
    · obtain ⟨bB, hbB⟩ : ∃ b, b = wN.heap.size := ⟨_, rfl⟩
      have hS3 := hS.newB hbB
      go_simp
      rw [← hbB]
      refine hK.out _ _ (hS.alloc _) (fun _ => ?_)
      clear hK K
      refine wpAnyH_hand (S' := SS w w.heap.size R T w1.heap.size (.slice g us.length c) us (some bB) none none) (F := fun W' => SS w w.heap.size R T w1.heap.size (.slice g us.length c) us (some bB) none none W' ∧ Rd (w.heap.size + 1) R 1 W') (fun w' h' => ⟨h'.1, fun b e => (by cases e), h'.2.2.1, h'.2.2.2⟩) ⟨hS3 _, rd_alloc hR _⟩ ?_
      clear hS hR hS3 hbB
      rintro X108 ⟨hS, hR⟩
      try simp only [Act.put, List.setIfInBounds_toArray, List.set_cons_zero, List.set_cons_succ]
      refine wpAnyH_ready (rs := [5]) (by kernel_rfl) (by simp) ?_
      refine AllReadyH.cons (o := { dst := some 20, op := Op.call { callee := Callee.value (Operand.func 37), args := #[Operand.tmp 19, Operand.const (Value.int IntKind.i64 40)], argTypes := #[69, 3] }, type := 3, pos := "l20_draw.go:261", after := #[{ on := 4, ground := Ground.data }, { on := 3, ground := Ground.chain }], guard := none }) rfl (fun K hK => ?_) ?_
      · go_simp
        (go_at_call 37; refine (pick_any 40 (w.heap.size + 1) R 1 _ hR (by omega)).mono ?_; rintro e wN ⟨k2, rfl, hk, gN, rN⟩)
        have hk2 : k2 < 40 := by omega
        refine hK.out _ _ (hS.grown gN) (fun hS2 => ?_)
        clear hK K gN hk hS hR
        have hS := hS2
        have hR := rN
        clear hS2 rN
        try simp only [Act.put, List.setIfInBounds_toArray, List.set_cons_zero, List.set_cons_succ]
        refine wpAnyH_ready (rs := [6, 9]) (by kernel_rfl) (by simp) ?_
        refine AllReadyH.cons (o := { dst := some 21, op := Op.buildSlice 72 5 #[(0, Operand.tmp 18), (1, Operand.tmp 20), (2, Operand.const (Value.int IntKind.i64 (-1))), (3, Operand.const (Value.int IntKind.i64 9223372036854775807)), (4, Operand.const (Value.int IntKind.i64 0))], type := 72, pos := "l20_draw.go:261", after := #[{ on := 3, ground := Ground.data }, { on := 5, ground := Ground.data }, { on := 15, ground := Ground.gcOnly Departure.lateStores }], guard := none }) rfl (fun K hK => ?_) ?_
        · obtain ⟨bA, hbA⟩ : ∃ b, b = wN.heap.size := ⟨_, rfl⟩
          have hS3 := hS.newA (k1 := k1) (k2 := k2) hbA
          go_simp
          rw [← hbA]
          refine hK.out _ _ (hS.alloc _) (fun _ => ?_)
          clear hK K
          refine wpAnyH_hand (S' := SS w w.heap.size R T w1.heap.size (.slice g us.length c) us (some bB) (some (bA, k1, k2)) none) (F := fun W' => SS w w.heap.size R T w1.heap.size (.slice g us.length c) us (some bB) (some (bA, k1, k2)) none W' ∧ Rd (w.heap.size + 1) R 2 W') (fun w' h' => ⟨h'.1, h'.2.1, fun b e => (by cases e), h'.2.2.2⟩) ⟨hS3 _, rd_alloc hR _⟩ ?_
          clear hS hR hS3 hbA
          rintro X110 ⟨hS, hR⟩
          try simp only [Act.put, List.setIfInBounds_toArray, List.set_cons_zero, List.set_cons_succ]
          refine wpAnyH_ready (rs := [9]) (by kernel_rfl) (by simp) ?_
          refine AllReadyH.cons (o := { dst := some 24, op := Op.call { callee := Callee.value (Operand.func 37), args := #[Operand.tmp 23, Operand.const (Value.int IntKind.i64 7)], argTypes := #[69, 3] }, type := 3, pos := "l20_draw.go:261", after := #[{ on := 8, ground := Ground.data }, { on := 5, ground := Ground.chain }], guard := none }) rfl (fun K hK => ?_) ?_
          · go_simp
            (go_at_call 37; refine (pick_any 7 (w.heap.size + 1) R 2 _ hR (by omega)).mono ?_; rintro e wN ⟨k3, rfl, hk, gN, rN⟩)
            have hk3 : k3 < 7 := by omega
            refine hK.out _ _ (hS.grown gN) (fun hS2 => ?_)
            clear hK K gN hk hS hR
            have hS := hS2
            have hR := rN
            clear hS2 rN
            have hk3i : (k3 : Int) < 7 := by omega
            obtain ⟨v, hv, hv5, hvl⟩ := arr_seven k3 hk3
            obtain ⟨q, hq, hqw, hql⟩ := arr_five k1 k2 v hk1 hk2 hv5
            have hv5i : (v : Int) < 5 := by omega
            try simp only [Act.put, List.setIfInBounds_toArray, List.set_cons_zero, List.set_cons_succ]
            refine wpAnyH_take (i := 10) (oi := { dst := some 25, op := Op.indexAddr 72 (Operand.tmp 22) (Operand.tmp 24), type := 0, pos := "l20_draw.go:261", after := #[{ on := 7, ground := Ground.data }, { on := 9, ground := Ground.data }, { on := 15, ground := Ground.gcOnly Departure.lateStores }], guard := none }) (v := ?v113) rfl (by kernel_rfl) (by kernel_rfl) (by kernel_rfl) (fun _ _ _ h => h) (Or.inl ⟨by rfl, ?h113⟩) hS ?r113
            case h113 => (intro w' hSw; go_simp) <;> with_reducible rfl
            case r113 =>
            try simp only [Act.put, List.setIfInBounds_toArray, List.set_cons_zero, List.set_cons_succ]
            refine wpAnyH_take (i := 11) (oi := { dst := some 26, op := Op.load 3 (Operand.tmp 25), type := 3, pos := "l20_draw.go:261", after := #[{ on := 10, ground := Ground.data }, { on := 15, ground := Ground.gcOnly Departure.lateStores }], guard := none }) (v := ?v114) rfl (by kernel_rfl) (by kernel_rfl) (by kernel_rfl) (fun _ _ _ h => h) (Or.inl ⟨by rfl, ?h114⟩) hS ?r114
            case h114 => (intro w' hSw; have h0 := (hSw.2.1 bB rfl).2 k3; rw [hv] at h0; go_simp) <;> with_reducible rfl
            case r114 =>
            try simp only [Act.put, List.setIfInBounds_toArray, List.set_cons_zero, List.set_cons_succ]
            refine wpAnyH_take (i := 12) (oi := { dst := some 27, op := Op.indexAddr 72 (Operand.tmp 21) (Operand.tmp 26), type := 0, pos := "l20_draw.go:261", after := #[{ on := 6, ground := Ground.data }, { on := 11, ground := Ground.data }, { on := 15, ground := Ground.gcOnly Departure.lateStores }], guard := none }) (v := ?v115) rfl (by kernel_rfl) (by kernel_rfl) (by kernel_rfl) (fun _ _ _ h => h) (Or.inl ⟨by rfl, ?h115⟩) hS ?r115
            case h115 => (intro w' hSw; go_simp) <;> with_reducible rfl
            case r115 =>
            try simp only [Act.put, List.setIfInBounds_toArray, List.set_cons_zero, List.set_cons_succ]
            refine wpAnyH_take (i := 13) (oi := { dst := some 28, op := Op.load 3 (Operand.tmp 27), type := 3, pos := "l20_draw.go:261", after := #[{ on := 12, ground := Ground.data }, { on := 15, ground := Ground.gcOnly Departure.lateStores }], guard := none }) (v := ?v116) rfl (by kernel_rfl) (by kernel_rfl) (by kernel_rfl) (fun _ _ _ h => h) (Or.inl ⟨by rfl, ?h116⟩) hS ?r116
            case h116 => (intro w' hSw; have h0 := (hSw.2.2.1 (bA, k1, k2) rfl).2 v; rw [hq] at h0; go_simp) <;> with_reducible rfl
            case r116 =>
            try simp only [Act.put, List.setIfInBounds_toArray, List.set_cons_zero, List.set_cons_succ]
            refine wpAnyH_ready (rs := [14]) (by kernel_rfl) (by simp) ?_
            refine AllReadyH.cons (o := { dst := none, op := Op.store 25 (Operand.tmp 2) (Operand.tmp 15), type := 0, pos := "l20_draw.go:261", after := #[{ on := 0, ground := Ground.data }, { on := 9, ground := Ground.chain }, { on := 0, ground := Ground.phase }, { on := 1, ground := Ground.textOnly Departure.lateStores }, { on := 2, ground := Ground.textOnly Departure.lateStores }, { on := 3, ground := Ground.textOnly Departure.lateStoresUnsure }, { on := 4, ground := Ground.textOnly Departure.lateStores }, { on := 5, ground := Ground.textOnly Departure.lateStoresUnsure }, { on := 6, ground := Ground.textOnly Departure.lateStores }, { on := 7, ground := Ground.textOnly Departure.lateStores }, { on := 8, ground := Ground.textOnly Departure.lateStores }, { on := 9, ground := Ground.textOnly Departure.lateStoresUnsure }, { on := 10, ground := Ground.textOnly Departure.lateStores }, { on := 11, ground := Ground.textOnly Departure.lateStores }, { on := 12, ground := Ground.textOnly Departure.lateStores }, { on := 13, ground := Ground.textOnly Departure.lateStores }], guard := none }) rfl (fun K hK => ?_) ?_
            · obtain ⟨xv, hx⟩ := hS.1.2.2.2.1
              have hxf := hS.1.2.2.2.2.1
              go_simp
              refine hK.out _ _ (hS.setx _) (fun _ => ?_)
              clear hK K
              refine wpAnyH_hand (S' := SS w w.heap.size R T w1.heap.size (.slice g us.length c) us (some bB) (some (bA, k1, k2)) (some (.slice g us.length c))) (F := SS w w.heap.size R T w1.heap.size (.slice g us.length c) us (some bB) (some (bA, k1, k2)) (some (.slice g us.length c))) (fun w' h' => ⟨h'.1, h'.2.1, h'.2.2.1, fun v e => (by cases e)⟩) (hS.setv _) ?_
              clear hS hR hx hxf
              rintro X116 hS
              have hR : True := trivial
              try simp only [Act.put, List.setIfInBounds_toArray, List.set_cons_zero, List.set_cons_succ]
              refine wpAnyH_take (i := 15) (oi := { dst := some 3, op := Op.assign (Operand.tmp 16), type := 9, pos := "l20_draw.go:261", after := #[{ on := 1, ground := Ground.data }, { on := 14, ground := Ground.chain }, { on := 0, ground := Ground.phase }, { on := 1, ground := Ground.phase }, { on := 2, ground := Ground.textOnly Departure.lateStores }, { on := 3, ground := Ground.textOnly Departure.lateStoresUnsure }, { on := 4, ground := Ground.textOnly Departure.lateStores }, { on := 5, ground := Ground.textOnly Departure.lateStoresUnsure }, { on := 6, ground := Ground.textOnly Departure.lateStores }, { on := 7, ground := Ground.textOnly Departure.lateStores }, { on := 8, ground := Ground.textOnly Departure.lateStores }, { on := 9, ground := Ground.textOnly Departure.lateStoresUnsure }, { on := 10, ground := Ground.textOnly Departure.lateStores }, { on := 11, ground := Ground.textOnly Departure.lateStores }, { on := 12, ground := Ground.textOnly Departure.lateStores }, { on := 13, ground := Ground.textOnly Departure.lateStores }, { on := 14, ground := Ground.phase }], guard := none }) (v := ?v118) rfl (by kernel_rfl) (by kernel_rfl) (by kernel_rfl) (fun _ _ _ h => h) (Or.inl ⟨by rfl, ?h118⟩) hS ?r118
              case h118 => (intro w' hSw; go_simp) <;> with_reducible rfl
              case r118 =>
              try simp only [Act.put, List.setIfInBounds_toArray, List.set_cons_zero, List.set_cons_succ]
              refine wpAnyH_take (i := 16) (oi := { dst := some 4, op := Op.assign (Operand.tmp 28), type := 3, pos := "l20_draw.go:261", after := #[{ on := 13, ground := Ground.data }, { on := 15, ground := Ground.chain }, { on := 0, ground := Ground.phase }, { on := 1, ground := Ground.phase }, { on := 2, ground := Ground.phase }, { on := 3, ground := Ground.phase }, { on := 4, ground := Ground.phase }, { on := 5, ground := Ground.phase }, { on := 6, ground := Ground.phase }, { on := 7, ground := Ground.phase }, { on := 8, ground := Ground.phase }, { on := 9, ground := Ground.phase }, { on := 10, ground := Ground.phase }, { on := 11, ground := Ground.phase }, { on := 12, ground := Ground.phase }, { on := 13, ground := Ground.phase }, { on := 14, ground := Ground.phase }, { on := 15, ground := Ground.phase }], guard := none }) (v := ?v119) rfl (by kernel_rfl) (by kernel_rfl) (by kernel_rfl) (fun _ _ _ h => h) (Or.inl ⟨by rfl, ?h119⟩) hS ?r119
              case h119 => (intro w' hSw; go_simp) <;> with_reducible rfl
              case r119 =>
              try simp only [Act.put, List.setIfInBounds_toArray, List.set_cons_zero, List.set_cons_succ]
              refine wpAnyH_done (by kernel_rfl) ?_ _
              have hx := hS.2.2.2 _ rfl
              go_wp2_with fail
              exact bodyPost_ret (v := .tuple #[.agg #[.slice g us.length c], .string s, .int .i64 q]) (by simp [results, Tryz.results13, go_sem, hx]) rfl ⟨_, _, us, s, q, rfl, OwnTab.mono hS.1.2.1 (by have := hS.1.2.2.2.2.2.2.1; omega), HU.out, hs, hqw, hS.1.2.2.1⟩
            exact AllReadyH.nil
          exact AllReadyH.nil
        refine AllReadyH.cons (o := { dst := some 24, op := Op.call { callee := Callee.value (Operand.func 37), args := #[Operand.tmp 23, Operand.const (Value.int IntKind.i64 7)], argTypes := #[69, 3] }, type := 3, pos := "l20_draw.go:261", after := #[{ on := 8, ground := Ground.data }, { on := 5, ground := Ground.chain }], guard := none }) rfl (fun K hK => ?_) ?_
        · go_simp
          (go_at_call 37; refine (pick_any 7 (w.heap.size + 1) R 2 _ hR (by omega)).mono ?_; rintro e wN ⟨k3, rfl, hk, gN, rN⟩)
          have hk3 : k3 < 7 := by omega
          refine hK.out _ _ (hS.grown gN) (fun hS2 => ?_)
          clear hK K gN hk hS hR
          have hS := hS2
          have hR := rN
          clear hS2 rN
          have hk3i : (k3 : Int) < 7 := by omega
          obtain ⟨v, hv, hv5, hvl⟩ := arr_seven k3 hk3
          obtain ⟨q, hq, hqw, hql⟩ := arr_five k1 k2 v hk1 hk2 hv5
          have hv5i : (v : Int) < 5 := by omega
          try simp only [Act.put, List.setIfInBounds_toArray, List.set_cons_zero, List.set_cons_succ]
          refine wpAnyH_take (i := 10) (oi := { dst := some 25, op := Op.indexAddr 72 (Operand.tmp 22) (Operand.tmp 24), type := 0, pos := "l20_draw.go:261", after := #[{ on := 7, ground := Ground.data }, { on := 9, ground := Ground.data }, { on := 15, ground := Ground.gcOnly Departure.lateStores }], guard := none }) (v := ?v121) rfl (by kernel_rfl) (by kernel_rfl) (by kernel_rfl) (fun _ _ _ h => h) (Or.inl ⟨by rfl, ?h121⟩) hS ?r121
          case h121 => (intro w' hSw; go_simp) <;> with_reducible rfl
          case r121 =>
          try simp only [Act.put, List.setIfInBounds_toArray, List.set_cons_zero, List.set_cons_succ]
          refine wpAnyH_take (i := 11) (oi := { dst := some 26, op := Op.load 3 (Operand.tmp 25), type := 3, pos := "l20_draw.go:261", after := #[{ on := 10, ground := Ground.data }, { on := 15, ground := Ground.gcOnly Departure.lateStores }], guard := none }) (v := ?v122) rfl (by kernel_rfl) (by kernel_rfl) (by kernel_rfl) (fun _ _ _ h => h) (Or.inl ⟨by rfl, ?h122⟩) hS ?r122
          case h122 => (intro w' hSw; have h0 := (hSw.2.1 bB rfl).2 k3; rw [hv] at h0; go_simp) <;> with_reducible rfl
          case r122 =>
          try simp only [Act.put, List.setIfInBounds_toArray, List.set_cons_zero, List.set_cons_succ]
          refine wpAnyH_ready (rs := [6, 14]) (by kernel_rfl) (by simp) ?_
          refine AllReadyH.cons (o := { dst := some 21, op := Op.buildSlice 72 5 #[(0, Operand.tmp 18), (1, Operand.tmp 20), (2, Operand.const (Value.int IntKind.i64 (-1))), (3, Operand.const (Value.int IntKind.i64 9223372036854775807)), (4, Operand.const (Value.int IntKind.i64 0))], type := 72, pos := "l20_draw.go:261", after := #[{ on := 3, ground := Ground.data }, { on := 5, ground := Ground.data }, { on := 15, ground := Ground.gcOnly Departure.lateStores }], guard := none }) rfl (fun K hK => ?_) ?_
          · obtain ⟨bA, hbA⟩ : ∃ b, b = wN.heap.size := ⟨_, rfl⟩
            have hS3 := hS.newA (k1 := k1) (k2 := k2) hbA
            go_simp
            rw [← hbA]
            refine hK.out _ _ (hS.alloc _) (fun _ => ?_)
            clear hK K
            refine wpAnyH_hand (S' := SS w w.heap.size R T w1.heap.size (.slice g us.length c) us (some bB) (some (bA, k1, k2)) none) (F := fun W' => SS w w.heap.size R T w1.heap.size (.slice g us.length c) us (some bB) (some (bA, k1, k2)) none W' ∧ Rd (w.heap.size + 1) R 3 W') (fun w' h' => ⟨h'.1, h'.2.1, fun b e => (by cases e), h'.2.2.2⟩) ⟨hS3 _, rd_alloc hR _⟩ ?_
            clear hS hR hS3 hbA
            rintro X122 ⟨hS, hR⟩
            try simp only [Act.put, List.setIfInBounds_toArray, List.set_cons_zero, List.set_cons_succ]
            refine wpAnyH_take (i := 12) (oi := { dst := some 27, op := Op.indexAddr 72 (Operand.tmp 21) (Operand.tmp 26), type := 0, pos := "l20_draw.go:261", after := #[{ on := 6, ground := Ground.data }, { on := 11, ground := Ground.data }, { on := 15, ground := Ground.gcOnly Departure.lateStores }], guard := none }) (v := ?v124) rfl (by kernel_rfl) (by kernel_rfl) (by kernel_rfl) (fun _ _ _ h => h) (Or.inl ⟨by rfl, ?h124⟩) hS ?r124
            case h124 => (intro w' hSw; go_simp) <;> with_reducible rfl
            case r124 =>
            try simp only [Act.put, List.setIfInBounds_toArray, List.set_cons_zero, List.set_cons_succ]
            refine wpAnyH_take (i := 13) (oi := { dst := some 28, op := Op.load 3 (Operand.tmp 27), type := 3, pos := "l20_draw.go:261", after := #[{ on := 12, ground := Ground.data }, { on := 15, ground := Ground.gcOnly Departure.lateStores }], guard := none }) (v := ?v125) rfl (by kernel_rfl) (by kernel_rfl) (by kernel_rfl) (fun _ _ _ h => h) (Or.inl ⟨by rfl, ?h125⟩) hS ?r125
            case h125 => (intro w' hSw; have h0 := (hSw.2.2.1 (bA, k1, k2) rfl).2 v; rw [hq] at h0; go_simp) <;> with_reducible rfl
            case r125 =>
            try simp only [Act.put, List.setIfInBounds_toArray, List.set_cons_zero, List.set_cons_succ]
            refine wpAnyH_ready (rs := [14]) (by kernel_rfl) (by simp) ?_
            refine AllReadyH.cons (o := { dst := none, op := Op.store 25 (Operand.tmp 2) (Operand.tmp 15), type := 0, pos := "l20_draw.go:261", after := #[{ on := 0, ground := Ground.data }, { on := 9, ground := Ground.chain }, { on := 0, ground := Ground.phase }, { on := 1, ground := Ground.textOnly Departure.lateStores }, { on := 2, ground := Ground.textOnly Departure.lateStores }, { on := 3, ground := Ground.textOnly Departure.lateStoresUnsure }, { on := 4, ground := Ground.textOnly Departure.lateStores }, { on := 5, ground := Ground.textOnly Departure.lateStoresUnsure }, { on := 6, ground := Ground.textOnly Departure.lateStores }, { on := 7, ground := Ground.textOnly Departure.lateStores }, { on := 8, ground := Ground.textOnly Departure.lateStores }, { on := 9, ground := Ground.textOnly Departure.lateStoresUnsure }, { on := 10, ground := Ground.textOnly Departure.lateStores }, { on := 11, ground := Ground.textOnly Departure.lateStores }, { on := 12, ground := Ground.textOnly Departure.lateStores }, { on := 13, ground := Ground.textOnly Departure.lateStores }], guard := none }) rfl (fun K hK => ?_) ?_
            · obtain ⟨xv, hx⟩ := hS.1.2.2.2.1
              have hxf := hS.1.2.2.2.2.1
              go_simp
              refine hK.out _ _ (hS.setx _) (fun _ => ?_)
              clear hK K
              refine wpAnyH_hand (S' := SS w w.heap.size R T w1.heap.size (.slice g us.length c) us (some bB) (some (bA, k1, k2)) (some (.slice g us.length c))) (F := SS w w.heap.size R T w1.heap.size (.slice g us.length c) us (some bB) (some (bA, k1, k2)) (some (.slice g us.length c))) (fun w' h' => ⟨h'.1, h'.2.1, h'.2.2.1, fun v e => (by cases e)⟩) (hS.setv _) ?_
              clear hS hR hx hxf
              rintro X125 hS
              have hR : True := trivial
              try simp only [Act.put, List.setIfInBounds_toArray, List.set_cons_zero, List.set_cons_succ]
              refine wpAnyH_take (i := 15) (oi := { dst := some 3, op := Op.assign (Operand.tmp 16), type := 9, pos := "l20_draw.go:261", after := #[{ on := 1, ground := Ground.data }, { on := 14, ground := Ground.chain }, { on := 0, ground := Ground.phase }, { on := 1, ground := Ground.phase }, { on := 2, ground := Ground.textOnly Departure.lateStores }, { on := 3, ground := Ground.textOnly Departure.lateStoresUnsure }, { on := 4, ground := Ground.textOnly Departure.lateStores }, { on := 5, ground := Ground.textOnly Departure.lateStoresUnsure }, { on := 6, ground := Ground.textOnly Departure.lateStores }, { on := 7, ground := Ground.textOnly Departure.lateStores }, { on := 8, ground := Ground.textOnly Departure.lateStores }, { on := 9, ground := Ground.textOnly Departure.lateStoresUnsure }, { on := 10, ground := Ground.textOnly Departure.lateStores }, { on := 11, ground := Ground.textOnly Departure.lateStores }, { on := 12, ground := Ground.textOnly Departure.lateStores }, { on := 13, ground := Ground.textOnly Departure.lateStores }, { on := 14, ground := Ground.phase }], guard := none }) (v := ?v127) rfl (by kernel_rfl) (by kernel_rfl) (by kernel_rfl) (fun _ _ _ h => h) (Or.inl ⟨by rfl, ?h127⟩) hS ?r127
              case h127 => (intro w' hSw; go_simp) <;> with_reducible rfl
              case r127 =>
              try simp only [Act.put, List.setIfInBounds_toArray, List.set_cons_zero, List.set_cons_succ]
              refine wpAnyH_take (i := 16) (oi := { dst := some 4, op := Op.assign (Operand.tmp 28), type := 3, pos := "l20_draw.go:261", after := #[{ on := 13, ground := Ground.data }, { on := 15, ground := Ground.chain }, { on := 0, ground := Ground.phase }, { on := 1, ground := Ground.phase }, { on := 2, ground := Ground.phase }, { on := 3, ground := Ground.phase }, { on := 4, ground := Ground.phase }, { on := 5, ground := Ground.phase }, { on := 6, ground := Ground.phase }, { on := 7, ground := Ground.phase }, { on := 8, ground := Ground.phase }, { on := 9, ground := Ground.phase }, { on := 10, ground := Ground.phase }, { on := 11, ground := Ground.phase }, { on := 12, ground := Ground.phase }, { on := 13, ground := Ground.phase }, { on := 14, ground := Ground.phase }, { on := 15, ground := Ground.phase }], guard := none }) (v := ?v128) rfl (by kernel_rfl) (by kernel_rfl) (by kernel_rfl) (fun _ _ _ h => h) (Or.inl ⟨by rfl, ?h128⟩) hS ?r128
              case h128 => (intro w' hSw; go_simp) <;> with_reducible rfl
              case r128 =>
              try simp only [Act.put, List.setIfInBounds_toArray, List.set_cons_zero, List.set_cons_succ]
              refine wpAnyH_done (by kernel_rfl) ?_ _
              have hx := hS.2.2.2 _ rfl
              go_wp2_with fail
              exact bodyPost_ret (v := .tuple #[.agg #[.slice g us.length c], .string s, .int .i64 q]) (by simp [results, Tryz.results13, go_sem, hx]) rfl ⟨_, _, us, s, q, rfl, OwnTab.mono hS.1.2.1 (by have := hS.1.2.2.2.2.2.2.1; omega), HU.out, hs, hqw, hS.1.2.2.1⟩
            exact AllReadyH.nil
          refine AllReadyH.cons (o := { dst := none, op := Op.store 25 (Operand.tmp 2) (Operand.tmp 15), type := 0, pos := "l20_draw.go:261", after := #[{ on := 0, ground := Ground.data }, { on := 9, ground := Ground.chain }, { on := 0, ground := Ground.phase }, { on := 1, ground := Ground.textOnly Departure.lateStores }, { on := 2, ground := Ground.textOnly Departure.lateStores }, { on := 3, ground := Ground.textOnly Departure.lateStoresUnsure }, { on := 4, ground := Ground.textOnly Departure.lateStores }, { on := 5, ground := Ground.textOnly Departure.lateStoresUnsure }, { on := 6, ground := Ground.textOnly Departure.lateStores }, { on := 7, ground := Ground.textOnly Departure.lateStores }, { on := 8, ground := Ground.textOnly Departure.lateStores }, { on := 9, ground := Ground.textOnly Departure.lateStoresUnsure }, { on := 10, ground := Ground.textOnly Departure.lateStores }, { on := 11, ground := Ground.textOnly Departure.lateStores }, { on := 12, ground := Ground.textOnly Departure.lateStores }, { on := 13, ground := Ground.textOnly Departure.lateStores }], guard := none }) rfl (fun K hK => ?_) ?_
          · obtain ⟨xv, hx⟩ := hS.1.2.2.2.1
            have hxf := hS.1.2.2.2.2.1
            go_simp
            refine hK.out _ _ (hS.setx _) (fun _ => ?_)
            clear hK K
            refine wpAnyH_hand (S' := SS w w.heap.size R T w1.heap.size (.slice g us.length c) us (some bB) none (some (.slice g us.length c))) (F := SS w w.heap.size R T w1.heap.size (.slice g us.length c) us (some bB) none (some (.slice g us.length c))) (fun w' h' => ⟨h'.1, h'.2.1, h'.2.2.1, fun v e => (by cases e)⟩) (hS.setv _) ?_
            clear hS hR hx hxf
            rintro X128 hS
            have hR : True := trivial
            try simp only [Act.put, List.setIfInBounds_toArray, List.set_cons_zero, List.set_cons_succ]
            refine wpAnyH_take (i := 15) (oi := { dst := some 3, op := Op.assign (Operand.tmp 16), type := 9, pos := "l20_draw.go:261", after := #[{ on := 1, ground := Ground.data }, { on := 14, ground := Ground.chain }, { on := 0, ground := Ground.phase }, { on := 1, ground := Ground.phase }, { on := 2, ground := Ground.textOnly Departure.lateStores }, { on := 3, ground := Ground.textOnly Departure.lateStoresUnsure }, { on := 4, ground := Ground.textOnly Departure.lateStores }, { on := 5, ground := Ground.textOnly Departure.lateStoresUnsure }, { on := 6, ground := Ground.textOnly Departure.lateStores }, { on := 7, ground := Ground.textOnly Departure.lateStores }, { on := 8, ground := Ground.textOnly Departure.lateStores }, { on := 9, ground := Ground.textOnly Departure.lateStoresUnsure }, { on := 10, ground := Ground.textOnly Departure.lateStores }, { on := 11, ground := Ground.textOnly Departure.lateStores }, { on := 12, ground := Ground.textOnly Departure.lateStores }, { on := 13, ground := Ground.textOnly Departure.lateStores }, { on := 14, ground := Ground.phase }], guard := none }) (v := ?v130) rfl (by kernel_rfl) (by kernel_rfl) (by kernel_rfl) (fun _ _ _ h => h) (Or.inl ⟨by rfl, ?h130⟩) hS ?r130
            case h130 => (intro w' hSw; go_simp) <;> with_reducible rfl
            case r130 =>
            try simp only [Act.put, List.setIfInBounds_toArray, List.set_cons_zero, List.set_cons_succ]
            refine wpAnyH_ready (rs := [6]) (by kernel_rfl) (by simp) ?_
            refine AllReadyH.cons (o := { dst := some 21, op := Op.buildSlice 72 5 #[(0, Operand.tmp 18), (1, Operand.tmp 20), (2, Operand.const (Value.int IntKind.i64 (-1))), (3, Operand.const (Value.int IntKind.i64 9223372036854775807)), (4, Operand.const (Value.int IntKind.i64 0))], type := 72, pos := "l20_draw.go:261", after := #[{ on := 3, ground := Ground.data }, { on := 5, ground := Ground.data }, { on := 15, ground := Ground.gcOnly Departure.lateStores }], guard := none }) rfl (fun K hK => ?_) ?_
            · obtain ⟨bA, hbA⟩ : ∃ b, b = X128.heap.size := ⟨_, rfl⟩
              have hS3 := hS.newA (k1 := k1) (k2 := k2) hbA
              go_simp
              rw [← hbA]
              refine hK.out _ _ (hS.alloc _) (fun _ => ?_)
              clear hK K
              refine wpAnyH_hand (S' := SS w w.heap.size R T w1.heap.size (.slice g us.length c) us (some bB) (some (bA, k1, k2)) (some (.slice g us.length c))) (F := SS w w.heap.size R T w1.heap.size (.slice g us.length c) us (some bB) (some (bA, k1, k2)) (some (.slice g us.length c))) (fun w' h' => ⟨h'.1, h'.2.1, fun b e => (by cases e), h'.2.2.2⟩) (hS3 _) ?_
              clear hS hR hS3 hbA
              rintro X130 hS
              have hR : True := trivial
              try simp only [Act.put, List.setIfInBounds_toArray, List.set_cons_zero, List.set_cons_succ]
              refine wpAnyH_take (i := 12) (oi := { dst := some 27, op := Op.indexAddr 72 (Operand.tmp 21) (Operand.tmp 26), type := 0, pos := "l20_draw.go:261", after := #[{ on := 6, ground := Ground.data }, { on := 11, ground := Ground.data }, { on := 15, ground := Ground.gcOnly Departure.lateStores }], guard := none }) (v := ?v132) rfl (by kernel_rfl) (by kernel_rfl) (by kernel_rfl) (fun _ _ _ h => h) (Or.inl ⟨by rfl, ?h132⟩) hS ?r132
              case h132 => (intro w' hSw; go_simp) <;> with_reducible rfl
              case r132 =>
              try simp only [Act.put, List.setIfInBounds_toArray, List.set_cons_zero, List.set_cons_succ]
              refine wpAnyH_take (i := 13) (oi := { dst := some 28, op := Op.load 3 (Operand.tmp 27), type := 3, pos := "l20_draw.go:261", after := #[{ on := 12, ground := Ground.data }, { on := 15, ground := Ground.gcOnly Departure.lateStores }], guard := none }) (v := ?v133) rfl (by kernel_rfl) (by kernel_rfl) (by kernel_rfl) (fun _ _ _ h => h) (Or.inl ⟨by rfl, ?h133⟩) hS ?r133
              case h133 => (intro w' hSw; have h0 := (hSw.2.2.1 (bA, k1, k2) rfl).2 v; rw [hq] at h0; go_simp) <;> with_reducible rfl
              case r133 =>
              try simp only [Act.put, List.setIfInBounds_toArray, List.set_cons_zero, List.set_cons_succ]
              refine wpAnyH_take (i := 16) (oi := { dst := some 4, op := Op.assign (Operand.tmp 28), type := 3, pos := "l20_draw.go:261", after := #[{ on := 13, ground := Ground.data }, { on := 15, ground := Ground.chain }, { on := 0, ground := Ground.phase }, { on := 1, ground := Ground.phase }, { on := 2, ground := Ground.phase }, { on := 3, ground := Ground.phase }, { on := 4, ground := Ground.phase }, { on := 5, ground := Ground.phase }, { on := 6, ground := Ground.phase }, { on := 7, ground := Ground.phase }, { on := 8, ground := Ground.phase }, { on := 9, ground := Ground.phase }, { on := 10, ground := Ground.phase }, { on := 11, ground := Ground.phase }, { on := 12, ground := Ground.phase }, { on := 13, ground := Ground.phase }, { on := 14, ground := Ground.phase }, { on := 15, ground := Ground.phase }], guard := none }) (v := ?v134) rfl (by kernel_rfl) (by kernel_rfl) (by kernel_rfl) (fun _ _ _ h => h) (Or.inl ⟨by rfl, ?h134⟩) hS ?r134
              case h134 => (intro w' hSw; go_simp) <;> with_reducible rfl
              case r134 =>
              try simp only [Act.put, List.setIfInBounds_toArray, List.set_cons_zero, List.set_cons_succ]
              refine wpAnyH_done (by kernel_rfl) ?_ _
              have hx := hS.2.2.2 _ rfl
              go_wp2_with fail
              exact bodyPost_ret (v := .tuple #[.agg #[.slice g us.length c], .string s, .int .i64 q]) (by simp [results, Tryz.results13, go_sem, hx]) rfl ⟨_, _, us, s, q, rfl, OwnTab.mono hS.1.2.1 (by have := hS.1.2.2.2.2.2.2.1; omega), HU.out, hs, hqw, hS.1.2.2.1⟩
            exact AllReadyH.nil
          exact AllReadyH.nil
        exact AllReadyH.nil
      exact AllReadyH.nil
    exact AllReadyH.nil
  refine AllReadyH.cons (o := { dst := some 22, op := Op.buildSlice 72 7 #[(0, Operand.const (Value.int IntKind.i64 0)), (1, Operand.const (Value.int IntKind.i64 0)), (2, Operand.const (Value.int IntKind.i64 1)), (3, Operand.const (Value.int IntKind.i64 1)), (4, Operand.const (Value.int IntKind.i64 2)), (5, Operand.const (Value.int IntKind.i64 3)), (6, Operand.const (Value.int IntKind.i64 4))], type := 72, pos := "l20_draw.go:261", after := #[{ on := 15, ground := Ground.gcOnly Departure.lateStores }], guard := none }) rfl (fun K hK => ?_) ?_
  · obtain ⟨bB, hbB⟩ : ∃ b, b = W4.heap.size := ⟨_, rfl⟩
    have hS3 := hS.newB hbB
    go_simp
    rw [← hbB]
    refine hK.out _ _ (hS.alloc _) (fun _ => ?_)
    clear hK K
    refine wpAnyH_hand (S' := SS w w.heap.size R T w1.heap.size (.slice g us.length c) us (some bB) none none) (F := fun W' => SS w w.heap.size R T w1.heap.size (.slice g us.length c) us (some bB) none none W' ∧ Rd (w.heap.size + 1) R 0 W') (fun w' h' => ⟨h'.1, fun b e => (by cases e), h'.2.2.1, h'.2.2.2⟩) ⟨hS3 _, rd_alloc hR _⟩ ?_
    clear hS hR hS3 hbB
    rintro X134 ⟨hS, hR⟩
    try simp only [Act.put, List.setIfInBounds_toArray, List.set_cons_zero, List.set_cons_succ]
    refine wpAnyH_ready (rs := [3]) (by kernel_rfl) (by simp) ?_
    refine AllReadyH.cons (o := { dst := some 18, op := Op.call { callee := Callee.value (Operand.func 37), args := #[Operand.tmp 17, Operand.const (Value.int IntKind.i64 130)], argTypes := #[69, 3] }, type := 3, pos := "l20_draw.go:261", after := #[{ on := 2, ground := Ground.data }], guard := none }) rfl (fun K hK => ?_) ?_
    · go_simp
      (go_at_call 37; refine (pick_any 130 (w.heap.size + 1) R 0 _ hR (by omega)).mono ?_; rintro e wN ⟨k1, rfl, hk, gN, rN⟩)
      have hk1 : k1 < 130 := by omega
      refine hK.out _ _ (hS.grown gN) (fun hS2 => ?_)
      clear hK K gN hk hS hR
      have hS := hS2
      have hR := rN
      clear hS2 rN
      try simp only [Act.put, List.setIfInBounds_toArray, List.set_cons_zero, List.set_cons_succ]
      refine wpAnyH_ready (rs := [5]) (by kernel_rfl) (by simp) ?_
      refine AllReadyH.cons (o := { dst := some 20, op := Op.call { callee := Callee.value (Operand.func 37), args := #[Operand.tmp 19, Operand.const (Value.int IntKind.i64 40)], argTypes := #[69, 3] }, type := 3, pos := "l20_draw.go:261", after := #[{ on := 4, ground := Ground.data }, { on := 3, ground := Ground.chain }], guard := none }) rfl (fun K hK => ?_) ?_
      · go_simp
        (go_at_call 37; refine (pick_any 40 (w.heap.size + 1) R 1 _ hR (by omega)).mono ?_; rintro e wN ⟨k2, rfl, hk, gN, rN⟩)
        have hk2 : k2 < 40 := by omega
        refine hK.out _ _ (hS.grown gN) (fun hS2 => ?_)
        clear hK K gN hk hS hR
        have hS := hS2
        have hR := rN
        clear hS2 rN
        try simp only [Act.put, List.setIfInBounds_toArray, List.set_cons_zero, List.set_cons_succ]
        refine wpAnyH_ready (rs := [6, 9]) (by kernel_rfl) (by simp) ?_
        refine AllReadyH.cons (o := { dst := some 21, op := Op.buildSlice 72 5 #[(0, Operand.tmp 18), (1, Operand.tmp 20), (2, Operand.const (Value.int IntKind.i64 (-1))), (3, Operand.const (Value.int IntKind.i64 9223372036854775807)), (4, Operand.const (Value.int IntKind.i64 0))], type := 72, pos := "l20_draw.go:261", after := #[{ on := 3, ground := Ground.data }, { on := 5, ground := Ground.data }, { on := 15, ground := Ground.gcOnly Departure.lateStores }], guard := none }) rfl (fun K hK => ?_) ?_
        · obtain ⟨bA, hbA⟩ : ∃ b, b = wN.heap.size := ⟨_, rfl⟩
          have hS3 := hS.newA (k1 := k1) (k2 := k2) hbA
          go_simp
          rw [← hbA]
          refine hK.out _ _ (hS.alloc _) (fun _ => ?_)
          clear hK K
          refine wpAnyH_hand (S' := SS w w.heap.size R T w1.heap.size (.slice g us.length c) us (some bB) (some (bA, k1, k2)) none) (F := fun W' => SS w w.heap.size R T w1.heap.size (.slice g us.length c) us (some bB) (some (bA, k1, k2)) none W' ∧ Rd (w.heap.size + 1) R 2 W') (fun w' h' => ⟨h'.1, h'.2.1, fun b e => (by cases e), h'.2.2.2⟩) ⟨hS3 _, rd_alloc hR _⟩ ?_
          clear hS hR hS3 hbA
          rintro X137 ⟨hS, hR⟩
          try simp only [Act.put, List.setIfInBounds_toArray, List.set_cons_zero, List.set_cons_succ]
          refine wpAnyH_ready (rs := [9]) (by kernel_rfl) (by simp) ?_
          refine AllReadyH.cons (o := { dst := some 24, op := Op.call { callee := Callee.value (Operand.func 37), args := #[Operand.tmp 23, Operand.const (Value.int IntKind.i64 7)], argTypes := #[69, 3] }, type := 3, pos := "l20_draw.go:261", after := #[{ on := 8, ground := Ground.data }, { on := 5, ground := Ground.chain }], guard := none }) rfl (fun K hK => ?_) ?_
          · go_simp
            (go_at_call 37; refine (pick_any 7 (w.heap.size + 1) R 2 _ hR (by omega)).mono ?_; rintro e wN ⟨k3, rfl, hk, gN, rN⟩)
            have hk3 : k3 < 7 := by omega
            refine hK.out _ _ (hS.grown gN) (fun hS2 => ?_)
            clear hK K gN hk hS hR
            have hS := hS2
            have hR := rN
            clear hS2 rN
            have hk3i : (k3 : Int) < 7 := by omega
            obtain ⟨v, hv, hv5, hvl⟩ := arr_seven k3 hk3
            obtain ⟨q, hq, hqw, hql⟩ := arr_five k1 k2 v hk1 hk2 hv5
            have hv5i : (v : Int) < 5 := by omega
            try simp only [Act.put, List.setIfInBounds_toArray, List.set_cons_zero, List.set_cons_succ]
            refine wpAnyH_take (i := 10) (oi := { dst := some 25, op := Op.indexAddr 72 (Operand.tmp 22) (Operand.tmp 24), type := 0, pos := "l20_draw.go:261", after := #[{ on := 7, ground := Ground.data }, { on := 9, ground := Ground.data }, { on := 15, ground := Ground.gcOnly Departure.lateStores }], guard := none }) (v := ?v140) rfl (by kernel_rfl) (by kernel_rfl) (by kernel_rfl) (fun _ _ _ h => h) (Or.inl ⟨by rfl, ?h140⟩) hS ?r140
            case h140 => (intro w' hSw; go_simp) <;> with_reducible rfl
            case r140 =>
            try simp only [Act.put, List.setIfInBounds_toArray, List.set_cons_zero, List.set_cons_succ]
            refine wpAnyH_take (i := 11) (oi := { dst := some 26, op := Op.load 3 (Operand.tmp 25), type := 3, pos := "l20_draw.go:261", after := #[{ on := 10, ground := Ground.data }, { on := 15, ground := Ground.gcOnly Departure.lateStores }], guard := none }) (v := ?v141) rfl (by kernel_rfl) (by kernel_rfl) (by kernel_rfl) (fun _ _ _ h => h) (Or.inl ⟨by rfl, ?h141⟩) hS ?r141
            case h141 => (intro w' hSw; have h0 := (hSw.2.1 bB rfl).2 k3; rw [hv] at h0; go_simp) <;> with_reducible rfl
            case r141 =>
            try simp only [Act.put, List.setIfInBounds_toArray, List.set_cons_zero, List.set_cons_succ]
            refine wpAnyH_take (i := 12) (oi := { dst := some 27, op := Op.indexAddr 72 (Operand.tmp 21) (Operand.tmp 26), type := 0, pos := "l20_draw.go:261", after := #[{ on := 6, ground := Ground.data }, { on := 11, ground := Ground.data }, { on := 15, ground := Ground.gcOnly Departure.lateStores }], guard := none }) (v := ?v142) rfl (by kernel_rfl) (by kernel_rfl) (by kernel_rfl) (fun _ _ _ h => h) (Or.inl ⟨by rfl, ?h142⟩) hS ?r142
            case h142 => (intro w' hSw; go_simp) <;> with_reducible rfl
            case r142 =>
            try simp only [Act.put, List.setIfInBounds_toArray, List.set_cons_zero, List.set_cons_succ]
            refine wpAnyH_take (i := 13) (oi := { dst := some 28, op := Op.load 3 (Operand.tmp 27), type := 3, pos := "l20_draw.go:261", after := #[{ on := 12, ground := Ground.data }, { on := 15, ground := Ground.gcOnly Departure.lateStores }], guard := none }) (v := ?v143) rfl (by kernel_rfl) (by kernel_rfl) (by kernel_rfl) (fun _ _ _ h => h) (Or.inl ⟨by rfl, ?h143⟩) hS ?r143
            case h143 => (intro w' hSw; have h0 := (hSw.2.2.1 (bA, k1, k2) rfl).2 v; rw [hq] at h0; go_simp) <;> with_reducible rfl
            case r143 =>
            try simp only [Act.put, List.setIfInBounds_toArray, List.set_cons_zero, List.set_cons_succ]
            refine wpAnyH_ready (rs := [14]) (by kernel_rfl) (by simp) ?_
            refine AllReadyH.cons (o := { dst := none, op := Op.store 25 (Operand.tmp 2) (Operand.tmp 15), type := 0, pos := "l20_draw.go:261", after := #[{ on := 0, ground := Ground.data }, { on := 9, ground := Ground.chain }, { on := 0, ground := Ground.phase }, { on := 1, ground := Ground.textOnly Departure.lateStores }, { on := 2, ground := Ground.textOnly Departure.lateStores }, { on := 3, ground := Ground.textOnly Departure.lateStoresUnsure }, { on := 4, ground := Ground.textOnly Departure.lateStores }, { on := 5, ground := Ground.textOnly Departure.lateStoresUnsure }, { on := 6, ground := Ground.textOnly Departure.lateStores }, { on := 7, ground := Ground.textOnly Departure.lateStores }, { on := 8, ground := Ground.textOnly Departure.lateStores }, { on := 9, ground := Ground.textOnly Departure.lateStoresUnsure }, { on := 10, ground := Ground.textOnly Departure.lateStores }, { on := 11, ground := Ground.textOnly Departure.lateStores }, { on := 12, ground := Ground.textOnly Departure.lateStores }, { on := 13, ground := Ground.textOnly Departure.lateStores }], guard := none }) rfl (fun K hK => ?_) ?_
            · obtain ⟨xv, hx⟩ := hS.1.2.2.2.1
              have hxf := hS.1.2.2.2.2.1
              go_simp
              refine hK.out _ _ (hS.setx _) (fun _ => ?_)
              clear hK K
              refine wpAnyH_hand (S' := SS w w.heap.size R T w1.heap.size (.slice g us.length c) us (some bB) (some (bA, k1, k2)) (some (.slice g us.length c))) (F := SS w w.heap.size R T w1.heap.size (.slice g us.length c) us (some bB) (some (bA, k1, k2)) (some (.slice g us.length c))) (fun w' h' => ⟨h'.1, h'.2.1, h'.2.2.1, fun v e => (by cases e)⟩) (hS.setv _) ?_
              clear hS hR hx hxf
              rintro X143 hS
              have hR : True := trivial
              try simp only [Act.put, List.setIfInBounds_toArray, List.set_cons_zero, List.set_cons_succ]
              refine wpAnyH_take (i := 15) (oi := { dst := some 3, op := Op.assign (Operand.tmp 16), type := 9, pos := "l20_draw.go:261", after := #[{ on := 1, ground := Ground.data }, { on := 14, ground := Ground.chain }, { on := 0, ground := Ground.phase }, { on := 1, ground := Ground.phase }, { on := 2, ground := Ground.textOnly Departure.lateStores }, { on := 3, ground := Ground.textOnly Departure.lateStoresUnsure }, { on := 4, ground := Ground.textOnly Departure.lateStores }, { on := 5, ground := Ground.textOnly Departure.lateStoresUnsure }, { on := 6, ground := Ground.textOnly Departure.lateStores }, { on := 7, ground := Ground.textOnly Departure.lateStores }, { on := 8, ground := Ground.textOnly Departure.lateStores }, { on := 9, ground := Ground.textOnly Departure.lateStoresUnsure }, { on := 10, ground := Ground.textOnly Departure.lateStores }, { on := 11, ground := Ground.textOnly Departure.lateStores }, { on := 12, ground := Ground.textOnly Departure.lateStores }, { on := 13, ground := Ground.textOnly Departure.lateStores }, { on := 14, ground := Ground.phase }], guard := none }) (v := ?v145) rfl (by kernel_rfl) (by kernel_rfl) (by kernel_rfl) (fun _ _ _ h => h) (Or.inl ⟨by rfl, ?h145⟩) hS ?r145
              case h145 => (intro w' hSw; go_simp) <;> with_reducible rfl
              case r145 =>
              try simp only [Act.put, List.setIfInBounds_toArray, List.set_cons_zero, List.set_cons_succ]
              refine wpAnyH_take (i := 16) (oi := { dst := some 4, op := Op.assign (Operand.tmp 28), type := 3, pos := "l20_draw.go:261", after := #[{ on := 13, ground := Ground.data }, { on := 15, ground := Ground.chain }, { on := 0, ground := Ground.phase }, { on := 1, ground := Ground.phase }, { on := 2, ground := Ground.phase }, { on := 3, ground := Ground.phase }, { on := 4, ground := Ground.phase }, { on := 5, ground := Ground.phase }, { on := 6, ground := Ground.phase }, { on := 7, ground := Ground.phase }, { on := 8, ground := Ground.phase }, { on := 9, ground := Ground.phase }, { on := 10, ground := Ground.phase }, { on := 11, ground := Ground.phase }, { on := 12, ground := Ground.phase }, { on := 13, ground := Ground.phase }, { on := 14, ground := Ground.phase }, { on := 15, ground := Ground.phase }], guard := none }) (v := ?v146) rfl (by kernel_rfl) (by kernel_rfl) (by kernel_rfl) (fun _ _ _ h => h) (Or.inl ⟨by rfl, ?h146⟩) hS ?r146
              case h146 => (intro w' hSw; go_simp) <;> with_reducible rfl
              case r146 =>
              try simp only [Act.put, List.setIfInBounds_toArray, List.set_cons_zero, List.set_cons_succ]
              refine wpAnyH_done (by kernel_rfl) ?_ _
              have hx := hS.2.2.2 _ rfl
              go_wp2_with fail
              exact bodyPost_ret (v := .tuple #[.agg #[.slice g us.length c], .string s, .int .i64 q]) (by simp [results, Tryz.results13, go_sem, hx]) rfl ⟨_, _, us, s, q, rfl, OwnTab.mono hS.1.2.1 (by have := hS.1.2.2.2.2.2.2.1; omega), HU.out, hs, hqw, hS.1.2.2.1⟩
            exact AllReadyH.nil
          exact AllReadyH.nil
        refine AllReadyH.cons (o := { dst := some 24, op := Op.call { callee := Callee.value (Operand.func 37), args := #[Operand.tmp 23, Operand.const (Value.int IntKind.i64 7)], argTypes := #[69, 3] }, type := 3, pos := "l20_draw.go:261", after := #[{ on := 8, ground := Ground.data }, { on := 5, ground := Ground.chain }], guard := none }) rfl (fun K hK => ?_) ?_
        · go_simp
          (go_at_call 37; refine (pick_any 7 (w.heap.size + 1) R 2 _ hR (by omega)).mono ?_; rintro e wN ⟨k3, rfl, hk, gN, rN⟩)
          have hk3 : k3 < 7 := by omega
          refine hK.out _ _ (hS.grown gN) (fun hS2 => ?_)
          clear hK K gN hk hS hR
          have hS := hS2
          have hR := rN
          clear hS2 rN
          have hk3i : (k3 : Int) < 7 := by omega
          obtain ⟨v, hv, hv5, hvl⟩ := arr_seven k3 hk3
          obtain ⟨q, hq, hqw, hql⟩ := arr_five k1 k2 v hk1 hk2 hv5
          have hv5i : (v : Int) < 5 := by omega
          try simp only [Act.put, List.setIfInBounds_toArray, List.set_cons_zero, List.set_cons_succ]
          refine wpAnyH_take (i := 10) (oi := { dst := some 25, op := Op.indexAddr 72 (Operand.tmp 22) (Operand.tmp 24), type := 0, pos := "l20_draw.go:261", after := #[{ on := 7, ground := Ground.data }, { on := 9, ground := Ground.data }, { on := 15, ground := Ground.gcOnly Departure.lateStores }], guard := none }) (v := ?v148) rfl (by kernel_rfl) (by kernel_rfl) (by kernel_rfl) (fun _ _ _ h => h) (Or.inl ⟨by rfl, ?h148⟩) hS ?r148
          case h148 => (intro w' hSw; go_simp) <;> with_reducible rfl
          case r148 =>
          try simp only [Act.put, List.setIfInBounds_toArray, List.set_cons_zero, List.set_cons_succ]
          refine wpAnyH_take (i := 11) (oi := { dst := some 26, op := Op.load 3 (Operand.tmp 25), type := 3, pos := "l20_draw.go:261", after := #[{ on := 10, ground := Ground.data }, { on := 15, ground := Ground.gcOnly Departure.lateStores }], guard := none }) (v := ?v149) rfl (by kernel_rfl) (by kernel_rfl) (by kernel_rfl) (fun _ _ _ h => h) (Or.inl ⟨by rfl, ?h149⟩) hS ?r149
          case h149 => (intro w' hSw; have h0 := (hSw.2.1 bB rfl).2 k3; rw [hv] at h0; go_simp) <;> with_reducible rfl
          case r149 =>
          try simp only [Act.put, List.setIfInBounds_toArray, List.set_cons_zero, List.set_cons_succ]
          refine wpAnyH_ready (rs := [6, 14]) (by kernel_rfl) (by simp) ?_
          refine AllReadyH.cons (o := { dst := some 21, op := Op.buildSlice 72 5 #[(0, Operand.tmp 18), (1, Operand.tmp 20), (2, Operand.const (Value.int IntKind.i64 (-1))), (3, Operand.const (Value.int IntKind.i64 9223372036854775807)), (4, Operand.const (Value.int IntKind.i64 0))], type := 72, pos := "l20_draw.go:261", after := #[{ on := 3, ground := Ground.data }, { on := 5, ground := Ground.data }, { on := 15, ground := Ground.gcOnly Departure.lateStores }], guard := none }) rfl (fun K hK => ?_) ?_
          · obtain ⟨bA, hbA⟩ : ∃ b, b = wN.heap.size := ⟨_, rfl⟩
            have hS3 := hS.newA (k1 := k1) (k2 := k2) hbA
            go_simp
            rw [← hbA]
            refine hK.out _ _ (hS.alloc _) (fun _ => ?_)
            clear hK K
            refine wpAnyH_hand (S' := SS w w.heap.size R T w1.heap.size (.slice g us.length c) us (some bB) (some (bA, k1, k2)) none) (F := fun W' => SS w w.heap.size R T w1.heap.size (.slice g us.length c) us (some bB) (some (bA, k1, k2)) none W' ∧ Rd (w.heap.size + 1) R 3 W') (fun w' h' => ⟨h'.1, h'.2.1, fun b e => (by cases e), h'.2.2.2⟩) ⟨hS3 _, rd_alloc hR _⟩ ?_
            clear hS hR hS3 hbA
            rintro X149 ⟨hS, hR⟩
            try simp only [Act.put, List.setIfInBounds_toArray, List.set_cons_zero, List.set_cons_succ]
            refine wpAnyH_take (i := 12) (oi := { dst := some 27, op := Op.indexAddr 72 (Operand.tmp 21) (Operand.tmp 26), type := 0, pos := "l20_draw.go:261", after := #[{ on := 6, ground := Ground.data }, { on := 11, ground := Ground.data }, { on := 15, ground := Ground.gcOnly Departure.lateStores }], guard := none }) (v := ?v151) rfl (by kernel_rfl) (by kernel_rfl) (by kernel_rfl) (fun _ _ _ h => h) (Or.inl ⟨by rfl, ?h151⟩) hS ?r151
            case h151 => (intro w' hSw; go_simp) <;> with_reducible rfl
            case r151 =>
            try simp only [Act.put, List.setIfInBounds_toArray, List.set_cons_zero, List.set_cons_succ]
            refine wpAnyH_take (i := 13) (oi := { dst := some 28, op := Op.load 3 (Operand.tmp 27), type := 3, pos := "l20_draw.go:261", after := #[{ on := 12, ground := Ground.data }, { on := 15, ground := Ground.gcOnly Departure.lateStores }], guard := none }) (v := ?v152) rfl (by kernel_rfl) (by kernel_rfl) (by kernel_rfl) (fun _ _ _ h => h) (Or.inl ⟨by rfl, ?h152⟩) hS ?r152
            case h152 => (intro w' hSw; have h0 := (hSw.2.2.1 (bA, k1, k2) rfl).2 v; rw [hq] at h0; go_simp) <;> with_reducible rfl
            case r152 =>
            try simp only [Act.put, List.setIfInBounds_toArray, List.set_cons_zero, List.set_cons_succ]
            refine wpAnyH_ready (rs := [14]) (by kernel_rfl) (by simp) ?_
            refine AllReadyH.cons (o := { dst := none, op := Op.store 25 (Operand.tmp 2) (Operand.tmp 15), type := 0, pos := "l20_draw.go:261", after := #[{ on := 0, ground := Ground.data }, { on := 9, ground := Ground.chain }, { on := 0, ground := Ground.phase }, { on := 1, ground := Ground.textOnly Departure.lateStores }, { on := 2, ground := Ground.textOnly Departure.lateStores }, { on := 3, ground := Ground.textOnly Departure.lateStoresUnsure }, { on := 4, ground := Ground.textOnly Departure.lateStores }, { on := 5, ground := Ground.textOnly Departure.lateStoresUnsure }, { on := 6, ground := Ground.textOnly Departure.lateStores }, { on := 7, ground := Ground.textOnly Departure.lateStores }, { on := 8, ground := Ground.textOnly Departure.lateStores }, { on := 9, ground := Ground.textOnly Departure.lateStoresUnsure }, { on := 10, ground := Ground.textOnly Departure.lateStores }, { on := 11, ground := Ground.textOnly Departure.lateStores }, { on := 12, ground := Ground.textOnly Departure.lateStores }, { on := 13, ground := Ground.textOnly Departure.lateStores }], guard := none }) rfl (fun K hK => ?_) ?_
            · obtain ⟨xv, hx⟩ := hS.1.2.2.2.1
              have hxf := hS.1.2.2.2.2.1
              go_simp
              refine hK.out _ _ (hS.setx _) (fun _ => ?_)
              clear hK K
              refine wpAnyH_hand (S' := SS w w.heap.size R T w1.heap.size (.slice g us.length c) us (some bB) (some (bA, k1, k2)) (some (.slice g us.length c))) (F := SS w w.heap.size R T w1.heap.size (.slice g us.length c) us (some bB) (some (bA, k1, k2)) (some (.slice g us.length c))) (fun w' h' => ⟨h'.1, h'.2.1, h'.2.2.1, fun v e => (by cases e)⟩) (hS.setv _) ?_
              clear hS hR hx hxf
              rintro X152 hS
              have hR : True := trivial
              try simp only [Act.put, List.setIfInBounds_toArray, List.set_cons_zero, List.set_cons_succ]
              refine wpAnyH_take (i := 15) (oi := { dst := some 3, op := Op.assign (Operand.tmp 16), type := 9, pos := "l20_draw.go:261", after := #[{ on := 1, ground := Ground.data }, { on := 14, ground := Ground.chain }, { on := 0, ground := Ground.phase }, { on := 1, ground := Ground.phase }, { on := 2, ground := Ground.textOnly Departure.lateStores }, { on := 3, ground := Ground.textOnly Departure.lateStoresUnsure }, { on := 4, ground := Ground.textOnly Departure.lateStores }, { on := 5, ground := Ground.textOnly Departure.lateStoresUnsure }, { on := 6, ground := Ground.textOnly Departure.lateStores }, { on := 7, ground := Ground.textOnly Departure.lateStores }, { on := 8, ground := Ground.textOnly Departure.lateStores }, { on := 9, ground := Ground.textOnly Departure.lateStoresUnsure }, { on := 10, ground := Ground.textOnly Departure.lateStores }, { on := 11, ground := Ground.textOnly Departure.lateStores }, { on := 12, ground := Ground.textOnly Departure.lateStores }, { on := 13, ground := Ground.textOnly Departure.lateStores }, { on := 14, ground := Ground.phase }], guard := none }) (v := ?v154) rfl (by kernel_rfl) (by kernel_rfl) (by kernel_rfl) (fun _ _ _ h => h) (Or.inl ⟨by rfl, ?h154⟩) hS ?r154
              case h154 => (intro w' hSw; go_simp) <;> with_reducible rfl
              case r154 =>
              try simp only [Act.put, List.setIfInBounds_toArray, List.set_cons_zero, List.set_cons_succ]
              refine wpAnyH_take (i := 16) (oi := { dst := some 4, op := Op.assign (Operand.tmp 28), type := 3, pos := "l20_draw.go:261", after := #[{ on := 13, ground := Ground.data }, { on := 15, ground := Ground.chain }, { on := 0, ground := Ground.phase }, { on := 1, ground := Ground.phase }, { on := 2, ground := Ground.phase }, { on := 3, ground := Ground.phase }, { on := 4, ground := Ground.phase }, { on := 5, ground := Ground.phase }, { on := 6, ground := Ground.phase }, { on := 7, ground := Ground.phase }, { on := 8, ground := Ground.phase }, { on := 9, ground := Ground.phase }, { on := 10, ground := Ground.phase }, { on := 11, ground := Ground.phase }, { on := 12, ground := Ground.phase }, { on := 13, ground := Ground.phase }, { on := 14, ground := Ground.phase }, { on := 15, ground := Ground.phase }], guard := none }) (v := ?v155) rfl (by kernel_rfl) (by kernel_rfl) (by kernel_rfl) (fun _ _ _ h => h) (Or.inl ⟨by rfl, ?h155⟩) hS ?r155
              case h155 => (intro w' hSw; go_simp) <;> with_reducible rfl
              case r155 =>
              try simp only [Act.put, List.setIfInBounds_toArray, List.set_cons_zero, List.set_cons_succ]
              refine wpAnyH_done (by kernel_rfl) ?_ _
              have hx := hS.2.2.2 _ rfl
              go_wp2_with fail
              exact bodyPost_ret (v := .tuple #[.agg #[.slice g us.length c], .string s, .int .i64 q]) (by simp [results, Tryz.results13, go_sem, hx]) rfl ⟨_, _, us, s, q, rfl, OwnTab.mono hS.1.2.1 (by have := hS.1.2.2.2.2.2.2.1; omega), HU.out, hs, hqw, hS.1.2.2.1⟩
            exact AllReadyH.nil
          refine AllReadyH.cons (o := { dst := none, op := Op.store 25 (Operand.tmp 2) (Operand.tmp 15), type := 0, pos := "l20_draw.go:261", after := #[{ on := 0, ground := Ground.data }, { on := 9, ground := Ground.chain }, { on := 0, ground := Ground.phase }, { on := 1, ground := Ground.textOnly Departure.lateStores }, { on := 2, ground := Ground.textOnly Departure.lateStores }, { on := 3, ground := Ground.textOnly Departure.lateStoresUnsure }, { on := 4, ground := Ground.textOnly Departure.lateStores }, { on := 5, ground := Ground.textOnly Departure.lateStoresUnsure }, { on := 6, ground := Ground.textOnly Departure.lateStores }, { on := 7, ground := Ground.textOnly Departure.lateStores }, { on := 8, ground := Ground.textOnly Departure.lateStores }, { on := 9, ground := Ground.textOnly Departure.lateStoresUnsure }, { on := 10, ground := Ground.textOnly Departure.lateStores }, { on := 11, ground := Ground.textOnly Departure.lateStores }, { on := 12, ground := Ground.textOnly Departure.lateStores }, { on := 13, ground := Ground.textOnly Departure.lateStores }], guard := none }) rfl (fun K hK => ?_) ?_
          · obtain ⟨xv, hx⟩ := hS.1.2.2.2.1
            have hxf := hS.1.2.2.2.2.1
            go_simp
            refine hK.out _ _ (hS.setx _) (fun _ => ?_)
            clear hK K
            refine wpAnyH_hand (S' := SS w w.heap.size R T w1.heap.size (.slice g us.length c) us (some bB) none (some (.slice g us.length c))) (F := SS w w.heap.size R T w1.heap.size (.slice g us.length c) us (some bB) none (some (.slice g us.length c))) (fun w' h' => ⟨h'.1, h'.2.1, h'.2.2.1, fun v e => (by cases e)⟩) (hS.setv _) ?_
            clear hS hR hx hxf
            rintro X155 hS
            have hR : True := trivial
            try simp only [Act.put, List.setIfInBounds_toArray, List.set_cons_zero, List.set_cons_succ]
            refine wpAnyH_take (i := 15) (oi := { dst := some 3, op := Op.assign (Operand.tmp 16), type := 9, pos := "l20_draw.go:261", after := #[{ on := 1, ground := Ground.data }, { on := 14, ground := Ground.chain }, { on := 0, ground := Ground.phase }, { on := 1, ground := Ground.phase }, { on := 2, ground := Ground.textOnly Departure.lateStores }, { on := 3, ground := Ground.textOnly Departure.lateStoresUnsure }, { on := 4, ground := Ground.textOnly Departure.lateStores }, { on := 5, ground := Ground.textOnly Departure.lateStoresUnsure }, { on := 6, ground := Ground.textOnly Departure.lateStores }, { on := 7, ground := Ground.textOnly Departure.lateStores }, { on := 8, ground := Ground.textOnly Departure.lateStores }, { on := 9, ground := Ground.textOnly Departure.lateStoresUnsure }, { on := 10, ground := Ground.textOnly Departure.lateStores }, { on := 11, ground := Ground.textOnly Departure.lateStores }, { on := 12, ground := Ground.textOnly Departure.lateStores }, { on := 13, ground := Ground.textOnly Departure.lateStores }, { on := 14, ground := Ground.phase }], guard := none }) (v := ?v157) rfl (by kernel_rfl) (by kernel_rfl) (by kernel_rfl) (fun _ _ _ h => h) (Or.inl ⟨by rfl, ?h157⟩) hS ?r157
            case h157 => (intro w' hSw; go_simp) <;> with_reducible rfl
            case r157 =>
            try simp only [Act.put, List.setIfInBounds_toArray, List.set_cons_zero, List.set_cons_succ]
            refine wpAnyH_ready (rs := [6]) (by kernel_rfl) (by simp) ?_
            refine AllReadyH.cons (o := { dst := some 21, op := Op.buildSlice 72 5 #[(0, Operand.tmp 18), (1, Operand.tmp 20), (2, Operand.const (Value.int IntKind.i64 (-1))), (3, Operand.const (Value.int IntKind.i64 9223372036854775807)), (4, Operand.const (Value.int IntKind.i64 0))], type := 72, pos := "l20_draw.go:261", after := #[{ on := 3, ground := Ground.data }, { on := 5, ground := Ground.data }, { on := 15, ground := Ground.gcOnly Departure.lateStores }], guard := none }) rfl (fun K hK => ?_) ?_
            · obtain ⟨bA, hbA⟩ : ∃ b, b = X155.heap.size := ⟨_, rfl⟩
              have hS3 := hS.newA (k1 := k1) (k2 := k2) hbA
              go_simp
              rw [← hbA]
              refine hK.out _ _ (hS.alloc _) (fun _ => ?_)
              clear hK K
              refine wpAnyH_hand (S' := SS w w.heap.size R T w1.heap.size (.slice g us.length c) us (some bB) (some (bA, k1, k2)) (some (.slice g us.length c))) (F := SS w w.heap.size R T w1.heap.size (.slice g us.length c) us (some bB) (some (bA, k1, k2)) (some (.slice g us.length c))) (fun w' h' => ⟨h'.1, h'.2.1, fun b e => (by cases e), h'.2.2.2⟩) (hS3 _) ?_
              clear hS hR hS3 hbA
              rintro X157 hS
              have hR : True := trivial
              try simp only [Act.put, List.setIfInBounds_toArray, List.set_cons_zero, List.set_cons_succ]
              refine wpAnyH_take (i := 12) (oi := { dst := some 27, op := Op.indexAddr 72 (Operand.tmp 21) (Operand.tmp 26), type := 0, pos := "l20_draw.go:261", after := #[{ on := 6, ground := Ground.data }, { on := 11, ground := Ground.data }, { on := 15, ground := Ground.gcOnly Departure.lateStores }], guard := none }) (v := ?v159) rfl (by kernel_rfl) (by kernel_rfl) (by kernel_rfl) (fun _ _ _ h => h) (Or.inl ⟨by rfl, ?h159⟩) hS ?r159
              case h159 => (intro w' hSw; go_simp) <;> with_reducible rfl
              case r159 =>
              try simp only [Act.put, List.setIfInBounds_toArray, List.set_cons_zero, List.set_cons_succ]
              refine wpAnyH_take (i := 13) (oi := { dst := some 28, op := Op.load 3 (Operand.tmp 27), type := 3, pos := "l20_draw.go:261", after := #[{ on := 12, ground := Ground.data }, { on := 15, ground := Ground.gcOnly Departure.lateStores }], guard := none }) (v := ?v160) rfl (by kernel_rfl) (by kernel_rfl) (by kernel_rfl) (fun _ _ _ h => h) (Or.inl ⟨by rfl, ?h160⟩) hS ?r160
              case h160 => (intro w' hSw; have h0 := (hSw.2.2.1 (bA, k1, k2) rfl).2 v; rw [hq] at h0; go_simp) <;> with_reducible rfl
              case r160 =>
              try simp only [Act.put, List.setIfInBounds_toArray, List.set_cons_zero, List.set_cons_succ]
              refine wpAnyH_take (i := 16) (oi := { dst := some 4, op := Op.assign (Operand.tmp 28), type := 3, pos := "l20_draw.go:261", after := #[{ on := 13, ground := Ground.data }, { on := 15, ground := Ground.chain }, { on := 0, ground := Ground.phase }, { on := 1, ground := Ground.phase }, { on := 2, ground := Ground.phase }, { on := 3, ground := Ground.phase }, { on := 4, ground := Ground.phase }, { on := 5, ground := Ground.phase }, { on := 6, ground := Ground.phase }, { on := 7, ground := Ground.phase }, { on := 8, ground := Ground.phase }, { on := 9, ground := Ground.phase }, { on := 10, ground := Ground.phase }, { on := 11, ground := Ground.phase }, { on := 12, ground := Ground.phase }, { on := 13, ground := Ground.phase }, { on := 14, ground := Ground.phase }, { on := 15, ground := Ground.phase }], guard := none }) (v := ?v161) rfl (by kernel_rfl) (by kernel_rfl) (by kernel_rfl) (fun _ _ _ h => h) (Or.inl ⟨by rfl, ?h161⟩) hS ?r161
              case h161 => (intro w' hSw; go_simp) <;> with_reducible rfl
              case r161 =>
              try simp only [Act.put, List.setIfInBounds_toArray, List.set_cons_zero, List.set_cons_succ]
              refine wpAnyH_done (by kernel_rfl) ?_ _
              have hx := hS.2.2.2 _ rfl
              go_wp2_with fail
              exact bodyPost_ret (v := .tuple #[.agg #[.slice g us.length c], .string s, .int .i64 q]) (by simp [results, Tryz.results13, go_sem, hx]) rfl ⟨_, _, us, s, q, rfl, OwnTab.mono hS.1.2.1 (by have := hS.1.2.2.2.2.2.2.1; omega), HU.out, hs, hqw, hS.1.2.2.1⟩
            exact AllReadyH.nil
          exact AllReadyH.nil
        exact AllReadyH.nil
      exact AllReadyH.nil
    exact AllReadyH.nil
  exact AllReadyH.nil

end Go.Proofs.YtbhpogddnpaacaaGreatDoor
