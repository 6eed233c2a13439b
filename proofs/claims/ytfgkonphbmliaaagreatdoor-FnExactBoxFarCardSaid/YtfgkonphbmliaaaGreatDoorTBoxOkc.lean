/- Whether a box is ok, as the specification asks. Condition: lists and texts of at most 2^20. (Several texts, joined: OpenTab, OpenBx, ArgOwn, BoxLaw, BoxPure, MayS, SBoxOk.) -/
import Derived.Test.YtfgkonphbmliaaaGreatDoorTBoxOkb
import Derived.Deep.SlicePairs
import Derived.Lib.SmallJoins
import Derived.ChangeSame
import Derived.Test.YtfgkonphbmliaaaGreatDoorBoxMk
import Derived.Test.YtfgkonphbmliaaaGreatDoorTBoxOka
import Derived.Test.YtfgkonphbmliaaaGreatDoorRulLaw
import Derived.Test.YtfgkonphbmliaaaGreatDoorEnd
import Derived.Deep.RegionWith

/- An argument that is a table of ends, as the frame of a law hands it in: its ends lie in the machine's memory, at any address. No condition. -/
namespace Go.Proofs.YtfgkonphbmliaaaGreatDoor
open Go.ChangeShapes Go.WideShapes Go.ChangeAt Go.RowKit Go.Deep

theorem array1 {α : Type} {cs : Array α} (h : cs.size = 1) : ∃ c0, cs = #[c0] := by
  obtain ⟨l⟩ := cs
  match l, h with
  | [c0], _ => exact ⟨c0, rfl⟩

theorem cellsTabL : Tryz.prog.cellsOf 25 = 1 := by kernel_rfl
theorem cellsRowL : Tryz.prog.cellsOf 23 = 1 := by kernel_rfl
theorem cellsEndL : Tryz.prog.cellsOf 44 = 2 := by kernel_rfl
theorem cellsIntL : Tryz.prog.cellsOf 3 = 1 := by kernel_rfl
set_option maxRecDepth 100000 in
theorem tab_in {H : Type} {enc : TypeId × Value → H} {W : World} {base : Nat} {v : Value} {d : DataW H} {p : List MemPlace} (hv : Value.okWide Tryz.prog W .any base 25 v)
    (h : DataW.Trod enc Tryz.prog W 0 (fun _ => true) true 25 v d p) : ∃ (u : Value) (es : List (Int × Int)), v = .agg #[u] ∧ ArgTab W u es ∧ es.length ≤ 9223372036854775807 ∧ wfE es := by
  obtain ⟨cs, rfl, hsz⟩ := okWide_struct Tryz.underlying25 hv
  obtain ⟨c0, rfl⟩ := array1 (hsz.trans cellsTabL)
  obtain ⟨fuel, hf⟩ := h
  obtain ⟨y0, n, _, _, h0⟩ := trod_struct1 Tryz.underlying25 hf
  have h1 : DataW.trod enc Tryz.prog W 0 (fun _ => true) true n 23 [c0] = some y0 := by
    simpa [Value.cells, cellsRowL] using h0
  rcases open_slice_pairs Tryz.underlying23 Tryz.underlying44 cellsEndL rfl rfl cellsIntL cellsIntL h1 with ⟨hcs, _⟩ | ⟨a, len, cap, m, n', V0, V1, D0, D1, P0, P1, hcs, _, hl, hm, hmm, _, hcell⟩
  · simp at hcs
    subst hcs
    exact ⟨_, [], rfl, ⟨none, 0, rfl, ⟨by simp, fun _ => rfl⟩, fun h => by simp at h⟩, by simp, fun e he => by cases he⟩
  · simp at hcs
    subst hcs
    have hm2 : m = cap := by simpa using hmm
    refine ⟨_, (List.range len).map fun i => (intOf (V0 i), intOf (V1 i)), rfl, ⟨some a, cap, by simp, ⟨by simpa using hl, by simp⟩, fun hpos => ?_⟩, by have hm' : cap ≤ 9223372036854775807 := hm; simpa using Nat.le_trans hl hm', fun e he => ?_⟩
    rotate_left
    · obtain ⟨i, hi, rfl⟩ := List.mem_map.1 he
      have hi' : i < len := List.mem_range.1 hi
      obtain ⟨k0, k1, t0, t1⟩ := hcell i (by omega)
      obtain ⟨z0, e0, _, w0⟩ := DataW.trod_int Tryz.underlying3 t0
      obtain ⟨z1, e1, _, w1⟩ := DataW.trod_int Tryz.underlying3 t1
      simp at e0 e1
      rw [e0, e1]
      exact ⟨w0, w1⟩
    have each : ∀ i, i < len → W.cell? (a.add (i * 2)) = some (.int .i64 (intOf (V0 i))) ∧ W.cell? (a.add (i * 2 + 1)) = some (.int .i64 (intOf (V1 i))) := by
      intro i hi
      obtain ⟨k0, k1, t0, t1⟩ := hcell i (by omega)
      obtain ⟨z0, e0, _, _⟩ := DataW.trod_int Tryz.underlying3 t0
      obtain ⟨z1, e1, _, _⟩ := DataW.trod_int Tryz.underlying3 t1
      simp at e0 e1
      rw [e0] at k0 ⊢
      rw [e1] at k1 ⊢
      exact ⟨k0, k1⟩
    refine ⟨a, rfl, ?_, fun i hi => ?_⟩
    · have := World.block_lt_of_cell? W _ (each 0 (by simpa using hpos)).1
      rwa [Addr.add_block'] at this
    · have := each i (by simpa using hi)
      simpa using this

end Go.Proofs.YtfgkonphbmliaaaGreatDoor

/- An argument that is a box, as the frame of a law hands it in: its rules, ends and streams lie in memory, at any address. No condition. -/
namespace Go.Proofs.YtfgkonphbmliaaaGreatDoor
open Go.ChangeShapes Go.WideShapes Go.ChangeAt Go.RowKit Go.Deep

theorem array3b {α : Type} {cs : Array α} (h : cs.size = 3) : ∃ c0 c1 c2, cs = #[c0, c1, c2] := by
  obtain ⟨l⟩ := cs
  match l, h with
  | [c0, c1, c2], _ => exact ⟨c0, c1, c2, rfl⟩
theorem cellsBoxL : Tryz.prog.cellsOf 28 = 3 := by kernel_rfl
theorem cellsConL : Tryz.prog.cellsOf 133 = 7 := by kernel_rfl
theorem cellsRulsL : Tryz.prog.cellsOf 22 = 1 := by kernel_rfl
theorem cellsConsL : Tryz.prog.cellsOf 26 = 1 := by kernel_rfl
theorem cellsStrB : Tryz.prog.cellsOf 9 = 1 := by kernel_rfl

theorem end_ofB {H : Type} {enc : TypeId × Value → H} {W : World} {n : Nat} {c0 c1 : Value} {y : DataW H × List MemPlace} (h : DataW.trod enc Tryz.prog W 0 (fun _ => true) true n 44 [c0, c1] = some y) :
    ∃ a p : Int, c0 = .int .i64 a ∧ c1 = .int .i64 p ∧ (Lit.int .i64 a).wf = true ∧ (Lit.int .i64 p).wf = true := by
  obtain ⟨y0, y1, n', _, _, h0, h1⟩ := trod_struct2 Tryz.underlying44 h
  have h0' : DataW.trod enc Tryz.prog W 0 (fun _ => true) true n' 3 [c0] = some y0 := by simpa [cellsIntL] using h0
  have h1' : DataW.trod enc Tryz.prog W 0 (fun _ => true) true n' 3 [c1] = some y1 := by simpa [cellsIntL] using h1
  obtain ⟨a, e0, _, w0⟩ := DataW.trod_int Tryz.underlying3 h0'
  obtain ⟨p, e1, _, w1⟩ := DataW.trod_int Tryz.underlying3 h1'
  simp at e0 e1
  exact ⟨a, p, e0, e1, w0, w1⟩
/-- A stream's ends have numbers that are ones. -/
def cnWf1 (c : Cn) : Prop := ((Lit.int .i64 c.ia).wf = true ∧ (Lit.int .i64 c.ip).wf = true) ∧ ((Lit.int .i64 c.oa).wf = true ∧ (Lit.int .i64 c.op).wf = true)
def cnWf (l : List Cn) : Prop := ∀ c ∈ l, cnWf1 c
theorem conn_of {H : Type} {enc : TypeId × Value → H} {W : World} {n : Nat} {c0 c1 c2 c3 c4 c5 c6 : Value} {y : DataW H × List MemPlace} (h : DataW.trod enc Tryz.prog W 0 (fun _ => true) true n 133 [c0, c1, c2, c3, c4, c5, c6] = some y) :
    ∃ r : Cn, [c0, c1, c2, c3, c4, c5, c6] = cnC r ∧ (r.kn.size ≤ maxLen ∧ r.he.size ≤ maxLen ∧ r.ne.size ≤ maxLen) ∧ cnWf1 r := by
  obtain ⟨xs, n, _, _, _, hlen, hg⟩ := DataW.trod_struct Tryz.underlying133 h
  match xs, hlen with
  | [y0, y1, y2, y3, y4], _ =>
    have g0 : DataW.trod enc Tryz.prog W 0 (fun _ => true) true n 44 [c0, c1] = some y0 := by simpa [Value.cells, cellsEndL] using hg 0 _ rfl
    have g1 : DataW.trod enc Tryz.prog W 0 (fun _ => true) true n 44 [c2, c3] = some y1 := by simpa [Value.cells, cellsEndL] using hg 1 _ rfl
    have g2 : DataW.trod enc Tryz.prog W 0 (fun _ => true) true n 9 [c4] = some y2 := by simpa [Value.cells, cellsStrB] using hg 2 _ rfl
    have g3 : DataW.trod enc Tryz.prog W 0 (fun _ => true) true n 9 [c5] = some y3 := by simpa [Value.cells, cellsStrB] using hg 3 _ rfl
    have g4 : DataW.trod enc Tryz.prog W 0 (fun _ => true) true n 9 [c6] = some y4 := by simpa [Value.cells, cellsStrB] using hg 4 _ rfl
    obtain ⟨ia, ip, rfl, rfl, v0, v1⟩ := end_ofB g0
    obtain ⟨oa, op, rfl, rfl, v2, v3⟩ := end_ofB g1
    obtain ⟨kn, e2, _, w2⟩ := DataW.trod_string Tryz.underlying9 g2
    obtain ⟨he, e3, _, w3⟩ := DataW.trod_string Tryz.underlying9 g3
    obtain ⟨ne, e4, _, w4⟩ := DataW.trod_string Tryz.underlying9 g4
    simp at e2 e3 e4
    subst e2 e3 e4
    exact ⟨⟨ia, ip, oa, op, kn, he, ne⟩, rfl, ⟨w2, w3, w4⟩, ⟨v0, v1⟩, ⟨v2, v3⟩⟩

/-- Streams that came in lie in memory, at any address. -/
theorem connsArg {H : Type} {enc : TypeId × Value → H} {W : World} {n : Nat} {c0 : Value} {y : DataW H × List MemPlace} (hf : DataW.trod enc Tryz.prog W 0 (fun _ => true) true n 26 [c0] = some y) : ∃ l : List Cn, ArgCn W c0 l ∧ l.length ≤ 9223372036854775807 ∧ cnMax l ∧ cnWf l := by
  rcases open_slice Tryz.underlying26 hf with ⟨hcs, _⟩ | ⟨x, ln, cp, m, n, D, Pl, hcs, _, hl, hm, hmm, _, hcell⟩
  · simp at hcs
    subst hcs
    exact ⟨[], ⟨none, 0, rfl, ⟨Nat.le_refl _, fun _ => rfl⟩, fun h => by simp at h⟩, by simp, fun c hc => (by cases hc), fun c hc => (by cases hc)⟩
  · simp at hcs
    subst hcs
    have hm2 : m = cp := by simpa using hmm
    have each : ∀ i, i < ln → ∃ r : Cn, (∀ j u, (cnC r)[j]? = some u → W.cell? (x.add (i * 7 + j)) = some u) ∧ (r.kn.size ≤ maxLen ∧ r.he.size ≤ maxLen ∧ r.ne.size ≤ maxLen) ∧ cnWf1 r := by
      intro i hi
      obtain ⟨cs', h1, h2⟩ := hcell i (by omega)
      rw [cellsConL] at h1
      obtain ⟨_, hlen, hcc⟩ := World.cells?_some h1
      match cs', hlen with
      | [c0, c1, c2, c3, c4, c5, c6], _ =>
        obtain ⟨r, hr, hsz⟩ := conn_of h2
        refine ⟨r, fun j u hu => ?_, hsz⟩
        have hj : j < 7 := by
          have := (List.getElem?_eq_some_iff.1 hu).1
          rwa [cnC_len] at this
        have := hcc j hj
        rw [add_add, hr, hu] at this
        exact this
    have hl2 : ∀ n, n ≤ ln → ∃ l : List Cn, l.length = n ∧ (∀ i (hi : i < l.length) j u, (cnC l[i])[j]? = some u → W.cell? (x.add (i * 7 + j)) = some u) ∧ cnMax l ∧ cnWf l := by
      intro n
      induction n with
      | zero => intro _; exact ⟨[], rfl, fun i hi => by simp at hi, fun c hc => (by cases hc), fun c hc => (by cases hc)⟩
      | succ n ih =>
        intro hn
        obtain ⟨l, h1, h2, h3, h4⟩ := ih (by omega)
        obtain ⟨b, hb, hb2, hb3⟩ := each n (by omega)
        refine ⟨l ++ [b], by simp [h1], fun i hi => ?_, fun c hc => ?_, fun c hc => ?_⟩
        · by_cases e : i < l.length
          · rw [List.getElem_append_left e]; exact h2 i e
          · simp at hi
            have e2 : i = l.length := by omega
            subst e2
            rw [List.getElem_append_right (Nat.le_refl _)]
            simp only [Nat.sub_self, List.getElem_cons_zero]
            rw [h1]; exact hb
        · rw [List.mem_append] at hc
          rcases hc with hc | hc
          · exact h3 c hc
          · simp at hc
            subst hc
            exact hb2
        · rw [List.mem_append] at hc
          rcases hc with hc | hc
          · exact h4 c hc
          · simp at hc
            subst hc
            exact hb3
    obtain ⟨l, h1, h2, h3, h4⟩ := hl2 ln (Nat.le_refl _)
    subst h1
    refine ⟨l, ⟨some x, cp, rfl, ⟨hl, by simp⟩, fun hn => ⟨x, rfl, ?_, h2⟩⟩, Nat.le_trans hl (by unfold maxLen at hm; exact hm), h3, h4⟩
    have := World.block_lt_of_cell? W _ (h2 0 hn 0 _ rfl)
    rwa [add_blk] at this

/-- A table's ends that came in lie in memory, at any address. -/
theorem endsArgB {H : Type} {enc : TypeId × Value → H} {W : World} {n : Nat} {c0 : Value} {y : DataW H × List MemPlace} (h : DataW.trod enc Tryz.prog W 0 (fun _ => true) true n 25 [c0] = some y) : ∃ es : List (Int × Int), ArgTab W c0 es ∧ es.length ≤ 9223372036854775807 ∧ wfE es := by
  obtain ⟨y0, n, _, _, h0⟩ := trod_struct1 Tryz.underlying25 h
  have h1 : DataW.trod enc Tryz.prog W 0 (fun _ => true) true n 23 [c0] = some y0 := by
    simpa [Value.cells, cellsRowL] using h0
  rcases open_slice_pairs Tryz.underlying23 Tryz.underlying44 cellsEndL rfl rfl cellsIntL cellsIntL h1 with ⟨hcs, _⟩ | ⟨a, len, cap, m, n', V0, V1, D0, D1, P0, P1, hcs, _, hl, hm, hmm, _, hcell⟩
  · simp at hcs
    subst hcs
    exact ⟨[], ⟨none, 0, rfl, ⟨by simp, fun _ => rfl⟩, fun h => by simp at h⟩, by simp, fun e he => by cases he⟩
  · simp at hcs
    subst hcs
    have hm2 : m = cap := by simpa using hmm
    refine ⟨(List.range len).map fun i => (intOf (V0 i), intOf (V1 i)), ⟨some a, cap, by simp, ⟨by simpa using hl, by simp⟩, fun hpos => ?_⟩, by have hm' : cap ≤ 9223372036854775807 := hm; simpa using Nat.le_trans hl hm', fun e he => ?_⟩
    rotate_left
    · obtain ⟨i, hi, rfl⟩ := List.mem_map.1 he
      have hi' : i < len := List.mem_range.1 hi
      obtain ⟨k0, k1, t0, t1⟩ := hcell i (by omega)
      obtain ⟨z0, e0, _, w0⟩ := DataW.trod_int Tryz.underlying3 t0
      obtain ⟨z1, e1, _, w1⟩ := DataW.trod_int Tryz.underlying3 t1
      simp at e0 e1
      rw [e0, e1]
      exact ⟨w0, w1⟩
    have each : ∀ i, i < len → W.cell? (a.add (i * 2)) = some (.int .i64 (intOf (V0 i))) ∧ W.cell? (a.add (i * 2 + 1)) = some (.int .i64 (intOf (V1 i))) := by
      intro i hi
      obtain ⟨k0, k1, t0, t1⟩ := hcell i (by omega)
      obtain ⟨z0, e0, _, _⟩ := DataW.trod_int Tryz.underlying3 t0
      obtain ⟨z1, e1, _, _⟩ := DataW.trod_int Tryz.underlying3 t1
      simp at e0 e1
      rw [e0] at k0 ⊢
      rw [e1] at k1 ⊢
      exact ⟨k0, k1⟩
    refine ⟨a, rfl, ?_, fun i hi => ?_⟩
    · have := World.block_lt_of_cell? W _ (each 0 (by simpa using hpos)).1
      rwa [Addr.add_block'] at this
    · have := each i (by simpa using hi)
      simpa using this

/-- A box as it came in: its rules, its table's ends and its streams lie in memory, at any address. -/
def ArgBx (w : World) (v : Value) (b : Bx) : Prop := ∃ r t c, v = .agg #[r, t, c] ∧ ArgRl w r b.rs ∧ ArgTab w t b.es ∧ ArgCn w c b.cs
theorem ArgBx.below {w w' : World} {v : Value} {b : Bx} (h : ArgBx w v b) (hb : Below w.heap.size w w') : ArgBx w' v b := by
  obtain ⟨r, t, c, rfl, h1, h2, h3⟩ := h
  exact ⟨r, t, c, rfl, h1.below hb, h2.below hb, h3.below hb⟩
/-- Its lists are no longer than a length may be. -/
def bxMax (b : Bx) : Prop := b.rs.length ≤ 9223372036854775807 ∧ b.es.length ≤ 9223372036854775807 ∧ b.cs.length ≤ 9223372036854775807 ∧ cnMax b.cs ∧ wfE b.es ∧ cnWf b.cs

set_option maxRecDepth 100000 in
theorem box_in {H : Type} {enc : TypeId × Value → H} {W : World} {base : Nat} {v : Value} {d : DataW H} {p : List MemPlace} (hv : Value.okWide Tryz.prog W .any base 28 v)
    (h : DataW.Trod enc Tryz.prog W 0 (fun _ => true) true 28 v d p) : ∃ b : Bx, ArgBx W v b ∧ bxMax b := by
  obtain ⟨cs, rfl, hsz⟩ := okWide_struct Tryz.underlying28 hv
  obtain ⟨c0, c1, c2, rfl⟩ := array3b (hsz.trans cellsBoxL)
  obtain ⟨fuel, hf⟩ := h
  obtain ⟨xs, n, _, _, _, hlen, hg⟩ := DataW.trod_struct Tryz.underlying28 hf
  match xs, hlen with
  | [y0, y1, y2], _ =>
    have g0 : DataW.trod enc Tryz.prog W 0 (fun _ => true) true n 22 [c0] = some y0 := by simpa [Value.cells, cellsRulsL] using hg 0 _ rfl
    have g1 : DataW.trod enc Tryz.prog W 0 (fun _ => true) true n 25 [c1] = some y1 := by simpa [Value.cells, cellsTabL, cellsRulsL] using hg 1 _ rfl
    have g2 : DataW.trod enc Tryz.prog W 0 (fun _ => true) true n 26 [c2] = some y2 := by simpa [Value.cells, cellsTabL, cellsRulsL, cellsConsL] using hg 2 _ rfl
    obtain ⟨es, h1, l1, m1⟩ := endsArgB g1
    obtain ⟨cl, h2, l2, m2, m3⟩ := connsArg g2
    have hr : ∃ rs, ArgRl W c0 rs ∧ rs.length ≤ 9223372036854775807 := by
      rcases open_slice Tryz.underlying22 g0 with ⟨hcs, _⟩ | ⟨x, ln, cp, _, _, _, _, hcs, _⟩
      all_goals
        simp at hcs
        subst hcs
        exact rulsArg ⟨n, by simpa [Value.cells] using g0⟩
    obtain ⟨rs, h0, l0⟩ := hr
    exact ⟨⟨rs, es, cl⟩, ⟨c0, c1, c2, rfl, h0, h1, h2⟩, l0, l1, l2, m2, m1, m3⟩

end Go.Proofs.YtfgkonphbmliaaaGreatDoor

/- An argument's table, wherever it lies, as the program's: it lies in a block of ends alone. Condition: at most 2^22 ends. -/
namespace Go.Proofs.YtfgkonphbmliaaaGreatDoor
open Go.RowKit Go.Sort

/-- A block of ends with m cells. -/
def Shape (w : World) (g m : Nat) : Prop := ∃ l : List Value, w.heap[g]? = some (.cells ⟨l⟩ 48) ∧ l.length = m
theorem Shape.below {w w' : World} {g m : Nat} (h : Shape w g m) (hb : Below w.heap.size w w') : Shape w' g m := by
  obtain ⟨l, h1, h2⟩ := h
  exact ⟨l, (hb.block g (Array.getElem?_eq_some_iff.1 h1).1).trans h1, h2⟩
theorem Shape.set {w : World} {g m : Nat} (h : Shape w g m) (j : Nat) (u : Value) : Shape (w.setCell ⟨g, j, none⟩ u) g m := by
  obtain ⟨l, h1, h2⟩ := h
  refine ⟨l.set j u, ?_, by simpa using h2⟩
  show (w.heap.modify g _)[g]? = _
  rw [Array.getElem?_modify]
  simp [h1]
theorem shape_own {w : World} {B g n : Nat} {xs : List Value} (h : w.ownsRow B 48 2 (.slice (some ⟨g, 0, none⟩) n n) n xs) : Shape w g (n * 2) := by
  rcases h.2 with ⟨h0, _⟩ | ⟨g', cap', cur, hv, hB, hg, h2, _, hs, ht⟩
  · cases h0
  · simp at hv
    obtain ⟨rfl, rfl⟩ := hv
    obtain ⟨l⟩ := cur
    exact ⟨l, hg, by simpa using hs⟩
theorem Shape.own {w : World} {B g : Nat} {es : List (Int × Int)} (h : Shape w g (es.length * 2)) (he : EndsAt w g es) (hB : B ≤ g) (hm : es.length ≤ maxLen) : OwnTab w B (.slice (some ⟨g, 0, none⟩) es.length es.length) es := by
  obtain ⟨l, h1, h2⟩ := h
  refine ⟨flatE_len es, Or.inr ⟨g, es.length, ⟨l⟩, rfl, hB, h1, Nat.le_refl _, hm, by simpa using h2, ?_⟩⟩
  rw [List.take_of_length_le (by show l.length ≤ _; omega)]
  apply List.ext_getElem?
  intro j
  by_cases hj : j < (flatE es).length
  · have hc := he.flat j (flatE es)[j] (List.getElem?_eq_getElem hj)
    rw [List.getElem?_eq_getElem hj, ← hc]
    simp [World.cell?, h1]
  · rw [List.getElem?_eq_none (by rw [flatE_len] at hj; show l.length ≤ j; omega), List.getElem?_eq_none (by omega)]

set_option maxRecDepth 100000 in
set_option maxHeartbeats 800000 in
theorem toEndsOwn (v : Value) (es : List (Int × Int)) (w : World) (hn : es.length ≤ 4194304) (ht : ArgTab w v es) :
    Calls Tryz.prog 98 #[v] w fun e w' => ∃ u, e = .returned u ∧ (TabRoom w' w.heap.size u es ∧ OwnTab w' w.heap.size u es) ∧ Below w.heap.size w w' := by
  obtain ⟨ad, cap, rfl, hcap, hr⟩ := ht
  obtain ⟨i0, hi, hz0, hz1, hz2⟩ := info_parts infoEnd
  have HR := Lib.hid hr
  clear hr
  go_enter Tryz.func98, Tryz.ntmps98
  go_wp2_with (at_make; refine wpList_make_full _ rfl (.tmp 6) (.tmp 6) 32 rfl w.heap.size 48 i0 (.agg #[.int .i64 0, .int .i64 0]) 2 (by rfl) hi hz0 hz1 .i64 .i64 (es.length : Int) (es.length : Int) es.length (by rfl) (by rfl) rfl rfl (by rw [hz2]; omega) (by unfold maxLen; omega) (Nat.le_refl _) ?_; intro w1 hown hgrow)
  have R1 : Hid (Room w1 w.heap.size (es.length * 2) ∧ w.heap.size ≤ w.heap.size ∧ w.heap.size < w1.heap.size) := own_room hown
  have S1 : Hid (Shape w1 w.heap.size (es.length * 2)) := shape_own hown
  have B1 : Hid (Below w.heap.size w w1) := (Below.refl _ _).grown hgrow (Nat.le_refl _) (fun k hk => by cases hk)
  clear hown hgrow
  go_loopw [4] (fun i wr => ∃ k : Nat, k ≤ es.length ∧ i = .int .i64 k ∧ EndsAt wr w.heap.size (es.take k) ∧ Room wr w.heap.size (es.length * 2) ∧ Shape wr w.heap.size (es.length * 2) ∧ Below w.heap.size w wr ∧ w.heap.size < wr.heap.size) (fun i _ => es.length - (intOf i).toNat)
  case atStart => exact ⟨0, Nat.zero_le _, rfl, fun i hi => by simp at hi, R1.out.1, S1.out, B1.out, R1.out.2.2⟩
  case round =>
    obtain ⟨k, hk, rfl, he, hro, hsh, hb, hsz⟩ := hrel
    have HE := Lib.hid he
    have HO := Lib.hid hro
    have HSH := Lib.hid hsh
    clear he hro hsh
    by_cases hlt : k < es.length
    · obtain ⟨x, rfl, hx, hrow⟩ := HR.out (by omega)
      obtain ⟨r0, r1⟩ := hrow k hlt
      rw [← hb.cell (p := x.add (k * 2)) (by rw [Addr.add_block']; exact hx)] at r0
      rw [← hb.cell (p := x.add (k * 2 + 1)) (by rw [Addr.add_block']; exact hx)] at r1
      rw [← add_add', add_one'] at r1
      obtain ⟨⟨a, p⟩, hap⟩ : ∃ x, x = es[k] := ⟨_, rfl⟩
      rw [← hap] at r0 r1
      simp only at r0 r1
      have HA := Lib.hid hap
      have hk2 : (k : Int) ≤ (cap : Int) := by have := hcap.1; omega
      clear hrow hap
      go_wp2_with (go_at_call 25; refine (toEnd_any a p _).mono ?_; rintro e w2 ⟨rfl, b2⟩; have hr2 := HO.out.below b2 hsz; obtain ⟨x0, hx0⟩ := (hr2 (k * 2) (by omega)).1; have f0 := (hr2 (k * 2) (by omega)).2; obtain ⟨x1, hx1⟩ := (hr2 (k * 2 + 1) (by omega)).1; have f1 := (hr2 (k * 2 + 1) (by omega)).2)
      go_roundw
      case rel =>
        refine ⟨k + 1, by omega, by go_num, EndsAt.push (es := es) (m := es.length * 2) (by simp; omega) (by rw [List.take_take, Nat.min_eq_left (by omega)]) hk (fun h => by rw [HA.out]; simp) (HE.out.below b2 hsz) hr2 (by omega), (hr2.set (by omega) _).set (by omega) _, ((HSH.out.below b2).set _ _).set _ _, ?_, ?_⟩
        · exact ((hb.trans (b2.mono (by omega))).setCell (by simp) _).setCell (by simp) _
        · have := b2.size; simp; omega
      case measure => simp [intOf]; omega
    · have hkn : k = es.length := by omega
      subst hkn
      go_wp2
      go_ret
      refine ⟨_, rfl, ⟨⟨w.heap.size, es.length, rfl, Nat.le_refl _, Nat.le_refl _, hsz, by simpa using HE.out, HO.out⟩, HSH.out.own (by simpa using HE.out) (Nat.le_refl _) (by unfold maxLen; omega)⟩, hb⟩

set_option maxRecDepth 100000 in
set_option maxHeartbeats 800000 in
theorem toTabOwn (v : Value) (es : List (Int × Int)) (w : World) (hn : es.length ≤ 4194304) (ht : ArgTab w v es) :
    Calls Tryz.prog 40 #[.agg #[v]] w fun e w' => ∃ u, e = .returned (.agg #[u]) ∧ (TabRoom w' w.heap.size u es ∧ OwnTab w' w.heap.size u es) ∧ Below w.heap.size w w' := by
  have HT := Lib.hid ht
  obtain ⟨ad, cap, rfl, hcap, hr⟩ := ht
  clear hr
  go_enter Tryz.func40, Tryz.ntmps40
  go_wp2_with (go_at_call 98; refine (toEndsOwn _ es _ hn (HT.out.below ((((Below.refl _ _).alloc (Nat.le_refl _) _).alloc (by simp) _).alloc (by simp; omega) _))).mono ?_; rintro e w1 ⟨u, rfl, hu, b1⟩; obtain ⟨cA, cB, cC, b01, z1⟩ := cell_three b1; have t0 := (cA 0).1; have r0 := (cB 0).1; have g0 := (cB 0).2; have o0 := (cC 0).1; have p0 := (cC 0).2; simp at t0 r0 o0; obtain ⟨gu, cu, rfl, hu'⟩ : ∃ g c, u = .slice (some ⟨g, 0, none⟩) es.length c ∧ TabRoom w1 (w.heap.size + 3) u es := (by obtain ⟨g, c, q, hh⟩ := hu.1; exact ⟨g, c, q, TabRoom.mono ⟨g, c, q, hh⟩ (by simp)⟩); have HU := Lib.hid hu'; have HW : Hid (OwnTab w1 (w.heap.size + 3) (.slice (some ⟨gu, 0, none⟩) es.length cu) es) := hu.2.mono (by simp); clear hu hu' cA cB cC)
  have q0 : (w1.setCell ⟨w.heap.size + 1 + 1, 0, none⟩ (.slice (some ⟨gu, 0, none⟩) es.length cu)).cell? ⟨w.heap.size + 1, 0, none⟩ = some (.slice none 0 0) := by
    rw [World.cell?_setCell_far _ ⟨w.heap.size + 1 + 1, 0, none⟩ ⟨w.heap.size + 1, 0, none⟩ _ (by show w.heap.size + 1 + 1 ≠ w.heap.size + 1; omega)]; exact r0
  refine bodyPost_ret (v := .agg #[.slice (some ⟨gu, 0, none⟩) es.length cu]) (by simp [results, Tryz.results40, go_sem, World.cell?_setCell_same _ _ _ q0]) rfl ⟨_, rfl, ?_, ?_⟩
  · refine ⟨((HU.out.setCell (a := ⟨w.heap.size + 1 + 1, 0, none⟩) (by simp) _).setCell (a := ⟨w.heap.size + 1, 0, none⟩) (by simp) _).mono (by omega), OwnTab.mono (B := w.heap.size + 3) ?_ (by omega)⟩
    exact ownsRow_setCell_below (a := ⟨w.heap.size + 1, 0, none⟩) (ownsRow_setCell_below (a := ⟨w.heap.size + 1 + 1, 0, none⟩) HW.out (by simp) _) (by simp) _
  · exact (b01.setCell (by simp; omega) _).setCell (by simp) _

end Go.Proofs.YtfgkonphbmliaaaGreatDoor

/- A box as the law has it becomes the program's; what the law says of its size. Condition: at most 2^22 rules, ends and streams each. -/
namespace Go.Proofs.YtfgkonphbmliaaaGreatDoor
open Go.RowKit Go.Sort

/-- A box of the call's own, each list in a block of its own. -/
def OwnBx (w : World) (B : Nat) (v : Value) (b : Bx) : Prop := ∃ g1 g2 c2 g3, v = .agg #[.slice (some ⟨g1, 0, none⟩) b.rs.length b.rs.length, .slice (some ⟨g2, 0, none⟩) b.es.length c2, .slice (some ⟨g3, 0, none⟩) b.cs.length b.cs.length] ∧
  OwnRl w B (.slice (some ⟨g1, 0, none⟩) b.rs.length b.rs.length) b.rs ∧ OwnTab w B (.slice (some ⟨g2, 0, none⟩) b.es.length c2) b.es ∧ OwnCn w B (.slice (some ⟨g3, 0, none⟩) b.cs.length b.cs.length) b.cs
theorem OwnBx.fr {w : World} {B : Nat} {v : Value} {b : Bx} (h : OwnBx w B v b) : FrBx w B v b := by
  obtain ⟨g1, g2, c2, g3, rfl, h1, h2, h3⟩ := h
  exact ⟨_, _, _, rfl, FrL.own h1, h2.fr, h3.fr⟩
theorem OwnBx.rd {w : World} {B : Nat} {v : Value} {b : Bx} (h : OwnBx w B v b) : RdBx w v b := h.fr.rd
theorem OwnBx.later {w w' : World} {B : Nat} {v : Value} {b : Bx} (h : OwnBx w B v b) (hb : Below w.heap.size w w') : OwnBx w' B v b := by
  obtain ⟨g1, g2, c2, g3, rfl, h1, h2, h3⟩ := h
  exact ⟨g1, g2, c2, g3, rfl, own_later h1 hb, own_later h2 hb, own_later h3 hb⟩
theorem OwnBx.base {w : World} {B B' : Nat} {v : Value} {b : Bx} (h : OwnBx w B v b) (hB : B' ≤ B) : OwnBx w B' v b := by
  obtain ⟨g1, g2, c2, g3, rfl, h1, h2, h3⟩ := h
  exact ⟨g1, g2, c2, g3, rfl, own_lower h1 hB, own_lower h2 hB, own_lower h3 hB⟩
theorem Blk.far {w : World} {g : Nat} {t : TypeId} {l : List Value} (h : Blk w g t l) {a : Addr} (ha : a.block ≠ g) (u : Value) : Blk (w.setCell a u) g t l := by
  unfold Blk at h ⊢
  show (w.heap.modify a.block _)[g]? = _
  rw [Array.getElem?_modify, if_neg ha]
  exact h
/-- A box is small: its lists, and its texts. -/
def bxSz (b : Bx) : Prop := b.rs.length ≤ 1048576 ∧ b.es.length ≤ 1048576 ∧ b.cs.length ≤ 1048576 ∧ cnIn b.cs 1048576

set_option maxRecDepth 100000 in
set_option maxHeartbeats 3200000 in
theorem szBox_any (v : Value) (b : Bx) (w : World) (hv : ArgBx w v b) (hm : bxMax b) :
    Calls Tryz.prog 7 #[v, .int .i64 1048576] w fun e w' => ∃ z : Int, e = .returned (.int .i64 z) ∧ (z = -1 ∨ (0 ≤ z ∧ z ≤ 1048576 ∧ bxSz b)) ∧ Below w.heap.size w w' := by
  obtain ⟨r, t, c, rfl, hr, ht, hc⟩ := hv
  obtain ⟨m1, m2, m3, m4, _, _⟩ := hm
  obtain ⟨W0, hW0⟩ : ∃ W, W = w.alloc (.cells #[r, t, c] 28) := ⟨_, rfl⟩
  have hB : Below w.heap.size w W0 := by rw [hW0]; exact (Below.refl _ _).alloc (Nat.le_refl _) _
  have K1 : Hid (Blk W0 w.heap.size 28 [r, t, c]) := by rw [hW0]; exact three_new w r t c _
  have BB := Lib.hid hB
  have hs0 : W0.heap.size = w.heap.size + 1 := by rw [hW0]; simp
  obtain ⟨z1, hz1⟩ : ∃ z : Int, z = (if (1048576 : Int) < (b.rs.length : Int) then (-1 : Int) else 1048576 - (b.rs.length : Int)) := ⟨_, rfl⟩
  have H1 : Hid (∀ w, Calls Tryz.prog 21 #[r, .int .i64 1048576] w fun e w' => e = .returned (.int .i64 z1) ∧ w = w') := fun w => by
    obtain ⟨a, cap, rfl, _, _⟩ := hr
    have := szRuls_any a b.rs.length cap 1048576 w m1 (by decide) (by decide)
    rwa [← hz1] at this
  have HZ1 : Hid (¬ z1 < 0 → z1 = 1048576 - b.rs.length ∧ (b.rs.length : Int) ≤ 1048576) := fun h => by
    rw [hz1] at h ⊢
    split at h <;> rename_i hh
    · omega
    · rw [if_neg hh]; omega
  clear hz1
  have HTb := Lib.hid (ht.below hB)
  have HCn := Lib.hid (hc.below hB)
  have KK : Hid (∀ w', Below W0.heap.size W0 w' → w'.cell? ⟨w.heap.size, 0, none⟩ = some r ∧ w'.cell? ⟨w.heap.size, 1, none⟩ = some t ∧ w'.cell? ⟨w.heap.size, 2, none⟩ = some c) := fun w' h => (three_all (K1.out.below h)).1
  obtain ⟨ar, capr, rfl, -, -⟩ := hr
  obtain ⟨at', capt, rfl, -, -⟩ := ht
  obtain ⟨ac, capc, rfl, -, -⟩ := hc
  clear hB K1 hs0
  subst hW0
  go_enter Tryz.func7, Tryz.ntmps7
  go_wp2_with fail
  (go_at_call 21; refine (H1.out _).mono ?_; rintro e w1 ⟨rfl, rfl⟩)
  by_cases h1 : z1 < 0
  · go_wp2_with fail
    go_ret
    exact ⟨-1, rfl, Or.inl rfl, BB.out⟩
  have hz1' := Lib.hid (HZ1.out (by omega))
  have hz1a : z1 ≤ 1048576 := by have := hz1'.out; omega
  obtain ⟨z2, hz2⟩ : ∃ z : Int, z = (if z1 < (b.es.length : Int) then (-1 : Int) else z1 - (b.es.length : Int)) := ⟨_, rfl⟩
  have H2 : Hid (Calls Tryz.prog 35 #[.agg #[.slice at' b.es.length capt], .int .i64 z1] (w.alloc (.cells #[.slice ar b.rs.length capr, .slice at' b.es.length capt, .slice ac b.cs.length capc] 28)) fun e w' => e = .returned (.int .i64 z2) ∧ Below (w.alloc (.cells #[.slice ar b.rs.length capr, .slice at' b.es.length capt, .slice ac b.cs.length capc] 28)).heap.size (w.alloc (.cells #[.slice ar b.rs.length capr, .slice at' b.es.length capt, .slice ac b.cs.length capc] 28)) w') := by
    have := lawSzArg _ b.es z1 _ m2 (by omega) (by omega) HTb.out
    rwa [← hz2] at this
  have HZ2 : Hid (¬ z2 < 0 → z2 = z1 - b.es.length ∧ (b.es.length : Int) ≤ z1) := fun h => by
    rw [hz2] at h ⊢
    split at h <;> rename_i hh
    · omega
    · rw [if_neg hh]; omega
  clear hz2 H1 HZ1
  go_wp2_with fail
  (go_at_call 35; refine H2.out.mono ?_; rintro e w2 ⟨rfl, b2⟩)
  have B2 := Lib.hid (BB.out.trans (b2.mono BB.out.size))
  obtain ⟨k0', k1', k2'⟩ := KK.out _ b2
  have HCn2 := Lib.hid (HCn.out.below b2)
  by_cases h2 : z2 < 0
  · go_wp2_with fail
    go_ret
    exact ⟨-1, rfl, Or.inl rfl, B2.out⟩
  have hz2' := Lib.hid (HZ2.out (by omega))
  have hz2a : z2 ≤ 1048576 := by have := hz2'.out; have := hz1'.out; omega
  clear HZ2 H2
  go_wp2_with fail
  (go_at_call 36; refine (szConns_any _ b.cs z2 w2 m3 m4 (by omega) (by omega) HCn2.out).mono ?_; rintro e w3 ⟨z3, rfl, h3, b3⟩)
  have B3 := Lib.hid (B2.out.trans (b3.mono B2.out.size))
  rcases h3 with rfl | ⟨h3, h4, h5, h6⟩
  · go_wp2_with fail
    go_ret
    exact ⟨-1, rfl, Or.inl rfl, B3.out⟩
  · have h3' : ¬ z3 < 0 := by omega
    go_wp2_with fail
    go_ret
    have e1 := hz1'.out
    have e2 := hz2'.out
    exact ⟨z3, rfl, Or.inr ⟨h3, by omega, by omega, by omega, by omega, fun c hc => by have := h6 c hc; omega⟩, B3.out⟩

set_option maxRecDepth 100000 in
set_option maxHeartbeats 3200000 in
theorem toBox_any (v : Value) (b : Bx) (w : World) (hs : bxSz b) (hv : ArgBx w v b) :
    Calls Tryz.prog 9 #[v] w fun e w' => ∃ u, e = .returned u ∧ OwnBx w' w.heap.size u b ∧ Below w.heap.size w w' := by
  obtain ⟨r, t, c, rfl, hr, ht, hc⟩ := hv
  obtain ⟨m1, m2, m3, _⟩ := hs
  obtain ⟨W0, hW0⟩ : ∃ W, W = ((w.alloc (.cells #[r, t, c] 28)).alloc (.cells #[.slice none 0 0, .slice none 0 0, .slice none 0 0] 37)).alloc (.cells #[.slice none 0 0, .slice none 0 0, .slice none 0 0] 37) := ⟨_, rfl⟩
  have hB : Below w.heap.size w W0 := by rw [hW0]; exact (((Below.refl _ _).alloc (Nat.le_refl _) _).alloc (by simp) _).alloc (by simp; omega) _
  have hs0 : W0.heap.size = w.heap.size + 1 + 1 + 1 := by rw [hW0]; simp
  have K0 : Hid (Blk W0 w.heap.size 28 [r, t, c]) := by rw [hW0]; exact ((three_new w r t c _).below ((Below.refl _ _).alloc (Nat.le_refl _) _)).below ((Below.refl _ _).alloc (Nat.le_refl _) _)
  have K1 : Hid (Blk W0 (w.heap.size + 1) 37 [.slice none 0 0, .slice none 0 0, .slice none 0 0]) := by
    have h := (three_new (w.alloc (.cells #[r, t, c] 28)) (.slice none 0 0) (.slice none 0 0) (.slice none 0 0) 37).below ((Below.refl _ _).alloc (Nat.le_refl _) (.cells #[.slice none 0 0, .slice none 0 0, .slice none 0 0] 37))
    show Blk W0 (w.heap.size + 1) 37 _
    rw [hW0]
    simpa using h
  have K2 : Hid (Blk W0 (w.heap.size + 1 + 1) 37 [.slice none 0 0, .slice none 0 0, .slice none 0 0]) := by
    have h := three_new ((w.alloc (.cells #[r, t, c] 28)).alloc (.cells #[.slice none 0 0, .slice none 0 0, .slice none 0 0] 37)) (.slice none 0 0) (.slice none 0 0) (.slice none 0 0) 37
    show Blk W0 (w.heap.size + 1 + 1) 37 _
    rw [hW0]
    simpa using h
  have A0 := Lib.hid hB
  have H1 : Hid (Calls Tryz.prog 24 #[r] W0 fun e w' => ∃ g, e = .returned (.slice (some ⟨g, 0, none⟩) b.rs.length b.rs.length) ∧ OwnRl w' W0.heap.size (.slice (some ⟨g, 0, none⟩) b.rs.length b.rs.length) b.rs ∧ Below W0.heap.size W0 w') := toRulsArg r b.rs W0 (by omega) (hr.below hB)
  have HT := Lib.hid ht
  have HC := Lib.hid hc
  obtain ⟨ar, capr, rfl, -, -⟩ := hr
  obtain ⟨at', capt, rfl, -, -⟩ := ht
  obtain ⟨ac, capc, rfl, -, -⟩ := hc
  clear hB
  subst hW0
  go_enter Tryz.func9, Tryz.ntmps9
  go_wp2_with fail
  (go_at_call 24; refine H1.out.mono ?_; rintro e w1 ⟨g1, rfl, own1, b1⟩)
  rw [hs0] at own1
  have O1 : Hid (OwnRl w1 (w.heap.size + 1 + 1 + 1) (.slice (some ⟨g1, 0, none⟩) b.rs.length b.rs.length) b.rs) := own1
  have A1 := Lib.hid (A0.out.trans (b1.mono A0.out.size))
  have P1 := Lib.hid (K0.out.below b1)
  have Q1 := Lib.hid (K1.out.below b1)
  have R1 := Lib.hid (K2.out.below b1)
  have z1 : w.heap.size + 1 + 1 + 1 ≤ w1.heap.size := by have := b1.size; omega
  clear own1 b1 H1 hs0 A0 K0 K1 K2
  obtain ⟨⟨k0, k1, k2⟩, -⟩ := three_all P1.out
  obtain ⟨⟨r0, r1, r2⟩, f0, f1, f2⟩ := three_all R1.out
  go_wp2_with fail
  clear k0 k1 k2 r0 r1 r2 f0 f1 f2
  obtain ⟨W2, hW2⟩ : ∃ W, W = w1.setCell ⟨w.heap.size + 1 + 1, 0, none⟩ (.slice (some ⟨g1, 0, none⟩) b.rs.length b.rs.length) := ⟨_, rfl⟩
  rw [← hW2]
  have A2 : Hid (Below w.heap.size w W2) := by show Below w.heap.size w W2; rw [hW2]; exact A1.out.setCell (by simp; omega) _
  have O2 : Hid (OwnRl W2 (w.heap.size + 1 + 1 + 1) (.slice (some ⟨g1, 0, none⟩) b.rs.length b.rs.length) b.rs) := by show OwnRl W2 _ (.slice (some ⟨g1, 0, none⟩) b.rs.length b.rs.length) b.rs; rw [hW2]; exact ownsRow_setCell_below (a := ⟨w.heap.size + 1 + 1, 0, none⟩) O1.out (by simp) _
  have P2 : Hid (Blk W2 w.heap.size 28 [.slice ar b.rs.length capr, .slice at' b.es.length capt, .slice ac b.cs.length capc]) := by show Blk W2 _ _ _; rw [hW2]; exact P1.out.far (by simp; omega) _
  have Q2 : Hid (Blk W2 (w.heap.size + 1) 37 [.slice none 0 0, .slice none 0 0, .slice none 0 0]) := by show Blk W2 _ _ _; rw [hW2]; exact Q1.out.far (by simp) _
  have R2 : Hid (Blk W2 (w.heap.size + 1 + 1) 37 [(.slice (some ⟨g1, 0, none⟩) b.rs.length b.rs.length), .slice none 0 0, .slice none 0 0]) := by show Blk W2 _ _ _; rw [hW2]; exact R1.out.set 0 (.slice (some ⟨g1, 0, none⟩) b.rs.length b.rs.length)
  have z2 : w.heap.size + 1 + 1 + 1 ≤ W2.heap.size := by rw [hW2]; simpa using z1
  clear hW2 A1 O1 P1 Q1 R1
  (go_at_call 40; refine (toTabOwn _ b.es W2 (by omega) (HT.out.below A2.out)).mono ?_; rintro e w3 ⟨u, rfl, ⟨⟨g2, c2, rfl, -⟩, own3⟩, b3⟩)
  have T3 : Hid (OwnTab w3 (w.heap.size + 1 + 1 + 1) (.slice (some ⟨g2, 0, none⟩) b.es.length c2) b.es) := OwnTab.mono own3 z2
  have O3 := Lib.hid (own_later O2.out b3)
  have A3 := Lib.hid (A2.out.trans (b3.mono A2.out.size))
  have P3 := Lib.hid (P2.out.below b3)
  have Q3 := Lib.hid (Q2.out.below b3)
  have R3 := Lib.hid (R2.out.below b3)
  have z3 : w.heap.size + 1 + 1 + 1 ≤ w3.heap.size := by have := b3.size; omega
  clear own3 b3 A2 O2 P2 Q2 R2 HT
  obtain ⟨⟨k0, k1, k2⟩, -⟩ := three_all P3.out
  obtain ⟨⟨r0, r1, r2⟩, f0, f1, f2⟩ := three_all R3.out
  go_wp2_with fail
  clear k0 k1 k2 r0 r1 r2 f0 f1 f2
  obtain ⟨W4, hW4⟩ : ∃ W, W = w3.setCell ⟨w.heap.size + 1 + 1, 1, none⟩ (.slice (some ⟨g2, 0, none⟩) b.es.length c2) := ⟨_, rfl⟩
  rw [← hW4]
  have A4 : Hid (Below w.heap.size w W4) := by show Below w.heap.size w W4; rw [hW4]; exact A3.out.setCell (by simp; omega) _
  have O4 : Hid (OwnRl W4 (w.heap.size + 1 + 1 + 1) (.slice (some ⟨g1, 0, none⟩) b.rs.length b.rs.length) b.rs) := by show OwnRl W4 _ (.slice (some ⟨g1, 0, none⟩) b.rs.length b.rs.length) b.rs; rw [hW4]; exact ownsRow_setCell_below (a := ⟨w.heap.size + 1 + 1, 1, none⟩) O3.out (by simp) _
  have T4 : Hid (OwnTab W4 (w.heap.size + 1 + 1 + 1) (.slice (some ⟨g2, 0, none⟩) b.es.length c2) b.es) := by show OwnTab W4 _ (.slice (some ⟨g2, 0, none⟩) b.es.length c2) b.es; rw [hW4]; exact ownsRow_setCell_below (a := ⟨w.heap.size + 1 + 1, 1, none⟩) T3.out (by simp) _
  have Q4 : Hid (Blk W4 (w.heap.size + 1) 37 [.slice none 0 0, .slice none 0 0, .slice none 0 0]) := by show Blk W4 _ _ _; rw [hW4]; exact Q3.out.far (by simp) _
  have R4 : Hid (Blk W4 (w.heap.size + 1 + 1) 37 [(.slice (some ⟨g1, 0, none⟩) b.rs.length b.rs.length), (.slice (some ⟨g2, 0, none⟩) b.es.length c2), .slice none 0 0]) := by show Blk W4 _ _ _; rw [hW4]; exact R3.out.set 1 (.slice (some ⟨g2, 0, none⟩) b.es.length c2)
  have z4 : w.heap.size + 1 + 1 + 1 ≤ W4.heap.size := by rw [hW4]; simpa using z3
  clear hW4 A3 O3 T3 P3 Q3 R3
  (go_at_call 41; refine (toConnsArg _ b.cs W4 (by omega) (HC.out.below A4.out)).mono ?_; rintro e w5 ⟨g3, rfl, own5, b5⟩)
  have C5 : Hid (OwnCn w5 (w.heap.size + 1 + 1 + 1) (.slice (some ⟨g3, 0, none⟩) b.cs.length b.cs.length) b.cs) := own_lower own5 z4
  have O5 := Lib.hid (own_later O4.out b5)
  have T5 := Lib.hid (own_later T4.out b5)
  have A5 := Lib.hid (A4.out.trans (b5.mono A4.out.size))
  have Q5 := Lib.hid (Q4.out.below b5)
  have R5 := Lib.hid (R4.out.below b5)
  have z5 : w.heap.size + 1 + 1 + 1 ≤ w5.heap.size := by have := b5.size; omega
  clear own5 b5 A4 O4 T4 Q4 R4 HC
  obtain ⟨W6, hW6⟩ : ∃ W, W = w5.setCell ⟨w.heap.size + 1 + 1, 2, none⟩ (.slice (some ⟨g3, 0, none⟩) b.cs.length b.cs.length) := ⟨_, rfl⟩
  have A6 : Hid (Below w.heap.size w W6) := by show Below w.heap.size w W6; rw [hW6]; exact A5.out.setCell (by simp; omega) _
  have O6 : Hid (OwnRl W6 (w.heap.size + 1 + 1 + 1) (.slice (some ⟨g1, 0, none⟩) b.rs.length b.rs.length) b.rs) := by show OwnRl W6 _ (.slice (some ⟨g1, 0, none⟩) b.rs.length b.rs.length) b.rs; rw [hW6]; exact ownsRow_setCell_below (a := ⟨w.heap.size + 1 + 1, 2, none⟩) O5.out (by simp) _
  have T6 : Hid (OwnTab W6 (w.heap.size + 1 + 1 + 1) (.slice (some ⟨g2, 0, none⟩) b.es.length c2) b.es) := by show OwnTab W6 _ (.slice (some ⟨g2, 0, none⟩) b.es.length c2) b.es; rw [hW6]; exact ownsRow_setCell_below (a := ⟨w.heap.size + 1 + 1, 2, none⟩) T5.out (by simp) _
  have C6 : Hid (OwnCn W6 (w.heap.size + 1 + 1 + 1) (.slice (some ⟨g3, 0, none⟩) b.cs.length b.cs.length) b.cs) := by show OwnCn W6 _ (.slice (some ⟨g3, 0, none⟩) b.cs.length b.cs.length) b.cs; rw [hW6]; exact ownsRow_setCell_below (a := ⟨w.heap.size + 1 + 1, 2, none⟩) C5.out (by simp) _
  have Q6 : Hid (Blk W6 (w.heap.size + 1) 37 [.slice none 0 0, .slice none 0 0, .slice none 0 0]) := by show Blk W6 _ _ _; rw [hW6]; exact Q5.out.far (by simp) _
  obtain ⟨q0, q1, q2⟩ := (three_all (three_set Q6.out (.slice (some ⟨g1, 0, none⟩) b.rs.length b.rs.length) (.slice (some ⟨g2, 0, none⟩) b.es.length c2) (.slice (some ⟨g3, 0, none⟩) b.cs.length b.cs.length))).1
  rw [hW6] at q0 q1 q2
  obtain ⟨⟨r0, r1, r2⟩, f0, f1, f2⟩ := three_all R5.out
  obtain ⟨⟨s0, s1, s2⟩, h0, h1, h2⟩ := three_all Q5.out
  go_wp2_with fail
  refine bodyPost_ret (v := .agg #[(.slice (some ⟨g1, 0, none⟩) b.rs.length b.rs.length), (.slice (some ⟨g2, 0, none⟩) b.es.length c2), (.slice (some ⟨g3, 0, none⟩) b.cs.length b.cs.length)]) (by simp [results, Tryz.results9, go_sem, q0, q1, q2]) rfl ⟨_, rfl, ⟨g1, g2, c2, g3, rfl, ?_, ?_, ?_⟩, ?_⟩
  all_goals rw [← hW6]
  · exact own_lower (ownsRow_setCell_below (a := ⟨w.heap.size + 1, 2, none⟩) (ownsRow_setCell_below (a := ⟨w.heap.size + 1, 1, none⟩) (ownsRow_setCell_below (a := ⟨w.heap.size + 1, 0, none⟩) O6.out (by simp) _) (by simp) _) (by simp) _) (by omega)
  · exact own_lower (ownsRow_setCell_below (a := ⟨w.heap.size + 1, 2, none⟩) (ownsRow_setCell_below (a := ⟨w.heap.size + 1, 1, none⟩) (ownsRow_setCell_below (a := ⟨w.heap.size + 1, 0, none⟩) T6.out (by simp) _) (by simp) _) (by simp) _) (by omega)
  · exact own_lower (ownsRow_setCell_below (a := ⟨w.heap.size + 1, 2, none⟩) (ownsRow_setCell_below (a := ⟨w.heap.size + 1, 1, none⟩) (ownsRow_setCell_below (a := ⟨w.heap.size + 1, 0, none⟩) C6.out (by simp) _) (by simp) _) (by simp) _) (by omega)
  · exact ((A6.out.setCell (by simp) _).setCell (by simp) _).setCell (by simp) _

end Go.Proofs.YtfgkonphbmliaaaGreatDoor

/- A box's streams as the program asks of them: it is what the specification asks. No condition. -/
namespace Go.Proofs.YtfgkonphbmliaaaGreatDoor
open Go.RowKit Go.Sort

theorem portI_ins {es : List (Int × Int)} (hm : mapB es = true) {a p : Int} (h : portI es (a, p) ≠ 0) : insB a p = true := by
  by_cases hmem : (a, p) ∈ es
  · exact mapB_ins hm _ hmem
  · exact absurd (portI_not hmem) h
theorem lines_lin {l : List UInt8} (h : strB l = true) : ∀ x ∈ linesL l, linB x = true := by
  unfold strB at h
  simp only [Bool.and_eq_true] at h
  exact List.all_eq_true.1 h.1.2
theorem bakE_back {es : List (Int × Int)} {l : List UInt8} (hm : mapB es = true) (hl : linB l = true) : bakE es l = backE es l := if_pos ⟨hm, hl⟩
/-- Whether streams are ok, in the order in which the program asks. -/
def conI (es : List (Int × Int)) (c : Cn) : Bool := decide (portI es (c.ia, c.ip) ≠ 0) && outB c.oa c.op && decide (c.op = 21) && (strB c.kn.data.toList && knowB es c.kn.data.toList) && (strB c.he.data.toList && nearB es c.he.data.toList c.ne.data.toList)
theorem conI_eq {es : List (Int × Int)} (hm : mapB es = true) (c : Cn) : conI es c = conB es c := by
  unfold conI conB
  by_cases h : portI es (c.ia, c.ip) ≠ 0
  · rw [portI_ins hm h, decide_eq_true h]
    cases outB c.oa c.op <;> cases decide (c.op = 21) <;> cases strB c.kn.data.toList <;> cases strB c.he.data.toList <;> cases knowB es c.kn.data.toList <;> simp
  · rw [decide_eq_false h]
    simp
theorem findCn_form (cs : List Cn) (ia ip oa op : Int) : (findCn cs ia ip oa op = -1 ∧ ∀ j (hj : j < cs.length), sameCn cs[j] ia ip oa op = false) ∨ ∃ k, ∃ hk : k < cs.length, findCn cs ia ip oa op = (k : Int) ∧ sameCn cs[k] ia ip oa op = true ∧ ∀ j (hj : j < k), sameCn (cs[j]'(by omega)) ia ip oa op = false := by
  unfold findCn
  cases h : cs.findIdx? (fun c => sameCn c ia ip oa op) with
  | none =>
    refine Or.inl ⟨rfl, fun j hj => ?_⟩
    rw [List.findIdx?_eq_none_iff] at h
    exact h _ (List.getElem_mem hj)
  | some k =>
    rw [List.findIdx?_eq_some_iff_getElem] at h
    obtain ⟨hk, h1, h2⟩ := h
    exact Or.inr ⟨k, hk, rfl, h1, fun j hj => by simpa using h2 j hj⟩
theorem find_take {cs : List Cn} {k : Nat} (hk : k < cs.length) {ia ip oa op : Int} (hs : sameCn cs[k] ia ip oa op = true) : decide (findCn (cs.take k) ia ip oa op < 0) = decide (findCn cs ia ip oa op = (k : Int)) := by
  rcases findCn_form (cs.take k) ia ip oa op with ⟨h1, h2⟩ | ⟨j, hj, h1, h2, h3⟩
  · have hl : (cs.take k).length = k := by rw [List.length_take]; omega
    have : findCn cs ia ip oa op = k := findCn_hit hk hs fun j hj => by
      have := h2 j (by omega)
      rwa [List.getElem_take] at this
    rw [h1, this]
    simp
  · have hl : (cs.take k).length = k := by rw [List.length_take]; omega
    rw [List.getElem_take] at h2
    have hjk : j < k := by omega
    have : findCn cs ia ip oa op = j := findCn_hit (by omega) h2 fun i hi => by
      have := h3 i hi
      rwa [List.getElem_take] at this
    rw [h1, this, decide_eq_false (by omega), decide_eq_false (by omega)]
theorem connB_I {es : List (Int × Int)} (hm : mapB es = true) {cs : List Cn} {k : Nat} (hk : k < cs.length) (c : Cn) (hc : c = cs[k]) :
    connB es cs k = (decide (findCn cs c.ia c.ip c.oa c.op = (k : Int)) && conI es c) := by
  unfold connB
  rw [show cs.getD k default = c from by simp [List.getD, hk, hc], conI_eq hm, find_take hk (by rw [← hc]; simp [sameCn]), Bool.and_comm]
theorem all_no {P : Nat → Bool} {n k : Nat} (hk : k < n) (h : P k = false) : (List.range n).all P = false :=
  List.all_eq_false.2 ⟨k, by simpa using hk, by simp [h]⟩
theorem all_yes {P : Nat → Bool} {n : Nat} (h : ∀ j, j < n → P j = true) : (List.range n).all P = true :=
  List.all_eq_true.2 (fun j hj => h j (by simpa using hj))

end Go.Proofs.YtfgkonphbmliaaaGreatDoor

/- RulMay of the specification, at rules in memory and two ends. Condition: at most 2^22 rules. -/
namespace Go.Proofs.YtfgkonphbmliaaaGreatDoor
open Go.RowKit

theorem rulesB_no {l : List Rl} {k : Nat} (hk : k < l.length) (h : ruleB l[k] = false) : rulesB l = false := by
  unfold rulesB
  rw [show l.all ruleB = false from List.all_eq_false.2 ⟨l[k], List.getElem_mem _, by simp [h]⟩]; simp
theorem rulesB_yes {l : List Rl} (h5 : l.length ≤ 5) (h : ∀ r ∈ l, ruleB r = true) : rulesB l = true := by
  unfold rulesB
  rw [List.all_eq_true.2 h, decide_eq_true h5]; rfl
theorem take_all_snoc {l : List Rl} {k : Nat} (hk : k < l.length) (h : ∀ r ∈ l.take k, ruleB r = true) (h2 : ruleB l[k] = true) : ∀ r ∈ l.take (k + 1), ruleB r = true := by
  intro r hr
  rw [List.take_succ_eq_append_getElem hk] at hr
  rcases List.mem_append.1 hr with hr | hr
  · exact h r hr
  · simp at hr; subst hr; exact h2
theorem may_step {l : List Rl} {k : Nat} (hk : k < l.length) (ia oa op : Int) : mayL (l.drop k) ia oa op = if aboutB l[k] ia oa op = true then l[k].al else mayL (l.drop (k + 1)) ia oa op := by
  rw [List.drop_eq_getElem_cons hk]; rfl

set_option maxRecDepth 100000 in
set_option maxHeartbeats 1600000 in
theorem specRules_any (v : Value) (l : List Rl) (w : World) (hn : l.length ≤ 4194304) (hv : RdRl w v l) :
    Calls Tryz.prog 38 #[v] w fun e w' => e = .returned (.bool (rulesB l)) ∧ Below w.heap.size w w' := by
  obtain ⟨av, cv, rfl, hcv, hrv⟩ := hv
  have HV := Lib.hid hrv
  clear hrv
  by_cases h5 : l.length ≤ 5
  · obtain ⟨q, hq⟩ : ∃ q, q = rulesB l := ⟨_, rfl⟩
    have HQ := Lib.hid hq
    rw [← hq]
    clear hq
    go_enter Tryz.func38, Tryz.ntmps38
    go_wp2
    go_loopw [3] (fun i wr => ∃ k : Nat, k ≤ l.length ∧ i = .int .i64 k ∧ Hid (∀ r ∈ l.take k, ruleB r = true) ∧ Below w.heap.size w wr) (fun i _ => l.length - (intOf i).toNat)
    case atStart => exact ⟨0, Nat.zero_le _, rfl, fun r hr => by simp at hr, Below.refl _ _⟩
    case round =>
      obtain ⟨k, hk, rfl, HD, hb⟩ := hrel
      by_cases hlt : k < l.length
      · obtain ⟨g1, o1, rfl, hg1, hr1⟩ := HV.out (by omega)
        obtain ⟨⟨al, a, b, c, d, e, f⟩, hap⟩ : ∃ x, x = l[k] := ⟨_, rfl⟩
        obtain ⟨p0, p1, p2, p3, p4, p5, p6⟩ := rl_seven hr1 k hlt al a b c d e f hap
        rw [← hb.cell (by exact hg1)] at p0 p1 p2 p3 p4 p5 p6
        have hk1 : (k : Int) ≤ (cv : Int) := by omega
        have hk3 : (k : Int) < (l.length : Int) := by omega
        cases ht : ruleB ⟨al, a, b, c, d, e, f⟩
        · have HF : Hid (q = false) := HQ.out.trans (rulesB_no hlt (by rw [← hap]; exact ht))
          have HM : Hid (∀ w, Calls Tryz.prog 91 #[.agg #[.bool al, .int .i64 a, .int .i64 b, .int .i64 c, .int .i64 d, .int .i64 e, .int .i64 f]] w fun e w' => e = .returned (.bool false) ∧ Below w.heap.size w w') := fun w => by rw [← ht]; exact specRulOk_any al a b c d e f w
          clear hr1 hap ht
          go_wp2_with (go_at_call 91; refine (HM.out _).mono ?_; rintro e' w2 ⟨rfl, b2⟩)
          go_ret
          exact ⟨ret_bool HF.out.symm, hb.trans (b2.mono hb.size)⟩
        · have HF : Hid (∀ r ∈ l.take (k + 1), ruleB r = true) := take_all_snoc hlt HD.out (by rw [← hap]; exact ht)
          have HM : Hid (∀ w, Calls Tryz.prog 91 #[.agg #[.bool al, .int .i64 a, .int .i64 b, .int .i64 c, .int .i64 d, .int .i64 e, .int .i64 f]] w fun e w' => e = .returned (.bool true) ∧ Below w.heap.size w w') := fun w => by rw [← ht]; exact specRulOk_any al a b c d e f w
          clear hr1 hap ht
          go_wp2_with (go_at_call 91; refine (HM.out _).mono ?_; rintro e' w2 ⟨rfl, b2⟩)
          go_roundw
          case rel => exact ⟨k + 1, by omega, by go_num, HF, hb.trans (b2.mono hb.size)⟩
          case measure => simp [intOf]; omega
      · have hkn : k = l.length := by omega
        subst hkn
        have HF : Hid (q = true) := HQ.out.trans (rulesB_yes h5 (by have := HD.out; rwa [List.take_of_length_le (Nat.le_refl _)] at this))
        go_wp2
        go_ret
        exact ⟨ret_bool HF.out.symm, hb⟩
  · have HF : Hid (rulesB l = false) := by show _ = _; unfold rulesB; rw [decide_eq_false h5]; rfl
    go_enter Tryz.func38, Tryz.ntmps38
    go_wp2
    go_ret
    exact ⟨ret_bool HF.out.symm, Below.refl _ _⟩

end Go.Proofs.YtfgkonphbmliaaaGreatDoor

/- Whether a box is ok, as the specification asks. Condition: lists and texts of at most 2^20. -/
namespace Go.Proofs.YtfgkonphbmliaaaGreatDoor
open Go.RowKit Go.Sort

theorem cnSz_of {cs : List Cn} (h : cnIn cs 1048576) : cnSz cs := fun c hc => by have := h c hc; omega

set_option maxRecDepth 100000 in
set_option maxHeartbeats 3200000 in
theorem specBoxOk_any (B : Nat) (v : Value) (b : Bx) (w : World) (hs : bxSz b) (hB : B ≤ w.heap.size) (ho : OwnBx w B v b) :
    Calls Tryz.prog 8 #[v] w fun e w' => e = .returned (.bool (boxOkB b)) ∧ Below w.heap.size w w' := by
  obtain ⟨g1, g2, c2, g3, rfl, o1, o2, o3⟩ := ho
  obtain ⟨m1, m2, m3, m4⟩ := hs
  obtain ⟨W0, hW0⟩ : ∃ W, W = w.alloc (.cells #[.slice (some ⟨g1, 0, none⟩) b.rs.length b.rs.length, .slice (some ⟨g2, 0, none⟩) b.es.length c2, .slice (some ⟨g3, 0, none⟩) b.cs.length b.cs.length] 37) := ⟨_, rfl⟩
  have hA : Below w.heap.size w W0 := by rw [hW0]; exact (Below.refl _ _).alloc (Nat.le_refl _) _
  have K1 : Blk W0 w.heap.size 37 [.slice (some ⟨g1, 0, none⟩) b.rs.length b.rs.length, .slice (some ⟨g2, 0, none⟩) b.es.length c2, .slice (some ⟨g3, 0, none⟩) b.cs.length b.cs.length] := by rw [hW0]; exact three_new w _ _ _ _
  have KK : Hid (∀ w', Below W0.heap.size W0 w' → w'.cell? ⟨w.heap.size, 0, none⟩ = some (.slice (some ⟨g1, 0, none⟩) b.rs.length b.rs.length) ∧ w'.cell? ⟨w.heap.size, 1, none⟩ = some (.slice (some ⟨g2, 0, none⟩) b.es.length c2) ∧ w'.cell? ⟨w.heap.size, 2, none⟩ = some (.slice (some ⟨g3, 0, none⟩) b.cs.length b.cs.length)) := fun w' h => (three_all (K1.below h)).1
  have HA : Hid (∀ w', Below W0.heap.size W0 w' → Below w.heap.size w w') := fun w' h => hA.trans (h.mono hA.size)
  have HM : Hid (∀ w', Below w.heap.size w w' → Calls Tryz.prog 37 #[.agg #[.slice (some ⟨g2, 0, none⟩) b.es.length c2]] w' fun e w'' => e = .returned (.bool (mapB b.es)) ∧ Below w'.heap.size w' w'') := fun w' h => specMapOk_any _ b.es w' (by omega) (OwnTab.tab (own_later o2 h))
  have HR : Hid (∀ w', Below w.heap.size w w' → Calls Tryz.prog 38 #[.slice (some ⟨g1, 0, none⟩) b.rs.length b.rs.length] w' fun e w'' => e = .returned (.bool (rulesB b.rs)) ∧ Below w'.heap.size w' w'') := fun w' h => specRules_any _ b.rs w' (by omega) (o1.rd.below h)
  have HC : Hid (mapB b.es = true → ∀ k, k < b.cs.length → ∀ w', Below w.heap.size w w' → Calls Tryz.prog 39 #[.agg #[.slice (some ⟨g1, 0, none⟩) b.rs.length b.rs.length, .slice (some ⟨g2, 0, none⟩) b.es.length c2, .slice (some ⟨g3, 0, none⟩) b.cs.length b.cs.length], .int .i64 k] w' fun e w'' => e = .returned (.bool (connB b.es b.cs k)) ∧ Below w'.heap.size w' w'') := fun hm k hk w' h =>
    specConn_any B _ _ _ _ c2 b.es _ _ b.cs k w' hm (Nat.le_trans hB h.size) (own_later o2 h) (o3.rd.below h) hk (by omega) (cnSz_of m4)
  have HQ : Hid (boxOkB b = (mapB b.es && rulesB b.rs && decide (b.cs.length ≤ 3) && (List.range b.cs.length).all (connB b.es b.cs))) := rfl
  obtain ⟨Q, hQ⟩ : ∃ Q, Q = boxOkB b := ⟨_, rfl⟩
  obtain ⟨q1, e1⟩ : ∃ q, q = mapB b.es := ⟨_, rfl⟩
  obtain ⟨q2, e2⟩ : ∃ q, q = rulesB b.rs := ⟨_, rfl⟩
  obtain ⟨P, hP⟩ : ∃ P, P = connB b.es b.cs := ⟨_, rfl⟩
  obtain ⟨n1, hn1⟩ : ∃ n, n = b.rs.length := ⟨_, rfl⟩
  obtain ⟨n2, hn2⟩ : ∃ n, n = b.es.length := ⟨_, rfl⟩
  obtain ⟨n3, hn3⟩ : ∃ n, n = b.cs.length := ⟨_, rfl⟩
  rw [← hQ] at HQ ⊢
  rw [← e1] at HM HC HQ
  rw [← e2] at HR HQ
  rw [← hP] at HC HQ
  rw [← hn1] at KK HR HC hW0 ⊢
  rw [← hn2] at KK HM HC hW0 ⊢
  rw [← hn3] at KK HC HQ hW0 m3 ⊢
  have BB : Hid (Below W0.heap.size W0 W0) := Below.refl _ _
  clear hQ e1 e2 hP hn1 hn2 hn3 o1 o2 o3 m1 m2 m4 K1 hA hB
  subst hW0
  cases q1
  · have hq : Q = false := by have := HQ.out; simpa using this
    subst hq
    clear HQ HC
    go_enter Tryz.func8, Tryz.ntmps8
    go_wp2_with fail
    (go_at_call 37; refine (HM.out _ (HA.out _ BB.out)).mono ?_; rintro e w1 ⟨rfl, b1⟩)
    go_wp2_with fail
    go_ret
    exact ⟨rfl, HA.out _ b1⟩
  have HC2 := Lib.hid (HC.out rfl)
  clear HC
  cases q2
  · have hq : Q = false := by have := HQ.out; simpa using this
    subst hq
    clear HQ HC2
    go_enter Tryz.func8, Tryz.ntmps8
    go_wp2_with fail
    (go_at_call 37; refine (HM.out _ (HA.out _ BB.out)).mono ?_; rintro e w1 ⟨rfl, b1⟩)
    obtain ⟨k0, k1, k2⟩ := KK.out _ b1
    have B1 := Lib.hid b1
    clear b1
    go_wp2_with fail
    (go_at_call 38; refine (HR.out _ (HA.out _ B1.out)).mono ?_; rintro e w2 ⟨rfl, b2⟩)
    go_wp2_with fail
    go_ret
    exact ⟨rfl, HA.out _ (B1.out.trans (b2.mono B1.out.size))⟩
  by_cases h3 : 3 < n3
  · have hq : Q = false := by have := HQ.out; simpa [show ¬ n3 ≤ 3 by omega] using this
    subst hq
    clear HQ HC2
    go_enter Tryz.func8, Tryz.ntmps8
    go_wp2_with fail
    (go_at_call 37; refine (HM.out _ (HA.out _ BB.out)).mono ?_; rintro e w1 ⟨rfl, b1⟩)
    obtain ⟨k0, k1, k2⟩ := KK.out _ b1
    have B1 := Lib.hid b1
    clear b1
    go_wp2_with fail
    (go_at_call 38; refine (HR.out _ (HA.out _ B1.out)).mono ?_; rintro e w2 ⟨rfl, b2⟩)
    have B2 := Lib.hid (B1.out.trans (b2.mono B1.out.size))
    obtain ⟨k0', k1', k2'⟩ := KK.out _ B2.out
    clear b2
    go_wp2_with fail
    go_ret
    exact ⟨rfl, HA.out _ B2.out⟩
  have HQ2 : Hid (Q = (List.range n3).all P) := by
    show Q = _
    have := HQ.out
    rw [decide_eq_true (by omega : n3 ≤ 3)] at this
    simpa using this
  clear HQ
  go_enter Tryz.func8, Tryz.ntmps8
  go_wp2_with fail
  (go_at_call 37; refine (HM.out _ (HA.out _ BB.out)).mono ?_; rintro e w1 ⟨rfl, b1⟩)
  obtain ⟨k0, k1, k2⟩ := KK.out _ b1
  have B1 := Lib.hid b1
  clear b1
  go_wp2_with fail
  (go_at_call 38; refine (HR.out _ (HA.out _ B1.out)).mono ?_; rintro e w2 ⟨rfl, b2⟩)
  have B2 := Lib.hid (B1.out.trans (b2.mono B1.out.size))
  obtain ⟨k0', k1', k2'⟩ := KK.out _ B2.out
  clear b2 k0 k1 k2
  go_wp2_with fail
  clear k0' k1' k2'
  go_loopw [3] (fun i wr => ∃ k : Nat, k ≤ n3 ∧ i = .int .i64 k ∧ Hid (∀ j, j < k → P j = true) ∧ Hid (Below (w.alloc (.cells #[.slice (some ⟨g1, 0, none⟩) n1 n1, .slice (some ⟨g2, 0, none⟩) n2 c2, .slice (some ⟨g3, 0, none⟩) n3 n3] 37)).heap.size (w.alloc (.cells #[.slice (some ⟨g1, 0, none⟩) n1 n1, .slice (some ⟨g2, 0, none⟩) n2 c2, .slice (some ⟨g3, 0, none⟩) n3 n3] 37)) wr)) (fun i _ => n3 - (intOf i).toNat)
  case atStart => exact ⟨0, Nat.zero_le _, rfl, fun j hj => by omega, B2⟩
  case round =>
    obtain ⟨k, hk, rfl, HD, HB⟩ := hrel
    obtain ⟨k0, k1, k2⟩ := KK.out _ HB.out
    by_cases hlt : k < n3
    · cases hp : P k
      · have HF : Hid (Q = false) := HQ2.out.trans (all_no hlt hp)
        have HK : Hid (∀ w', Below w.heap.size w w' → Calls Tryz.prog 39 #[.agg #[.slice (some ⟨g1, 0, none⟩) n1 n1, .slice (some ⟨g2, 0, none⟩) n2 c2, .slice (some ⟨g3, 0, none⟩) n3 n3], .int .i64 k] w' fun e w'' => e = .returned (.bool false) ∧ Below w'.heap.size w' w'') := fun w' h => by have := HC2.out k hlt w' h; rwa [hp] at this
        clear hp HQ2
        go_wp2_with (go_at_call 39; refine (HK.out _ (HA.out _ HB.out)).mono ?_; rintro e w3 ⟨rfl, b3⟩)
        go_ret
        exact ⟨ret_bool HF.out.symm, HA.out _ (HB.out.trans (b3.mono HB.out.size))⟩
      · have HN : Hid (∀ j, j < k + 1 → P j = true) := fun j hj => by
          by_cases e : j = k
          · subst e; exact hp
          · exact HD.out j (by omega)
        have HK : Hid (∀ w', Below w.heap.size w w' → Calls Tryz.prog 39 #[.agg #[.slice (some ⟨g1, 0, none⟩) n1 n1, .slice (some ⟨g2, 0, none⟩) n2 c2, .slice (some ⟨g3, 0, none⟩) n3 n3], .int .i64 k] w' fun e w'' => e = .returned (.bool true) ∧ Below w'.heap.size w' w'') := fun w' h => by have := HC2.out k hlt w' h; rwa [hp] at this
        clear hp HQ2
        go_wp2_with (go_at_call 39; refine (HK.out _ (HA.out _ HB.out)).mono ?_; rintro e w3 ⟨rfl, b3⟩)
        go_roundw
        case rel => exact ⟨k + 1, by omega, by go_num, HN, HB.out.trans (b3.mono HB.out.size)⟩
        case measure => simp [intOf]; omega
    · have HT : Hid (Q = true) := HQ2.out.trans (all_yes fun j hj => HD.out j (by omega))
      have hkn : k = n3 := by omega
      clear HQ2 HD
      go_wp2
      go_ret
      exact ⟨ret_bool HT.out.symm, HA.out _ HB.out⟩

end Go.Proofs.YtfgkonphbmliaaaGreatDoor
