/- An argument that is a table of ends, as the frame of a law hands it in: its ends lie in the machine's memory, at any address. No condition. -/
import Derived.Test.YtilfpefccklebaaDoorArgTab
import Derived.Deep.SlicePairs
import Derived.Lib.SmallJoins
import Derived.ChangeSame
namespace Go.Proofs.YtilfpefccklebaaDoor
open Go.ChangeShapes Go.WideShapes Go.ChangeAt Go.RowKit Go.Deep

theorem array1 {α : Type} {cs : Array α} (h : cs.size = 1) : ∃ c0, cs = #[c0] := by
  obtain ⟨l⟩ := cs
  match l, h with
  | [c0], _ => exact ⟨c0, rfl⟩

theorem cellsTabL : Tryd.prog.cellsOf 30 = 1 := by kernel_rfl
theorem cellsRowL : Tryd.prog.cellsOf 28 = 1 := by kernel_rfl
theorem cellsEndL : Tryd.prog.cellsOf 82 = 2 := by kernel_rfl
theorem cellsIntL : Tryd.prog.cellsOf 3 = 1 := by kernel_rfl
set_option maxRecDepth 100000 in
theorem tab_in {H : Type} {enc : TypeId × Value → H} {W : World} {base : Nat} {v : Value} {d : DataW H} {p : List MemPlace} (hv : Value.okWide Tryd.prog W .any base 30 v)
    (h : DataW.Trod enc Tryd.prog W 0 (fun _ => true) true 30 v d p) : ∃ (u : Value) (es : List (Int × Int)), v = .agg #[u] ∧ ArgTab W u es ∧ es.length ≤ 9223372036854775807 ∧ wfE es := by
  obtain ⟨cs, rfl, hsz⟩ := okWide_struct Tryd.underlying30 hv
  obtain ⟨c0, rfl⟩ := array1 (hsz.trans cellsTabL)
  obtain ⟨fuel, hf⟩ := h
  obtain ⟨y0, n, _, _, h0⟩ := trod_struct1 Tryd.underlying30 hf
  have h1 : DataW.trod enc Tryd.prog W 0 (fun _ => true) true n 28 [c0] = some y0 := by
    simpa [Value.cells, cellsRowL] using h0
  rcases open_slice_pairs Tryd.underlying28 Tryd.underlying82 cellsEndL rfl rfl cellsIntL cellsIntL h1 with ⟨hcs, _⟩ | ⟨a, len, cap, m, n', V0, V1, D0, D1, P0, P1, hcs, _, hl, hm, hmm, _, hcell⟩
  · simp at hcs
    subst hcs
    exact ⟨_, [], rfl, ⟨none, 0, rfl, ⟨by simp, fun _ => rfl⟩, fun h => by simp at h⟩, by simp, fun e he => by cases he⟩
  · simp at hcs
    subst hcs
    have hm2 : m = cap := by simpa using hmm
    refine ⟨_, (List.range len).map fun i => (intOf (V0 i), intOf (V1 i)), rfl, ⟨some a, cap, by simp, ⟨by simpa using hl, by simp⟩, fun hpos => ?_⟩, by have hm' : cap ≤ 9223372036854775807 := hm; simpa using Nat.le_trans hl hm', fun e he => ?_⟩
    rotate_left
    · obtain ⟨i, hi, rfl⟩ := List.mem_map.1 he
      have hi' : i < len := List.mem_range.1 hi
      obtain ⟨k0, k1, t0, t1⟩ := hcell i (by omega)
      obtain ⟨z0, e0, _, w0⟩ := DataW.trod_int Tryd.underlying3 t0
      obtain ⟨z1, e1, _, w1⟩ := DataW.trod_int Tryd.underlying3 t1
      simp at e0 e1
      rw [e0, e1]
      exact ⟨w0, w1⟩
    have each : ∀ i, i < len → W.cell? (a.add (i * 2)) = some (.int .i64 (intOf (V0 i))) ∧ W.cell? (a.add (i * 2 + 1)) = some (.int .i64 (intOf (V1 i))) := by
      intro i hi
      obtain ⟨k0, k1, t0, t1⟩ := hcell i (by omega)
      obtain ⟨z0, e0, _, _⟩ := DataW.trod_int Tryd.underlying3 t0
      obtain ⟨z1, e1, _, _⟩ := DataW.trod_int Tryd.underlying3 t1
      simp at e0 e1
      rw [e0] at k0 ⊢
      rw [e1] at k1 ⊢
      exact ⟨k0, k1⟩
    refine ⟨a, rfl, ?_, fun i hi => ?_⟩
    · have := World.block_lt_of_cell? W _ (each 0 (by simpa using hpos)).1
      rwa [Addr.add_block'] at this
    · have := each i (by simpa using hi)
      simpa using this

end Go.Proofs.YtilfpefccklebaaDoor
