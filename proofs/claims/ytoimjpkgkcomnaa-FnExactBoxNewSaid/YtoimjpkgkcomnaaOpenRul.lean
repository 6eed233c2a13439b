/- An argument that is a rule, or rules, as the frame of a law hands it in. No condition. -/
import Derived.Test.YtoimjpkgkcomnaaRulLaw
import Derived.ProofKit
import Derived.OpenShut
import Derived.ShutString
import Derived.ChangeOld
import Derived.ChangeSame
import Derived.Lib.SmallJoins
import Derived.Carry
import Derived.Deep.Slices
namespace Go.Proofs.Ytoimjpkgkcomnaa
open Go.ChangeShapes Go.WideShapes Go.ChangeAt Go.RowKit Go.Deep

theorem array7r {α : Type} {cs : Array α} (h : cs.size = 7) : ∃ c0 c1 c2 c3 c4 c5 c6, cs = #[c0, c1, c2, c3, c4, c5, c6] := by
  obtain ⟨l⟩ := cs
  match l, h with
  | [c0, c1, c2, c3, c4, c5, c6], _ => exact ⟨c0, c1, c2, c3, c4, c5, c6, rfl⟩
theorem cellsRulL : Try.prog.cellsOf 42 = 7 := by kernel_rfl
theorem cellsIntR : Try.prog.cellsOf 3 = 1 := by kernel_rfl
theorem cellsBoolR : Try.prog.cellsOf 4 = 1 := by kernel_rfl

theorem rul_of {H : Type} {enc : TypeId × Value → H} {W : World} {n : Nat} {c0 c1 c2 c3 c4 c5 c6 : Value} {y : DataW H × List MemPlace} (h : DataW.trod enc Try.prog W 0 (fun _ => true) true n 42 [c0, c1, c2, c3, c4, c5, c6] = some y) :
    ∃ r : Rl, [c0, c1, c2, c3, c4, c5, c6] = rlC r ∧ (Lit.int .i64 r.i).wf = true ∧ (Lit.int .i64 r.it).wf = true ∧ (Lit.int .i64 r.o).wf = true ∧ (Lit.int .i64 r.ot).wf = true ∧ (Lit.int .i64 r.p).wf = true ∧ (Lit.int .i64 r.pt).wf = true := by
  obtain ⟨xs, n, _, _, _, hlen, hg⟩ := DataW.trod_struct Try.underlying42 h
  match xs, hlen with
  | [y0, y1, y2, y3, y4, y5, y6], _ =>
    have g0 : DataW.trod enc Try.prog W 0 (fun _ => true) true n 4 [c0] = some y0 := by simpa [cellsBoolR] using hg 0 _ rfl
    have g1 : DataW.trod enc Try.prog W 0 (fun _ => true) true n 3 [c1] = some y1 := by simpa [cellsIntR] using hg 1 _ rfl
    have g2 : DataW.trod enc Try.prog W 0 (fun _ => true) true n 3 [c2] = some y2 := by simpa [cellsIntR] using hg 2 _ rfl
    have g3 : DataW.trod enc Try.prog W 0 (fun _ => true) true n 3 [c3] = some y3 := by simpa [cellsIntR] using hg 3 _ rfl
    have g4 : DataW.trod enc Try.prog W 0 (fun _ => true) true n 3 [c4] = some y4 := by simpa [cellsIntR] using hg 4 _ rfl
    have g5 : DataW.trod enc Try.prog W 0 (fun _ => true) true n 3 [c5] = some y5 := by simpa [cellsIntR] using hg 5 _ rfl
    have g6 : DataW.trod enc Try.prog W 0 (fun _ => true) true n 3 [c6] = some y6 := by simpa [cellsIntR] using hg 6 _ rfl
    obtain ⟨al, e0, _⟩ := DataW.trod_bool Try.underlying4 g0
    obtain ⟨a, e1, _, w1⟩ := DataW.trod_int Try.underlying3 g1
    obtain ⟨b, e2, _, w2⟩ := DataW.trod_int Try.underlying3 g2
    obtain ⟨c, e3, _, w3⟩ := DataW.trod_int Try.underlying3 g3
    obtain ⟨d, e4, _, w4⟩ := DataW.trod_int Try.underlying3 g4
    obtain ⟨e, e5, _, w5⟩ := DataW.trod_int Try.underlying3 g5
    obtain ⟨f, e6, _, w6⟩ := DataW.trod_int Try.underlying3 g6
    simp at e0 e1 e2 e3 e4 e5 e6
    subst e0 e1 e2 e3 e4 e5 e6
    exact ⟨⟨al, a, b, c, d, e, f⟩, rfl, w1, w2, w3, w4, w5, w6⟩

set_option maxRecDepth 100000 in
theorem rul_in {H : Type} {enc : TypeId × Value → H} {W : World} {base : Nat} {v : Value} {d : DataW H} {p : List MemPlace} (hv : Value.okWide Try.prog W .any base 42 v)
    (h : DataW.Trod enc Try.prog W 0 (fun _ => true) true 42 v d p) : ∃ r : Rl, v = .agg #[.bool r.al, .int .i64 r.i, .int .i64 r.it, .int .i64 r.o, .int .i64 r.ot, .int .i64 r.p, .int .i64 r.pt] ∧ (Lit.int .i64 r.i).wf = true ∧ (Lit.int .i64 r.it).wf = true ∧ (Lit.int .i64 r.o).wf = true ∧ (Lit.int .i64 r.ot).wf = true ∧ (Lit.int .i64 r.p).wf = true ∧ (Lit.int .i64 r.pt).wf = true := by
  obtain ⟨cs, rfl, hsz⟩ := okWide_struct Try.underlying42 hv
  obtain ⟨c0, c1, c2, c3, c4, c5, c6, rfl⟩ := array7r (hsz.trans cellsRulL)
  obtain ⟨fuel, hf⟩ := h
  have hf' : DataW.trod enc Try.prog W 0 (fun _ => true) true fuel 42 [c0, c1, c2, c3, c4, c5, c6] = some (d, p) := by simpa [Value.cells] using hf
  obtain ⟨r, hr, hw⟩ := rul_of hf'
  simp only [rlC, List.cons.injEq, and_true] at hr
  obtain ⟨rfl, rfl, rfl, rfl, rfl, rfl, rfl⟩ := hr
  exact ⟨r, rfl, hw⟩

/-- Rules that came in lie in memory, at any address. -/
theorem rulsArg {H : Type} {enc : TypeId × Value → H} {W : World} {a : Option Addr} {len cap : Nat} {d : DataW H} {p : List MemPlace} (h : DataW.Trod enc Try.prog W 0 (fun _ => true) true 22 (.slice a len cap) d p) : ∃ l : List Rl, ArgRl W (.slice a len cap) l ∧ l.length ≤ 9223372036854775807 := by
  obtain ⟨fuel, hf⟩ := h
  rcases open_slice Try.underlying22 hf with ⟨hcs, _⟩ | ⟨x, ln, cp, m, n, D, Pl, hcs, _, hl, hm, hmm, _, hcell⟩
  · simp [Value.cells] at hcs
    obtain ⟨rfl, rfl, rfl⟩ := hcs
    exact ⟨[], ⟨none, 0, rfl, ⟨Nat.le_refl _, fun _ => rfl⟩, fun h => by simp at h⟩, by simp⟩
  · simp [Value.cells] at hcs
    obtain ⟨rfl, rfl, rfl⟩ := hcs
    have hm2 : m = cap := by simpa using hmm
    have each : ∀ i, i < len → ∃ r : Rl, ∀ j u, (rlC r)[j]? = some u → W.cell? (x.add (i * 7 + j)) = some u := by
      intro i hi
      obtain ⟨cs', h1, h2⟩ := hcell i (by omega)
      rw [cellsRulL] at h1
      obtain ⟨_, hlen, hcc⟩ := World.cells?_some h1
      match cs', hlen with
      | [c0, c1, c2, c3, c4, c5, c6], _ =>
        obtain ⟨r, hr, _⟩ := rul_of h2
        refine ⟨r, fun j u hu => ?_⟩
        have hj : j < 7 := by
          have := (List.getElem?_eq_some_iff.1 hu).1
          rwa [rlC_len] at this
        have := hcc j hj
        rw [add_add, hr, hu] at this
        exact this
    have hl2 : ∀ n, n ≤ len → ∃ l : List Rl, l.length = n ∧ ∀ i (hi : i < l.length) j u, (rlC l[i])[j]? = some u → W.cell? (x.add (i * 7 + j)) = some u := by
      intro n
      induction n with
      | zero => intro _; exact ⟨[], rfl, fun i hi => by simp at hi⟩
      | succ n ih =>
        intro hn
        obtain ⟨l, h1, h2⟩ := ih (by omega)
        obtain ⟨b, hb⟩ := each n (by omega)
        refine ⟨l ++ [b], by simp [h1], fun i hi => ?_⟩
        by_cases e : i < l.length
        · rw [List.getElem_append_left e]; exact h2 i e
        · simp at hi
          have e2 : i = l.length := by omega
          subst e2
          rw [List.getElem_append_right (Nat.le_refl _)]
          simp only [Nat.sub_self, List.getElem_cons_zero]
          rw [h1]; exact hb
    obtain ⟨l, h1, h2⟩ := hl2 len (Nat.le_refl _)
    subst h1
    refine ⟨l, ⟨some x, cap, rfl, ⟨hl, by simp⟩, fun hn => ⟨x, rfl, ?_, h2⟩⟩, Nat.le_trans hl (by unfold maxLen at hm; exact hm)⟩
    have := World.block_lt_of_cell? W _ (h2 0 hn 0 _ rfl)
    rwa [add_blk] at this

end Go.Proofs.Ytoimjpkgkcomnaa
