/- Segments in memory. No condition. -/
import Derived.Test.YtjnhmobdigfpiaaFlat
import Derived.Test.YtjnhmobdigfpiaaSegs
import Derived.Deep.AppendLies
namespace Go.Proofs.Ytjnhmobdigfpiaa
open Go.RowKit

/-- The cells of a segment. -/
def sgC (s : Sg) : List Value := [.int .i64 s.sa, .int .i64 s.sp, .int .i64 s.da, .int .i64 s.dp, .int .i64 s.seq, .int .i64 s.ack, .string ⟨s.data.toArray⟩]
theorem sgC_len (s : Sg) : (sgC s).length = 7 := rfl
theorem sgC_one (s : Sg) : ∀ u ∈ sgC s, u.oneCell' = true := by
  intro u hu
  simp only [sgC, List.mem_cons, List.not_mem_nil, or_false] at hu
  rcases hu with rfl | rfl | rfl | rfl | rfl | rfl | rfl <;> rfl
theorem infoSeg : (Try.prog.info? 26).map (fun i => (i.zero, i.size, i.bytes)) = some (some (.agg #[.int .i64 0, .int .i64 0, .int .i64 0, .int .i64 0, .int .i64 0, .int .i64 0, .string ⟨#[]⟩]), 7, 64) := by kernel_rfl
/-- A list of segments of the call's own. -/
def OwnSg (w : World) (B : Nat) (v : Value) (xs : List Sg) : Prop := w.ownsRow B 26 7 v xs.length (flatC sgC xs)
def RdSg (w : World) (v : Value) (xs : List Sg) : Prop := RdC sgC w v xs
theorem OwnSg.rd {w : World} {B : Nat} {v : Value} {xs : List Sg} (h : OwnSg w B v xs) : RdSg w v xs := RdC.of_own sgC_len (by decide) h
theorem RdSg.below {w w' : World} {v : Value} {xs : List Sg} (h : RdSg w v xs) (hb : Below w.heap.size w w') : RdSg w' v xs := RdC.below sgC_len (by decide) h hb
theorem OwnSg.below {w w' : World} {B : Nat} {v : Value} {xs : List Sg} (h : OwnSg w B v xs) (hb : Below w.heap.size w w') : OwnSg w' B v xs := by
  refine ⟨h.1, ?_⟩
  rcases h.2 with h2 | ⟨g, cap, cur, hv, hB, hg, h2, h3, hs, ht⟩
  · exact Or.inl h2
  · exact Or.inr ⟨g, cap, cur, hv, hB, (hb.block g (Array.getElem?_eq_some_iff.1 hg).1).trans hg, h2, h3, hs, ht⟩
theorem OwnSg.mono {w : World} {B B' : Nat} {v : Value} {xs : List Sg} (h : OwnSg w B v xs) (hB : B' ≤ B) : OwnSg w B' v xs := by
  refine ⟨h.1, ?_⟩
  rcases h.2 with h2 | ⟨g, cap, cur, hv, hb, r⟩
  · exact Or.inl h2
  · exact Or.inr ⟨g, cap, cur, hv, by omega, r⟩
theorem OwnSg.form {w : World} {B : Nat} {v : Value} {xs : List Sg} (h : OwnSg w B v xs) : ∃ a cap, v = .slice a xs.length cap := by
  obtain ⟨a, cap, e, _⟩ := h.rd
  exact ⟨a, cap, e⟩
theorem OwnSg.nil (w : World) (B : Nat) : OwnSg w B (.slice none 0 0) [] := by
  unfold OwnSg
  exact ⟨rfl, Or.inl ⟨rfl, rfl⟩⟩

/-- The seven cells of an element. -/
theorem RowAt.seven {w : World} {g : Nat} {xs : List Sg} (h : RowAt w g (flatC sgC xs)) (i : Nat) (hi : i < xs.length) (s : Sg) (hs : s = xs[i]) :
    (w.cell? ⟨g, i * 7, none⟩ = some (.int .i64 s.sa) ∧ w.cell? ⟨g, i * 7 + 1, none⟩ = some (.int .i64 s.sp) ∧ w.cell? ⟨g, i * 7 + 2, none⟩ = some (.int .i64 s.da) ∧ w.cell? ⟨g, i * 7 + 3, none⟩ = some (.int .i64 s.dp) ∧ w.cell? ⟨g, i * 7 + 4, none⟩ = some (.int .i64 s.seq) ∧ w.cell? ⟨g, i * 7 + 5, none⟩ = some (.int .i64 s.ack) ∧ w.cell? ⟨g, i * 7 + 6, none⟩ = some (.string ⟨s.data.toArray⟩)) ∧
    (w.frozen? ⟨g, i * 7, none⟩ = false ∧ w.frozen? ⟨g, i * 7 + 1, none⟩ = false ∧ w.frozen? ⟨g, i * 7 + 2, none⟩ = false ∧ w.frozen? ⟨g, i * 7 + 3, none⟩ = false ∧ w.frozen? ⟨g, i * 7 + 4, none⟩ = false ∧ w.frozen? ⟨g, i * 7 + 5, none⟩ = false ∧ w.frozen? ⟨g, i * 7 + 6, none⟩ = false) := by
  have e0 := h.elem sgC_len i hi 0 (by decide) (.int .i64 s.sa) (by rw [← hs]; rfl)
  have e1 := h.elem sgC_len i hi 1 (by decide) (.int .i64 s.sp) (by rw [← hs]; rfl)
  have e2 := h.elem sgC_len i hi 2 (by decide) (.int .i64 s.da) (by rw [← hs]; rfl)
  have e3 := h.elem sgC_len i hi 3 (by decide) (.int .i64 s.dp) (by rw [← hs]; rfl)
  have e4 := h.elem sgC_len i hi 4 (by decide) (.int .i64 s.seq) (by rw [← hs]; rfl)
  have e5 := h.elem sgC_len i hi 5 (by decide) (.int .i64 s.ack) (by rw [← hs]; rfl)
  have e6 := h.elem sgC_len i hi 6 (by decide) (.string ⟨s.data.toArray⟩) (by rw [← hs]; rfl)
  exact ⟨⟨e0.1, e1.1, e2.1, e3.1, e4.1, e5.1, e6.1⟩, ⟨e0.2, e1.2, e2.2, e3.2, e4.2, e5.2, e6.2⟩⟩

end Go.Proofs.Ytjnhmobdigfpiaa
