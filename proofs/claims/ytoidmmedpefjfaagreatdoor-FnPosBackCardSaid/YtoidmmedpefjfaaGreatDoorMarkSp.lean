/- How the law compares lists of spans, marks them and finds the marks again. Conditions: at most 2^22 spans. -/
import Derived.Test.YtoidmmedpefjfaaGreatDoorSpMem
import Derived.Deep.RegionWith
namespace Go.Proofs.YtoidmmedpefjfaaGreatDoor
open Go.RowKit

/-- The five cells of an element. -/
theorem RowAt.five {w : World} {g : Nat} {xs : List (Nat × Nat × Nat × Nat × Bool)} (h : RowAt w g (flatC spC xs)) (i : Nat) (hi : i < xs.length) (f t o u : Nat) (p : Bool) (hp : (f, t, o, u, p) = xs[i]) :
    (w.cell? ⟨g, i * 5, none⟩ = some (.int .i64 f) ∧ w.cell? ⟨g, i * 5 + 1, none⟩ = some (.int .i64 t) ∧ w.cell? ⟨g, i * 5 + 2, none⟩ = some (.int .i64 o) ∧ w.cell? ⟨g, i * 5 + 3, none⟩ = some (.int .i64 u) ∧ w.cell? ⟨g, i * 5 + 4, none⟩ = some (.bool p)) ∧
    (w.frozen? ⟨g, i * 5, none⟩ = false ∧ w.frozen? ⟨g, i * 5 + 1, none⟩ = false ∧ w.frozen? ⟨g, i * 5 + 2, none⟩ = false ∧ w.frozen? ⟨g, i * 5 + 3, none⟩ = false ∧ w.frozen? ⟨g, i * 5 + 4, none⟩ = false) := by
  have e0 := h.elem spC_len i hi 0 (by decide) (.int .i64 f) (by rw [← hp]; rfl)
  have e1 := h.elem spC_len i hi 1 (by decide) (.int .i64 t) (by rw [← hp]; rfl)
  have e2 := h.elem spC_len i hi 2 (by decide) (.int .i64 o) (by rw [← hp]; rfl)
  have e3 := h.elem spC_len i hi 3 (by decide) (.int .i64 u) (by rw [← hp]; rfl)
  have e4 := h.elem spC_len i hi 4 (by decide) (.bool p) (by rw [← hp]; rfl)
  exact ⟨⟨e0.1, e1.1, e2.1, e3.1, e4.1⟩, ⟨e0.2, e1.2, e2.2, e3.2, e4.2⟩⟩

/-- n marks of spans, from k on. -/
def marksS (k n : Nat) : List (Nat × Nat × Nat × Nat × Bool) := (List.range n).map fun i => (k + 5 * i, k + 5 * i + 1, k + 5 * i + 2, k + 5 * i + 3, decide ((k + 5 * i + 4) % 3 = 0))
theorem marksS_len (k n : Nat) : (marksS k n).length = n := by simp [marksS]
theorem marksS_at (k n i : Nat) (h : i < (marksS k n).length) : (marksS k n)[i] = (k + 5 * i, k + 5 * i + 1, k + 5 * i + 2, k + 5 * i + 3, decide ((k + 5 * i + 4) % 3 = 0)) := by simp [marksS]
theorem set_right {α : Type} (X Y : List α) (i : Nat) (v : α) : (X ++ Y).set (X.length + i) v = X ++ Y.set i v := by
  rw [List.set_append_right _ _ (by omega)]; congr 2; omega
theorem flat_set5 (A C : List (Nat × Nat × Nat × Nat × Bool)) (o p : Nat × Nat × Nat × Nat × Bool) :
    (((((flatC spC (A ++ o :: C)).set (A.length * 5) (.int .i64 p.1)).set (A.length * 5 + 1) (.int .i64 p.2.1)).set (A.length * 5 + 2) (.int .i64 p.2.2.1)).set (A.length * 5 + 3) (.int .i64 p.2.2.2.1)).set (A.length * 5 + 4) (.bool p.2.2.2.2) = flatC spC (A ++ p :: C) := by
  have hX := flatC_len spC_len A
  rw [flatC_app, flatC_app]
  obtain ⟨X, hx⟩ : ∃ X, X = flatC spC A := ⟨_, rfl⟩
  rw [← hx] at hX ⊢
  rw [← hX]
  have h0 := set_right X (flatC spC (o :: C)) 0 (.int .i64 p.1)
  simp only [Nat.add_zero] at h0
  rw [h0, set_right, set_right, set_right, set_right]
  rfl
theorem marks_next {k : Nat} {xs : List (Nat × Nat × Nat × Nat × Bool)} {j : Nat} (h : j < xs.length) :
    (marksS k xs.length).take j ++ xs.drop j = (marksS k xs.length).take j ++ xs[j] :: xs.drop (j + 1) ∧
    (marksS k xs.length).take (j + 1) ++ xs.drop (j + 1) = (marksS k xs.length).take j ++ (k + 5 * j, k + 5 * j + 1, k + 5 * j + 2, k + 5 * j + 3, decide ((k + 5 * j + 4) % 3 = 0)) :: xs.drop (j + 1) := by
  refine ⟨by rw [List.drop_eq_getElem_cons h], ?_⟩
  rw [List.take_succ_eq_append_getElem (by rw [marksS_len]; exact h), marksS_at]
  simp

theorem RowAt.mark5 {w : World} {g j : Nat} {A C : List (Nat × Nat × Nat × Nat × Bool)} {o : Nat × Nat × Nat × Nat × Bool} (h : RowAt w g (flatC spC (A ++ o :: C))) (hj : A.length = j) (p : Nat × Nat × Nat × Nat × Bool) (v0 v1 v2 v3 v4 : Value) (hv : spC p = [v0, v1, v2, v3, v4]) :
    RowAt (((((w.setCell ⟨g, j * 5, none⟩ v0).setCell ⟨g, j * 5 + 1, none⟩ v1).setCell ⟨g, j * 5 + 2, none⟩ v2).setCell ⟨g, j * 5 + 3, none⟩ v3).setCell ⟨g, j * 5 + 4, none⟩ v4) g (flatC spC (A ++ p :: C)) := by
  subst hj
  have hl : (flatC spC (A ++ o :: C)).length = (A.length + (C.length + 1)) * 5 := by rw [flatC_len spC_len]; simp
  simp only [spC, List.cons.injEq, and_true] at hv
  obtain ⟨rfl, rfl, rfl, rfl, rfl⟩ := hv
  rw [← flat_set5 A C o p]
  exact ((((h.set (by omega) _).set (by simp only [List.length_set]; omega) _).set (by simp only [List.length_set]; omega) _).set (by simp only [List.length_set]; omega) _).set (by simp only [List.length_set]; omega) _

end Go.Proofs.YtoidmmedpefjfaaGreatDoor
