/- Lists of rules that the call made, how the law marks them and finds the marks again. Condition: at most 2^22 rules. -/
import Derived.Test.YtgfkiljkpkfapaaGreatDoorRulLaw
import Derived.Test.YtgfkiljkpkfapaaGreatDoorFrL
namespace Go.Proofs.YtgfkiljkpkfapaaGreatDoor
open Go.RowKit

/-- A list of rules that nobody else holds: made here, or without rules. -/
def FrRl (w : World) (B : Nat) (v : Value) (l : List Rl) : Prop := FrL 115 7 rlC w B v l
/-- A slice reads as these rules, from its block's first cell on. -/
def RcRl (w : World) (v : Value) (l : List Rl) : Prop := RdC rlC w v l
theorem RcRl.below {w w' : World} {v : Value} {l : List Rl} (h : RcRl w v l) (hb : Below w.heap.size w w') : RcRl w' v l := RdC.below rlC_len (by decide) h hb
theorem RcRl.rd {w : World} {v : Value} {l : List Rl} (h : RcRl w v l) : RdRl w v l := by
  obtain ⟨a, cap, rfl, hc, hr⟩ := h
  refine ⟨a, cap, rfl, hc, fun hn => ?_⟩
  obtain ⟨g, rfl, hrow⟩ := hr hn
  refine ⟨g, 0, rfl, hrow.lt (by rw [flatC_len rlC_len]; omega), fun i hi j u hu => ?_⟩
  have hj : j < 7 := by
    have := (List.getElem?_eq_some_iff.1 hu).1
    rwa [rlC_len] at this
  rw [Nat.zero_add]
  exact (hrow.elem rlC_len i hi j hj u hu).1
theorem FrRl.rc {w : World} {B : Nat} {v : Value} {l : List Rl} (h : FrRl w B v l) : RcRl w v l := FrL.rd rlC_len (by decide) h
theorem FrRl.rd {w : World} {B : Nat} {v : Value} {l : List Rl} (h : FrRl w B v l) : RdRl w v l := h.rc.rd

/-- The seven cells of a rule in a row. -/
theorem RowAt.rul {w : World} {g : Nat} {xs : List Rl} (h : RowAt w g (flatC rlC xs)) (i : Nat) (hi : i < xs.length) (s : Rl) (hs : s = xs[i]) :
    (w.cell? ⟨g, i * 7, none⟩ = some (.bool s.al) ∧ w.cell? ⟨g, i * 7 + 1, none⟩ = some (.int .i64 s.i) ∧ w.cell? ⟨g, i * 7 + 2, none⟩ = some (.int .i64 s.it) ∧ w.cell? ⟨g, i * 7 + 3, none⟩ = some (.int .i64 s.o) ∧ w.cell? ⟨g, i * 7 + 4, none⟩ = some (.int .i64 s.ot) ∧ w.cell? ⟨g, i * 7 + 5, none⟩ = some (.int .i64 s.p) ∧ w.cell? ⟨g, i * 7 + 6, none⟩ = some (.int .i64 s.pt)) ∧
    (w.frozen? ⟨g, i * 7, none⟩ = false ∧ w.frozen? ⟨g, i * 7 + 1, none⟩ = false ∧ w.frozen? ⟨g, i * 7 + 2, none⟩ = false ∧ w.frozen? ⟨g, i * 7 + 3, none⟩ = false ∧ w.frozen? ⟨g, i * 7 + 4, none⟩ = false ∧ w.frozen? ⟨g, i * 7 + 5, none⟩ = false ∧ w.frozen? ⟨g, i * 7 + 6, none⟩ = false) := by
  have e0 := h.elem rlC_len i hi 0 (by decide) (.bool s.al) (by rw [← hs]; rfl)
  have e1 := h.elem rlC_len i hi 1 (by decide) (.int .i64 s.i) (by rw [← hs]; rfl)
  have e2 := h.elem rlC_len i hi 2 (by decide) (.int .i64 s.it) (by rw [← hs]; rfl)
  have e3 := h.elem rlC_len i hi 3 (by decide) (.int .i64 s.o) (by rw [← hs]; rfl)
  have e4 := h.elem rlC_len i hi 4 (by decide) (.int .i64 s.ot) (by rw [← hs]; rfl)
  have e5 := h.elem rlC_len i hi 5 (by decide) (.int .i64 s.p) (by rw [← hs]; rfl)
  have e6 := h.elem rlC_len i hi 6 (by decide) (.int .i64 s.pt) (by rw [← hs]; rfl)
  exact ⟨⟨e0.1, e1.1, e2.1, e3.1, e4.1, e5.1, e6.1⟩, ⟨e0.2, e1.2, e2.2, e3.2, e4.2, e5.2, e6.2⟩⟩

/-- n marks of rules, from k on. -/
def marksR (k n : Nat) : List Rl := (List.range n).map fun i => ⟨decide ((k + 7 * i) % 3 = 0), (k + 7 * i + 1 : Nat), (k + 7 * i + 2 : Nat), (k + 7 * i + 3 : Nat), (k + 7 * i + 4 : Nat), (k + 7 * i + 5 : Nat), (k + 7 * i + 6 : Nat)⟩
theorem marksR_len (k n : Nat) : (marksR k n).length = n := by simp [marksR]
theorem marksR_at (k n i : Nat) (h : i < (marksR k n).length) : (marksR k n)[i] = ⟨decide ((k + 7 * i) % 3 = 0), (k + 7 * i + 1 : Nat), (k + 7 * i + 2 : Nat), (k + 7 * i + 3 : Nat), (k + 7 * i + 4 : Nat), (k + 7 * i + 5 : Nat), (k + 7 * i + 6 : Nat)⟩ := by simp [marksR]
theorem set_rightR {α : Type} (X Y : List α) (i : Nat) (v : α) : (X ++ Y).set (X.length + i) v = X ++ Y.set i v := by
  rw [List.set_append_right _ _ (by omega)]; congr 2; omega
theorem flat_setR (A C : List Rl) (o p : Rl) :
    ((((((((flatC rlC (A ++ o :: C)).set (A.length * 7) (.bool p.al)).set (A.length * 7 + 1) (.int .i64 p.i)).set (A.length * 7 + 2) (.int .i64 p.it)).set (A.length * 7 + 3) (.int .i64 p.o)).set (A.length * 7 + 4) (.int .i64 p.ot)).set (A.length * 7 + 5) (.int .i64 p.p)).set (A.length * 7 + 6) (.int .i64 p.pt)) = flatC rlC (A ++ p :: C) := by
  have hX := flatC_len rlC_len A
  rw [flatC_app, flatC_app]
  obtain ⟨X, hx⟩ : ∃ X, X = flatC rlC A := ⟨_, rfl⟩
  rw [← hx] at hX ⊢
  rw [← hX]
  have h0 := set_rightR X (flatC rlC (o :: C)) 0 (.bool p.al)
  simp only [Nat.add_zero] at h0
  rw [h0, set_rightR, set_rightR, set_rightR, set_rightR, set_rightR, set_rightR]
  rfl
theorem marksR_next {k : Nat} {xs : List Rl} {j : Nat} (h : j < xs.length) :
    (marksR k xs.length).take j ++ xs.drop j = (marksR k xs.length).take j ++ xs[j] :: xs.drop (j + 1) ∧
    (marksR k xs.length).take (j + 1) ++ xs.drop (j + 1) = (marksR k xs.length).take j ++ ⟨decide ((k + 7 * j) % 3 = 0), (k + 7 * j + 1 : Nat), (k + 7 * j + 2 : Nat), (k + 7 * j + 3 : Nat), (k + 7 * j + 4 : Nat), (k + 7 * j + 5 : Nat), (k + 7 * j + 6 : Nat)⟩ :: xs.drop (j + 1) := by
  refine ⟨by rw [List.drop_eq_getElem_cons h], ?_⟩
  rw [List.take_succ_eq_append_getElem (by rw [marksR_len]; exact h), marksR_at]
  simp
theorem RowAt.markR {w : World} {g j : Nat} {A C : List Rl} {o : Rl} (h : RowAt w g (flatC rlC (A ++ o :: C))) (hj : A.length = j) (p : Rl) (v0 v1 v2 v3 v4 v5 v6 : Value) (hv : rlC p = [v0, v1, v2, v3, v4, v5, v6]) :
    RowAt (((((((w.setCell ⟨g, j * 7, none⟩ v0).setCell ⟨g, j * 7 + 1, none⟩ v1).setCell ⟨g, j * 7 + 2, none⟩ v2).setCell ⟨g, j * 7 + 3, none⟩ v3).setCell ⟨g, j * 7 + 4, none⟩ v4).setCell ⟨g, j * 7 + 5, none⟩ v5).setCell ⟨g, j * 7 + 6, none⟩ v6) g (flatC rlC (A ++ p :: C)) := by
  subst hj
  have hl : (flatC rlC (A ++ o :: C)).length = (A.length + (C.length + 1)) * 7 := by rw [flatC_len rlC_len]; simp
  simp only [rlC, List.cons.injEq, and_true] at hv
  obtain ⟨rfl, rfl, rfl, rfl, rfl, rfl, rfl⟩ := hv
  rw [← flat_setR A C o p]
  exact ((((((h.set (by omega) _).set (by simp only [List.length_set]; omega) _).set (by simp only [List.length_set]; omega) _).set (by simp only [List.length_set]; omega) _).set (by simp only [List.length_set]; omega) _).set (by simp only [List.length_set]; omega) _).set (by simp only [List.length_set]; omega) _

end Go.Proofs.YtgfkiljkpkfapaaGreatDoor
