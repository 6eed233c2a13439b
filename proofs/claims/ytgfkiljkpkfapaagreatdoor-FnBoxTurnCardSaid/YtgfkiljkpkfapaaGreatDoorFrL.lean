/- Lists that nobody else holds: made by the call, or without elements; what marks in one of them leave of the others. No condition. -/
import Derived.Test.YtgfkiljkpkfapaaGreatDoorFlat
import Derived.Below
import Derived.Laws.AppendOwn
namespace Go.Proofs.YtgfkiljkpkfapaaGreatDoor
open Go.RowKit

/-- A list that nobody else holds. -/
def FrL {α : Type} (t : TypeId) (k : Nat) (c : α → List Value) (w : World) (B : Nat) (v : Value) (xs : List α) : Prop :=
  (xs = [] ∧ ∃ a cap, v = .slice a 0 cap ∧ (a = none → cap = 0)) ∨ w.ownsRow B t k v xs.length (flatC c xs)
section
variable {α : Type} {t : TypeId} {k : Nat} {c : α → List Value} {w w' : World} {B B' : Nat} {v : Value} {xs : List α}
theorem own_later {n : Nat} {l : List Value} (h : w.ownsRow B t k v n l) (hb : Below w.heap.size w w') : w'.ownsRow B t k v n l := by
  refine ⟨h.1, ?_⟩
  rcases h.2 with h2 | ⟨g, cap, cur, hv, hB, hg, h2, h3, hs, ht⟩
  · exact Or.inl h2
  · exact Or.inr ⟨g, cap, cur, hv, hB, (hb.block g (Array.getElem?_eq_some_iff.1 hg).1).trans hg, h2, h3, hs, ht⟩
theorem own_lower {n : Nat} {l : List Value} (h : w.ownsRow B t k v n l) (hB : B' ≤ B) : w.ownsRow B' t k v n l := by
  refine ⟨h.1, ?_⟩
  rcases h.2 with h2 | ⟨g, cap, cur, hv, hb, r⟩
  · exact Or.inl h2
  · exact Or.inr ⟨g, cap, cur, hv, by omega, r⟩
theorem own_grown {n : Nat} {l : List Value} {row : Option Nat} (h : w.ownsRow B t k v n l) (hg : w.grownBy w' row) (hne : ∀ g, v.ownBlock = some g → row ≠ some g) : w'.ownsRow B t k v n l := by
  refine ⟨h.1, ?_⟩
  rcases h.2 with h2 | ⟨g, cap, cur, hv, hB, hgg, h2, h3, hs, ht⟩
  · exact Or.inl h2
  · exact Or.inr ⟨g, cap, cur, hv, hB, (hg.block g (Array.getElem?_eq_some_iff.1 hgg).1 (fun e => hne g (by rw [hv]; rfl) e.symm)).trans hgg, h2, h3, hs, ht⟩
theorem FrL.later (h : FrL t k c w B v xs) (hb : Below w.heap.size w w') : FrL t k c w' B v xs := h.elim Or.inl fun h => Or.inr (own_later h hb)
theorem FrL.base (h : FrL t k c w B v xs) (hB : B' ≤ B) : FrL t k c w B' v xs := h.elim Or.inl fun h => Or.inr (own_lower h hB)
theorem FrL.setCell {a : Addr} (h : FrL t k c w B v xs) (ha : a.block < B) (u : Value) : FrL t k c (w.setCell a u) B v xs := h.elim Or.inl fun h => Or.inr (ownsRow_setCell_below h ha u)
theorem FrL.nil (w : World) (B : Nat) (a : Option Addr) (cap : Nat) (h : a = none → cap = 0) : FrL t k c w B (.slice a 0 cap) ([] : List α) := Or.inl ⟨rfl, a, cap, rfl, h⟩
theorem FrL.own (h : w.ownsRow B t k v xs.length (flatC c xs)) : FrL t k c w B v xs := Or.inr h
theorem FrL.rd (hk : ∀ x, (c x).length = k) (h0 : 0 < k) (h : FrL t k c w B v xs) : RdC c w v xs := by
  rcases h with ⟨rfl, a, cap, rfl, _⟩ | h
  · exact ⟨a, cap, rfl, Nat.zero_le _, fun h => by simp at h⟩
  · exact RdC.of_own hk h0 h
theorem FrL.form (h : FrL t k c w B v xs) : ∃ a cap, v = .slice a xs.length cap ∧ (a = none → cap = 0) := by
  rcases h with ⟨rfl, a, cap, rfl, hc⟩ | h
  · exact ⟨a, cap, rfl, hc⟩
  · rcases h.2 with ⟨rfl, h1⟩ | ⟨g, cap, cur, rfl, _⟩
    · exact ⟨none, 0, by rw [h1], fun _ => rfl⟩
    · exact ⟨_, cap, rfl, fun e => by cases e⟩
/-- Where its row lies. -/
theorem FrL.block (h : FrL t k c w B v xs) (hn : 0 < xs.length) : ∃ g cap cur, v = .slice (some ⟨g, 0, none⟩) xs.length cap ∧ xs.length ≤ cap ∧ B ≤ g ∧ g < w.heap.size ∧ w.heap[g]? = some (.cells cur t) ∧ (0 < k → (∀ x, (c x).length = k) → RowAt w g (flatC c xs)) := by
  rcases h with ⟨rfl, _⟩ | h
  · simp at hn
  · rcases h.2 with ⟨rfl, h1⟩ | ⟨g, cap, cur, rfl, hB, hg, h2, h3, hs, ht⟩
    · omega
    · refine ⟨g, cap, cur, rfl, h2, hB, (Array.getElem?_eq_some_iff.1 hg).1, hg, fun h0 hk => ?_⟩
      obtain ⟨g', cap', e, _, _, _, hr⟩ := RowAt.of_own h (by rw [flatC_len hk]; exact Nat.mul_pos hn h0)
      simp at e
      obtain ⟨rfl, _⟩ := e
      exact hr
theorem FrL.grown {row : Option Nat} (h : FrL t k c w B v xs) (hg : w.grownBy w' row) (hne : 0 < xs.length → ∀ g, v.ownBlock = some g → row ≠ some g) : FrL t k c w' B v xs := by
  by_cases hn : 0 < xs.length
  · exact h.elim Or.inl fun h => Or.inr (own_grown h hg (hne hn))
  · have h0 : xs = [] := List.eq_nil_of_length_eq_zero (by omega)
    subst h0
    obtain ⟨a, cap, e, hc⟩ := h.form
    exact Or.inl ⟨rfl, a, cap, e, hc⟩
end
/-- Rows of two types lie in two blocks. -/
theorem FrL.apart {α β : Type} {t t' : TypeId} {k k' : Nat} {c : α → List Value} {c' : β → List Value} {w : World} {B B' : Nat} {v v' : Value} {xs : List α} {ys : List β}
    (h : FrL t k c w B v xs) (h' : FrL t' k' c' w B' v' ys) (ht : t ≠ t') (hx : 0 < xs.length) (hy : 0 < ys.length) : ∀ g, v.ownBlock = some g → v'.ownBlock ≠ some g := by
  intro g hg hg'
  obtain ⟨g1, c1, cu1, rfl, _, _, _, h1, _⟩ := h.block hx
  obtain ⟨g2, c2, cu2, rfl, _, _, _, h2, _⟩ := h'.block hy
  simp [Value.ownBlock] at hg hg'
  subst hg hg'
  rw [h1] at h2
  simp at h2
  exact ht h2.2
theorem grown_setF {w w' : World} {b : Nat} (h : w.grownBy w' (some b)) (i : Nat) (v : Value) : w.grownBy (w'.setCell ⟨b, i, none⟩ v) (some b) :=
  ⟨h.os, h.tape, h.output, by simpa using h.size, fun k hk hne => by rw [Below.heap_setCell _ _ _ _ (fun e => hne (by rw [e]))]; exact h.block k hk hne⟩
theorem grown_later {w w1 w2 : World} {row : Option Nat} (h : w.grownBy w1 row) (hb : Below w1.heap.size w1 w2) : w.grownBy w2 row :=
  ⟨hb.os.trans h.os, hb.tape.trans h.tape, hb.output.trans h.output, Nat.le_trans h.size hb.size, fun k hk hne => (hb.block k (Nat.lt_of_lt_of_le hk h.size)).trans (h.block k hk hne)⟩
theorem below_grown {w w' : World} {B : Nat} {row : Option Nat} (hg : w.grownBy w' row) (hr : ∀ k, row = some k → B ≤ k) (hB : B ≤ w.heap.size) : Below B w w' :=
  ⟨hg.os, hg.tape, hg.output, hg.size, fun k hk => hg.block k (Nat.lt_of_lt_of_le hk hB) fun e => by have := hr k e.symm; omega⟩
theorem grown_of_below {w w' : World} {row : Option Nat} (h : Below w.heap.size w w') : w.grownBy w' row :=
  ⟨h.os, h.tape, h.output, h.size, fun k hk _ => h.block k hk⟩

end Go.Proofs.YtgfkiljkpkfapaaGreatDoor
