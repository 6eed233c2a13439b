/- Lists of elements that take several cells each, in a world. No condition. -/
import Derived.Test.YtgfkiljkpkfapaaGreatDoorRdV
namespace Go.Proofs.YtgfkiljkpkfapaaGreatDoor
open Go.RowKit

/-- The cells of a list of elements. -/
def flatC {α : Type} (c : α → List Value) (xs : List α) : List Value := (xs.map c).flatten
theorem flatC_app {α : Type} (c : α → List Value) (xs ys : List α) : flatC c (xs ++ ys) = flatC c xs ++ flatC c ys := by simp [flatC]
theorem flatC_len {α : Type} {c : α → List Value} {k : Nat} (hk : ∀ x, (c x).length = k) (xs : List α) : (flatC c xs).length = xs.length * k := by
  induction xs with
  | nil => simp [flatC]
  | cons x r ih => simp [flatC] at ih ⊢; rw [ih, hk, Nat.add_mul]; omega
theorem flatC_one {α : Type} {c : α → List Value} (h : ∀ x, ∀ u ∈ c x, u.oneCell' = true) (xs : List α) : ∀ u ∈ flatC c xs, u.oneCell' = true := by
  intro u hu
  simp only [flatC, List.mem_flatten, List.mem_map] at hu
  obtain ⟨l, ⟨x, _, rfl⟩, hu⟩ := hu
  exact h x u hu
theorem flatC_at {α : Type} {c : α → List Value} {k : Nat} (hk : ∀ x, (c x).length = k) (xs : List α) (i : Nat) (hi : i < xs.length) (j : Nat) (hj : j < k) : (flatC c xs)[i * k + j]? = (c xs[i])[j]? := by
  induction xs generalizing i with
  | nil => simp at hi
  | cons x r ih =>
    cases i with
    | zero =>
      simp only [flatC, List.map_cons, List.flatten_cons, Nat.zero_mul, Nat.zero_add, List.getElem_cons_zero]
      exact List.getElem?_append_left (by rw [hk]; exact hj)
    | succ i =>
      have := ih i (by simpa using hi)
      simp only [flatC, List.map_cons, List.flatten_cons, List.getElem_cons_succ] at this ⊢
      rw [List.getElem?_append_right (by rw [hk, Nat.add_mul]; omega), ← this]
      congr 1
      rw [hk, Nat.add_mul]; omega
/-- A slice reads as these elements. -/
def RdC {α : Type} (c : α → List Value) (w : World) (v : Value) (xs : List α) : Prop := ∃ a cap, v = .slice a xs.length cap ∧ xs.length ≤ cap ∧ (0 < xs.length → ∃ g, a = some ⟨g, 0, none⟩ ∧ RowAt w g (flatC c xs))
theorem RdC.below {α : Type} {c : α → List Value} {k : Nat} (hk : ∀ x, (c x).length = k) (h0 : 0 < k) {w w' : World} {v : Value} {xs : List α} (h : RdC c w v xs) (hb : Below w.heap.size w w') : RdC c w' v xs := by
  obtain ⟨a, cap, rfl, hc, hr⟩ := h
  refine ⟨a, cap, rfl, hc, fun hn => ?_⟩
  obtain ⟨g, rfl, hrow⟩ := hr hn
  exact ⟨g, rfl, hrow.below hb (hrow.lt (by rw [flatC_len hk]; exact Nat.mul_pos hn h0))⟩
theorem RowAt.of_own {w : World} {B n k : Nat} {e : TypeId} {v : Value} {xs : List Value} (h : w.ownsRow B e k v n xs) (hn : 0 < xs.length) : ∃ g cap, v = .slice (some ⟨g, 0, none⟩) n cap ∧ n ≤ cap ∧ B ≤ g ∧ g < w.heap.size ∧ RowAt w g xs := by
  rcases h.2 with ⟨rfl, h0⟩ | ⟨g, cap, cur, rfl, hB, hg, h2, h3, hs, ht⟩
  · have := h.1; rw [h0] at this; omega
  · refine ⟨g, cap, rfl, h2, hB, (Array.getElem?_eq_some_iff.1 hg).1, fun i hi => ?_⟩
    obtain ⟨l⟩ := cur
    have hlen := h.1
    have f0 : xs[i]? = some xs[i] := List.getElem?_eq_getElem hi
    obtain ⟨u, hu⟩ : ∃ u, u = xs[i] := ⟨_, rfl⟩
    rw [← hu] at f0 ⊢
    clear hu
    rw [← ht] at f0
    rw [List.getElem?_take_of_lt (by omega)] at f0
    exact ⟨by simp [World.cell?, hg]; exact f0, by simp [World.frozen?, hg]⟩
theorem RdC.of_own {α : Type} {c : α → List Value} {k : Nat} (hk : ∀ x, (c x).length = k) (h0 : 0 < k) {w : World} {B : Nat} {e : TypeId} {v : Value} {xs : List α} (h : w.ownsRow B e k v xs.length (flatC c xs)) : RdC c w v xs := by
  by_cases hn : 0 < xs.length
  · obtain ⟨g, cap, rfl, hc, _, _, hr⟩ := RowAt.of_own h (by rw [flatC_len hk]; exact Nat.mul_pos hn h0)
    exact ⟨_, cap, rfl, hc, fun _ => ⟨g, rfl, hr⟩⟩
  · rcases h.2 with ⟨rfl, h1⟩ | ⟨g, cap, cur, rfl, hB, hg, h2, _⟩
    · exact ⟨none, 0, by rw [h1], by omega, fun h => absurd h hn⟩
    · exact ⟨_, cap, rfl, h2, fun h => absurd h hn⟩
/-- The j-th cell of the i-th element. -/
theorem RowAt.elem {α : Type} {c : α → List Value} {k : Nat} (hk : ∀ x, (c x).length = k) {w : World} {g : Nat} {xs : List α} (h : RowAt w g (flatC c xs)) (i : Nat) (hi : i < xs.length) (j : Nat) (hj : j < k) (u : Value) (hu : (c xs[i])[j]? = some u) : w.cell? ⟨g, i * k + j, none⟩ = some u ∧ w.frozen? ⟨g, i * k + j, none⟩ = false := by
  have hl : i * k + j < (flatC c xs).length := by
    rw [flatC_len hk]
    have : (i + 1) * k ≤ xs.length * k := Nat.mul_le_mul_right _ hi
    rw [Nat.add_mul] at this
    omega
  obtain ⟨h1, h2⟩ := h _ hl
  refine ⟨?_, h2⟩
  rw [h1, ← hu, ← flatC_at hk xs i hi j hj, List.getElem?_eq_getElem hl]

end Go.Proofs.YtgfkiljkpkfapaaGreatDoor
