/- Tables of ends that a call owns. No condition. -/
import Derived.Test.YtgfkiljkpkfapaaGreatDoorTabs
namespace Go.Proofs.YtgfkiljkpkfapaaGreatDoor
open Go.RowKit

theorem infoEnd : (Tryz.prog.info? 31).map (fun i => (i.zero, i.size, i.bytes)) = some (some (.agg #[.int .i64 0, .int .i64 0]), 2, 16) := by kernel_rfl
/-- The cells of a list of ends. -/
def flatE : List (Int × Int) → List Value
  | [] => []
  | e :: r => .int .i64 e.1 :: .int .i64 e.2 :: flatE r
theorem flatE_len (es : List (Int × Int)) : (flatE es).length = es.length * 2 := by
  induction es with
  | nil => rfl
  | cons e r ih => simp [flatE, ih]; omega
theorem flatE_app (xs ys : List (Int × Int)) : flatE (xs ++ ys) = flatE xs ++ flatE ys := by
  induction xs with
  | nil => rfl
  | cons e r ih => simp [flatE, ih]
theorem flatE_at (es : List (Int × Int)) (i : Nat) (hi : i < es.length) : (flatE es)[i * 2]? = some (.int .i64 es[i].1) ∧ (flatE es)[i * 2 + 1]? = some (.int .i64 es[i].2) := by
  induction es generalizing i with
  | nil => simp at hi
  | cons e r ih =>
    cases i with
    | zero => simp [flatE]
    | succ k =>
      have := ih k (by simpa using hi)
      rw [show (k + 1) * 2 = k * 2 + 2 by omega]
      simpa [flatE] using this
theorem flatE_one (es : List (Int × Int)) : ∀ u ∈ flatE es, u.oneCell' = true := by
  induction es with
  | nil => intro u hu; cases hu
  | cons e r ih =>
    intro u hu
    simp only [flatE, List.mem_cons] at hu
    rcases hu with rfl | rfl | hu
    · rfl
    · rfl
    · exact ih u hu
theorem EndsAt.flat {w : World} {g : Nat} {es : List (Int × Int)} (h : EndsAt w g es) : ∀ (j : Nat) (u : Value), (flatE es)[j]? = some u → w.cell? ⟨g, j, none⟩ = some u := by
  intro j u hj
  have hlt : j < (flatE es).length := (List.getElem?_eq_some_iff.1 hj).1
  rw [flatE_len] at hlt
  obtain ⟨i, hi⟩ : ∃ i, i = j / 2 := ⟨_, rfl⟩
  have hil : i < es.length := by omega
  obtain ⟨f0, f1⟩ := flatE_at es i hil
  obtain ⟨c0, c1⟩ := h i hil
  by_cases hp : j = i * 2
  · subst hp; rw [f0] at hj; simp at hj; subst hj; exact c0
  · have : j = i * 2 + 1 := by omega
    subst this; rw [f1] at hj; simp at hj; subst hj; exact c1

/-- A table of the call's own. -/
def OwnTab (w : World) (B : Nat) (v : Value) (es : List (Int × Int)) : Prop := w.ownsRow B 31 2 v es.length (flatE es)
theorem OwnTab.form {w : World} {B : Nat} {v : Value} {es : List (Int × Int)} (h : OwnTab w B v es) : ∃ a cap, v = .slice a es.length cap := by
  rcases h.2 with ⟨rfl, h0⟩ | ⟨g, cap, _, rfl, _⟩
  · exact ⟨_, _, by rw [h0]⟩
  · exact ⟨_, _, rfl⟩
theorem OwnTab.tab {w : World} {B : Nat} {v : Value} {es : List (Int × Int)} (h : OwnTab w B v es) : TabAt w v es := by
  rcases h.2 with ⟨rfl, h0⟩ | ⟨g, cap, cur, rfl, hB, hg, h2, _, hs, ht⟩
  · exact ⟨none, 0, by rw [h0], ⟨by omega, fun _ => rfl⟩, fun hn => by omega⟩
  · refine ⟨_, cap, rfl, ⟨h2, fun e => by cases e⟩, fun _ => ⟨g, rfl, fun i hi => ?_⟩⟩
    obtain ⟨l⟩ := cur
    obtain ⟨f0, f1⟩ := flatE_at es i hi
    rw [← ht] at f0 f1
    rw [List.getElem?_take_of_lt (by omega)] at f0 f1
    exact ⟨by simp [World.cell?, hg]; exact f0, by simp [World.cell?, hg]; exact f1⟩
theorem OwnTab.below {w w' : World} {B : Nat} {v : Value} {es : List (Int × Int)} (h : OwnTab w B v es) (hb : Below w.heap.size w w') : OwnTab w' B v es := by
  refine ⟨h.1, ?_⟩
  rcases h.2 with h2 | ⟨g, cap, cur, hv, hB, hg, h2, h3, hs, ht⟩
  · exact Or.inl h2
  · exact Or.inr ⟨g, cap, cur, hv, hB, (hb.block g (Array.getElem?_eq_some_iff.1 hg).1).trans hg, h2, h3, hs, ht⟩
theorem OwnTab.mono {w : World} {B B' : Nat} {v : Value} {es : List (Int × Int)} (h : OwnTab w B v es) (hB : B' ≤ B) : OwnTab w B' v es := by
  refine ⟨h.1, ?_⟩
  rcases h.2 with h2 | ⟨g, cap, cur, hv, hb, r⟩
  · exact Or.inl h2
  · exact Or.inr ⟨g, cap, cur, hv, by omega, r⟩

end Go.Proofs.YtgfkiljkpkfapaaGreatDoor
