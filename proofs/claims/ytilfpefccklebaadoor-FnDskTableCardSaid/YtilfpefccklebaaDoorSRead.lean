/- EndRead of the specification, by the words of a text. Condition: the text has at most 2^21 bytes. -/
import Derived.Test.YtilfpefccklebaaDoorWords
import Derived.Test.YtilfpefccklebaaDoorEnd
import Derived.Deep.RegionHeld3
import Derived.Deep.DeepCutAuto
import Derived.Lib.SmallJoins
namespace Go.Proofs.YtilfpefccklebaaDoor
open Go.RowKit

/-- The first two cells of a list of the call's own. -/
theorem own_two {w : World} {B : Nat} {e : TypeId} {v a b : Value} (h : w.ownsRow B e 1 v 2 [a, b]) : ∃ g cap, v = .slice (some ⟨g, 0, none⟩) 2 cap ∧ B ≤ g ∧ g < w.heap.size ∧ w.cell? ⟨g, 0, none⟩ = some a ∧ w.cell? ⟨g, 1, none⟩ = some b ∧ 2 ≤ cap := by
  rcases h.2 with ⟨_, h0⟩ | ⟨g, cap, cur, rfl, hB, hg, h2, _, hs, ht⟩
  · omega
  · have hlt := (Array.getElem?_eq_some_iff.1 hg).1
    obtain ⟨l⟩ := cur
    have e0 : l[0]? = some a := by
      have := congrArg (fun l => l[0]?) ht
      simpa using this
    have e1 : l[1]? = some b := by
      have := congrArg (fun l => l[1]?) ht
      simpa using this
    exact ⟨g, cap, rfl, hB, hlt, by simp [World.cell?, hg, e0], by simp [World.cell?, hg, e1], h2⟩

/-- The two cells of a block that was new ahead of a call. -/
theorem fresh_two {W w : World} {x y : Value} {t : TypeId} (h : Below (W.alloc (.cells #[x, y] t)).heap.size (W.alloc (.cells #[x, y] t)) w) : w.cell? ⟨W.heap.size, 0, none⟩ = some x ∧ w.cell? ⟨W.heap.size, 1, none⟩ = some y :=
  ⟨by rw [h.cell (by simp)]; simp, by rw [h.cell (by simp)]; simp⟩

theorem below_re {w w' : World} {o : Obj} {B : Nat} (h : Below B w (w'.alloc o)) (hB : B ≤ w'.heap.size) (hw : w.heap.size ≤ w'.heap.size) (o' : Obj) : Below B w (w'.alloc o') :=
  ⟨h.os, h.tape, h.output, by simp; omega, fun k hk => by
    have h1 := h.block k hk
    rw [Below.heap_alloc _ _ _ (by omega)] at h1 ⊢
    exact h1⟩

/-- What is read where address and port are a and p: them, if they are an end; else nothing. -/
def rdV (a p : Int) : Value := if endB a p = true then .tuple #[.agg #[.int .i64 a, .int .i64 p], .bool true] else .tuple #[.agg #[.int .i64 0, .int .i64 0], .bool false]

end Go.Proofs.YtilfpefccklebaaDoor
