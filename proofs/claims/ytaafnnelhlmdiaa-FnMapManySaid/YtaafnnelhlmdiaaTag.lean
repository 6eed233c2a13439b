/- Blocks that hold structs of one type: a table's row lies in none of them. No condition. -/
import Derived.Test.YtaafnnelhlmdiaaOwnEnds
namespace Go.Proofs.Ytaafnnelhlmdiaa
open Go.RowKit

/-- A block of cells of this type. -/
def TagT (w : World) (b : Nat) (t : TypeId) : Prop := ∃ cs fz, w.heap[b]? = some (.cells cs t fz)
theorem TagT.later {w w' : World} {b : Nat} {t : TypeId} (h : TagT w b t) (hb : Below w.heap.size w w') : TagT w' b t := by
  obtain ⟨cs, fz, h⟩ := h
  exact ⟨cs, fz, (hb.block b (Array.getElem?_eq_some_iff.1 h).1).trans h⟩
theorem TagT.new (w : World) (cs : Array Value) (t : TypeId) : TagT (w.alloc (.cells cs t)) w.heap.size t := ⟨cs, _, heap_alloc_new w (.cells cs t)⟩
theorem OwnTab.setTagT {w : World} {B : Nat} {v : Value} {es : List (Int × Int)} {t : TypeId} (h : OwnTab w B v es) {a : Addr} (ht : TagT w a.block t) (hne : t ≠ 27) (u : Value) : OwnTab (w.setCell a u) B v es := by
  refine ⟨h.1, ?_⟩
  rcases h.2 with h2 | ⟨g, cap, cur, hv, hB, hg, r⟩
  · exact .inl h2
  · refine .inr ⟨g, cap, cur, hv, hB, ?_, r⟩
    rw [Below.heap_setCell _ _ _ _ fun e => ?_]
    · exact hg
    · obtain ⟨cs, fz, h1⟩ := ht
      rw [← e, hg] at h1
      injection h1 with h1
      injection h1 with _ h2 _
      exact hne h2.symm
theorem tabT_ne : (25 : TypeId) ≠ 27 := by decide
theorem TagT.setCell {w : World} {b : Nat} {t : TypeId} (h : TagT w b t) (a : Addr) (u : Value) : TagT (w.setCell a u) b t := by
  obtain ⟨cs, fz, h⟩ := h
  by_cases e : b = a.block
  · subst e
    refine ⟨if a.spot.isSome then cs else cs.setIfInBounds a.off u, fz, ?_⟩
    show (w.heap.modify a.block _)[a.block]? = _
    rw [Array.getElem?_modify]
    simp [h]
  · exact ⟨cs, fz, (Below.heap_setCell _ _ _ _ e).trans h⟩

end Go.Proofs.Ytaafnnelhlmdiaa
