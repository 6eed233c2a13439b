/- The streams that a box knows: as data, in memory. No condition. -/
import Derived.Test.YtgfkiljkpkfapaaGreatDoorFrL
import Derived.Deep.AppendLies
namespace Go.Proofs.YtgfkiljkpkfapaaGreatDoor
open Go.RowKit

/-- Two streams, of whom inside, and whom outside. -/
structure Cn where
  ia : Int
  ip : Int
  oa : Int
  op : Int
  kn : ByteArray
  he : ByteArray
  ne : ByteArray
instance : Inhabited Cn := ⟨⟨0, 0, 0, 0, ⟨#[]⟩, ⟨#[]⟩, ⟨#[]⟩⟩⟩
def cnC (c : Cn) : List Value := [.int .i64 c.ia, .int .i64 c.ip, .int .i64 c.oa, .int .i64 c.op, .string c.kn, .string c.he, .string c.ne]
def cnV (c : Cn) : Value := .agg #[.int .i64 c.ia, .int .i64 c.ip, .int .i64 c.oa, .int .i64 c.op, .string c.kn, .string c.he, .string c.ne]
theorem cnC_len (c : Cn) : (cnC c).length = 7 := rfl
theorem cnC_one (c : Cn) : ∀ u ∈ cnC c, u.oneCell' = true := by
  intro u hu
  simp only [cnC, List.mem_cons, List.not_mem_nil, or_false] at hu
  rcases hu with rfl | rfl | rfl | rfl | rfl | rfl | rfl <;> rfl
theorem infoCn : (Tryz.prog.info? 49).map (fun i => (i.zero, i.size, i.bytes)) = some (some (.agg #[.int .i64 0, .int .i64 0, .int .i64 0, .int .i64 0, .string ⟨#[]⟩, .string ⟨#[]⟩, .string ⟨#[]⟩]), 7, 80) := by kernel_rfl
/-- Streams that nobody else holds. -/
def FrCn (w : World) (B : Nat) (v : Value) (l : List Cn) : Prop := FrL 49 7 cnC w B v l
/-- A slice reads as these streams. -/
def RdCn (w : World) (v : Value) (l : List Cn) : Prop := RdC cnC w v l
theorem RdCn.below {w w' : World} {v : Value} {l : List Cn} (h : RdCn w v l) (hb : Below w.heap.size w w') : RdCn w' v l := RdC.below cnC_len (by decide) h hb
theorem FrCn.rd {w : World} {B : Nat} {v : Value} {l : List Cn} (h : FrCn w B v l) : RdCn w v l := FrL.rd cnC_len (by decide) h

/-- The seven cells of an element. -/
theorem RowAt.conn {w : World} {g : Nat} {xs : List Cn} (h : RowAt w g (flatC cnC xs)) (i : Nat) (hi : i < xs.length) (s : Cn) (hs : s = xs[i]) :
    (w.cell? ⟨g, i * 7, none⟩ = some (.int .i64 s.ia) ∧ w.cell? ⟨g, i * 7 + 1, none⟩ = some (.int .i64 s.ip) ∧ w.cell? ⟨g, i * 7 + 2, none⟩ = some (.int .i64 s.oa) ∧ w.cell? ⟨g, i * 7 + 3, none⟩ = some (.int .i64 s.op) ∧ w.cell? ⟨g, i * 7 + 4, none⟩ = some (.string s.kn) ∧ w.cell? ⟨g, i * 7 + 5, none⟩ = some (.string s.he) ∧ w.cell? ⟨g, i * 7 + 6, none⟩ = some (.string s.ne)) ∧
    (w.frozen? ⟨g, i * 7, none⟩ = false ∧ w.frozen? ⟨g, i * 7 + 1, none⟩ = false ∧ w.frozen? ⟨g, i * 7 + 2, none⟩ = false ∧ w.frozen? ⟨g, i * 7 + 3, none⟩ = false ∧ w.frozen? ⟨g, i * 7 + 4, none⟩ = false ∧ w.frozen? ⟨g, i * 7 + 5, none⟩ = false ∧ w.frozen? ⟨g, i * 7 + 6, none⟩ = false) := by
  have e0 := h.elem cnC_len i hi 0 (by decide) (.int .i64 s.ia) (by rw [← hs]; rfl)
  have e1 := h.elem cnC_len i hi 1 (by decide) (.int .i64 s.ip) (by rw [← hs]; rfl)
  have e2 := h.elem cnC_len i hi 2 (by decide) (.int .i64 s.oa) (by rw [← hs]; rfl)
  have e3 := h.elem cnC_len i hi 3 (by decide) (.int .i64 s.op) (by rw [← hs]; rfl)
  have e4 := h.elem cnC_len i hi 4 (by decide) (.string s.kn) (by rw [← hs]; rfl)
  have e5 := h.elem cnC_len i hi 5 (by decide) (.string s.he) (by rw [← hs]; rfl)
  have e6 := h.elem cnC_len i hi 6 (by decide) (.string s.ne) (by rw [← hs]; rfl)
  exact ⟨⟨e0.1, e1.1, e2.1, e3.1, e4.1, e5.1, e6.1⟩, ⟨e0.2, e1.2, e2.2, e3.2, e4.2, e5.2, e6.2⟩⟩

end Go.Proofs.YtgfkiljkpkfapaaGreatDoor
