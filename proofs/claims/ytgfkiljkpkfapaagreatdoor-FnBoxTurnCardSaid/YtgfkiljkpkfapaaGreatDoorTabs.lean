/- Tables of ends: how a list of ends lies in memory, and plain facts on such lists. No condition. -/
import Derived.Test.YtgfkiljkpkfapaaGreatDoorGen
namespace Go.Proofs.YtgfkiljkpkfapaaGreatDoor
open Go.RowKit

/-- The cells of a row of ends. -/
def EndsAt (w : World) (g : Nat) (es : List (Int × Int)) : Prop := ∀ i (hi : i < es.length), w.cell? ⟨g, i * 2, none⟩ = some (.int .i64 es[i].1) ∧ w.cell? ⟨g, i * 2 + 1, none⟩ = some (.int .i64 es[i].2)
/-- A slice reads as these ends. -/
def TabAt (w : World) (v : Value) (es : List (Int × Int)) : Prop := ∃ a cap, v = .slice a es.length cap ∧ (es.length ≤ cap ∧ (a = none → cap = 0)) ∧ (0 < es.length → ∃ g, a = some ⟨g, 0, none⟩ ∧ EndsAt w g es)
theorem EndsAt.lt {w : World} {g : Nat} {es : List (Int × Int)} (h : EndsAt w g es) (hn : 0 < es.length) : g < w.heap.size := World.block_lt_of_cell? w _ (h 0 hn).1
theorem EndsAt.below {w w' : World} {B g : Nat} {es : List (Int × Int)} (h : EndsAt w g es) (hb : Below B w w') (hg : g < B) : EndsAt w' g es :=
  fun i hi => ⟨(hb.cell (p := ⟨g, i * 2, none⟩) hg).trans (h i hi).1, (hb.cell (p := ⟨g, i * 2 + 1, none⟩) hg).trans (h i hi).2⟩
theorem TabAt.below {w w' : World} {v : Value} {es : List (Int × Int)} (h : TabAt w v es) (hb : Below w.heap.size w w') : TabAt w' v es := by
  obtain ⟨a, cap, rfl, hc, hr⟩ := h
  refine ⟨a, cap, rfl, hc, fun hn => ?_⟩
  obtain ⟨g, rfl, hrow⟩ := hr hn
  exact ⟨g, rfl, hrow.below hb (hrow.lt hn)⟩
theorem TabAt.take {w : World} {a : Option Addr} {n cap k : Nat} {es : List (Int × Int)} (h : TabAt w (.slice a n cap) es) (hk : k ≤ es.length) : TabAt w (.slice a k cap) (es.take k) := by
  obtain ⟨a', cap', e, hc, hr⟩ := h
  simp at e
  obtain ⟨rfl, rfl, rfl⟩ := e
  refine ⟨a, cap, by simp; omega, ⟨by simp; omega, hc.2⟩, fun hn => ?_⟩
  simp at hn
  obtain ⟨g, rfl, hrow⟩ := hr (by omega)
  exact ⟨g, rfl, fun i hi => by simp at hi ⊢; exact hrow i (by omega)⟩

/-- All numbers of a list of ends are ints. -/
def wfE (es : List (Int × Int)) : Prop := ∀ e ∈ es, (Lit.int .i64 e.1).wf = true ∧ (Lit.int .i64 e.2).wf = true

/-- Where an end stands; -1, if it does not. -/
def findI (es : List (Int × Int)) (e : Int × Int) : Int := match es.findIdx? (fun x => x == e) with | some k => (k : Int) | none => -1
theorem findI_hit {es : List (Int × Int)} {e : Int × Int} {k : Nat} (hk : k < es.length) (he : es[k] = e) (hn : ∀ j (hj : j < k), es[j] ≠ e) : findI es e = k := by
  unfold findI
  have : es.findIdx? (fun x => x == e) = some k := by
    rw [List.findIdx?_eq_some_iff_getElem]
    exact ⟨hk, by simp [he], fun j hj => by simpa using hn j hj⟩
  rw [this]
theorem findI_miss {es : List (Int × Int)} {e : Int × Int} (hn : ∀ j (hj : j < es.length), es[j] ≠ e) : findI es e = -1 := by
  unfold findI
  have : es.findIdx? (fun x => x == e) = none := by
    rw [List.findIdx?_eq_none_iff]
    intro x hx
    obtain ⟨j, hj, rfl⟩ := List.getElem_of_mem hx
    simpa using hn j hj
  rw [this]

/-- A table is ok: at most six ends, all inside, none twice. -/
def mapP (es : List (Int × Int)) (k : Nat) : Bool := insB (es.getD k (0, 0)).1 (es.getD k (0, 0)).2 && decide (findI (es.take k) (es.getD k (0, 0)) < 0)
def mapB (es : List (Int × Int)) : Bool := decide (es.length ≤ 6) && (List.range es.length).all (mapP es)

/-- The port of an end, 0 if it has none; the end that has a port; a table in which an end has a port, and that. -/
def portI (es : List (Int × Int)) (e : Int × Int) : Int := if findI es e < 0 then 0 else 500 + findI es e
def endI (es : List (Int × Int)) (port : Int) : Option (Int × Int) := if 500 ≤ port ∧ port ≤ 500 + (es.length : Int) - 1 then es[(port - 500).toNat]? else none
def putE (es : List (Int × Int)) (e : Int × Int) : List (Int × Int) × Int :=
  if 0 < portI es e then (es, portI es e) else if es.length = 6 then (es, 0) else (es ++ [e], 500 + (es.length : Int))
theorem findI_bounds (es : List (Int × Int)) (e : Int × Int) : -1 ≤ findI es e ∧ findI es e < es.length := by
  unfold findI
  split
  · rename_i k h
    rw [List.findIdx?_eq_some_iff_getElem] at h
    obtain ⟨h1, _⟩ := h
    omega
  · omega
/-- What MapEnd answers. -/
def endV : Option (Int × Int) → Value
  | some (a, p) => .tuple #[.agg #[.int .i64 a, .int .i64 p], .bool true]
  | none => .tuple #[.agg #[.int .i64 0, .int .i64 0], .bool false]

end Go.Proofs.YtgfkiljkpkfapaaGreatDoor
