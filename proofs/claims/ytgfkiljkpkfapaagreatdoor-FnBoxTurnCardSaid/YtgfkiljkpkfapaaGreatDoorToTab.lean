/- The laws' own tables: how an argument becomes one of the program's, in new memory. Condition: at most 2^22 ends. -/
import Derived.Test.YtgfkiljkpkfapaaGreatDoorLawTab
import Derived.Test.YtgfkiljkpkfapaaGreatDoorOwnEnds
import Derived.Test.YtgfkiljkpkfapaaGreatDoorToEnd
import Derived.OwnWalk
import Derived.Deep.RegionHeld
namespace Go.Proofs.YtgfkiljkpkfapaaGreatDoor
open Go.RowKit Go.Sort

/-- m cells that may be written. -/
def Room (w : World) (g m : Nat) : Prop := ∀ i, i < m → (∃ u, w.cell? ⟨g, i, none⟩ = some u) ∧ w.frozen? ⟨g, i, none⟩ = false
theorem Room.below {w w' : World} {B g m : Nat} (h : Room w g m) (hb : Below B w w') (hg : g < B) : Room w' g m :=
  fun i hi => ⟨by rw [hb.cell (p := ⟨g, i, none⟩) hg]; exact (h i hi).1, (hb.frozen (p := ⟨g, i, none⟩) hg).trans (h i hi).2⟩
theorem Room.set {w : World} {g m j : Nat} (h : Room w g m) (hj : j < m) (u : Value) : Room (w.setCell ⟨g, j, none⟩ u) g m := by
  intro i hi
  refine ⟨?_, by rw [World.frozen?_setCell]; exact (h i hi).2⟩
  by_cases e : j = i
  · subst e
    obtain ⟨x, hx⟩ := (h j hj).1
    exact ⟨u, World.cell?_setCell_same _ _ _ hx⟩
  · obtain ⟨x, hx⟩ := (h i hi).1
    exact ⟨x, by rw [World.cell?_setCell_other _ _ _ u (by intro q; injection q with _ q2; exact e q2)]; exact hx⟩
theorem own_room {w : World} {B g n cap : Nat} {e : TypeId} {size : Nat} {xs : List Value} (h : w.ownsRow B e size (.slice (some ⟨g, 0, none⟩) n cap) n xs) : Room w g (n * size) ∧ B ≤ g ∧ g < w.heap.size := by
  rcases h.2 with ⟨h0, _⟩ | ⟨g', cap', cur, hv, hB, hg, h2, _, hs, ht⟩
  · cases h0
  · simp at hv
    obtain ⟨rfl, rfl⟩ := hv
    have hlt := (Array.getElem?_eq_some_iff.1 hg).1
    refine ⟨fun i hi => ⟨?_, by simp [World.frozen?, hg]⟩, hB, hlt⟩
    have hi' : i < cur.size := by rw [hs]; exact Nat.lt_of_lt_of_le hi (Nat.mul_le_mul_right _ h2)
    exact ⟨cur[i], by simp [World.cell?, hg, hi']⟩
/-- A table in cells that may be written. -/
def TabRoom (w : World) (B : Nat) (v : Value) (es : List (Int × Int)) : Prop := ∃ g cap, v = .slice (some ⟨g, 0, none⟩) es.length cap ∧ es.length ≤ cap ∧ B ≤ g ∧ g < w.heap.size ∧ EndsAt w g es ∧ Room w g (es.length * 2)
theorem TabRoom.tab {w : World} {B : Nat} {v : Value} {es : List (Int × Int)} (h : TabRoom w B v es) : TabAt w v es := by
  obtain ⟨g, cap, rfl, h1, _, _, h2, _⟩ := h
  exact ⟨_, cap, rfl, ⟨h1, by simp⟩, fun _ => ⟨g, rfl, h2⟩⟩

theorem addrs_ne {g i j : Nat} (h : i ≠ j) : (⟨g, i, none⟩ : Addr) ≠ ⟨g, j, none⟩ := by intro e; injection e with _ e2; exact h e2
/-- One end more is written. -/
theorem EndsAt.push {w : World} {g m k : Nat} {es fs : List (Int × Int)} {a p : Int} (hf : fs.length = k + 1) (ht : fs.take k = es.take k) (hk : k ≤ es.length) (hap : ∀ h : k < fs.length, (a, p) = fs[k]) (he : EndsAt w g (es.take k)) (hr : Room w g m) (hm : k * 2 + 1 < m) :
    EndsAt ((w.setCell ⟨g, k * 2, none⟩ (.int .i64 a)).setCell ⟨g, k * 2 + 1, none⟩ (.int .i64 p)) g fs := by
  intro i hi
  obtain ⟨x0, h0⟩ := (hr (k * 2) (by omega)).1
  obtain ⟨x1, h1⟩ := (hr (k * 2 + 1) (by omega)).1
  have h1' : (w.setCell ⟨g, k * 2, none⟩ (.int .i64 a)).cell? ⟨g, k * 2 + 1, none⟩ = some x1 := by rw [World.cell?_setCell_other _ _ _ _ (addrs_ne (by omega))]; exact h1
  by_cases e : i = k
  · subst e
    have hq := hap hi
    rw [← hq]
    refine ⟨?_, World.cell?_setCell_same _ _ _ h1'⟩
    rw [World.cell?_setCell_other _ _ _ _ (addrs_ne (by omega))]
    exact World.cell?_setCell_same _ _ _ h0
  · have hik : i < k := by omega
    have hg := he i (by simp; omega)
    have hq : fs[i] = (es.take k)[i]'(by simp; omega) := by
      have h2 : (fs.take k)[i]? = (es.take k)[i]? := by rw [ht]
      rw [List.getElem?_take_of_lt hik, List.getElem?_eq_getElem hi, List.getElem?_eq_getElem (by simp; omega)] at h2
      exact Option.some.inj h2
    rw [hq]
    refine ⟨?_, ?_⟩
    · rw [World.cell?_setCell_other _ _ _ _ (addrs_ne (by omega)), World.cell?_setCell_other _ _ _ _ (addrs_ne (by omega))]; exact hg.1
    · rw [World.cell?_setCell_other _ _ _ _ (addrs_ne (by omega)), World.cell?_setCell_other _ _ _ _ (addrs_ne (by omega))]; exact hg.2

theorem TabRoom.setCell {w : World} {B : Nat} {v : Value} {es : List (Int × Int)} (h : TabRoom w B v es) {a : Addr} (ha : a.block < B) (u : Value) : TabRoom (w.setCell a u) B v es := by
  obtain ⟨g, cap, rfl, h1, h2, h3, h4, h5⟩ := h
  have hc : ∀ i, (w.setCell a u).cell? ⟨g, i, none⟩ = w.cell? ⟨g, i, none⟩ := fun i => World.cell?_setCell_other _ _ _ _ (by intro e; subst e; simp at ha; omega)
  refine ⟨g, cap, rfl, h1, h2, by simp; omega, fun i hi => ?_, fun i hi => ?_⟩
  · rw [hc, hc]; exact h4 i hi
  · rw [hc, World.frozen?_setCell]; exact h5 i hi
theorem TabRoom.mono {w : World} {B B' : Nat} {v : Value} {es : List (Int × Int)} (h : TabRoom w B v es) (hB : B' ≤ B) : TabRoom w B' v es := by
  obtain ⟨g, cap, rfl, h1, h2, h3, h4, h5⟩ := h
  exact ⟨g, cap, rfl, h1, by omega, h3, h4, h5⟩
theorem TabRoom.below {w w' : World} {B : Nat} {v : Value} {es : List (Int × Int)} (h : TabRoom w B v es) (hb : Below w.heap.size w w') : TabRoom w' B v es := by
  obtain ⟨g, cap, rfl, h1, h2, h3, h4, h5⟩ := h
  exact ⟨g, cap, rfl, h1, h2, Nat.lt_of_lt_of_le h3 hb.size, h4.below hb h3, h5.below hb h3⟩

end Go.Proofs.YtgfkiljkpkfapaaGreatDoor
