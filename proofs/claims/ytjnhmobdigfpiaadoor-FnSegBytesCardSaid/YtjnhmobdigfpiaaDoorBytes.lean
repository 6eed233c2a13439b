/- Lists of bytes in memory: an argument's, at any address; read from a block's beginning on; of the call's own. No condition. -/
import Derived.Test.YtjnhmobdigfpiaaDoorRdV
import Derived.Lib.AppendStr
import Derived.Lib.Hide
namespace Go.Proofs.YtjnhmobdigfpiaaDoor
open Go.RowKit

def byV (l : List UInt8) : List Value := l.map fun c => .int .u8 (c.toNat : Int)
theorem byV_len (l : List UInt8) : (byV l).length = l.length := by simp [byV]
theorem byV_app (l m : List UInt8) : byV (l ++ m) = byV l ++ byV m := by simp [byV]
theorem byV_at (l : List UInt8) (i : Nat) (h : i < (byV l).length) : (byV l)[i] = .int .u8 ((l[i]'(by rw [byV_len] at h; exact h)).toNat : Int) := by simp [byV]
theorem byV_take (l : List UInt8) (n : Nat) : (byV l).take n = byV (l.take n) := by simp [byV]
theorem byV_one (l : List UInt8) : ∀ u ∈ byV l, u.oneCell' = true := by
  intro u hu
  simp only [byV, List.mem_map] at hu
  obtain ⟨c, _, rfl⟩ := hu
  rfl
theorem byV_str (s : ByteArray) : Lib.strCells s = byV s.data.toList := rfl
theorem infoByte : (Tryd.prog.info? 5).map (fun i => (i.zero, i.size, i.bytes)) = some (some (.int .u8 0), 1, 1) := by kernel_rfl

theorem add_blockB (a : Addr) (i : Nat) : (a.add i).block = a.block := by unfold Addr.add; split <;> rfl
/-- An argument's bytes, at any address. -/
def ArgB (w : World) (v : Value) (l : List UInt8) : Prop := ∃ ao cap, v = .slice ao l.length cap ∧ l.length ≤ cap ∧ (0 < l.length → ∃ x : Addr, ao = some x ∧ x.block < w.heap.size ∧ ∀ i (hi : i < l.length), w.cell? (x.add i) = some (.int .u8 (l[i].toNat : Int)))
theorem ArgB.below {w w' : World} {v : Value} {l : List UInt8} (h : ArgB w v l) (hb : Below w.heap.size w w') : ArgB w' v l := by
  obtain ⟨ao, cap, rfl, hc, hr⟩ := h
  refine ⟨ao, cap, rfl, hc, fun hn => ?_⟩
  obtain ⟨x, rfl, hx, hrow⟩ := hr hn
  exact ⟨x, rfl, Nat.lt_of_lt_of_le hx hb.size, fun i hi => (hb.cell (p := x.add i) (by rw [add_blockB]; exact hx)).trans (hrow i hi)⟩
/-- A slice reads as these bytes, from its block's beginning on. -/
def RdB (w : World) (v : Value) (l : List UInt8) : Prop := ∃ ao cap, v = .slice ao l.length cap ∧ l.length ≤ cap ∧ (0 < l.length → ∃ g, ao = some ⟨g, 0, none⟩ ∧ RowAt w g (byV l))
theorem RdB.below {w w' : World} {v : Value} {l : List UInt8} (h : RdB w v l) (hb : Below w.heap.size w w') : RdB w' v l := by
  obtain ⟨ao, cap, rfl, hc, hr⟩ := h
  refine ⟨ao, cap, rfl, hc, fun hn => ?_⟩
  obtain ⟨g, rfl, hrow⟩ := hr hn
  exact ⟨g, rfl, hrow.below hb (hrow.lt (by rw [byV_len]; exact hn))⟩
/-- Bytes of the call's own. -/
def OwnB (w : World) (B : Nat) (v : Value) (l : List UInt8) : Prop := w.ownsRow B 5 1 v l.length (byV l)
theorem OwnB.below {w w' : World} {B : Nat} {v : Value} {l : List UInt8} (h : OwnB w B v l) (hb : Below w.heap.size w w') : OwnB w' B v l := own_below h hb
theorem OwnB.mono {w : World} {B B' : Nat} {v : Value} {l : List UInt8} (h : OwnB w B v l) (hB : B' ≤ B) : OwnB w B' v l := own_base h hB
theorem OwnB.form {w : World} {B : Nat} {v : Value} {l : List UInt8} (h : OwnB w B v l) : ∃ a cap, v = .slice a l.length cap := own_form h
theorem OwnB.nil (w : World) (B : Nat) : OwnB w B (.slice none 0 0) [] := ⟨rfl, Or.inl ⟨rfl, rfl⟩⟩
theorem OwnB.cells {w : World} {B : Nat} {v : Value} {l : List UInt8} (h : OwnB w B v l) (hn : 0 < l.length) : ∃ g cap, v = .slice (some ⟨g, 0, none⟩) l.length cap ∧ l.length ≤ cap ∧ B ≤ g ∧ g < w.heap.size ∧ RowAt w g (byV l) := by
  obtain ⟨g, cap, rfl, hB, hg, hc, hr⟩ := own_cells h hn
  exact ⟨g, cap, rfl, hc, hB, hg, hr⟩
theorem OwnB.rd {w : World} {B : Nat} {v : Value} {l : List UInt8} (h : OwnB w B v l) : RdB w v l := by
  by_cases hn : 0 < l.length
  · obtain ⟨g, cap, rfl, hc, hB, hg, hr⟩ := h.cells hn
    exact ⟨_, cap, rfl, hc, fun _ => ⟨_, rfl, hr⟩⟩
  · rcases h.2 with ⟨rfl, h1⟩ | ⟨g, cap, cur, rfl, hB, hg, h2, _⟩
    · exact ⟨none, 0, by rw [h1], by omega, fun h => absurd h hn⟩
    · exact ⟨_, cap, rfl, h2, fun h => absurd h hn⟩
theorem OwnB.drew {w : World} {B : Nat} {v : Value} {l : List UInt8} (h : OwnB w B v l) : OwnB w.drew B v l := World.ownsRow.drew h

end Go.Proofs.YtjnhmobdigfpiaaDoor
