/- The ends that are drawn: some end, or what is none; nothing but the reader's place turns. Conditions: the reader is there; its place is small. -/
import Derived.Test.YtglpijjkihpeeaaGreatDoorPick
namespace Go.Proofs.YtglpijjkihpeeaaGreatDoor
open Go.RowKit

/-- A list of bytes that came in. -/
def BytesIn (w : World) (ao : Option Addr) (n : Nat) : Prop := n = 0 ∨ ∃ x, ao = some x ∧ x.block < w.heap.size ∧ ∀ i, i < n → ∃ c : UInt8, w.cell? (x.add i) = some (.int .u8 (c.toNat : Int))
theorem BytesIn.below {w w' : World} {ao : Option Addr} {n : Nat} (h : BytesIn w ao n) (hb : Below w.heap.size w w') : BytesIn w' ao n := by
  rcases h with h | ⟨x, hx, hl, hc⟩
  · exact .inl h
  · refine .inr ⟨x, hx, Nat.lt_of_lt_of_le hl hb.size, fun i hi => ?_⟩
    obtain ⟨c, hc⟩ := hc i hi
    exact ⟨c, (hb.cell (p := x.add i) (by rw [addr_block]; exact hl)).trans hc⟩
/-- What turns a block alone that is newer than what lay leaves that as it lay. -/
theorem below_grownD {w w0 w' : World} {R : Nat} (h : Below w.heap.size w w0) (hg : w0.grownBy w' (some R)) (hR : w.heap.size ≤ R) : Below w.heap.size w w' :=
  h.grown hg h.size (fun k e => by cases e; exact hR)

theorem rd_new {w : World} {ao : Option Addr} {n : Nat} (cap : Nat) (t : TypeId) (hn : n ≤ 2000) (h : BytesIn w ao n) : Rd w.heap.size w.heap.size 0 (w.alloc (.cells #[.slice ao n cap, .int .i64 0] t)) := by
  refine ⟨ao, n, cap, 0, Nat.le_refl _, Nat.le_refl _, hn, (cell_new w _ t 0).1, (cell_new w _ t 1).1, (cell_new w _ t 1).2, ?_⟩
  rcases h with h | ⟨x, hx, hb, hc⟩
  · exact .inl h
  · refine .inr ⟨x, hx, hb, fun i hi => ?_⟩
    obtain ⟨c, hc⟩ := hc i hi
    exact ⟨c, (World.cell?_alloc_old w _ (x.add i) (by rw [addr_block]; omega)).trans hc⟩

set_option maxRecDepth 100000 in
set_option maxHeartbeats 1600000 in
theorem open_any (ao : Option Addr) (n cap : Nat) (w : World) (h : BytesIn w ao n) (hn : n ≤ cap) :
    Calls Tryz.prog 39 #[.slice ao n cap] w fun e w' => ∃ R, e = .returned (.pointer (some ⟨R, 0, none⟩)) ∧ w.heap.size ≤ R ∧ Below w.heap.size w w' ∧ Rd w.heap.size R 0 w' := by
  have H := Lib.hid h
  clear h
  by_cases h2 : 2000 < n
  · obtain ⟨x, rfl⟩ : ∃ x, ao = some x := by
      rcases H.out with h | ⟨x, h, _⟩
      · omega
      · exact ⟨x, h⟩
    go_enter Tryz.func39, Tryz.ntmps39
    go_wp2_with fail
    go_ret
    refine ⟨_, rfl, Nat.le_refl _, (Below.refl _ _).alloc (Nat.le_refl _) _, rd_new _ _ (by omega) ?_⟩
    rcases H.out with h | ⟨x', hx, hb, hc⟩
    · omega
    · cases hx; exact .inr ⟨_, rfl, hb, fun i hi => hc i (by omega)⟩
  · go_enter Tryz.func39, Tryz.ntmps39
    go_wp2_with fail
    go_ret
    exact ⟨_, rfl, Nat.le_refl _, (Below.refl _ _).alloc (Nat.le_refl _) _, rd_new _ _ (by omega) H.out⟩

end Go.Proofs.YtglpijjkihpeeaaGreatDoor
