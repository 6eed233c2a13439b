/- The ends that are drawn: some end, or what is none; nothing but the reader's place turns. Conditions: the reader is there; its place is small. -/
import Derived.Test.YtbhpogddnpaacaaPick
namespace Go.Proofs.Ytbhpogddnpaacaa
open Go.RowKit

set_option maxRecDepth 100000 in
set_option maxHeartbeats 1600000 in
theorem out_any (B R L : Nat) (w : World) (h : Rd B R L w) (hL : L ≤ 999990) :
    Calls Try.prog 45 #[.pointer (some ⟨R, 0, none⟩)] w fun e w' => ∃ a p : Int, e = .returned (.agg #[.int .i64 a, .int .i64 p]) ∧ w.grownBy w' (some R) ∧ Rd B R (L + 2) w' := by
  have hR := h.lt
  have hBR := h.base
  have H := Lib.hid h
  clear h
  go_enter Try.func45, Try.ntmps45
  go_wp2_with fail
  (go_at_call 16; refine (pick_any 3 B R L _ (rd_alloc H.out _) (by omega)).mono ?_; rintro e w2 ⟨k1, rfl, hk1, g2, r2⟩)
  have R2 := Lib.hid r2
  have G2 := Lib.hid g2
  have s2 := g2.size
  clear r2 g2
  go_wp2_with fail
  (go_at_call 16; refine (pick_any 4 B R (L + 1) _ (rd_alloc R2.out _) (by omega)).mono ?_; rintro e w3 ⟨k3, rfl, hk3, g3, r3⟩)
  have hk5 : k3 < 4 := by omega
  simp only [World.size_alloc] at s2
  obtain ⟨v, hv⟩ : ∃ v : Int, w3.cell? ⟨w2.heap.size, k3, none⟩ = some (.int .i64 v) := by
    rw [(gcell g3 (by simp) (by omega) k3).1, (cell_new _ _ _ _).1]
    match k3, hk5 with
    | 0, _ => exact ⟨_, rfl⟩
    | 1, _ => exact ⟨_, rfl⟩
    | 2, _ => exact ⟨_, rfl⟩
    | 3, _ => exact ⟨_, rfl⟩
  have gAll : w.grownBy w3 (some R) := ((World.grownBy_alloc w _ _).trans G2.out).trans ((World.grownBy_alloc w2 _ _).trans g3)
  have q : ∀ i, w3.cell? ⟨w.heap.size, i, none⟩ = (w.alloc (.cells #[.int .i64 0, .int .i64 0] 39)).cell? ⟨w.heap.size, i, none⟩ ∧ w3.frozen? ⟨w.heap.size, i, none⟩ = (w.alloc (.cells #[.int .i64 0, .int .i64 0] 39)).frozen? ⟨w.heap.size, i, none⟩ := fun i =>
    gcell (G2.out.trans ((World.grownBy_alloc w2 _ _).trans g3)) (by simp) (by omega) i
  have c0 : w3.cell? ⟨w.heap.size, 0, none⟩ = some (.int .i64 0) := by rw [(q 0).1]; simp
  have c1 : w3.cell? ⟨w.heap.size, 1, none⟩ = some (.int .i64 0) := by rw [(q 1).1]; simp
  have f0 : w3.frozen? ⟨w.heap.size, 0, none⟩ = false := by rw [(q 0).2]; simp
  have f1 : w3.frozen? ⟨w.heap.size, 1, none⟩ = false := by rw [(q 1).2]; simp
  have R3 := Lib.hid r3
  have G3 := Lib.hid gAll
  have hk6 : (k3 : Int) < 4 := by omega
  clear r3 g3 gAll q hk3
  go_wp2_with fail
  obtain ⟨q0, q1, q2⟩ := set_two (w := w3) (b := w.heap.size) (x := .int .i64 0) (y := .int .i64 0) (.int .i64 (100 + (k1 : Int))) (.int .i64 v) c0 c1
  refine bodyPost_ret (v := .agg #[.int .i64 (100 + (k1 : Int)), .int .i64 v]) (by simp [results, Try.results45, go_sem, q1, q2]) rfl ⟨_, _, rfl, ?_, ?_⟩
  · exact grown_new (grown_new G3.out _ _ (Nat.le_refl _)) _ _ (Nat.le_refl _)
  · exact rd_put (rd_put R3.out _ (by omega) (by omega)) _ (by omega) (by omega)

/-- A list of bytes that came in. -/
def BytesIn (w : World) (ao : Option Addr) (n : Nat) : Prop := n = 0 ∨ ∃ x, ao = some x ∧ x.block < w.heap.size ∧ ∀ i, i < n → ∃ c : UInt8, w.cell? (x.add i) = some (.int .u8 (c.toNat : Int))
theorem BytesIn.below {w w' : World} {ao : Option Addr} {n : Nat} (h : BytesIn w ao n) (hb : Below w.heap.size w w') : BytesIn w' ao n := by
  rcases h with h | ⟨x, hx, hl, hc⟩
  · exact .inl h
  · refine .inr ⟨x, hx, Nat.lt_of_lt_of_le hl hb.size, fun i hi => ?_⟩
    obtain ⟨c, hc⟩ := hc i hi
    exact ⟨c, (hb.cell (p := x.add i) (by rw [addr_block]; exact hl)).trans hc⟩
/-- What turns a block alone that is newer than what lay leaves that as it lay. -/
theorem below_grown {w w0 w' : World} {R : Nat} (h : Below w.heap.size w w0) (hg : w0.grownBy w' (some R)) (hR : w.heap.size ≤ R) : Below w.heap.size w w' :=
  h.grown hg h.size (fun k e => by cases e; exact hR)

theorem rd_new {w : World} {ao : Option Addr} {n : Nat} (cap : Nat) (t : TypeId) (hn : n ≤ 2000) (h : BytesIn w ao n) : Rd w.heap.size w.heap.size 0 (w.alloc (.cells #[.slice ao n cap, .int .i64 0] t)) := by
  refine ⟨ao, n, cap, 0, Nat.le_refl _, Nat.le_refl _, hn, (cell_new w _ t 0).1, (cell_new w _ t 1).1, (cell_new w _ t 1).2, ?_⟩
  rcases h with h | ⟨x, hx, hb, hc⟩
  · exact .inl h
  · refine .inr ⟨x, hx, hb, fun i hi => ?_⟩
    obtain ⟨c, hc⟩ := hc i hi
    exact ⟨c, (World.cell?_alloc_old w _ (x.add i) (by rw [addr_block]; omega)).trans hc⟩

set_option maxRecDepth 100000 in
set_option maxHeartbeats 1600000 in
theorem open_any (ao : Option Addr) (n cap : Nat) (w : World) (h : BytesIn w ao n) (hn : n ≤ cap) :
    Calls Try.prog 15 #[.slice ao n cap] w fun e w' => ∃ R, e = .returned (.pointer (some ⟨R, 0, none⟩)) ∧ w.heap.size ≤ R ∧ Below w.heap.size w w' ∧ Rd w.heap.size R 0 w' := by
  have H := Lib.hid h
  clear h
  by_cases h2 : 2000 < n
  · obtain ⟨x, rfl⟩ : ∃ x, ao = some x := by
      rcases H.out with h | ⟨x, h, _⟩
      · omega
      · exact ⟨x, h⟩
    go_enter Try.func15, Try.ntmps15
    go_wp2_with fail
    go_ret
    refine ⟨_, rfl, Nat.le_refl _, (Below.refl _ _).alloc (Nat.le_refl _) _, rd_new _ _ (by omega) ?_⟩
    rcases H.out with h | ⟨x', hx, hb, hc⟩
    · omega
    · cases hx; exact .inr ⟨_, rfl, hb, fun i hi => hc i (by omega)⟩
  · go_enter Try.func15, Try.ntmps15
    go_wp2_with fail
    go_ret
    exact ⟨_, rfl, Nat.le_refl _, (Below.refl _ _).alloc (Nat.le_refl _) _, rd_new _ _ (by omega) H.out⟩

end Go.Proofs.Ytbhpogddnpaacaa
