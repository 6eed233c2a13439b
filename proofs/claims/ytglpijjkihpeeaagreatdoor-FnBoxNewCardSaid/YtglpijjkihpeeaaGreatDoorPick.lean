/- What a reader gives at each pick, and what one in so many says. Conditions: the reader is there; its place is small. -/
import Derived.Test.YtglpijjkihpeeaaGreatDoorRdr
namespace Go.Proofs.YtglpijjkihpeeaaGreatDoor
open Go.RowKit

theorem rd_set {R n cap p B L : Nat} {ao : Option Addr} {w : World} {u : Int} (hu : u = (p : Int) + 1) (hp : p ≤ L) (hb : B ≤ R) (hn : n ≤ 2000) (h0 : w.cell? ⟨R, 0, none⟩ = some (.slice ao n cap)) (h1 : w.cell? ⟨R, 1, none⟩ = some (.int .i64 (p : Int))) (f1 : w.frozen? ⟨R, 1, none⟩ = false)
    (hc : n = 0 ∨ ∃ x, ao = some x ∧ x.block < B ∧ ∀ i, i < n → ∃ c : UInt8, w.cell? (x.add i) = some (.int .u8 (c.toNat : Int))) : Rd B R (L + 1) (w.setCell ⟨R, 1, none⟩ (.int .i64 u)) := by
  have n01 : (⟨R, 0, none⟩ : Addr) ≠ ⟨R, 1, none⟩ := by intro e; injection e with _ e2; omega
  have hu' : u = ((p + 1 : Nat) : Int) := by omega
  have hx : ∀ x : Addr, x.block < B → ∀ i, x.add i ≠ ⟨R, 1, none⟩ := by
    intro x hxb i e
    have h2 := congrArg Addr.block e
    rw [addr_block] at h2
    simp only at h2
    omega
  have e1 : (w.setCell ⟨R, 1, none⟩ (.int .i64 u)).cell? ⟨R, 1, none⟩ = some (.int .i64 ((p + 1 : Nat) : Int)) := by
    rw [World.cell?_setCell_same w ⟨R, 1, none⟩ (.int .i64 u) h1, hu']
  have e0 : (w.setCell ⟨R, 1, none⟩ (.int .i64 u)).cell? ⟨R, 0, none⟩ = some (.slice ao n cap) := (World.cell?_setCell_other w ⟨R, 1, none⟩ ⟨R, 0, none⟩ _ n01.symm).trans h0
  have e2 : (w.setCell ⟨R, 1, none⟩ (.int .i64 u)).frozen? ⟨R, 1, none⟩ = false := by rw [World.frozen?_setCell]; exact f1
  refine ⟨ao, n, cap, p + 1, Nat.succ_le_succ hp, hb, hn, e0, e1, e2, ?_⟩
  rcases hc with hc | ⟨x, hxa, hxb, hc⟩
  · exact .inl hc
  · refine .inr ⟨x, hxa, hxb, fun i hi => ?_⟩
    obtain ⟨c, hc⟩ := hc i hi
    exact ⟨c, (World.cell?_setCell_other w ⟨R, 1, none⟩ (x.add i) _ (hx x hxb i).symm).trans hc⟩
theorem rd_drew {B R L : Nat} {w : World} (h : Rd B R L w) : Rd B R L w.drew := h

/-- At each pick: some number below the bound, or nought; nothing but the reader's place turns. -/
theorem pick_any (m : Int) (B R L : Nat) (w : World) (h : Rd B R L w) (hL : L ≤ 1000000) :
    Calls Tryz.prog 90 #[.pointer (some ⟨R, 0, none⟩), .int .i64 m] w fun e w' => ∃ k : Nat, e = .returned (.int .i64 (k : Int)) ∧ ((k : Int) < m ∨ k = 0) ∧ w.grownBy w' (some R) ∧ Rd B R (L + 1) w' := by
  obtain ⟨ao, n, cap, p, hp, hb, hn, h0, h1, f1, hc⟩ := h
  have hrd := rd_set (u := (p : Int) + 1) rfl hp hb hn h0 h1 f1 hc
  by_cases hz : m < 1 ∨ n = 0
  · refine (pick_zero m R n cap p ao w (by omega) h0 h1 f1 hz).mono ?_
    rintro e w' ⟨rfl, rfl⟩
    exact ⟨0, rfl, .inr rfl, grown_set _ _ _ _, hrd⟩
  · rcases hc with hc | ⟨x, rfl, hxb, hc⟩
    · omega
    · by_cases hpn : p < n
      · obtain ⟨c, hcc⟩ := hc p hpn
        refine (pick_in m R n cap p x c w (by omega) (by omega) hpn h0 h1 f1 (by omega) hcc).mono ?_
        rintro e w' ⟨⟨k, rfl, hk⟩, rfl⟩
        exact ⟨k, rfl, .inl hk, grown_set _ _ _ _, hrd⟩
      · refine (pick_mix m R n cap p x w (by omega) (by omega) hn (by omega) (by omega) h0 h1 f1 (by omega) hc).mono ?_
        rintro e w' ⟨⟨k, rfl, hk⟩, rfl⟩
        exact ⟨k, rfl, .inl hk, (grown_set w R 1 _).trans ⟨rfl, rfl, rfl, Nat.le_refl _, fun _ _ _ => rfl⟩, rd_drew hrd⟩

/-- What leaves the reader alone leaves it there. -/
theorem rd_kept {B R L : Nat} {w w' : World} {row : Option Nat} (h : Rd B R L w) (hg : w.grownBy w' row) (hr : ∀ b, row = some b → B ≤ b ∧ b ≠ R) : Rd B R L w' := by
  have hlt := h.lt
  obtain ⟨ao, n, cap, p, hp, hb, hn, h0, h1, f1, hc⟩ := h
  have hR : some R ≠ row := fun e => (hr R e.symm).2 rfl
  refine ⟨ao, n, cap, p, hp, hb, hn, hg.cell h0 hR, hg.cell h1 hR, (World.frozen?_of_block (hg.block R hlt hR)).trans f1, ?_⟩
  rcases hc with hc | ⟨x, hxa, hxb, hc⟩
  · exact .inl hc
  · refine .inr ⟨x, hxa, hxb, fun i hi => ?_⟩
    obtain ⟨c, hc⟩ := hc i hi
    refine ⟨c, hg.cell hc fun e => ?_⟩
    rw [addr_block] at e
    have := (hr _ e.symm).1
    omega
theorem rd_alloc {B R L : Nat} {w : World} (h : Rd B R L w) (o : Obj) : Rd B R L (w.alloc o) := rd_kept h (World.grownBy_alloc w o none) (fun b e => by cases e)
theorem rd_put {B R L : Nat} {w : World} (h : Rd B R L w) {b i : Nat} (v : Value) (hb : B ≤ b) (hne : b ≠ R) : Rd B R L (w.setCell ⟨b, i, none⟩ v) :=
  rd_kept h (grown_set w b i v) (fun j e => by cases e; exact ⟨hb, hne⟩)
theorem rd_below {B R L B0 : Nat} {w w' : World} (h : Rd B R L w) (hb : Below B0 w w') (hB : w.heap.size ≤ B0) : Rd B R L w' := by
  have hlt := h.lt
  obtain ⟨ao, n, cap, p, hp, hbR, hn, h0, h1, f1, hc⟩ := h
  refine ⟨ao, n, cap, p, hp, hbR, hn, (hb.cell (p := ⟨R, 0, none⟩) (by simp only; omega)).trans h0, (hb.cell (p := ⟨R, 1, none⟩) (by simp only; omega)).trans h1, (hb.frozen (p := ⟨R, 1, none⟩) (by simp only; omega)).trans f1, ?_⟩
  rcases hc with hc | ⟨x, hxa, hxb, hc⟩
  · exact .inl hc
  · refine .inr ⟨x, hxa, hxb, fun i hi => ?_⟩
    obtain ⟨c, hc⟩ := hc i hi
    exact ⟨c, (hb.cell (p := x.add i) (by rw [addr_block]; omega)).trans hc⟩
/-- What a step that turns the reader alone says of the cells of other older blocks. -/
theorem gcell {w w' : World} {R : Nat} (hg : w.grownBy w' (some R)) {b : Nat} (hb : b < w.heap.size) (hne : b ≠ R) (i : Nat) : w'.cell? ⟨b, i, none⟩ = w.cell? ⟨b, i, none⟩ ∧ w'.frozen? ⟨b, i, none⟩ = w.frozen? ⟨b, i, none⟩ := by
  have e := hg.block b hb (fun e => by cases e; exact hne rfl)
  exact ⟨by simp [World.cell?, e], World.frozen?_of_block e⟩
theorem grown_new {w w' : World} {R : Nat} (hg : w.grownBy w' (some R)) {b : Nat} (i : Nat) (v : Value) (hb : w.heap.size ≤ b) : w.grownBy (w'.setCell ⟨b, i, none⟩ v) (some R) :=
  hg.andThen (grown_set w' b i v) (fun j e => by cases e; exact .inl hb)
theorem grown_alloc {w w' : World} {R : Nat} (hg : w.grownBy w' (some R)) (o : Obj) : w.grownBy (w'.alloc o) (some R) := hg.trans (World.grownBy_alloc w' o _)

set_option maxRecDepth 100000 in
set_option maxHeartbeats 800000 in
theorem odd_any (m : Int) (B R L : Nat) (w : World) (h : Rd B R L w) (hL : L ≤ 999990) (hm : 0 ≤ m) (hm2 : m ≤ 1000000) :
    Calls Tryz.prog 92 #[.pointer (some ⟨R, 0, none⟩), .int .i64 m] w fun e w' => ∃ b : Bool, e = .returned (.bool b) ∧ w.grownBy w' (some R) ∧ Rd B R (L + 1) w' := by
  have H := Lib.hid h
  clear h
  by_cases h9 : m < 9000
  · go_enter Tryz.func92, Tryz.ntmps92
    go_wp2_with (go_at_call 90; refine (pick_any m B R L _ H.out (by omega)).mono ?_; rintro e w1 ⟨k, rfl, hk, hg, hr⟩)
    go_ret
    exact ⟨_, rfl, hg, hr⟩
  · go_enter Tryz.func92, Tryz.ntmps92
    go_wp2_with fail
    go_ret
    exact ⟨.inl rfl, World.grownBy.refl _ _, H.out.mono (by omega)⟩

end Go.Proofs.YtglpijjkihpeeaaGreatDoor
