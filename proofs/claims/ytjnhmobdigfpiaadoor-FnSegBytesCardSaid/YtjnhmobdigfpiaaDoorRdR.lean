/- The reader of a segment's bytes: what it takes, and its first error. Conditions: the bytes are at most 2^22; the variables that are read hold errors. -/
import Derived.Test.YtjnhmobdigfpiaaDoorBytes
import Derived.Test.YtjnhmobdigfpiaaDoorSegs
import Derived.IntWalk
import Derived.RegionTactic
import Derived.StillTailTactics
import Derived.Deep.RegionWith
namespace Go.Proofs.YtjnhmobdigfpiaaDoor
open Go.RowKit

/-- What the program's package-level variables hold: four errors. -/
structure VarsE (w : World) : Prop where
  few : ∃ t p, w.cell? ⟨4, 0, none⟩ = some (.iface t p)
  many : ∃ t p, w.cell? ⟨1, 0, none⟩ = some (.iface t p)
  sum : ∃ t p, w.cell? ⟨0, 0, none⟩ = some (.iface t p)
  noSeg : ∃ t p, w.cell? ⟨2, 0, none⟩ = some (.iface t p)
theorem VarsE.below {w w' : World} (h : VarsE w) (hb : Below w.heap.size w w') : VarsE w' := by
  obtain ⟨⟨t1, p1, h1⟩, ⟨t2, p2, h2⟩, ⟨t3, p3, h3⟩, ⟨t4, p4, h4⟩⟩ := h
  exact ⟨⟨t1, p1, (hb.cell (World.block_lt_of_cell? _ _ h1)).trans h1⟩, ⟨t2, p2, (hb.cell (World.block_lt_of_cell? _ _ h2)).trans h2⟩, ⟨t3, p3, (hb.cell (World.block_lt_of_cell? _ _ h3)).trans h3⟩, ⟨t4, p4, (hb.cell (World.block_lt_of_cell? _ _ h4)).trans h4⟩⟩

set_option maxRecDepth 100000 in
set_option maxHeartbeats 800000 in
theorem must_held (R : Nat) (e x : Value) (b : Bool) (w : World) (hr : w.cell? ⟨R, 2, none⟩ = some e) (he : (∃ t p, e = .iface t p) ∨ (e = .nilIface ∧ b = true)) :
    Calls Tryd.prog 62 #[.pointer (some ⟨R, 0, none⟩), .bool b, x] w fun e w' => e = .returned (.tuple #[]) ∧ w = w' := by
  rcases he with ⟨t, p, rfl⟩ | ⟨rfl, rfl⟩
  all_goals
    go_enter Tryd.func62, Tryd.ntmps62
    go_wp2
    go_end0
    exact ⟨rfl, rfl⟩

set_option maxRecDepth 100000 in
set_option maxHeartbeats 800000 in
theorem must_put (R : Nat) (t : TypeId) (p : Value) (w : World) (hr : w.cell? ⟨R, 2, none⟩ = some .nilIface) (hf : w.frozen? ⟨R, 2, none⟩ = false) :
    Calls Tryd.prog 62 #[.pointer (some ⟨R, 0, none⟩), .bool false, .iface t p] w fun e w' => e = .returned (.tuple #[]) ∧ w' = w.setCell ⟨R, 2, none⟩ (.iface t p) := by
  go_enter Tryd.func62, Tryd.ntmps62
  go_wp2
  go_end0
  exact ⟨rfl, rfl⟩

set_option maxRecDepth 100000 in
set_option maxHeartbeats 1600000 in
theorem take_bad (R g n cap p m : Nat) (t : TypeId) (q : Value) (w : World) (hn : n ≤ 4194304) (hp : p ≤ n) (h0 : w.cell? ⟨R, 0, none⟩ = some (.slice (some ⟨g, 0, none⟩) n cap)) (h1 : w.cell? ⟨R, 1, none⟩ = some (.int .i64 p)) (h2 : w.cell? ⟨R, 2, none⟩ = some (.iface t q))
    (hv : ∃ t q, w.cell? ⟨4, 0, none⟩ = some (.iface t q)) :
    Calls Tryd.prog 72 #[.pointer (some ⟨R, 0, none⟩), .int .i64 m] w fun e w' => e = .returned (.slice none 0 0) ∧ w' = w.drew := by
  obtain ⟨te, pe, hv⟩ := hv
  go_enter Tryd.func72, Tryd.ntmps72
  go_wp2_with fail
  go_still_tail 14, (by kernel_rfl)
  change wpList _ _ _ _ _ w.drew
  obtain ⟨w2, hw2⟩ : ∃ w2, w2 = w.drew := ⟨_, rfl⟩
  have k2 : w2.cell? ⟨R, 2, none⟩ = some (.iface t q) := by rw [hw2]; exact h2
  rw [← hw2]
  have HW := Lib.hid hw2
  clear hw2
  go_wp2_with (go_at_call 62; refine (must_held R _ _ _ _ k2 (.inl ⟨_, _, rfl⟩)).mono ?_; rintro e w' ⟨rfl, rfl⟩)
  go_ret
  exact ⟨rfl, HW.out⟩

set_option maxRecDepth 100000 in
set_option maxHeartbeats 1600000 in
theorem take_few (R g n cap p m : Nat) (te : TypeId) (pe : Value) (w : World) (hp : p ≤ n) (hm : m ≤ 4194304) (hpm : n < p + m) (h0 : w.cell? ⟨R, 0, none⟩ = some (.slice (some ⟨g, 0, none⟩) n cap)) (h1 : w.cell? ⟨R, 1, none⟩ = some (.int .i64 p)) (h2 : w.cell? ⟨R, 2, none⟩ = some .nilIface) (f2 : w.frozen? ⟨R, 2, none⟩ = false)
    (hv : w.cell? ⟨4, 0, none⟩ = some (.iface te pe)) :
    Calls Tryd.prog 72 #[.pointer (some ⟨R, 0, none⟩), .int .i64 m] w fun e w' => e = .returned (.slice none 0 0) ∧ w' = w.drew.setCell ⟨R, 2, none⟩ (.iface te pe) := by
  go_enter Tryd.func72, Tryd.ntmps72
  go_wp2_with fail
  go_still_tail 14, (by kernel_rfl)
  change wpList _ _ _ _ _ w.drew
  obtain ⟨w2, hw2⟩ : ∃ w2, w2 = w.drew := ⟨_, rfl⟩
  have k2 : w2.cell? ⟨R, 2, none⟩ = some .nilIface := by rw [hw2]; exact h2
  have j2 : w2.frozen? ⟨R, 2, none⟩ = false := by rw [hw2]; exact f2
  rw [← hw2]
  have HW := Lib.hid hw2
  have HD : Hid (decide ((m : Int) ≤ (n : Int) - (p : Int)) = false) := decide_eq_false (by omega)
  clear hw2
  go_wp2_with (go_at_call 62; rw [HD.out]; refine (must_put R _ _ _ k2 j2).mono ?_; rintro e w' ⟨rfl, rfl⟩)
  go_ret
  exact ⟨rfl, by rw [HW.out]⟩

set_option maxRecDepth 100000 in
set_option maxHeartbeats 1600000 in
theorem take_some (R g n cap p m : Nat) (te : TypeId) (pe : Value) (w : World) (hn : n ≤ 4194304) (hc : n ≤ cap) (hm : m ≤ 4194304) (hpm : p + m ≤ n) (h0 : w.cell? ⟨R, 0, none⟩ = some (.slice (some ⟨g, 0, none⟩) n cap)) (h1 : w.cell? ⟨R, 1, none⟩ = some (.int .i64 p)) (h2 : w.cell? ⟨R, 2, none⟩ = some .nilIface) (f1 : w.frozen? ⟨R, 1, none⟩ = false)
    (hv : w.cell? ⟨4, 0, none⟩ = some (.iface te pe)) :
    Calls Tryd.prog 72 #[.pointer (some ⟨R, 0, none⟩), .int .i64 m] w fun e w' => (∃ x, e = .returned (.slice (some x) m (cap - p)) ∧ (0 < m → x = ⟨g, p, none⟩)) ∧ ∃ k, w' = (w.drew.setCell ⟨R, 1, none⟩ (.int .i64 ((p + m : Nat) : Int))).drewN k := by
  go_enter Tryd.func72, Tryd.ntmps72
  go_wp2_with fail
  go_still_tail 14, (by kernel_rfl)
  change wpList _ _ _ _ _ w.drew
  obtain ⟨w2, hw2⟩ : ∃ w2, w2 = w.drew := ⟨_, rfl⟩
  have k0 : w2.cell? ⟨R, 0, none⟩ = some (.slice (some ⟨g, 0, none⟩) n cap) := by rw [hw2]; exact h0
  have k1 : w2.cell? ⟨R, 1, none⟩ = some (.int .i64 p) := by rw [hw2]; exact h1
  have k2 : w2.cell? ⟨R, 2, none⟩ = some .nilIface := by rw [hw2]; exact h2
  have j1 : w2.frozen? ⟨R, 1, none⟩ = false := by rw [hw2]; exact f1
  rw [← hw2]
  have HW := Lib.hid hw2
  have HD : Hid (decide ((m : Int) ≤ (n : Int) - (p : Int)) = true) := decide_eq_true (by omega)
  clear hw2
  go_wp2_with (go_at_call 62; rw [HD.out]; refine (must_held R _ _ _ _ k2 (.inr ⟨rfl, rfl⟩)).mono ?_; rintro e w' ⟨rfl, rfl⟩)
  have hi1 : (p : Int) ≤ (p : Int) + (m : Int) := by omega
  have hi2 : (p : Int) + (m : Int) ≤ (cap : Int) := by omega
  have hi3 : ((p : Int) + (m : Int)).toNat = p + m := by omega
  have hi4 : (0 : Int) ≤ (p : Int) + (m : Int) := by omega
  have hi5 : (p : Int) ≤ (cap : Int) := by omega
  have HE : Hid (((p : Int) + (m : Int)) = ((p + m : Nat) : Int)) := by show _ = _; omega
  by_cases hpc : cap = p
  · subst hpc
    go_quiet (fail)
    go_wp2
    go_ret
    exact ⟨⟨_, by rw [Nat.sub_self]; rfl, fun h => by omega⟩, nq, by rw [HE.out, HW.out]⟩
  · go_quiet (fail)
    go_wp2
    go_ret
    exact ⟨⟨_, rfl, fun _ => rfl⟩, nq, by rw [HE.out, HW.out]⟩

/-- What taking so many does to the reader's place and error; what an error does. -/
def takeS (n m : Nat) (s : Nat × Bool) : Nat × Bool := if s.2 then s else if s.1 + m ≤ n then (s.1 + m, false) else (s.1, true)
def mustS (s : Nat × Bool) (b : Bool) : Nat × Bool := (s.1, s.2 || !b)
/-- A reader that lies in block R, at a place, with an error or none; what was there ahead of it stays. -/
def RdR (w0 : World) (R g n cap : Nat) (w : World) (s : Nat × Bool) : Prop :=
  Below w0.heap.size w0 w ∧ w0.heap.size ≤ R ∧ s.1 ≤ n ∧ w.cell? ⟨R, 0, none⟩ = some (.slice (some ⟨g, 0, none⟩) n cap) ∧ w.cell? ⟨R, 1, none⟩ = some (.int .i64 (s.1 : Nat)) ∧ w.frozen? ⟨R, 1, none⟩ = false ∧ w.frozen? ⟨R, 2, none⟩ = false ∧
  ((s.2 = false ∧ w.cell? ⟨R, 2, none⟩ = some .nilIface) ∨ (s.2 = true ∧ ∃ t p, w.cell? ⟨R, 2, none⟩ = some (.iface t p)))
theorem RdR.lt {w0 w : World} {R g n cap : Nat} {s : Nat × Bool} (h : RdR w0 R g n cap w s) : R < w.heap.size := World.block_lt_of_cell? w _ h.2.2.2.1
/-- What turns other blocks alone leaves it. -/
theorem RdR.kept {w0 w w' : World} {R g n cap : Nat} {s : Nat × Bool} (h : RdR w0 R g n cap w s) (hb : Below w0.heap.size w0 w') (he : w'.heap[R]? = w.heap[R]?) : RdR w0 R g n cap w' s := by
  obtain ⟨_, h1, h2, h3, h4, h5, h6, h7⟩ := h
  have hc : ∀ i, w'.cell? ⟨R, i, none⟩ = w.cell? ⟨R, i, none⟩ := fun i => World.cell?_of_block he
  have hf : ∀ i, w'.frozen? ⟨R, i, none⟩ = w.frozen? ⟨R, i, none⟩ := fun i => World.frozen?_of_block he
  exact ⟨hb, h1, h2, (hc 0).trans h3, (hc 1).trans h4, (hf 1).trans h5, (hf 2).trans h6, by rw [hc 2]; exact h7⟩
theorem RdR.alloc {w0 w : World} {R g n cap : Nat} {s : Nat × Bool} (h : RdR w0 R g n cap w s) (o : Obj) : RdR w0 R g n cap (w.alloc o) s :=
  h.kept (h.1.alloc h.1.size _) (Below.heap_alloc _ _ _ h.lt)
theorem RdR.put {w0 w : World} {R g n cap b i : Nat} {s : Nat × Bool} (h : RdR w0 R g n cap w s) (v : Value) (hb : w0.heap.size ≤ b) (hne : b ≠ R) : RdR w0 R g n cap (w.setCell ⟨b, i, none⟩ v) s :=
  h.kept (h.1.setCell hb _) (Below.heap_setCell _ _ _ R (fun e => hne e.symm))
theorem RdR.later {w0 w w' : World} {R g n cap : Nat} {s : Nat × Bool} (h : RdR w0 R g n cap w s) (hb : Below w.heap.size w w') : RdR w0 R g n cap w' s :=
  h.kept (h.1.trans (hb.mono h.1.size)) (hb.block R h.lt)
theorem RdR.drewN {w0 w : World} {R g n cap : Nat} {s : Nat × Bool} (h : RdR w0 R g n cap w s) (k : Nat) : RdR w0 R g n cap (w.drewN k) s :=
  h.kept (h.1.trans ⟨rfl, rfl, rfl, Nat.le_refl _, fun _ _ => rfl⟩) rfl
theorem RdR.turn1 {w0 w : World} {R g n cap q : Nat} {s : Nat × Bool} (h : RdR w0 R g n cap w s) (hq : q ≤ n) : RdR w0 R g n cap (w.setCell ⟨R, 1, none⟩ (.int .i64 (q : Nat))) (q, s.2) := by
  obtain ⟨h0, h1, h2, h3, h4, h5, h6, h7⟩ := h
  have n10 : (⟨R, 1, none⟩ : Addr) ≠ ⟨R, 0, none⟩ := addr_ne (by decide)
  have n12 : (⟨R, 1, none⟩ : Addr) ≠ ⟨R, 2, none⟩ := addr_ne (by decide)
  exact ⟨h0.setCell h1 _, h1, hq, (World.cell?_setCell_other _ _ _ _ n10).trans h3, World.cell?_setCell_same _ _ _ h4, by rw [World.frozen?_setCell]; exact h5, by rw [World.frozen?_setCell]; exact h6, by rw [World.cell?_setCell_other _ _ _ _ n12]; exact h7⟩
theorem RdR.turn2 {w0 w : World} {R g n cap : Nat} {s : Nat × Bool} (h : RdR w0 R g n cap w s) (t : TypeId) (p : Value) : RdR w0 R g n cap (w.setCell ⟨R, 2, none⟩ (.iface t p)) (s.1, true) := by
  obtain ⟨h0, h1, h2, h3, h4, h5, h6, h7⟩ := h
  have n20 : (⟨R, 2, none⟩ : Addr) ≠ ⟨R, 0, none⟩ := addr_ne (by decide)
  have n21 : (⟨R, 2, none⟩ : Addr) ≠ ⟨R, 1, none⟩ := addr_ne (by decide)
  have hc : ∃ x, w.cell? ⟨R, 2, none⟩ = some x := by rcases h7 with ⟨_, h⟩ | ⟨_, t, p, h⟩ <;> exact ⟨_, h⟩
  obtain ⟨x, hx⟩ := hc
  exact ⟨h0.setCell h1 _, h1, h2, (World.cell?_setCell_other _ _ _ _ n20).trans h3, (World.cell?_setCell_other _ _ _ _ n21).trans h4, by rw [World.frozen?_setCell]; exact h5, by rw [World.frozen?_setCell]; exact h6, .inr ⟨rfl, t, p, World.cell?_setCell_same _ _ _ hx⟩⟩
theorem grownR_set (w : World) (R i : Nat) (v : Value) : w.grownBy (w.setCell ⟨R, i, none⟩ v) (some R) :=
  ⟨rfl, rfl, rfl, by simp [World.setCell], fun k _ hk => Below.heap_setCell _ _ _ k (fun e => hk (by rw [e]))⟩
theorem grownR_draws {w w' : World} {R : Nat} (h : w.grownBy w' (some R)) (k : Nat) : w.grownBy (w'.drewN k) (some R) := ⟨h.os, h.tape, h.output, h.size, h.block⟩
theorem grownR_refl (w : World) (R : Nat) : w.grownBy w (some R) := ⟨rfl, rfl, rfl, Nat.le_refl _, fun _ _ _ => rfl⟩

theorem must_any (w0 : World) (R g n cap : Nat) (s : Nat × Bool) (b : Bool) (t : TypeId) (p : Value) (w : World) (h : RdR w0 R g n cap w s) :
    Calls Tryd.prog 62 #[.pointer (some ⟨R, 0, none⟩), .bool b, .iface t p] w fun e w' => e = .returned (.tuple #[]) ∧ RdR w0 R g n cap w' (mustS s b) ∧ w.grownBy w' (some R) := by
  obtain ⟨q, bad⟩ := s
  have h' := h
  obtain ⟨h0, h1, h2, h3, h4, h5, h6, h7⟩ := h
  rcases h7 with ⟨hs, h7⟩ | ⟨hs, t2, p2, h7⟩
  · simp only at hs
    subst hs
    cases b
    · refine (must_put R t p w h7 h6).mono ?_
      rintro e w' ⟨rfl, rfl⟩
      exact ⟨rfl, h'.turn2 t p, grownR_set _ _ _ _⟩
    · refine (must_held R _ _ true w h7 (.inr ⟨rfl, rfl⟩)).mono ?_
      rintro e w' ⟨rfl, rfl⟩
      exact ⟨rfl, h', grownR_refl _ _⟩
  · simp only at hs
    subst hs
    refine (must_held R _ _ b w h7 (.inl ⟨_, _, rfl⟩)).mono ?_
    rintro e w' ⟨rfl, rfl⟩
    exact ⟨rfl, by unfold mustS; simp; exact h', grownR_refl _ _⟩

/-- What was taken. -/
def TookV (g n cap m : Nat) (s : Nat × Bool) (v : Value) : Prop := (s.2 = false ∧ s.1 + m ≤ n ∧ ∃ x : Addr, v = .slice (some x) m (cap - s.1) ∧ (0 < m → x = ⟨g, s.1, none⟩)) ∨ (¬ (s.2 = false ∧ s.1 + m ≤ n) ∧ v = .slice none 0 0)

theorem take_any (w0 : World) (R g n cap m : Nat) (s : Nat × Bool) (w : World) (hn : n ≤ 4194304) (hc : n ≤ cap) (hm : m ≤ 4194304) (hv : VarsE w0) (h : RdR w0 R g n cap w s) :
    Calls Tryd.prog 72 #[.pointer (some ⟨R, 0, none⟩), .int .i64 m] w fun e w' => ∃ v, e = .returned v ∧ TookV g n cap m s v ∧ RdR w0 R g n cap w' (takeS n m s) ∧ w.grownBy w' (some R) := by
  obtain ⟨q, bad⟩ := s
  have h' := h
  obtain ⟨h0, h1, h2, h3, h4, h5, h6, h7⟩ := h
  obtain ⟨te, pe, hf⟩ := (hv.below h0).few
  have hd : RdR w0 R g n cap w.drew (q, bad) := h'.drewN 1
  rcases h7 with ⟨hs, h7⟩ | ⟨hs, t2, p2, h7⟩
  · simp only at hs h2 h4
    subst hs
    by_cases hq : q + m ≤ n
    · refine (take_some R g n cap q m te pe w hn hc hm hq h3 h4 h7 h5 hf).mono ?_
      rintro e w' ⟨⟨x, rfl, hx⟩, k, rfl⟩
      have hS : takeS n m (q, false) = (q + m, false) := by unfold takeS; simp [hq]
      refine ⟨_, rfl, .inl ⟨rfl, hq, x, rfl, hx⟩, by rw [hS]; exact (hd.turn1 hq).drewN k, ?_⟩
      exact grownR_draws ((grownR_draws (grownR_refl w R) 1).andThen (grownR_set _ R 1 _) (fun j e => by cases e; exact .inr rfl)) k
    · refine (take_few R g n cap q m te pe w h2 hm (by omega) h3 h4 h7 h6 hf).mono ?_
      rintro e w' ⟨rfl, rfl⟩
      have hS : takeS n m (q, false) = (q, true) := by unfold takeS; simp [hq]
      refine ⟨_, rfl, .inr ⟨fun h => hq h.2, rfl⟩, by rw [hS]; exact hd.turn2 te pe, ?_⟩
      exact (grownR_draws (grownR_refl w R) 1).andThen (grownR_set _ R 2 _) (fun j e => by cases e; exact .inr rfl)
  · simp only at hs h2 h4
    subst hs
    refine (take_bad R g n cap q m t2 p2 w hn h2 h3 h4 h7 ⟨te, pe, hf⟩).mono ?_
    rintro e w' ⟨rfl, rfl⟩
    exact ⟨_, rfl, .inr ⟨(fun h => by cases h.1), rfl⟩, by unfold takeS; simp; exact hd, grownR_draws (grownR_refl w R) 1⟩

end Go.Proofs.YtjnhmobdigfpiaaDoor
