/- An answer's table: in memory of its own, empty or in cells that may be written; how the law marks it and finds the marks again. -/
import Derived.Test.YtglpijjkihpeeaaGreatDoorMarkTab
namespace Go.Proofs.YtglpijjkihpeeaaGreatDoor
open Go.RowKit Go.Sort

/-- A table that an answer holds: nothing at all, or a table in cells that may be written, behind B. -/
def FreshTab (w : World) (B : Nat) (v : Value) (us : List (Int × Int)) : Prop := (us = [] ∧ ∃ a cap, v = .slice a 0 cap ∧ (a = none → cap = 0)) ∨ TabRoom w B v us
theorem FreshTab.tab {w : World} {B : Nat} {v : Value} {us : List (Int × Int)} (h : FreshTab w B v us) : TabAt w v us := by
  rcases h with ⟨rfl, a, cap, rfl, hc⟩ | h
  · exact ⟨a, cap, rfl, ⟨by simp, hc⟩, fun h => by simp at h⟩
  · exact h.tab
theorem FreshTab.below {w w' : World} {B C : Nat} {v : Value} {us : List (Int × Int)} (h : FreshTab w B v us) (hC : w.heap.size ≤ C) (hb : Below C w w') : FreshTab w' B v us := by
  rcases h with h | ⟨g, cap, rfl, h1, h2, h3, h4, h5⟩
  · exact .inl h
  · exact .inr ⟨g, cap, rfl, h1, h2, Nat.lt_of_lt_of_le h3 hb.size, h4.below hb (by omega), h5.below hb (by omega)⟩
/-- A table that lies elsewhere stays, when one row is marked. -/
theorem EndsAt.grown {w w' : World} {g : Nat} {es : List (Int × Int)} {row : Option Nat} (h : EndsAt w g es) (hg : w.grownBy w' row) (hne : some g ≠ row) : EndsAt w' g es := by
  intro i hi
  have hlt := World.block_lt_of_cell? w _ (h i hi).1
  have hk := hg.block g hlt hne
  have c := h i hi
  simp only [World.cell?] at c ⊢
  rw [hk]; exact c

theorem markEmpty (a : Option Addr) (cap : Nat) (k : Nat) (w : World) :
    Calls Tryz.prog 86 #[.slice a 0 cap, .int .i64 k] w fun e w' => e = .returned (.int .i64 k) ∧ w = w' := by
  go_enter Tryz.func86, Tryz.ntmps86
  go_wp2
  go_loopw [1, 5] (fun m i wr => m = .int .i64 k ∧ i = .int .i64 0 ∧ w = wr) (fun _ _ _ => 0)
  case atStart => exact ⟨rfl, rfl, rfl⟩
  case round =>
    obtain ⟨rfl, rfl, rfl⟩ := hrel
    go_wp2
    go_ret
    exact ⟨rfl, rfl⟩
theorem heldEmpty (a : Option Addr) (cap : Nat) (k : Nat) (w : World) :
    Calls Tryz.prog 89 #[.slice a 0 cap, .int .i64 k] w fun e w' => e = .returned (.int .i64 k) ∧ w = w' := by
  go_enter Tryz.func89, Tryz.ntmps89
  go_wp2
  go_loopw [1, 5] (fun m i wr => m = .int .i64 k ∧ i = .int .i64 0 ∧ w = wr) (fun _ _ _ => 0)
  case atStart => exact ⟨rfl, rfl, rfl⟩
  case round =>
    obtain ⟨rfl, rfl, rfl⟩ := hrel
    go_wp2
    go_ret
    exact ⟨rfl, rfl⟩

theorem grown_none {w w' : World} {row : Option Nat} (h : w.grownBy w' none) : w.grownBy w' row :=
  ⟨h.os, h.tape, h.output, h.size, fun k hk _ => h.block k hk (by simp)⟩

/-- An answer's table is marked. -/
theorem markFresh (k B : Nat) (v : Value) (us : List (Int × Int)) (w : World) (hn : k + 2 * us.length ≤ 1000000000000000) (ht : FreshTab w B v us) :
    Calls Tryz.prog 70 #[.agg #[v], .int .i64 k] w fun e w' => e = .returned (.int .i64 (k + 2 * us.length : Nat)) ∧ FreshTab w' B v (marksE k us.length) ∧ w.grownBy w' v.ownBlock ∧ w.heap.size ≤ w'.heap.size := by
  rcases ht with ⟨rfl, a, cap, rfl, hc⟩ | ht
  · have HC : Hid (∀ w, Calls Tryz.prog 86 #[.slice a 0 cap, .int .i64 k] w fun e w' => e = .returned (.int .i64 k) ∧ w = w') := fun w => markEmpty a cap k w
    go_enter Tryz.func70, Tryz.ntmps70
    go_wp2_with (go_at_call 86; refine (HC.out _).mono ?_; rintro e w1 ⟨rfl, rfl⟩)
    go_ret
    exact ⟨rfl, .inl ⟨rfl, a, cap, rfl, hc⟩, grown_none (World.grownBy_alloc w _ _), by simp⟩
  · refine (markTab_room k B v us w hn ht).mono ?_
    rintro e w' ⟨rfl, h1, h2⟩
    exact ⟨rfl, .inr h1, h2, h2.size⟩

/-- What is marked is found again. -/
theorem heldFresh (k B : Nat) (v : Value) (n : Nat) (w : World) (hn : k + 2 * n ≤ 1000000000000000) (ht : FreshTab w B v (marksE k n)) :
    Calls Tryz.prog 73 #[.agg #[v], .int .i64 k] w fun e w' => e = .returned (.int .i64 (k + 2 * n : Nat)) ∧ Below w.heap.size w w' := by
  rcases ht with ⟨h0, a, cap, rfl, hc⟩ | ht
  · have h00 : n = 0 := by have := congrArg List.length h0; simpa [marksE_len] using this
    subst h00
    have hk2 : (0 : Int) ≤ (k : Int) := by omega
    have HC : Hid (∀ w, Calls Tryz.prog 89 #[.slice a 0 cap, .int .i64 k] w fun e w' => e = .returned (.int .i64 k) ∧ w = w') := fun w => heldEmpty a cap k w
    go_enter Tryz.func73, Tryz.ntmps73
    go_wp2_with (go_at_call 89; refine (HC.out _).mono ?_; rintro e w1 ⟨rfl, rfl⟩)
    go_ret
    exact ⟨rfl, (Below.refl _ _).alloc (Nat.le_refl _) _⟩
  · exact heldTab_room k B v n w hn ht

end Go.Proofs.YtglpijjkihpeeaaGreatDoor
