/- How the law marks a table's ends and finds the marks again. Conditions: the marks from 1 on, at most 10^15. -/
import Derived.Test.YtglpijjkihpeeaaGreatDoorToTab
namespace Go.Proofs.YtglpijjkihpeeaaGreatDoor
open Go.RowKit Go.Sort

theorem grown_setM {w w' : World} {b : Nat} (h : w.grownBy w' (some b)) (i : Nat) (v : Value) : w.grownBy (w'.setCell ⟨b, i, none⟩ v) (some b) :=
  ⟨h.os, h.tape, h.output, by simpa using h.size, fun k hk hne => by rw [Below.heap_setCell _ _ _ _ (fun e => hne (by rw [e]))]; exact h.block k hk hne⟩
theorem grown_below {w w' : World} {row : Option Nat} (h : Below w.heap.size w w') : w.grownBy w' row :=
  ⟨h.os, h.tape, h.output, h.size, fun k hk _ => h.block k hk⟩
/-- n marks of ends, from k on. -/
def marksE (k n : Nat) : List (Int × Int) := (List.range n).map fun i => (((k + 2 * i : Nat) : Int), ((k + 2 * i + 1 : Nat) : Int))
theorem marksE_len (k n : Nat) : (marksE k n).length = n := by simp [marksE]
theorem marksE_at (k n i : Nat) (h : i < (marksE k n).length) : (marksE k n)[i] = (((k + 2 * i : Nat) : Int), ((k + 2 * i + 1 : Nat) : Int)) := by simp [marksE]

set_option maxRecDepth 100000 in
set_option maxHeartbeats 800000 in
theorem markEnds_any (k n g cap : Nat) (w : World) (hn : k + 2 * n ≤ 1000000000000000) (hc : n ≤ cap) (hr : Room w g (n * 2)) :
    Calls Tryz.prog 86 #[.slice (some ⟨g, 0, none⟩) n cap, .int .i64 k] w fun e w' => e = .returned (.int .i64 (k + 2 * n : Nat)) ∧ EndsAt w' g (marksE k n) ∧ Room w' g (n * 2) ∧ w.grownBy w' (some g) := by
  have HR := Lib.hid hr
  clear hr
  go_enter Tryz.func86, Tryz.ntmps86
  go_wp2
  go_loopw [1, 5] (fun m i wr => ∃ j : Nat, j ≤ n ∧ i = .int .i64 j ∧ m = .int .i64 (k + 2 * j : Nat) ∧ EndsAt wr g ((marksE k n).take j) ∧ Room wr g (n * 2) ∧ w.grownBy wr (some g)) (fun _ i _ => n - (intOf i).toNat)
  case atStart => exact ⟨0, Nat.zero_le _, rfl, rfl, fun i hi => by simp at hi, HR.out, World.grownBy.refl _ _⟩
  case round =>
    obtain ⟨j, hj, rfl, rfl, he, hro, hb⟩ := hrel
    have HE := Lib.hid he
    have HO := Lib.hid hro
    have HB := Lib.hid hb
    clear he hb
    by_cases hlt : j < n
    · obtain ⟨x0, hx0⟩ := (hro (j * 2) (by omega)).1
      have f0 := (hro (j * 2) (by omega)).2
      obtain ⟨x1, hx1⟩ := (hro (j * 2 + 1) (by omega)).1
      have f1 := (hro (j * 2 + 1) (by omega)).2
      have hk2 : (j : Int) ≤ (cap : Int) := by omega
      clear hro
      go_wp2
      go_roundw
      case rel =>
        refine ⟨j + 1, by omega, by go_num, by rw [show (k : Int) + 2 * (j : Int) + 1 + 1 = ((k + 2 * (j + 1) : Nat) : Int) from by omega], EndsAt.push (es := marksE k n) (m := n * 2) (by simp [marksE_len]; omega) (by rw [List.take_take, Nat.min_eq_left (by omega)]) (by rw [marksE_len]; omega) (fun h => by rw [List.getElem_take, marksE_at]; simp) HE.out HO.out (by omega), (HO.out.set (by omega) _).set (by omega) _, grown_setM (grown_setM HB.out _ _) _ _⟩
      case measure => simp [intOf]; omega
    · have hjn : j = n := by omega
      subst hjn
      go_wp2
      go_ret
      refine ⟨rfl, ?_, HO.out, HB.out⟩
      have := HE.out
      rwa [List.take_of_length_le (by rw [marksE_len]; omega)] at this

set_option maxRecDepth 100000 in
set_option maxHeartbeats 800000 in
theorem heldEnds_any (k n g cap : Nat) (w : World) (hn : k + 2 * n ≤ 1000000000000000) (hc : n ≤ cap) (hr : EndsAt w g (marksE k n)) :
    Calls Tryz.prog 89 #[.slice (some ⟨g, 0, none⟩) n cap, .int .i64 k] w fun e w' => e = .returned (.int .i64 (k + 2 * n : Nat)) ∧ Below w.heap.size w w' := by
  have HR := Lib.hid hr
  clear hr
  go_enter Tryz.func89, Tryz.ntmps89
  go_wp2
  go_loopw [1, 5] (fun m i wr => ∃ j : Nat, j ≤ n ∧ i = .int .i64 j ∧ m = .int .i64 (k + 2 * j : Nat) ∧ Below w.heap.size w wr) (fun _ i _ => n - (intOf i).toNat)
  case atStart => exact ⟨0, Nat.zero_le _, rfl, rfl, Below.refl _ _⟩
  case round =>
    obtain ⟨j, hj, rfl, rfl, hb⟩ := hrel
    have HB := Lib.hid hb
    by_cases hlt : j < n
    · have hrow := (HR.out.below hb (HR.out.lt (by rw [marksE_len]; omega))) j (by rw [marksE_len]; omega)
      rw [marksE_at] at hrow
      obtain ⟨r0, r1⟩ := hrow
      simp only at r0 r1
      have hk2 : (j : Int) ≤ (cap : Int) := by omega
      clear hb
      go_wp2
      go_roundw
      case rel => exact ⟨j + 1, by omega, by go_num, by rw [show (k : Int) + 2 * (j : Int) + 1 + 1 = ((k + 2 * (j + 1) : Nat) : Int) from by omega], HB.out⟩
      case measure => simp [intOf]; omega
    · have hjn : j = n := by omega
      subst hjn
      go_wp2
      go_ret
      exact ⟨rfl, HB.out⟩

/-- A table in cells that may be written is marked. -/
theorem markTab_room (k B : Nat) (v : Value) (es : List (Int × Int)) (w : World) (hn : k + 2 * es.length ≤ 1000000000000000) (ht : TabRoom w B v es) :
    Calls Tryz.prog 70 #[.agg #[v], .int .i64 k] w fun e w' => e = .returned (.int .i64 (k + 2 * es.length : Nat)) ∧ TabRoom w' B v (marksE k es.length) ∧ w.grownBy w' v.ownBlock := by
  obtain ⟨g, cap, rfl, hc, hB, hg, he, hr⟩ := ht
  have HR : Hid (∀ o, Room (w.alloc o) g (es.length * 2) ∧ g < (w.alloc o).heap.size) := fun o => ⟨hr.below ((Below.refl _ _).alloc (Nat.le_refl _) o) hg, by simp; omega⟩
  have HC : ∀ w, Room w g (es.length * 2) → g < w.heap.size → Calls Tryz.prog 86 #[.slice (some ⟨g, 0, none⟩) es.length cap, .int .i64 k] w fun e w' => e = .returned (.int .i64 (k + 2 * es.length : Nat)) ∧ EndsAt w' g (marksE k es.length) ∧ Room w' g (es.length * 2) ∧ w.grownBy w' (some g) := fun w h1 _ => markEnds_any k es.length g cap w hn hc h1
  have HCh := Lib.hid HC
  obtain ⟨q, hq⟩ : ∃ q : Int, q = ((k + 2 * es.length : Nat) : Int) := ⟨_, rfl⟩
  rw [← hq] at HCh ⊢
  clear HC hr he hq
  go_enter Tryz.func70, Tryz.ntmps70
  go_wp2_with (go_at_call 86; refine (HCh.out _ (HR.out _).1 (HR.out _).2).mono ?_; rintro e w1 ⟨rfl, h1, h2, h3⟩)
  go_ret
  refine ⟨rfl, ⟨g, cap, by rw [marksE_len], by rw [marksE_len]; exact hc, hB, ?_, h1, by rw [marksE_len]; exact h2⟩, ?_⟩
  · have := h3.size; simp at this; omega
  · exact (World.grownBy_alloc w _ _).trans h3

theorem heldTab_room (k B : Nat) (v : Value) (n : Nat) (w : World) (hn : k + 2 * n ≤ 1000000000000000) (ht : TabRoom w B v (marksE k n)) :
    Calls Tryz.prog 73 #[.agg #[v], .int .i64 k] w fun e w' => e = .returned (.int .i64 (k + 2 * n : Nat)) ∧ Below w.heap.size w w' := by
  obtain ⟨g, cap, rfl, hc, hB, hg, he, hr⟩ := ht
  rw [marksE_len] at hc ⊢
  have HR : Hid (∀ o, EndsAt (w.alloc o) g (marksE k n)) := fun o => he.below ((Below.refl _ _).alloc (Nat.le_refl _) o) hg
  have HC : ∀ w, EndsAt w g (marksE k n) → Calls Tryz.prog 89 #[.slice (some ⟨g, 0, none⟩) n cap, .int .i64 k] w fun e w' => e = .returned (.int .i64 (k + 2 * n : Nat)) ∧ Below w.heap.size w w' := fun w h1 => heldEnds_any k n g cap w hn hc h1
  have HCh := Lib.hid HC
  obtain ⟨q, hq⟩ : ∃ q : Int, q = ((k + 2 * n : Nat) : Int) := ⟨_, rfl⟩
  have hq0 : 0 ≤ q := by omega
  rw [← hq] at HCh ⊢
  clear HC hr he hq
  go_enter Tryz.func73, Tryz.ntmps73
  go_wp2_with (go_at_call 89; refine (HCh.out _ (HR.out _)).mono ?_; rintro e w1 ⟨rfl, h1⟩)
  go_ret
  exact ⟨rfl, ((Below.refl _ _).alloc (Nat.le_refl _) _).trans (h1.mono (by simp))⟩

end Go.Proofs.YtglpijjkihpeeaaGreatDoor
