/- Chapter 1, ends: what EndInside, EndOutside and EndOk of the program and of the specification answer, each at every end; the world below the call stays as it was. No condition. -/
import Derived.Test.YtfciohdebopmkaaDoorRows
import Derived.ProofKit
import Derived.WalkKit
import Derived.WalkSpells
import Derived.Deep.QuietTactic
import Derived.BigQuiet
namespace Go.Proofs.YtfciohdebopmkaaDoor
open Go.RowKit

def inB (n lo hi : Int) : Bool := decide (lo ≤ n) && decide (n ≤ hi)
def insB (a p : Int) : Bool := inB a 1 9 && inB p 1 999
def outB (a p : Int) : Bool := inB a 100 109 && inB p 1 999
def boxB (a p : Int) : Bool := decide (a = 50) && inB p 1 999
def endB (a p : Int) : Bool := insB a p || outB a p || boxB a p

set_option maxHeartbeats 400000 in
theorem specIn_any (n lo hi : Int) (w : World) :
    Calls Tryd.prog 20 #[.int .i64 n, .int .i64 lo, .int .i64 hi] w fun e w' => e = .returned (.bool (inB n lo hi)) ∧ w = w' := by
  by_cases h1 : lo ≤ n <;> by_cases h2 : n ≤ hi <;>
  · go_enter Tryd.func20, Tryd.ntmps20
    go_wp2
    go_ret
    exact ⟨by simp [inB, h1, h2], rfl⟩

set_option maxHeartbeats 400000 in
theorem within_any (n lo hi : Int) (w : World) :
    Calls Tryd.prog 27 #[.int .i64 n, .int .i64 lo, .int .i64 hi] w fun e w' => e = .returned (.bool (inB n lo hi)) ∧ w = w' := by
  by_cases h1 : lo ≤ n <;> by_cases h2 : n ≤ hi <;>
  · go_enter Tryd.func27, Tryd.ntmps27
    go_wp2
    go_ret
    exact ⟨by simp [inB, h1, h2], rfl⟩

set_option maxHeartbeats 400000 in
theorem isPort_any (n : Int) (w : World) :
    Calls Tryd.prog 28 #[.int .i64 n] w fun e w' => e = .returned (.bool (inB n 1 999)) ∧ w = w' := by
  go_enter Tryd.func28, Tryd.ntmps28
  go_wp2_with (go_at_call 27; refine (within_any _ _ _ _).mono ?_; rintro e w' ⟨rfl, rfl⟩)
  go_ret
  exact ⟨rfl, rfl⟩

set_option maxHeartbeats 400000 in
theorem isBox_any (a p : Int) (w : World) :
    Calls Tryd.prog 23 #[.agg #[.int .i64 a, .int .i64 p]] w fun e w' => e = .returned (.bool (boxB a p)) ∧ Below w.heap.size w w' := by
  by_cases h1 : a = 50
  · subst h1
    go_enter Tryd.func23, Tryd.ntmps23
    go_wp2_with (go_at_call 28; refine (isPort_any _ _).mono ?_; rintro e w' ⟨rfl, rfl⟩)
    go_ret
    exact ⟨by simp [boxB], (Below.refl _ _).alloc (Nat.le_refl _) _⟩
  · have h2 : (a == 50) = false := by simpa using h1
    go_enter Tryd.func23, Tryd.ntmps23
    go_wp2_with (go_at_call 28; refine (isPort_any _ _).mono ?_; rintro e w' ⟨rfl, rfl⟩)
    go_ret
    exact ⟨by simp [boxB, h1], (Below.refl _ _).alloc (Nat.le_refl _) _⟩

set_option maxHeartbeats 400000 in
theorem specInside_any (a p : Int) (w : World) :
    Calls Tryd.prog 18 #[.agg #[.int .i64 a, .int .i64 p]] w fun e w' => e = .returned (.bool (insB a p)) ∧ Below w.heap.size w w' := by
  by_cases h1 : inB a 1 9 = true <;>
  · go_enter Tryd.func18, Tryd.ntmps18
    go_wp2_with (go_at_call 20; refine (specIn_any _ _ _ _).mono ?_; rintro e w' ⟨rfl, rfl⟩)
    go_ret
    exact ⟨by simp [insB, h1], (Below.refl _ _).alloc (Nat.le_refl _) _⟩

set_option maxHeartbeats 400000 in
theorem implInside_any (a p : Int) (w : World) :
    Calls Tryd.prog 21 #[.agg #[.int .i64 a, .int .i64 p]] w fun e w' => e = .returned (.bool (insB a p)) ∧ Below w.heap.size w w' := by
  by_cases h1 : inB a 1 9 = true <;>
  · go_enter Tryd.func21, Tryd.ntmps21
    go_wp2_with (first
      | (go_at_call 27; refine (within_any _ _ _ _).mono ?_; rintro e w' ⟨rfl, rfl⟩)
      | (go_at_call 28; refine (isPort_any _ _).mono ?_; rintro e w' ⟨rfl, rfl⟩))
    go_ret
    exact ⟨by simp [insB, h1], (Below.refl _ _).alloc (Nat.le_refl _) _⟩

set_option maxHeartbeats 400000 in
theorem specOutside_any (a p : Int) (w : World) :
    Calls Tryd.prog 19 #[.agg #[.int .i64 a, .int .i64 p]] w fun e w' => e = .returned (.bool (outB a p)) ∧ Below w.heap.size w w' := by
  by_cases h1 : inB a 100 109 = true <;>
  · go_enter Tryd.func19, Tryd.ntmps19
    go_wp2_with (go_at_call 20; refine (specIn_any _ _ _ _).mono ?_; rintro e w' ⟨rfl, rfl⟩)
    go_ret
    exact ⟨by simp [outB, h1], (Below.refl _ _).alloc (Nat.le_refl _) _⟩

set_option maxHeartbeats 400000 in
theorem implOutside_any (a p : Int) (w : World) :
    Calls Tryd.prog 22 #[.agg #[.int .i64 a, .int .i64 p]] w fun e w' => e = .returned (.bool (outB a p)) ∧ Below w.heap.size w w' := by
  by_cases h1 : inB a 100 109 = true <;>
  · go_enter Tryd.func22, Tryd.ntmps22
    go_wp2_with (first
      | (go_at_call 27; refine (within_any _ _ _ _).mono ?_; rintro e w' ⟨rfl, rfl⟩)
      | (go_at_call 28; refine (isPort_any _ _).mono ?_; rintro e w' ⟨rfl, rfl⟩))
    go_ret
    exact ⟨by simp [outB, h1], (Below.refl _ _).alloc (Nat.le_refl _) _⟩

/-- What a contract's 'Below' says of the cells of older blocks. -/
theorem bcell {W w1 : World} (hb : Below W.heap.size W w1) : (∀ b o, b < W.heap.size → w1.cell? ⟨b, o, none⟩ = W.cell? ⟨b, o, none⟩) ∧ (∀ b o, b < W.heap.size → w1.frozen? ⟨b, o, none⟩ = W.frozen? ⟨b, o, none⟩) :=
  ⟨fun b o h => hb.cell (p := ⟨b, o, none⟩) h, fun b o h => hb.frozen (p := ⟨b, o, none⟩) h⟩

theorem below_box {w : World} {o : Obj} {w1 : World} (h : Below (w.alloc o).heap.size (w.alloc o) w1) : Below w.heap.size w w1 :=
  ((Below.refl _ _).alloc (Nat.le_refl _) _).trans (h.mono (by simp))

set_option maxHeartbeats 1000000 in
theorem implOk_any (a p : Int) (w : World) :
    Calls Tryd.prog 13 #[.agg #[.int .i64 a, .int .i64 p]] w fun e w' => e = .returned (.bool (endB a p)) ∧ Below w.heap.size w w' := by
  by_cases h1 : insB a p = true <;> by_cases h2 : outB a p = true <;>
  · go_enter Tryd.func13, Tryd.ntmps13
    go_wp2_with (first
      | (go_at_call 21; refine (implInside_any _ _ _).mono ?_; rintro e w1 ⟨rfl, b1⟩; obtain ⟨c1, f1⟩ := bcell b1; have s1 : w.heap.size < w1.heap.size := by (have := b1.size; simp at this; omega))
      | (go_at_call 22; refine (implOutside_any _ _ _).mono ?_; rintro e w2 ⟨rfl, b2⟩; obtain ⟨c2, f2⟩ := bcell b2)
      | (go_at_call 23; refine (isBox_any _ _ _).mono ?_; rintro e w3 ⟨rfl, b3⟩))
    go_ret
    first
      | exact ⟨by simp [endB, h1, h2], (below_box ‹Below (w.alloc _).heap.size _ _›).trans ((‹Below w1.heap.size w1 _›).trans ((‹Below w2.heap.size w2 _›).mono (by have := (‹Below w1.heap.size w1 w2›).size; omega)) |>.mono (by omega))⟩
      | exact ⟨by simp [endB, h1, h2], (below_box ‹Below (w.alloc _).heap.size _ _›).trans ((‹Below w1.heap.size w1 _›).mono (by omega))⟩
      | exact ⟨by simp [endB, h1, h2], below_box ‹_›⟩

set_option maxHeartbeats 1000000 in
theorem specOk_any (a p : Int) (w : World) :
    Calls Tryd.prog 11 #[.agg #[.int .i64 a, .int .i64 p]] w fun e w' => e = .returned (.bool (endB a p)) ∧ Below w.heap.size w w' := by
  by_cases h3 : a = 50
  · subst h3
    have h1 : ¬ insB 50 p = true := by simp [insB, inB]
    have h2 : ¬ outB 50 p = true := by simp [outB, inB]
    go_enter Tryd.func11, Tryd.ntmps11
    go_wp2_with (first
      | (go_at_call 18; refine (specInside_any _ _ _).mono ?_; rintro e w1 ⟨rfl, b1⟩; obtain ⟨c1, f1⟩ := bcell b1; have s1 : w.heap.size < w1.heap.size := by (have := b1.size; simp at this; omega))
      | (go_at_call 19; refine (specOutside_any _ _ _).mono ?_; rintro e w2 ⟨rfl, b2⟩; obtain ⟨c2, f2⟩ := bcell b2)
      | (go_at_call 20; refine (specIn_any _ _ _ _).mono ?_; rintro e w3 ⟨rfl, rfl⟩))
    go_ret
    exact ⟨by simp [endB, boxB, h1, h2], (below_box ‹Below (w.alloc _).heap.size _ _›).trans ((‹Below w1.heap.size w1 _›).mono (by omega))⟩
  · have h4 : (a == 50) = false := by simpa using h3
    by_cases h1 : insB a p = true <;> by_cases h2 : outB a p = true <;>
    · go_enter Tryd.func11, Tryd.ntmps11
      go_wp2_with (first
        | (go_at_call 18; refine (specInside_any _ _ _).mono ?_; rintro e w1 ⟨rfl, b1⟩; obtain ⟨c1, f1⟩ := bcell b1; have s1 : w.heap.size < w1.heap.size := by (have := b1.size; simp at this; omega))
        | (go_at_call 19; refine (specOutside_any _ _ _).mono ?_; rintro e w2 ⟨rfl, b2⟩; obtain ⟨c2, f2⟩ := bcell b2)
        | (go_at_call 20; refine (specIn_any _ _ _ _).mono ?_; rintro e w3 ⟨rfl, rfl⟩))
      go_ret
      first
        | exact ⟨by simp [endB, boxB, h1, h2, h3], (below_box ‹Below (w.alloc _).heap.size _ _›).trans ((‹Below w1.heap.size w1 _›).mono (by omega))⟩
        | exact ⟨by simp [endB, boxB, h1, h2, h3], below_box ‹_›⟩

set_option maxHeartbeats 400000 in
theorem toEnd_any (a p : Int) (w : World) :
    Calls Tryd.prog 6 #[.agg #[.int .i64 a, .int .i64 p]] w fun e w' => e = .returned (.agg #[.int .i64 a, .int .i64 p]) ∧ Below w.heap.size w w' := by
  go_enter Tryd.func6, Tryd.ntmps6
  go_wp2
  refine bodyPost_ret (v := .agg #[.int .i64 a, .int .i64 p]) (by simp [results, Tryd.results6, go_sem]) rfl ⟨rfl, ?_⟩
  exact ((((Below.refl _ _).alloc (Nat.le_refl _) _).alloc (by simp) _).alloc (by simp; omega) _)

end Go.Proofs.YtfciohdebopmkaaDoor
