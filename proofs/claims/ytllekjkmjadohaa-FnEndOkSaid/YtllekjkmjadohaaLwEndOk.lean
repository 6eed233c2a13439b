/- The law that an end is inside, outside or the box's, and one alone: at every code. Condition: the code lies in memory. -/
import Derived.Test.YtllekjkmjadohaaDrawEnd
import Derived.Test.YtllekjkmjadohaaHaOk
import Derived.Test.YtllekjkmjadohaaEnd
namespace Go.Proofs.Ytllekjkmjadohaa
open Go.RowKit

theorem sides_one (a p : Int) : (insB a p = true ∧ outB a p = false ∧ endB a p = true ∧ (a == 50) = false) ∨ (insB a p = false ∧ outB a p = true ∧ endB a p = true ∧ (a == 50) = false) ∨ (insB a p = false ∧ outB a p = false ∧ endB a p = false ∧ (a == 50) = false) ∨
    (insB a p = false ∧ outB a p = false ∧ endB a p = true ∧ (a == 50) = true ∧ 1 ≤ p ∧ p ≤ 999) ∨ (insB a p = false ∧ outB a p = false ∧ endB a p = false ∧ (a == 50) = true ∧ ¬ 1 ≤ p) ∨ (insB a p = false ∧ outB a p = false ∧ endB a p = false ∧ (a == 50) = true ∧ 1 ≤ p ∧ ¬ p ≤ 999) := by
  by_cases h1 : insB a p = true
  · left; simp [insB, outB, endB, inB] at h1 ⊢; omega
  · by_cases h2 : outB a p = true
    · right; left; simp [insB, outB, endB, inB] at h1 h2 ⊢; omega
    · right; right
      simp only [Bool.not_eq_true] at h1 h2
      by_cases h3 : a = 50
      · subst h3
        by_cases h4 : 1 ≤ p <;> by_cases h5 : p ≤ 999 <;> simp [endB, boxB, inB, h1, h2, h4, h5]
      · left; simp [endB, boxB, h1, h2, h3]

set_option maxRecDepth 100000 in
set_option maxHeartbeats 6400000 in
theorem lwEndOk_any (ao : Option Addr) (n cap : Nat) (w : World) (h : BytesIn w ao n) (hn : n ≤ cap) :
    Calls Try.prog 3 #[.slice ao n cap] w fun e w' => e = .returned (.bool true) ∧ Below w.heap.size w w' := by
  have H := Lib.hid h
  clear h
  by_cases hn2 : 1048576 < n
  · go_enter Try.func3, Try.ntmps3
    go_wp2_with fail
    go_ret
    exact ⟨rfl, Below.refl _ _⟩
  · go_enter Try.func3, Try.ntmps3
    go_wp2_with fail
    (go_at_call 9; refine (drawEndOk_any ao n cap _ H.out hn).mono ?_; rintro e w1 ⟨a, p, rfl, b1⟩)
    have d0 : (w1.alloc (.cells #[.int .i64 a, .int .i64 p] 24)).cell? ⟨w1.heap.size, 0, none⟩ = some (.int .i64 a) := by simp
    have d1 : (w1.alloc (.cells #[.int .i64 a, .int .i64 p] 24)).cell? ⟨w1.heap.size, 1, none⟩ = some (.int .i64 p) := by simp
    have z : w1.heap.size < (w1.alloc (.cells #[.int .i64 a, .int .i64 p] 24)).heap.size := by simp
    have BB : Below w.heap.size w (w1.alloc (.cells #[.int .i64 a, .int .i64 p] 24)) := b1.alloc b1.size _
    clear b1
    rcases sides_one a p with ⟨hi, ho, he, h50⟩ | ⟨hi, ho, he, h50⟩ | ⟨hi, ho, he, h50⟩ | ⟨hi, ho, he, h50, h1, h2⟩ | ⟨hi, ho, he, h50, h1⟩ | ⟨hi, ho, he, h50, h1, h2⟩ <;>
    · go_wp2_with (first
      | (go_at_call 10; refine (implInside_any a p _).mono ?_; rintro e wk ⟨rfl, bk⟩; have d0 := (bk.cell (p := ⟨w1.heap.size, 0, none⟩) z).trans d0; have d1 := (bk.cell (p := ⟨w1.heap.size, 1, none⟩) z).trans d1; have z := Nat.lt_of_lt_of_le z bk.size; have BB := BB.trans (bk.mono BB.size); clear bk)
      | (go_at_call 11; refine (implOutside_any a p _).mono ?_; rintro e wk ⟨rfl, bk⟩; have d0 := (bk.cell (p := ⟨w1.heap.size, 0, none⟩) z).trans d0; have d1 := (bk.cell (p := ⟨w1.heap.size, 1, none⟩) z).trans d1; have z := Nat.lt_of_lt_of_le z bk.size; have BB := BB.trans (bk.mono BB.size); clear bk)
      | (go_at_call 12; refine (implOk_any a p _).mono ?_; rintro e wk ⟨rfl, bk⟩; have d0 := (bk.cell (p := ⟨w1.heap.size, 0, none⟩) z).trans d0; have d1 := (bk.cell (p := ⟨w1.heap.size, 1, none⟩) z).trans d1; have z := Nat.lt_of_lt_of_le z bk.size; have BB := BB.trans (bk.mono BB.size); clear bk)
      | (go_at_call 13; refine (specInside_any a p _).mono ?_; rintro e wk ⟨rfl, bk⟩; have d0 := (bk.cell (p := ⟨w1.heap.size, 0, none⟩) z).trans d0; have d1 := (bk.cell (p := ⟨w1.heap.size, 1, none⟩) z).trans d1; have z := Nat.lt_of_lt_of_le z bk.size; have BB := BB.trans (bk.mono BB.size); clear bk)
      | (go_at_call 14; refine (specOutside_any a p _).mono ?_; rintro e wk ⟨rfl, bk⟩; have d0 := (bk.cell (p := ⟨w1.heap.size, 0, none⟩) z).trans d0; have d1 := (bk.cell (p := ⟨w1.heap.size, 1, none⟩) z).trans d1; have z := Nat.lt_of_lt_of_le z bk.size; have BB := BB.trans (bk.mono BB.size); clear bk)
      | (go_at_call 15; refine (specOk_any a p _).mono ?_; rintro e wk ⟨rfl, bk⟩; have d0 := (bk.cell (p := ⟨w1.heap.size, 0, none⟩) z).trans d0; have d1 := (bk.cell (p := ⟨w1.heap.size, 1, none⟩) z).trans d1; have z := Nat.lt_of_lt_of_le z bk.size; have BB := BB.trans (bk.mono BB.size); clear bk)
      | (go_at_call 16; refine (haOk_any _).mono ?_; rintro e wk ⟨rfl, rfl⟩))
      go_ret
      exact ⟨rfl, BB⟩

end Go.Proofs.Ytllekjkmjadohaa
