/- How the law copies bytes, compares them, marks them and finds the marks again. Condition: at most 2^22 bytes. -/
import Derived.Test.YtjnhmobdigfpiaaDoorBytes
import Derived.Deep.QuietTactic
import Derived.BigQuiet
import Derived.IntWalk
import Derived.OwnWalk
namespace Go.Proofs.YtjnhmobdigfpiaaDoor
open Go.RowKit

/-- A row that is written cell by cell. -/
theorem row_step (ys xs : List Value) (j : Nat) (hx : xs.length = ys.length) (hj : j < ys.length) : (ys.take j ++ xs.drop j).set j ys[j] = ys.take (j + 1) ++ xs.drop (j + 1) := by
  apply List.ext_getElem
  · simp [hx]; omega
  · intro i h1 h2
    by_cases e : j = i
    · subst e
      rw [List.getElem_set_self, List.getElem_append_left (by simp; omega), List.getElem_take]
    · rw [List.getElem_set_ne e]
      by_cases hi : i < j
      · rw [List.getElem_append_left (by simp; omega), List.getElem_append_left (by simp; omega)]
        simp
      · rw [List.getElem_append_right (by simp; omega), List.getElem_append_right (by simp; omega)]
        simp
        congr 1; omega
theorem row_all (ys xs : List Value) (hx : xs.length = ys.length) : ys.take ys.length ++ xs.drop ys.length = ys := by
  rw [List.take_of_length_le (Nat.le_refl _), List.drop_of_length_le (by omega)]; simp
theorem row_own {w : World} {B g n cap : Nat} {e : TypeId} {xs : List Value} (h : w.ownsRow B e 1 (.slice (some ⟨g, 0, none⟩) n cap) n xs) : xs.length = n ∧ RowAt w g xs ∧ B ≤ g ∧ g < w.heap.size := by
  have hl : xs.length = n := by rw [h.1]; omega
  refine ⟨hl, ?_⟩
  rcases h.2 with ⟨h0, _⟩ | ⟨g', cap', cur, hv, hB, hg, h2, _, hs, ht⟩
  · cases h0
  · simp at hv
    obtain ⟨rfl, rfl⟩ := hv
    refine ⟨fun i hi => ?_, hB, (Array.getElem?_eq_some_iff.1 hg).1⟩
    obtain ⟨g2, cap2, e2, _, _, _, hc⟩ := own_cells h (by omega)
    simp at e2
    obtain ⟨rfl, rfl⟩ := e2
    exact hc i hi

/-- n marks, from k on. -/
def marksB (k n : Nat) : List UInt8 := (List.range n).map fun i => UInt8.ofNat (k + i)
theorem marksB_len (k n : Nat) : (marksB k n).length = n := by simp [marksB]
theorem marksB_at (k n i : Nat) (h : i < (marksB k n).length) : (marksB k n)[i] = UInt8.ofNat (k + i) := by simp [marksB]
theorem ofNat_u8 (k : Nat) : ((UInt8.ofNat k).toNat : Int) = (k : Int) % 256 := by simp
theorem marksB_set (k n j : Nat) (xs : List Value) (hx : xs.length = n) (hj : j < n) : ((byV (marksB k n)).take j ++ xs.drop j).set j (.int .u8 (((k : Int) + (j : Int)) % 256)) = (byV (marksB k n)).take (j + 1) ++ xs.drop (j + 1) := by
  have := row_step (byV (marksB k n)) xs j (by rw [byV_len, marksB_len, hx]) (by rw [byV_len, marksB_len]; exact hj)
  rw [byV_at, marksB_at, ofNat_u8] at this
  rwa [show (((k + j : Nat) : Int)) = (k : Int) + (j : Int) from by omega] at this

end Go.Proofs.YtjnhmobdigfpiaaDoor
