/- How the law marks a list of texts and finds the marks again; two lists of the same texts are found the same. Conditions: the lists are of at most 2^22 texts, the marks from 1 on. -/
import Derived.Test.YtgfkiljkpkfapaaGreatDoorByte
import Derived.Test.YtgfkiljkpkfapaaGreatDoorRdV
import Derived.Lib.QuietBelow
namespace Go.Proofs.YtgfkiljkpkfapaaGreatDoor
open Go.RowKit Go.Sort

/-- The text of a mark. -/
def markL (k : Nat) : List UInt8 := 109 :: Lib.decDigits k

/-- n marks, from k on. -/
def marksL (k n : Nat) : List Value := (List.range n).map fun i => strV (markL (k + i))
theorem marksL_len (k n : Nat) : (marksL k n).length = n := by simp [marksL]
theorem marksL_at (k n i : Nat) (h : i < (marksL k n).length) : (marksL k n)[i] = strV (markL (k + i)) := by simp [marksL]
theorem marks_set (k n j : Nat) (xs : List Value) (hx : xs.length = n) (hj : j < n) : ((marksL k n).take j ++ xs.drop j).set j (strV (markL (k + j))) = (marksL k n).take (j + 1) ++ xs.drop (j + 1) := by
  apply List.ext_getElem
  · simp [marksL_len, hx]; omega
  · intro i h1 h2
    by_cases e : j = i
    · subst e
      rw [List.getElem_set_self, List.getElem_append_left (by simp [marksL_len]; omega)]
      simp [marksL]
    · rw [List.getElem_set_ne e]
      by_cases hi : i < j
      · rw [List.getElem_append_left (by simp [marksL_len]; omega), List.getElem_append_left (by simp [marksL_len]; omega)]
        simp
      · rw [List.getElem_append_right (by simp [marksL_len]; omega), List.getElem_append_right (by simp [marksL_len]; omega)]
        simp [marksL_len]
        congr 1; omega

end Go.Proofs.YtgfkiljkpkfapaaGreatDoor
