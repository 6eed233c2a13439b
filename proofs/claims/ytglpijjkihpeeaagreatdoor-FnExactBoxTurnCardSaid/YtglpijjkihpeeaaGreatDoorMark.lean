/- How the law marks a list of texts and finds the marks again; two lists of the same texts are found the same. Conditions: the lists are of at most 2^22 texts, the marks from 1 on. -/
import Derived.Test.YtglpijjkihpeeaaGreatDoorByte
import Derived.Test.YtglpijjkihpeeaaGreatDoorRdV
import Derived.Lib.QuietBelow
namespace Go.Proofs.YtglpijjkihpeeaaGreatDoor
open Go.RowKit Go.Sort

/-- The text of a mark. -/
def markL (k : Nat) : List UInt8 := 109 :: Lib.decDigits k

set_option maxRecDepth 100000 in
set_option maxHeartbeats 400000 in
theorem markText_any (n : Nat) (w : World) (h0 : 1 ≤ n) (hn : n ≤ 1000000000000000000) :
    Calls Tryz.prog 84 #[.int .i64 n] w fun e w' => e = .returned (.string ⟨(markL n).toArray⟩) ∧ Below w.heap.size w w' := by
  have h0' : ¬ (n : Int) ≤ 0 := by omega
  go_enter Tryz.func84, Tryz.ntmps84
  go_wp2
  go_loopw [0, 3] (fun s o wr => ∃ (k : Nat) (l : List UInt8), s = .int .i64 k ∧ o = .string ⟨l.toArray⟩ ∧ (k = 0 → l = Lib.decDigits n) ∧ (0 < k → Lib.decDigits k ++ l = Lib.decDigits n) ∧ l.length + k ≤ n ∧ Below w.heap.size w wr) (fun s _ _ => (intOf s).toNat)
  case atStart => exact ⟨n, [], rfl, rfl, by omega, by simp, by simp, Below.refl _ _⟩
  case round =>
    obtain ⟨k, l, rfl, rfl, hz, hd, hl, hb⟩ := hrel
    have HZ := Lib.hid hz
    have HD := Lib.hid hd
    clear hz hd
    have n1 : ¬ 9223372036854775807 < 1 + l.length := by omega
    by_cases hk : 0 < k
    · have hcv := run_one_byte wr (48 + (k : Int) % 10) (dg k) (dg_val k).symm
      go_wp2
      refine ⟨⟨k / 10, dg k :: l, by simp, by rw [byte_cat], ?_, ?_, by simp; omega, hb.alloc hb.size _⟩, by simp [intOf]; omega⟩
      · intro h10
        rw [← HD.out hk, dec_last (by omega)]; rfl
      · intro h10
        rw [← HD.out hk, dec_step (k := k) (by omega)]; simp
    · have k0 : k = 0 := by omega
      subst k0
      have HL : Hid (l = Lib.decDigits n) := HZ.out rfl
      go_wp2
      go_ret
      refine ⟨?_, hb⟩
      rw [HL.out, byte_cat]; rfl


/-- n marks, from k on. -/
def marksL (k n : Nat) : List Value := (List.range n).map fun i => strV (markL (k + i))
theorem marksL_len (k n : Nat) : (marksL k n).length = n := by simp [marksL]
theorem marksL_at (k n i : Nat) (h : i < (marksL k n).length) : (marksL k n)[i] = strV (markL (k + i)) := by simp [marksL]
theorem marks_set (k n j : Nat) (xs : List Value) (hx : xs.length = n) (hj : j < n) : ((marksL k n).take j ++ xs.drop j).set j (strV (markL (k + j))) = (marksL k n).take (j + 1) ++ xs.drop (j + 1) := by
  apply List.ext_getElem
  · simp [marksL_len, hx]; omega
  · intro i h1 h2
    by_cases e : j = i
    · subst e
      rw [List.getElem_set_self, List.getElem_append_left (by simp [marksL_len]; omega)]
      simp [marksL]
    · rw [List.getElem_set_ne e]
      by_cases hi : i < j
      · rw [List.getElem_append_left (by simp [marksL_len]; omega), List.getElem_append_left (by simp [marksL_len]; omega)]
        simp
      · rw [List.getElem_append_right (by simp [marksL_len]; omega), List.getElem_append_right (by simp [marksL_len]; omega)]
        simp [marksL_len]
        congr 1; omega

end Go.Proofs.YtglpijjkihpeeaaGreatDoor
