/- A rule's text is read as it, as data. No condition. -/
import Derived.Test.YtjnhmobdigfpiaaDoorRulTx
import Derived.Test.YtjnhmobdigfpiaaDoorRdT
import Derived.Test.YtjnhmobdigfpiaaDoorWordK
import Derived.Test.YtjnhmobdigfpiaaDoorWordS
import Derived.Test.YtjnhmobdigfpiaaDoorNum
namespace Go.Proofs.YtjnhmobdigfpiaaDoor
open Go.RowKit

theorem words_seven {l w a b c d e f : List UInt8} (h : wordsL l = [w, a, b, c, d, e, f]) : l = w ++ 32 :: (a ++ 32 :: (b ++ 32 :: (c ++ 32 :: (d ++ 32 :: (e ++ 32 :: f))))) := by
  have hf := flatW_fold l ([], [])
  have h2 : (wordsF l).1 ++ [(wordsF l).2] = [w, a, b, c, d, e] ++ [f] := h
  obtain ⟨h3, h4⟩ := List.append_inj' h2 rfl
  simp only [List.cons.injEq, and_true] at h4
  have h5 : flatW (wordsF l) = l := by
    have : flatW (l.foldl stp ([], [])) = flatW ([], []) ++ l := hf
    simpa [flatW, wordsF] using this
  rw [← h5]
  unfold flatW
  rw [h3, h4]
  simp
theorem word_space (al : Bool) : ∀ c ∈ wordR al, c ≠ 32 := by
  cases al <;> decide
theorem word_allow (al : Bool) : decide (wordR al = allowL) = al ∧ headB (wordR al) = true := by
  cases al <;> decide
theorem rul_flat (r : Rl) : ruleL r.al (numsR r) = wordR r.al ++ 32 :: (Lib.decDigits r.i.toNat ++ 32 :: (Lib.decDigits r.it.toNat ++ 32 :: (Lib.decDigits r.o.toNat ++ 32 :: (Lib.decDigits r.ot.toNat ++ 32 :: (Lib.decDigits r.p.toNat ++ 32 :: Lib.decDigits r.pt.toNat))))) := by
  simp [ruleL, numsR, spD]
theorem rdT_text {r : Rl} (h : ruleB r = true) : rdT (rulTxL r) = some r := by
  obtain ⟨h1, h2, h3⟩ := rule_bounds h
  unfold rulTxL rdT
  rw [if_pos h, rul_flat, words_cons (word_space _), words_cons (dec_no_space _), words_cons (dec_no_space _), words_cons (dec_no_space _), words_cons (dec_no_space _), words_cons (dec_no_space _), words_one (dec_no_space _), rdW_six]
  rw [numL_dec (by omega), numL_dec (by omega), numL_dec (by omega), numL_dec (by omega), numL_dec (by omega), numL_dec (by omega), (word_allow r.al).1, (word_allow r.al).2]
  rw [Int.toNat_of_nonneg (by omega), Int.toNat_of_nonneg (by omega), Int.toNat_of_nonneg (by omega), Int.toNat_of_nonneg (by omega), Int.toNat_of_nonneg (by omega), Int.toNat_of_nonneg (by omega)]
  exact if_pos ⟨rfl, h⟩
theorem rdT_back {s : List UInt8} {r : Rl} (h : rdT s = some r) : ruleB r = true ∧ rulTxL r = s := by
  unfold rdT at h
  by_cases hl : (wordsL s).length = 7
  · obtain ⟨w, t, hw⟩ : ∃ w t, wordsL s = w :: t := by
      rcases hc : wordsL s with _ | ⟨w, t⟩
      · rw [hc] at hl; simp at hl
      · exact ⟨w, t, rfl⟩
    obtain ⟨a, b, c, d, e, f, rfl⟩ := six_of (l := t) (by rw [hw] at hl; simpa using hl)
    rw [hw, rdW_six] at h
    split at h
    · rename_i hh
      simp only [Option.some.injEq] at h
      subst h
      obtain ⟨h1, h2, h3⟩ := rule_bounds hh.2
      simp only at h1 h2 h3
      refine ⟨hh.2, ?_⟩
      unfold rulTxL
      rw [if_pos hh.2, rul_flat]
      simp only
      rw [← head_word hh.1, ← numL_inv (l := a) (by omega), ← numL_inv (l := b) (by omega), ← numL_inv (l := c) (by omega), ← numL_inv (l := d) (by omega), ← numL_inv (l := e) (by omega), ← numL_inv (l := f) (by omega)]
      exact (words_seven hw).symm
    · cases h
  · rw [rdW_no hl] at h; cases h
theorem rulTx_len (r : Rl) : (rulTxL r).length ≤ 100 := by
  unfold rulTxL
  split
  · rename_i h
    obtain ⟨h1, h2, h3⟩ := rule_bounds h
    have := ruleL_len r.al (xs := numsR r) (by intro x hx; simp [numsR] at hx; omega) 6
    simp [numsR] at this ⊢
    omega
  · simp

end Go.Proofs.YtjnhmobdigfpiaaDoor
