/- RulText of both sides, by the rule's text as data. Condition: the table of tens is laid. -/
import Derived.Test.YtjnhmobdigfpiaaDoorRulTxI
import Derived.Test.YtjnhmobdigfpiaaDoorRulP
namespace Go.Proofs.YtjnhmobdigfpiaaDoor
open Go.RowKit

theorem rulTxE (al : Bool) (i it o ot p pt : Int) :
    (∀ w, Calls Tryd.prog 21 #[.agg #[.bool al, .int .i64 i, .int .i64 it, .int .i64 o, .int .i64 ot, .int .i64 p, .int .i64 pt]] w fun e w' => e = .returned (.string ⟨(rulTxL ⟨al, i, it, o, ot, p, pt⟩).toArray⟩) ∧ Below w.heap.size w w') ∧
      (∀ w, TabOk w → Calls Tryd.prog 20 #[.agg #[.bool al, .int .i64 i, .int .i64 it, .int .i64 o, .int .i64 ot, .int .i64 p, .int .i64 pt]] w fun e w' => e = .returned (.string ⟨(rulTxL ⟨al, i, it, o, ot, p, pt⟩).toArray⟩) ∧ Below w.heap.size w w') := by
  by_cases h : ruleB ⟨al, i, it, o, ot, p, pt⟩ = true
  · obtain ⟨h1, h2, h3⟩ := rule_bounds h
    simp only at h1 h2 h3
    obtain ⟨a, rfl⟩ := Int.eq_ofNat_of_zero_le (show 0 ≤ i by omega)
    obtain ⟨b, rfl⟩ := Int.eq_ofNat_of_zero_le (show 0 ≤ it by omega)
    obtain ⟨c, rfl⟩ := Int.eq_ofNat_of_zero_le (show 0 ≤ o by omega)
    obtain ⟨d, rfl⟩ := Int.eq_ofNat_of_zero_le (show 0 ≤ ot by omega)
    obtain ⟨e, rfl⟩ := Int.eq_ofNat_of_zero_le (show 0 ≤ p by omega)
    obtain ⟨f, rfl⟩ := Int.eq_ofNat_of_zero_le (show 0 ≤ pt by omega)
    have ht : rulTxL ⟨al, a, b, c, d, e, f⟩ = ruleL al [a, b, c, d, e, f] := by
      unfold rulTxL
      rw [if_pos h]
      rfl
    rw [ht]
    exact ⟨fun w => specRulTx_yes al a b c d e f w h, fun w ht => implRulTx_yes al a b c d e f w h ht⟩
  · have ht : rulTxL ⟨al, i, it, o, ot, p, pt⟩ = [] := if_neg h
    rw [ht]
    exact ⟨fun w => specRulTx_no al i it o ot p pt w (by simpa using h), fun w _ => implRulTx_no al i it o ot p pt w (by simpa using h)⟩

end Go.Proofs.YtjnhmobdigfpiaaDoor
