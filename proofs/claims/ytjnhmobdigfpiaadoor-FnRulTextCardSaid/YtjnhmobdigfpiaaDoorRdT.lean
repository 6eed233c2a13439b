/- Plain facts on what a text says as a rule, by its first word and what is behind it. No program. No condition. -/
import Derived.Test.YtjnhmobdigfpiaaDoorWordK
namespace Go.Proofs.YtjnhmobdigfpiaaDoor

theorem rdW_six (w x1 x2 x3 x4 x5 x6 : List UInt8) : rdW [w, x1, x2, x3, x4, x5, x6] = if headB w = true ∧ ruleB ⟨decide (w = allowL), numL x1, numL x2, numL x3, numL x4, numL x5, numL x6⟩ = true then some ⟨decide (w = allowL), numL x1, numL x2, numL x3, numL x4, numL x5, numL x6⟩ else none := rfl
theorem rdW_no {l : List (List UInt8)} (h : l.length ≠ 7) : rdW l = none := by
  unfold rdW
  split
  · simp at h
  · rfl
theorem six_of {α : Type} {l : List α} (h : l.length = 6) : ∃ a b c d e f, l = [a, b, c, d, e, f] := by
  match l, h with
  | [a, b, c, d, e, f], _ => exact ⟨a, b, c, d, e, f, rfl⟩
theorem rdT_none1 {l : List UInt8} (h : headB (Lib.cut l [32]).1 = false) : rdT l = none := by
  unfold rdT
  rcases words_cut l with ⟨e, _⟩ | ⟨e, _⟩
  · rw [e]
    by_cases h6 : (wordsL (Lib.cut l [32]).2.1).length = 6
    · obtain ⟨a, b, c, d, e2, f, hh⟩ := six_of h6
      rw [hh, rdW_six, if_neg (by rw [h]; simp)]
    · exact rdW_no (by simp; omega)
  · rw [e]; exact rdW_no (by simp)
theorem rdT_none2 {l : List UInt8} (h : (wordsL (Lib.cut l [32]).2.1).length ≠ 6) : rdT l = none := by
  unfold rdT
  rcases words_cut l with ⟨e, _⟩ | ⟨e, _⟩
  · rw [e]; exact rdW_no (by simp; omega)
  · rw [e]; exact rdW_no (by simp)
theorem rdT_six {l : List UInt8} {x1 x2 x3 x4 x5 x6 : List UInt8} (h : wordsL (Lib.cut l [32]).2.1 = [x1, x2, x3, x4, x5, x6]) : rdT l = rdW [(Lib.cut l [32]).1, x1, x2, x3, x4, x5, x6] := by
  unfold rdT
  rcases words_cut l with ⟨e, _⟩ | ⟨e, e2⟩
  · rw [e, h]
  · rw [e2] at h
    have := congrArg List.length h
    simp [wordsL, wordsF] at this
theorem rdT_none3 {l : List UInt8} (h6 : (wordsL (Lib.cut l [32]).2.1).length = 6) (h : ∃ x ∈ wordsL (Lib.cut l [32]).2.1, numP x = none) : rdT l = none := by
  obtain ⟨a, b, c, d, e, f, hh⟩ := six_of h6
  obtain ⟨x, hx, hn⟩ := h
  rw [rdT_six hh, rdW_six]
  rw [hh] at hx
  have hm := numP_none hn
  apply if_neg
  rintro ⟨_, hr⟩
  obtain ⟨h1, h2, h3⟩ := rule_bounds hr
  simp only at h1 h2 h3
  simp only [List.mem_cons, List.not_mem_nil, or_false] at hx
  rcases hx with rfl | rfl | rfl | rfl | rfl | rfl <;> omega
theorem rdT_some {l : List UInt8} {a b c d e f : Int} (h : (wordsL (Lib.cut l [32]).2.1).map numP = [a, b, c, d, e, f].map some) : rdT l = if headB (Lib.cut l [32]).1 = true ∧ ruleB ⟨decide ((Lib.cut l [32]).1 = allowL), a, b, c, d, e, f⟩ = true then some ⟨decide ((Lib.cut l [32]).1 = allowL), a, b, c, d, e, f⟩ else none := by
  have h6 : (wordsL (Lib.cut l [32]).2.1).length = 6 := by have := congrArg List.length h; simpa using this
  obtain ⟨x1, x2, x3, x4, x5, x6, hh⟩ := six_of h6
  rw [rdT_six hh, rdW_six]
  rw [hh] at h
  simp only [List.map_cons, List.map_nil, List.cons.injEq, and_true] at h
  obtain ⟨n1, n2, n3, n4, n5, n6⟩ := h
  generalize (Lib.cut l [32]).1 = w
  rcases numP_some n1 with ⟨_, _, m1⟩ | ⟨k1, m1⟩ <;> rcases numP_some n2 with ⟨_, _, m2⟩ | ⟨k2, m2⟩ <;> rcases numP_some n3 with ⟨_, _, m3⟩ | ⟨k3, m3⟩ <;> rcases numP_some n4 with ⟨_, _, m4⟩ | ⟨k4, m4⟩ <;> rcases numP_some n5 with ⟨_, _, m5⟩ | ⟨k5, m5⟩ <;> rcases numP_some n6 with ⟨_, _, m6⟩ | ⟨k6, m6⟩
  all_goals
    rw [m1, m2, m3, m4, m5, m6]
  all_goals
    first
    | rfl
    | (rw [if_neg, if_neg]
       all_goals
         rintro ⟨_, hr⟩
         obtain ⟨h1, h2, h3⟩ := rule_bounds hr
         simp only at h1 h2 h3
         omega)
theorem head_word {l : List UInt8} (h : headB l = true) : l = wordR (decide (l = allowL)) := by
  unfold headB at h
  by_cases h1 : l = allowL
  · subst h1; rfl
  · simp only [h1, decide_false, Bool.false_or, decide_eq_true_eq] at h
    subst h
    rfl

end Go.Proofs.YtjnhmobdigfpiaaDoor
