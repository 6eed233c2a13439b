/- Plain facts on words: the library's split at spaces gives a text's words. No program. No condition. -/
import Derived.Test.YtjnhmobdigfpiaaDoorNum
import Derived.Lib.SplitLaws
namespace Go.Proofs.YtjnhmobdigfpiaaDoor

theorem fold_app (l : List UInt8) : ∀ (a : List (List UInt8)) (b : List UInt8), l.foldl stp (a, b) = (a ++ (l.foldl stp ([], b)).1, (l.foldl stp ([], b)).2) := by
  induction l with
  | nil => intro a b; simp
  | cons c r ih =>
    intro a b
    rw [List.foldl_cons, List.foldl_cons]
    by_cases h : c = 32
    · have e : ∀ a : List (List UInt8), stp (a, b) c = (a ++ [b], []) := fun a => by simp [stp, h]
      rw [e, e, ih (a ++ [b]) [], ih ([] ++ [b]) []]
      simp
    · have e : ∀ a : List (List UInt8), stp (a, b) c = (a, b ++ [c]) := fun a => by simp [stp, h]
      rw [e, e, ih a (b ++ [c])]
theorem words_cons {x y : List UInt8} (hx : ∀ c ∈ x, c ≠ 32) : wordsL (x ++ 32 :: y) = x :: wordsL y := by
  unfold wordsL wordsF
  rw [List.foldl_append, fold_plain x _ hx, List.foldl_cons]
  have h : stp (([] : List (List UInt8)), [] ++ x) 32 = ([x], []) := by simp [stp]
  rw [h, fold_app]
  simp
theorem words_one {x : List UInt8} (hx : ∀ c ∈ x, c ≠ 32) : wordsL x = [x] := by
  unfold wordsL wordsF
  rw [fold_plain x _ hx]
  simp
theorem index_nonneg_or (l : List UInt8) : Lib.index l [32] = -1 ∨ ∃ i : Nat, Lib.index l [32] = i := by
  have := Lib.index_ge l [32]
  by_cases h : Lib.index l [32] = -1
  · exact Or.inl h
  · exact Or.inr ⟨(Lib.index l [32]).toNat, by omega⟩
theorem splitK_words (k : Nat) : ∀ l : List UInt8, Lib.count l [32] = k → Lib.splitK [32] 0 k l = wordsL l := by
  induction k with
  | zero =>
    intro l h
    rcases index_nonneg_or l with hi | ⟨i, hi⟩
    · rw [words_one (index_none (by omega))]; rfl
    · have := Lib.count_hit (sub := [32]) (by simp) hi
      omega
  | succ k ih =>
    intro l h
    rcases index_nonneg_or l with hi | ⟨i, hi⟩
    · have : Lib.count l [32] = 0 := Lib.count_miss hi
      omega
    · have hc := Lib.count_hit (sub := [32]) (by simp) hi
      obtain ⟨e, hx⟩ := cut_yes (l := l) (by omega)
      have e1 : (Lib.cut l [32]).1 = l.take i := by unfold Lib.cut; rw [if_pos (by omega), hi]; simp
      have e2 : (Lib.cut l [32]).2.1 = l.drop (i + 1) := by unfold Lib.cut; rw [if_pos (by omega), hi]; simp
      rw [e1, e2] at e
      rw [e1] at hx
      have hm : ¬ (Lib.index l [32] == -1) = true := fun e => by have := beq_iff_eq.1 e; omega
      rw [Lib.splitK, if_neg hm, hi]
      simp only [Int.toNat_natCast, Nat.add_zero, List.length_singleton] at hc ⊢
      rw [ih (l.drop (i + 1)) (by omega)]
      conv => rhs; rw [e, words_cons hx]
theorem splitB_words (s : ByteArray) : (Lib.splitB ⟨#[32]⟩ 0 (Lib.countB s ⟨#[32]⟩) s).map (·.data.toList) = wordsL s.data.toList := by
  rw [Lib.splitB_data]
  exact splitK_words _ _ rfl
/-- The words of a text: the first, and those of what is behind the first space. -/
theorem words_cut (l : List UInt8) : (wordsL l = (Lib.cut l [32]).1 :: wordsL (Lib.cut l [32]).2.1 ∧ 0 ≤ Lib.index l [32]) ∨ (wordsL l = [l] ∧ (Lib.cut l [32]).2.1 = []) := by
  by_cases h : 0 ≤ Lib.index l [32]
  · obtain ⟨e, hx⟩ := cut_yes h
    left
    refine ⟨?_, h⟩
    conv => lhs; rw [e]
    exact words_cons hx
  · right
    exact ⟨words_one (index_none (by omega)), by rw [cut_no h]⟩

end Go.Proofs.YtjnhmobdigfpiaaDoor
