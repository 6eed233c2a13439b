/- Plain facts on what a line says: its bounds; with four numbers more it says nothing; two lines that say the same are one. No program. No condition. -/
import Derived.Test.YtilfpefccklebaaDoorEvP
namespace Go.Proofs.YtilfpefccklebaaDoor

theorem getD_nn {xs : List Int} (h : ∀ x ∈ xs, 0 ≤ x) (i : Nat) : 0 ≤ xs.getD i 0 := by
  rw [List.getD_eq_getElem?_getD]
  cases hx : xs[i]? with
  | none => simp
  | some v => simp; exact h v (List.mem_of_getElem? hx)
theorem evW_form {l : List UInt8} {e : Ev} (h : evT l = some e) : ∃ x r k, wordsL l = x :: r ∧ kindL x = k ∧ 1 ≤ k ∧ k ≤ 8 ∧ r.length = arN k ∧ allN r = true ∧ e = evOf k (r.map numL) := by
  unfold evT at h
  split at h
  · cases h
  · cases hw : wordsL l with
    | nil => rw [hw] at h; cases h
    | cons x r =>
      rw [hw] at h
      simp only [evW] at h
      by_cases hh : kindL x ≠ 0 ∧ r.length = arN (kindL x) ∧ allN r = true
      · rw [if_pos hh] at h
        exact ⟨x, r, kindL x, rfl, rfl, by have := hh.1; omega, kindL_le x, hh.2.1, hh.2.2, (Option.some.inj h).symm⟩
      · rw [if_neg hh] at h; cases h
theorem nums_nn {r : List (List UInt8)} (h : allN r = true) : ∀ x ∈ r.map numL, 0 ≤ x := by
  intro x hx
  obtain ⟨y, hy, rfl⟩ := List.mem_map.1 hx
  have := List.all_eq_true.1 h y hy
  simpa using this
theorem ev_bounds {l : List UInt8} {e : Ev} (h : evT l = some e) : 1 ≤ e.k ∧ e.k ≤ 8 ∧ 0 ≤ e.a ∧ 0 ≤ e.b ∧ 0 ≤ e.c ∧ 0 ≤ e.d := by
  obtain ⟨x, r, k, _, _, h1, h8, _, ha, rfl⟩ := evW_form h
  have hn := nums_nn ha
  unfold evOf
  split
  · exact ⟨by show (1 : Int) ≤ (k : Int); omega, by show (k : Int) ≤ 8; omega, getD_nn hn 0, getD_nn hn 1, getD_nn hn 2, Int.le_refl _⟩
  · exact ⟨by show (1 : Int) ≤ (k : Int); omega, by show (k : Int) ≤ 8; omega, Int.le_refl _, getD_nn hn 0, getD_nn hn 1, getD_nn hn 2⟩
theorem words_more (l : List UInt8) : (wordsL (l ++ [32, 49, 32, 49, 32, 49, 32, 49])).length = (wordsL l).length + 4 := by
  unfold wordsL wordsF
  rw [List.foldl_append]
  obtain ⟨x, hx⟩ : ∃ x, x = l.foldl stp ([], []) := ⟨_, rfl⟩
  rw [← hx]
  simp [stp]
theorem ev_more (l : List UInt8) : evT (l ++ [32, 49, 32, 49, 32, 49, 32, 49]) = none := by
  cases h : evT (l ++ [32, 49, 32, 49, 32, 49, 32, 49]) with
  | none => rfl
  | some e =>
    obtain ⟨x, r, k, hw, _, _, _, hl, _, _⟩ := evW_form h
    have h1 := words_more l
    rw [hw] at h1
    have h2 : 1 ≤ (wordsL l).length := List.length_pos_iff.2 (words_ne l)
    have h3 : arN k ≤ 3 := by unfold arN; split <;> (try split) <;> omega
    simp at h1
    omega
/-- The line that says it. -/
theorem ev_text {l : List UInt8} {e : Ev} (h : evT l = some e) : l = evTx e.k.toNat (numsE e.k.toNat e.a.toNat e.b.toNat e.c.toNat e.d.toNat) := by
  obtain ⟨x, r, k, hw, hk, h1, h8, hl, ha, rfl⟩ := evW_form h
  have hx : x = nameL k := by
    rcases kindL_spec x with hh | hh
    · omega
    · rw [← hk]; exact hh.2.2
  rw [hx] at hw
  have ht := evTx_line hw ha
  have hkk : k = 1 ∨ k = 2 ∨ k = 3 ∨ k = 4 ∨ k = 5 ∨ k = 6 ∨ k = 7 ∨ k = 8 := by omega
  rcases hkk with rfl | rfl | rfl | rfl | rfl | rfl | rfl | rfl
  all_goals
    match r, hl, ht with
    | [], hl, _ => simp [arN] at hl
    | [y1], hl, ht => first | exact ht | simp [arN] at hl
    | [y1, y2], hl, ht => first | exact ht | simp [arN] at hl
    | [y1, y2, y3], hl, ht => first | exact ht | simp [arN] at hl
    | _ :: _ :: _ :: _ :: _, hl, _ => simp [arN] at hl
theorem ev_inj {l m : List UInt8} {e : Ev} (h : evT l = some e) (h2 : evT m = some e) : l = m := by rw [ev_text h, ev_text h2]

end Go.Proofs.YtilfpefccklebaaDoor
