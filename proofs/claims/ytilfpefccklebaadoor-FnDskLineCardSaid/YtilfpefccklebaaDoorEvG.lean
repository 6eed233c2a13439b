/- Plain facts on numbers of at most four digits: a text is one just if it is digits, at most four, none of its beginnings but itself worth nought. No program. No condition. -/
import Derived.Test.YtilfpefccklebaaDoorEvP
namespace Go.Proofs.YtilfpefccklebaaDoor

def goodN (y : List UInt8) : Prop := 0 < y.length ∧ y.length ≤ 4 ∧ (∀ c ∈ y, isDig c) ∧ ∀ j, 0 < j → j < y.length → valL (y.take j) ≠ 0
theorem isDig_dg {c : UInt8} {n : Nat} (h : isDig c) : dg (n * 10 + (c.toNat - 48)) = c := by
  unfold isDig at h
  apply UInt8.toNat_inj.1
  rw [dg_nat]; omega
theorem dec_good (l : List UInt8) : ∀ y : List UInt8, y.length = l.length → 0 < y.length → (∀ c ∈ y, isDig c) → (∀ j, 0 < j → j < y.length → valL (y.take j) ≠ 0) → Lib.decDigits (valL y) = y := by
  induction l with
  | nil => intro y h h0; simp at h; subst h; simp at h0
  | cons a t ih =>
    intro y hlen h0 hd hz
    obtain ⟨z, c, rfl⟩ : ∃ z c, y = z ++ [c] := by
      have hne : y ≠ [] := by intro e; subst e; simp at h0
      exact ⟨y.dropLast, y.getLast hne, (List.dropLast_concat_getLast hne).symm⟩
    have hc : isDig c := hd c (by simp)
    rw [valL_snoc]
    by_cases hzn : z = []
    · subst hzn
      have hv : valL ([] : List UInt8) = 0 := rfl
      have hc2 := hc
      unfold isDig at hc2
      rw [hv, dec_last (by omega), isDig_dg hc]; rfl
    · have hzl : 0 < z.length := List.length_pos_iff.2 hzn
      have hv : valL z ≠ 0 := by have := hz z.length hzl (by simp); simpa using this
      have ihz := ih z (by simp at hlen ⊢; omega) hzl (fun d h => hd d (by simp [h])) (fun j h1 h2 => by
        have := hz j h1 (by simp; omega)
        rwa [List.take_append_of_le_length (by omega)] at this)
      have hc2 := hc
      unfold isDig at hc2
      rw [dec_step (by omega), show (valL z * 10 + (c.toNat - 48)) / 10 = valL z by omega, ihz, isDig_dg hc]
theorem good_num {y : List UInt8} (h : goodN y) : numL y = valL y := by
  obtain ⟨h0, h4, hd, hz⟩ := h
  unfold numL
  rw [if_neg (by omega), if_pos hd, if_pos (dec_good y y rfl h0 hd hz)]
theorem dec_front (k : Nat) : ∀ j, 0 < j → j < (Lib.decDigits k).length → valL ((Lib.decDigits k).take j) ≠ 0 := by
  induction k using Nat.strongRecOn with
  | _ k ih =>
    intro j h1 h2
    by_cases h : 9 < k
    · rw [dec_step h] at h2 ⊢
      simp at h2
      by_cases hj : j = (Lib.decDigits (k / 10)).length
      · subst hj
        rw [List.take_left', valL_dec]
        · omega
        · rfl
      · rw [List.take_append_of_le_length (by omega)]
        exact ih (k / 10) (by omega) j h1 (by omega)
    · rw [dec_last (by omega)] at h2
      simp at h2; omega
theorem num_good {y : List UInt8} (h : 0 ≤ numL y) : goodN y := by
  have h1 := numL_inv h
  have h2 := numL_le y
  have h3 := dec_len4 (k := (numL y).toNat) (by omega)
  have h4 := dec_pos (numL y).toNat
  refine ⟨by rw [h1]; omega, by rw [h1]; exact h3, by rw [h1]; exact dec_digs _, ?_⟩
  rw [h1]; exact dec_front _
theorem num_neg {y : List UInt8} (h : ¬ goodN y) : numL y < 0 := by
  by_cases h2 : 0 ≤ numL y
  · exact absurd (num_good h2) h
  · omega
/-- The words up to the first that is no number. -/
def leadN (r : List (List UInt8)) : List (List UInt8) := r.takeWhile (fun y => decide (0 ≤ numL y))
theorem leadN_len (r : List (List UInt8)) : (leadN r).length ≤ r.length := (List.takeWhile_sublist _).length_le
theorem leadN_all {r : List (List UInt8)} (h : allN r = true) : leadN r = r := by
  unfold leadN allN at *
  induction r with
  | nil => rfl
  | cons y s ih =>
    simp only [List.all_cons, Bool.and_eq_true] at h
    rw [List.takeWhile_cons, if_pos h.1, ih h.2]
theorem leadN_not {r : List (List UInt8)} (h : allN r = false) : (leadN r).length < r.length := by
  unfold leadN allN at *
  induction r with
  | nil => simp at h
  | cons y s ih =>
    rw [List.takeWhile_cons]
    split
    · rename_i hy
      simp only [List.all_cons, hy, Bool.true_and] at h
      have := ih h
      simp; exact this
    · simp
/-- .. where the first k are, and the next one is none; where all are. -/
theorem leadN_stop {r : List (List UInt8)} {k : Nat} (hk : k < r.length) (h : allN (r.take k) = true) (hn : numL r[k] < 0) : leadN r = r.take k := by
  unfold leadN allN at *
  induction r generalizing k with
  | nil => simp at hk
  | cons y s ih =>
    cases k with
    | zero =>
      simp at hn
      rw [List.takeWhile_cons, if_neg (by simp; omega)]; rfl
    | succ k =>
      rw [List.take_succ_cons] at h ⊢
      simp only [List.all_cons, Bool.and_eq_true] at h
      rw [List.takeWhile_cons, if_pos h.1, ih (by simpa using hk) h.2 (by simpa using hn)]

end Go.Proofs.YtilfpefccklebaaDoor
