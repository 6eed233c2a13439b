/- DskEvent of the specification: what a line says. No condition. -/
import Derived.Test.YtilfpefccklebaaDoorSEvD
import Derived.Test.YtilfpefccklebaaDoorSEvE1
import Derived.Test.YtilfpefccklebaaDoorSEvE2
import Derived.Test.YtilfpefccklebaaDoorSEvE3
namespace Go.Proofs.YtilfpefccklebaaDoor
open Go.RowKit Go.Sort

theorem numsE_len {k : Nat} (h1 : 1 ≤ k) (h8 : k ≤ 8) (a b c d : Nat) : (numsE k a b c d).length = arN k := by
  have : k = 1 ∨ k = 2 ∨ k = 3 ∨ k = 4 ∨ k = 5 ∨ k = 6 ∨ k = 7 ∨ k = 8 := by omega
  rcases this with rfl | rfl | rfl | rfl | rfl | rfl | rfl | rfl <;> rfl
theorem arN_bounds (k : Nat) : 1 ≤ arN k ∧ arN k ≤ 3 := by unfold arN; split <;> (try split) <;> omega
theorem evT_words {l x : List UInt8} {r : List (List UInt8)} (hl : l.length ≤ 30) (h : wordsL l = x :: r) : evT l = evW (x :: r) := by
  unfold evT; rw [if_neg (by omega), h]
theorem evW_no {x : List UInt8} {r : List (List UInt8)} (h : ¬ (kindL x ≠ 0 ∧ r.length = arN (kindL x) ∧ allN r = true)) : evW (x :: r) = none := if_neg h
theorem evW_yes {x : List UInt8} {r : List (List UInt8)} {k : Nat} (hk : kindL x = k) (h0 : k ≠ 0) (h1 : r.length = arN k) (h2 : allN r = true) : evW (x :: r) = some (evOf k (r.map numL)) := by
  subst hk; exact if_pos ⟨h0, h1, h2⟩
/-- What is answered, as a value. -/
def evR (o : Option Ev) : Value := .tuple #[.agg #[.int .i64 (evQ o).1.k, .int .i64 (evQ o).1.a, .int .i64 (evQ o).1.b, .int .i64 (evQ o).1.c, .int .i64 (evQ o).1.d], .bool (evQ o).2]

theorem specDskEvent_any (s : ByteArray) (w : World) :
    Calls Tryd.prog 8 #[.string s] w fun e w' => e = .returned (evR (evT s.data.toList)) ∧ Below w.heap.size w w' := by
  by_cases hs : 30 < s.size
  · have he : evT s.data.toList = none := if_pos (by rw [len_list]; exact hs)
    rw [he]
    exact specDskE_long s w hs
  · have hs : s.size ≤ 30 := by omega
    obtain ⟨x, r, hw⟩ : ∃ x r, wordsL s.data.toList = x :: r := by
      cases hh : wordsL s.data.toList with
      | nil => exact absurd hh (words_ne _)
      | cons x r => exact ⟨x, r, rfl⟩
    have het := evT_words (by rw [len_list]; exact hs) hw
    by_cases h0 : kindL x = 0
    · rw [het, evW_no (fun h => h.1 h0)]
      exact specDskE_kind s x r _ w hs hw rfl h0
    · have hK1 : 1 ≤ kindL x := by omega
      have hK8 := kindL_le x
      obtain ⟨hb1, hb3⟩ := arN_bounds (kindL x)
      by_cases hall : allN r = true
      · by_cases hz : r.length = 0
        · rw [het, evW_no (fun h => by have := h.2.1; omega)]
          exact specDskE_zero s x r _ w hs hw rfl hK1 hall hz
        · by_cases h3 : 3 < r.length
          · rw [het, evW_no (fun h => by have := h.2.1; omega)]
            exact specDskE_many s x r _ w hs hw rfl hK1 hall h3
          · have hx : x = nameL (kindL x) := by
              rcases kindL_spec x with h | h
              · exact absurd h.1 h0
              · exact h.2.2
            have hnn : ∀ y ∈ r, ((numL y).toNat : Int) = numL y := by
              intro y hy
              have := List.all_eq_true.1 hall y hy
              exact Int.toNat_of_nonneg (by simpa using this)
            have hw2 := hw
            rw [hx] at hw2
            have hkk : kindL x = 1 ∨ kindL x = 2 ∨ kindL x = 3 ∨ kindL x = 4 ∨ kindL x = 5 ∨ kindL x = 6 ∨ kindL x = 7 ∨ kindL x = 8 := by omega
            clear hK1 hK8 hb1 hb3
            rw [het]
            obtain ⟨k, hk⟩ : ∃ k, k = kindL x := ⟨_, rfl⟩
            rw [← hk] at hw2 hkk
            match r, hz, h3 with
            | [y1], _, _ =>
              have e1 := hnn y1 (by simp)
              have l1 := numL_le y1
              rcases hkk with rfl | rfl | rfl | rfl | rfl | rfl | rfl | rfl
              · refine (specDskE_11 s x [y1] 1 ((numL y1).toNat) w hs hw hk.symm (by decide) (by decide) (by omega) hall rfl ?_ rfl).mono ?_
                · simp only [List.map_cons, List.map_nil, numV, e1]
                · rintro e w' ⟨rfl, hb⟩
                  refine ⟨?_, hb⟩
                  rw [if_neg (evTx_ne (by decide) hw2 _ (by rw [numsE_len (by decide) (by decide)]; show arN 1 ≠ 1; decide)), evW_no (fun h => by have := h.2.1; rw [← hk] at this; exact absurd this (show ¬ (1 = arN 1) by decide))]
                  rfl
              · refine (specDskE_12 s x [y1] 2 ((numL y1).toNat) w hs hw hk.symm (by decide) (by decide) (by omega) hall rfl ?_ rfl rfl).mono ?_
                · simp only [List.map_cons, List.map_nil, numV, e1]
                · rintro e w' ⟨rfl, hb⟩
                  refine ⟨?_, hb⟩
                  rw [if_neg (evTx_ne (by decide) hw2 _ (by rw [numsE_len (by decide) (by decide)]; show arN 2 ≠ 1; decide)), evW_no (fun h => by have := h.2.1; rw [← hk] at this; exact absurd this (show ¬ (1 = arN 2) by decide))]
                  rfl
              · refine (specDskE_1o s x [y1] 3 ((numL y1).toNat) w hs hw hk.symm (by decide) (by decide) (by omega) hall rfl ?_ rfl rfl rfl).mono ?_
                · simp only [List.map_cons, List.map_nil, numV, e1]
                · rintro e w' ⟨rfl, hb⟩
                  refine ⟨?_, hb⟩
                  have ht : evTx 3 (numsE 3 0 ((numL y1).toNat) 0 0) = s.data.toList := (evTx_line hw2 hall).symm
                  rw [if_pos ht, evW_yes hk.symm (by decide) rfl hall, e1]
                  rfl
              · refine (specDskE_1o s x [y1] 4 ((numL y1).toNat) w hs hw hk.symm (by decide) (by decide) (by omega) hall rfl ?_ rfl rfl rfl).mono ?_
                · simp only [List.map_cons, List.map_nil, numV, e1]
                · rintro e w' ⟨rfl, hb⟩
                  refine ⟨?_, hb⟩
                  have ht : evTx 4 (numsE 4 0 ((numL y1).toNat) 0 0) = s.data.toList := (evTx_line hw2 hall).symm
                  rw [if_pos ht, evW_yes hk.symm (by decide) rfl hall, e1]
                  rfl
              · refine (specDskE_1o s x [y1] 5 ((numL y1).toNat) w hs hw hk.symm (by decide) (by decide) (by omega) hall rfl ?_ rfl rfl rfl).mono ?_
                · simp only [List.map_cons, List.map_nil, numV, e1]
                · rintro e w' ⟨rfl, hb⟩
                  refine ⟨?_, hb⟩
                  have ht : evTx 5 (numsE 5 0 ((numL y1).toNat) 0 0) = s.data.toList := (evTx_line hw2 hall).symm
                  rw [if_pos ht, evW_yes hk.symm (by decide) rfl hall, e1]
                  rfl
              · refine (specDskE_1o s x [y1] 6 ((numL y1).toNat) w hs hw hk.symm (by decide) (by decide) (by omega) hall rfl ?_ rfl rfl rfl).mono ?_
                · simp only [List.map_cons, List.map_nil, numV, e1]
                · rintro e w' ⟨rfl, hb⟩
                  refine ⟨?_, hb⟩
                  rw [if_neg (evTx_ne (by decide) hw2 _ (by rw [numsE_len (by decide) (by decide)]; show arN 6 ≠ 1; decide)), evW_no (fun h => by have := h.2.1; rw [← hk] at this; exact absurd this (show ¬ (1 = arN 6) by decide))]
                  rfl
              · refine (specDskE_1o s x [y1] 7 ((numL y1).toNat) w hs hw hk.symm (by decide) (by decide) (by omega) hall rfl ?_ rfl rfl rfl).mono ?_
                · simp only [List.map_cons, List.map_nil, numV, e1]
                · rintro e w' ⟨rfl, hb⟩
                  refine ⟨?_, hb⟩
                  have ht : evTx 7 (numsE 7 0 ((numL y1).toNat) 0 0) = s.data.toList := (evTx_line hw2 hall).symm
                  rw [if_pos ht, evW_yes hk.symm (by decide) rfl hall, e1]
                  rfl
              · refine (specDskE_18 s x [y1] 8 ((numL y1).toNat) w hs hw hk.symm (by decide) (by decide) (by omega) hall rfl ?_ rfl rfl rfl).mono ?_
                · simp only [List.map_cons, List.map_nil, numV, e1]
                · rintro e w' ⟨rfl, hb⟩
                  refine ⟨?_, hb⟩
                  rw [if_neg (evTx_ne (by decide) hw2 _ (by rw [numsE_len (by decide) (by decide)]; show arN 8 ≠ 1; decide)), evW_no (fun h => by have := h.2.1; rw [← hk] at this; exact absurd this (show ¬ (1 = arN 8) by decide))]
                  rfl
            | [y1, y2], _, _ =>
              have e1 := hnn y1 (by simp)
              have l1 := numL_le y1
              have e2 := hnn y2 (by simp)
              have l2 := numL_le y2
              rcases hkk with rfl | rfl | rfl | rfl | rfl | rfl | rfl | rfl
              · refine (specDskE_21 s x [y1, y2] 1 ((numL y1).toNat) ((numL y2).toNat) w hs hw hk.symm (by decide) (by decide) (by omega) (by omega) hall rfl ?_ rfl).mono ?_
                · simp only [List.map_cons, List.map_nil, numV, e1, e2]
                · rintro e w' ⟨rfl, hb⟩
                  refine ⟨?_, hb⟩
                  rw [if_neg (evTx_ne (by decide) hw2 _ (by rw [numsE_len (by decide) (by decide)]; show arN 1 ≠ 2; decide)), evW_no (fun h => by have := h.2.1; rw [← hk] at this; exact absurd this (show ¬ (2 = arN 1) by decide))]
                  rfl
              · refine (specDskE_22 s x [y1, y2] 2 ((numL y1).toNat) ((numL y2).toNat) w hs hw hk.symm (by decide) (by decide) (by omega) (by omega) hall rfl ?_ rfl rfl).mono ?_
                · simp only [List.map_cons, List.map_nil, numV, e1, e2]
                · rintro e w' ⟨rfl, hb⟩
                  refine ⟨?_, hb⟩
                  rw [if_neg (evTx_ne (by decide) hw2 _ (by rw [numsE_len (by decide) (by decide)]; show arN 2 ≠ 2; decide)), evW_no (fun h => by have := h.2.1; rw [← hk] at this; exact absurd this (show ¬ (2 = arN 2) by decide))]
                  rfl
              · refine (specDskE_2o s x [y1, y2] 3 ((numL y1).toNat) ((numL y2).toNat) w hs hw hk.symm (by decide) (by decide) (by omega) (by omega) hall rfl ?_ rfl rfl rfl).mono ?_
                · simp only [List.map_cons, List.map_nil, numV, e1, e2]
                · rintro e w' ⟨rfl, hb⟩
                  refine ⟨?_, hb⟩
                  rw [if_neg (evTx_ne (by decide) hw2 _ (by rw [numsE_len (by decide) (by decide)]; show arN 3 ≠ 2; decide)), evW_no (fun h => by have := h.2.1; rw [← hk] at this; exact absurd this (show ¬ (2 = arN 3) by decide))]
                  rfl
              · refine (specDskE_2o s x [y1, y2] 4 ((numL y1).toNat) ((numL y2).toNat) w hs hw hk.symm (by decide) (by decide) (by omega) (by omega) hall rfl ?_ rfl rfl rfl).mono ?_
                · simp only [List.map_cons, List.map_nil, numV, e1, e2]
                · rintro e w' ⟨rfl, hb⟩
                  refine ⟨?_, hb⟩
                  rw [if_neg (evTx_ne (by decide) hw2 _ (by rw [numsE_len (by decide) (by decide)]; show arN 4 ≠ 2; decide)), evW_no (fun h => by have := h.2.1; rw [← hk] at this; exact absurd this (show ¬ (2 = arN 4) by decide))]
                  rfl
              · refine (specDskE_2o s x [y1, y2] 5 ((numL y1).toNat) ((numL y2).toNat) w hs hw hk.symm (by decide) (by decide) (by omega) (by omega) hall rfl ?_ rfl rfl rfl).mono ?_
                · simp only [List.map_cons, List.map_nil, numV, e1, e2]
                · rintro e w' ⟨rfl, hb⟩
                  refine ⟨?_, hb⟩
                  rw [if_neg (evTx_ne (by decide) hw2 _ (by rw [numsE_len (by decide) (by decide)]; show arN 5 ≠ 2; decide)), evW_no (fun h => by have := h.2.1; rw [← hk] at this; exact absurd this (show ¬ (2 = arN 5) by decide))]
                  rfl
              · refine (specDskE_2o s x [y1, y2] 6 ((numL y1).toNat) ((numL y2).toNat) w hs hw hk.symm (by decide) (by decide) (by omega) (by omega) hall rfl ?_ rfl rfl rfl).mono ?_
                · simp only [List.map_cons, List.map_nil, numV, e1, e2]
                · rintro e w' ⟨rfl, hb⟩
                  refine ⟨?_, hb⟩
                  rw [if_neg (evTx_ne (by decide) hw2 _ (by rw [numsE_len (by decide) (by decide)]; show arN 6 ≠ 2; decide)), evW_no (fun h => by have := h.2.1; rw [← hk] at this; exact absurd this (show ¬ (2 = arN 6) by decide))]
                  rfl
              · refine (specDskE_2o s x [y1, y2] 7 ((numL y1).toNat) ((numL y2).toNat) w hs hw hk.symm (by decide) (by decide) (by omega) (by omega) hall rfl ?_ rfl rfl rfl).mono ?_
                · simp only [List.map_cons, List.map_nil, numV, e1, e2]
                · rintro e w' ⟨rfl, hb⟩
                  refine ⟨?_, hb⟩
                  rw [if_neg (evTx_ne (by decide) hw2 _ (by rw [numsE_len (by decide) (by decide)]; show arN 7 ≠ 2; decide)), evW_no (fun h => by have := h.2.1; rw [← hk] at this; exact absurd this (show ¬ (2 = arN 7) by decide))]
                  rfl
              · refine (specDskE_28 s x [y1, y2] 8 ((numL y1).toNat) ((numL y2).toNat) w hs hw hk.symm (by decide) (by decide) (by omega) (by omega) hall rfl ?_ rfl rfl rfl).mono ?_
                · simp only [List.map_cons, List.map_nil, numV, e1, e2]
                · rintro e w' ⟨rfl, hb⟩
                  refine ⟨?_, hb⟩
                  have ht : evTx 8 (numsE 8 ((numL y1).toNat) ((numL y2).toNat) 0 0) = s.data.toList := (evTx_line hw2 hall).symm
                  rw [if_pos ht, evW_yes hk.symm (by decide) rfl hall, e1, e2]
                  rfl
            | [y1, y2, y3], _, _ =>
              have e1 := hnn y1 (by simp)
              have l1 := numL_le y1
              have e2 := hnn y2 (by simp)
              have l2 := numL_le y2
              have e3 := hnn y3 (by simp)
              have l3 := numL_le y3
              rcases hkk with rfl | rfl | rfl | rfl | rfl | rfl | rfl | rfl
              · refine (specDskE_31 s x [y1, y2, y3] 1 ((numL y1).toNat) ((numL y2).toNat) ((numL y3).toNat) w hs hw hk.symm (by decide) (by decide) (by omega) (by omega) (by omega) hall rfl ?_ rfl).mono ?_
                · simp only [List.map_cons, List.map_nil, numV, e1, e2, e3]
                · rintro e w' ⟨rfl, hb⟩
                  refine ⟨?_, hb⟩
                  have ht : evTx 1 (numsE 1 ((numL y1).toNat) ((numL y2).toNat) ((numL y3).toNat) 0) = s.data.toList := (evTx_line hw2 hall).symm
                  rw [if_pos ht, evW_yes hk.symm (by decide) rfl hall, e1, e2, e3]
                  rfl
              · refine (specDskE_32 s x [y1, y2, y3] 2 ((numL y1).toNat) ((numL y2).toNat) ((numL y3).toNat) w hs hw hk.symm (by decide) (by decide) (by omega) (by omega) (by omega) hall rfl ?_ rfl rfl).mono ?_
                · simp only [List.map_cons, List.map_nil, numV, e1, e2, e3]
                · rintro e w' ⟨rfl, hb⟩
                  refine ⟨?_, hb⟩
                  have ht : evTx 2 (numsE 2 ((numL y1).toNat) ((numL y2).toNat) ((numL y3).toNat) 0) = s.data.toList := (evTx_line hw2 hall).symm
                  rw [if_pos ht, evW_yes hk.symm (by decide) rfl hall, e1, e2, e3]
                  rfl
              · refine (specDskE_3o s x [y1, y2, y3] 3 ((numL y1).toNat) ((numL y2).toNat) ((numL y3).toNat) w hs hw hk.symm (by decide) (by decide) (by omega) (by omega) (by omega) hall rfl ?_ rfl rfl rfl).mono ?_
                · simp only [List.map_cons, List.map_nil, numV, e1, e2, e3]
                · rintro e w' ⟨rfl, hb⟩
                  refine ⟨?_, hb⟩
                  rw [if_neg (evTx_ne (by decide) hw2 _ (by rw [numsE_len (by decide) (by decide)]; show arN 3 ≠ 3; decide)), evW_no (fun h => by have := h.2.1; rw [← hk] at this; exact absurd this (show ¬ (3 = arN 3) by decide))]
                  rfl
              · refine (specDskE_3o s x [y1, y2, y3] 4 ((numL y1).toNat) ((numL y2).toNat) ((numL y3).toNat) w hs hw hk.symm (by decide) (by decide) (by omega) (by omega) (by omega) hall rfl ?_ rfl rfl rfl).mono ?_
                · simp only [List.map_cons, List.map_nil, numV, e1, e2, e3]
                · rintro e w' ⟨rfl, hb⟩
                  refine ⟨?_, hb⟩
                  rw [if_neg (evTx_ne (by decide) hw2 _ (by rw [numsE_len (by decide) (by decide)]; show arN 4 ≠ 3; decide)), evW_no (fun h => by have := h.2.1; rw [← hk] at this; exact absurd this (show ¬ (3 = arN 4) by decide))]
                  rfl
              · refine (specDskE_3o s x [y1, y2, y3] 5 ((numL y1).toNat) ((numL y2).toNat) ((numL y3).toNat) w hs hw hk.symm (by decide) (by decide) (by omega) (by omega) (by omega) hall rfl ?_ rfl rfl rfl).mono ?_
                · simp only [List.map_cons, List.map_nil, numV, e1, e2, e3]
                · rintro e w' ⟨rfl, hb⟩
                  refine ⟨?_, hb⟩
                  rw [if_neg (evTx_ne (by decide) hw2 _ (by rw [numsE_len (by decide) (by decide)]; show arN 5 ≠ 3; decide)), evW_no (fun h => by have := h.2.1; rw [← hk] at this; exact absurd this (show ¬ (3 = arN 5) by decide))]
                  rfl
              · refine (specDskE_3o s x [y1, y2, y3] 6 ((numL y1).toNat) ((numL y2).toNat) ((numL y3).toNat) w hs hw hk.symm (by decide) (by decide) (by omega) (by omega) (by omega) hall rfl ?_ rfl rfl rfl).mono ?_
                · simp only [List.map_cons, List.map_nil, numV, e1, e2, e3]
                · rintro e w' ⟨rfl, hb⟩
                  refine ⟨?_, hb⟩
                  have ht : evTx 6 (numsE 6 0 ((numL y1).toNat) ((numL y2).toNat) ((numL y3).toNat)) = s.data.toList := (evTx_line hw2 hall).symm
                  rw [if_pos ht, evW_yes hk.symm (by decide) rfl hall, e1, e2, e3]
                  rfl
              · refine (specDskE_3o s x [y1, y2, y3] 7 ((numL y1).toNat) ((numL y2).toNat) ((numL y3).toNat) w hs hw hk.symm (by decide) (by decide) (by omega) (by omega) (by omega) hall rfl ?_ rfl rfl rfl).mono ?_
                · simp only [List.map_cons, List.map_nil, numV, e1, e2, e3]
                · rintro e w' ⟨rfl, hb⟩
                  refine ⟨?_, hb⟩
                  rw [if_neg (evTx_ne (by decide) hw2 _ (by rw [numsE_len (by decide) (by decide)]; show arN 7 ≠ 3; decide)), evW_no (fun h => by have := h.2.1; rw [← hk] at this; exact absurd this (show ¬ (3 = arN 7) by decide))]
                  rfl
              · refine (specDskE_38 s x [y1, y2, y3] 8 ((numL y1).toNat) ((numL y2).toNat) ((numL y3).toNat) w hs hw hk.symm (by decide) (by decide) (by omega) (by omega) (by omega) hall rfl ?_ rfl rfl rfl).mono ?_
                · simp only [List.map_cons, List.map_nil, numV, e1, e2, e3]
                · rintro e w' ⟨rfl, hb⟩
                  refine ⟨?_, hb⟩
                  rw [if_neg (evTx_ne (by decide) hw2 _ (by rw [numsE_len (by decide) (by decide)]; show arN 8 ≠ 3; decide)), evW_no (fun h => by have := h.2.1; rw [← hk] at this; exact absurd this (show ¬ (3 = arN 8) by decide))]
                  rfl
            | [], hz, _ => exact absurd rfl hz
            | _ :: _ :: _ :: _ :: _, _, h3 => exact absurd (by simp) h3
      · have hall : allN r = false := by simpa using hall
        rw [het, evW_no (fun h => by rw [h.2.2] at hall; cases hall)]
        exact specDskE_nums s x r _ w hs hw rfl hK1 hall

end Go.Proofs.YtilfpefccklebaaDoor
