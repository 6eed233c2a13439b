/- Plain facts on the texts of ends and the lines that name them: what is read is what is written. No condition. -/
import Derived.Test.YtilfpefccklebaaDoorSSays
import Derived.Test.YtilfpefccklebaaDoorLinesP
namespace Go.Proofs.YtilfpefccklebaaDoor
open Go.RowKit

/-- What is read as an end is its text. -/
theorem rdE_text {l : List UInt8} {a p : Int} (h : rdE l = some (a, p)) : l = endL a.toNat p.toNat ∧ endB a p = true := by
  unfold rdE at h
  split at h
  · rename_i x y hw
    split at h
    · rename_i hb
      simp at h
      obtain ⟨rfl, rfl⟩ := h
      obtain ⟨h1, h2, h3, h4⟩ := end_bounds hb
      have ex := numL_inv (show 0 ≤ numL x by omega)
      have ey := numL_inv (show 0 ≤ numL y by omega)
      refine ⟨?_, hb⟩
      rw [words_two hw, endL, ← ex, ← ey]
    · cases h
  · cases h
/-- The text of an end is read as it. -/
theorem rdE_endL {a p : Int} (h : endB a p = true) : rdE (endL a.toNat p.toNat) = some (a, p) := by
  obtain ⟨h1, h2, h3, h4⟩ := end_bounds h
  unfold rdE endL
  rw [words_of_two (dec_no_space a.toNat) (dec_no_space p.toNat)]
  simp only [numL_dec (show a.toNat ≤ 9999 by omega), numL_dec (show p.toNat ≤ 9999 by omega)]
  rw [Int.toNat_of_nonneg (by omega), Int.toNat_of_nonneg (by omega), if_pos h]
theorem rdE_inj {l m : List UInt8} {a p : Int} (h1 : rdE l = some (a, p)) (h2 : rdE m = some (a, p)) : l = m := (rdE_text h1).1.trans (rdE_text h2).1.symm

theorem lpL_yes {a p : Int} (h : endB a p = true) : lpL a p = portL ++ endL a.toNat p.toNat := if_pos h
theorem lpL_no {a p : Int} (h : endB a p = false) : lpL a p = [] := if_neg (by simp [h])
theorem lpL_take {a p : Int} (h : endB a p = true) : (lpL a p).take 5 = portL ∧ (lpL a p).drop 5 = endL a.toNat p.toNat := by
  rw [lpL_yes h]; exact ⟨rfl, rfl⟩
/-- What a line that names an end says. -/
theorem says_lpL {a p : Int} (h : endB a p = true) : saysE (lpL a p) = (if insB a p = true then some (a, p) else none) := by
  obtain ⟨e1, e2⟩ := lpL_take h
  unfold saysE; rw [if_pos e1, e2, rdE_endL h]
theorem box_lpL {a p : Int} (h : endB a p = true) : boxE (lpL a p) = (if a = 50 then some p else none) := by
  obtain ⟨e1, e2⟩ := lpL_take h
  unfold boxE; rw [if_pos e1, e2, rdE_endL h]
theorem says_line {l : List UInt8} {a p : Int} (h : saysE l = some (a, p)) : insB a p = true ∧ endB a p = true ∧ l = lpL a p := by
  unfold saysE at h
  split at h
  · rename_i ht
    split at h
    · rename_i a' p' hr
      split at h
      · rename_i hi
        simp at h
        obtain ⟨rfl, rfl⟩ := h
        obtain ⟨e1, e2⟩ := rdE_text hr
        refine ⟨hi, e2, ?_⟩
        rw [lpL_yes e2, ← e1, ← ht, List.take_append_drop]
      · cases h
    · cases h
  · cases h
theorem box_line {l : List UInt8} {p : Int} (h : boxE l = some p) : endB 50 p = true ∧ l = lpL 50 p := by
  unfold boxE at h
  split at h
  · rename_i ht
    split at h
    · rename_i a' p' hr
      split at h
      · rename_i hi
        simp at h
        subst hi h
        obtain ⟨e1, e2⟩ := rdE_text hr
        refine ⟨e2, ?_⟩
        rw [lpL_yes e2, ← e1, ← ht, List.take_append_drop]
      · cases h
    · cases h
  · cases h
/-- A line of the box's names no end inside. -/
theorem box_no_says {l : List UInt8} {p : Int} (h : boxE l = some p) : saysE l = none := by
  obtain ⟨e1, rfl⟩ := box_line h
  rw [says_lpL e1]; rw [if_neg (by simp [insB, inB])]
theorem dec_byte {k : Nat} : ∀ c ∈ Lib.decDigits k, byteB c = true := by
  intro c hc
  have := dec_digs k c hc
  unfold isDig at this
  simp [byteB, this]
/-- A line that names an end is a line. -/
theorem lpL_lin {a p : Int} (h : endB a p = true) : linB (lpL a p) = true := by
  obtain ⟨h1, h2, h3, h4⟩ := end_bounds h
  have l1 := dec_len4 (k := a.toNat) (by omega)
  have l2 := dec_len4 (k := p.toNat) (by omega)
  rw [lpL_yes h]
  unfold linB
  rw [decide_eq_true (by simp [portL, endL]; omega), Bool.true_and, List.all_eq_true]
  intro c hc
  rcases List.mem_append.1 hc with hc | hc
  · have hp : ∀ c ∈ portL, byteB c = true := by decide
    exact hp c hc
  · unfold endL at hc
    rcases List.mem_append.1 hc with hc | hc
    · exact dec_byte c hc
    · rcases List.mem_cons.1 hc with rfl | hc
      · decide
      · exact dec_byte c hc

end Go.Proofs.YtilfpefccklebaaDoor
