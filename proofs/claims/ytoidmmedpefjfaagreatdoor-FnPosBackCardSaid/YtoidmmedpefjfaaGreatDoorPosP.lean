/- Places inside and outside, as data. No condition. -/
import Derived.Test.YtoidmmedpefjfaaGreatDoorSpans
namespace Go.Proofs.YtoidmmedpefjfaaGreatDoor
open Go.RowKit

theorem pIn_no {l : List (List UInt8 × List UInt8)} {a : Int} {k : Nat} (h : ((insL (l.take k) : Nat) : Int) ≤ a) : ∀ i, i < k → pIn l a i = false := fun i hi => by
  have := insL_mono l (show i + 1 ≤ k by omega)
  simp [pIn]; omega
theorem pOut_no {l : List (List UInt8 × List UInt8)} {a : Int} {k : Nat} (h : ((outsL (l.take k) : Nat) : Int) ≤ a) : ∀ i, i < k → pOut l a i = false := fun i hi => by
  have := outsL_mono l (show i + 1 ≤ k by omega)
  simp [pOut]; omega
/-- Where a place inside lies in the k-th line. -/
theorem kIn_in {l : List (List UInt8 × List UInt8)} {a : Int} {k : Nat} (hk : k < l.length) (h0 : ((insL (l.take k) : Nat) : Int) ≤ a) (h1 : a < ((insL (l.take (k + 1)) : Nat) : Int)) : kIn l a = k :=
  kIn_at hk (pIn_no h0) (by simp [pIn]; omega)
theorem kOut_in {l : List (List UInt8 × List UInt8)} {a : Int} {k : Nat} (hk : k < l.length) (h0 : ((outsL (l.take k) : Nat) : Int) ≤ a) (h1 : a < ((outsL (l.take (k + 1)) : Nat) : Int)) : kOut l a = k :=
  kOut_at hk (pOut_no h0) (by simp [pOut]; omega)
theorem kOut_end {l : List (List UInt8 × List UInt8)} {a : Int} (h0 : ((outsL l : Nat) : Int) ≤ a) : kOut l a = l.length :=
  kOut_all (fun i hi => pOut_no (k := l.length) (by rw [List.take_length]; exact h0) i hi)
theorem kIn_end {l : List (List UInt8 × List UInt8)} {a : Int} (h0 : ((insL l : Nat) : Int) ≤ a) : kIn l a = l.length :=
  kIn_all (fun i hi => pIn_no (k := l.length) (by rw [List.take_length]; exact h0) i hi)
/-- Where a line begins, and ends, both sides agree. -/
theorem outI_from {l : List (List UInt8 × List UInt8)} {k : Nat} (hk : k < l.length) : outI l (insL (l.take k)) = outsL (l.take k) := by
  have := insL_succ hk
  unfold outI
  rw [kIn_in hk (Int.le_refl _) (by omega)]
theorem outI_last {l : List (List UInt8 × List UInt8)} {k : Nat} (hk : k < l.length) : outI l ((insL (l.take (k + 1)) : Nat) - 1) = outsL (l.take k) := by
  have := insL_succ hk
  unfold outI
  rw [kIn_in hk (by omega) (by omega)]
theorem backI_from {l : List (List UInt8 × List UInt8)} {k : Nat} (hk : k < l.length) : backI l (outsL (l.take k)) = insL (l.take k) := by
  have := outsL_succ hk
  unfold backI
  rw [kOut_in hk (Int.le_refl _) (by omega), if_neg (by intro h; have := h.2.2; omega)]
theorem backI_to {l : List (List UInt8 × List UInt8)} {k : Nat} (hk : k < l.length) : backI l (outsL (l.take (k + 1))) = insL (l.take (k + 1)) := by
  by_cases h : k + 1 < l.length
  · exact backI_from h
  · have he : k + 1 = l.length := by omega
    rw [he, List.take_length]
    unfold backI
    rw [kOut_end (Int.le_refl _), if_neg (by intro h; have := h.1; omega), List.take_length]

end Go.Proofs.YtoidmmedpefjfaaGreatDoor
