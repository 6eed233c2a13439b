/- What EndRead of the specification reads, as an end or nothing. Condition: the text has at most 2^21 bytes. -/
import Derived.Test.YtglpijjkihpeeaaGreatDoorSRead
import Derived.Test.YtglpijjkihpeeaaGreatDoorSText
namespace Go.Proofs.YtglpijjkihpeeaaGreatDoor
open Go.RowKit

def noneV : Value := .tuple #[.agg #[.int .i64 0, .int .i64 0], .bool false]

/-- What the specification reads of a text. -/
def rdS (l : List UInt8) : Value := match wordsL l with | [x, y] => rdV (numL x) (numL y) | _ => noneV
/-- .. as an end, if it is one. -/
def rdE (l : List UInt8) : Option (Int × Int) := match wordsL l with | [x, y] => if endB (numL x) (numL y) = true then some (numL x, numL y) else none | _ => none
theorem rdE_some {l : List UInt8} {a p : Int} (h : rdE l = some (a, p)) : rdS l = .tuple #[.agg #[.int .i64 a, .int .i64 p], .bool true] ∧ endB a p = true := by
  unfold rdE at h
  unfold rdS
  split at h
  · split at h
    · rename_i hb
      simp at h
      obtain ⟨rfl, rfl⟩ := h
      exact ⟨if_pos hb, hb⟩
    · cases h
  · cases h
theorem rdE_none {l : List UInt8} (h : rdE l = none) : rdS l = .tuple #[.agg #[.int .i64 0, .int .i64 0], .bool false] := by
  unfold rdE at h
  unfold rdS
  split at h
  · split at h
    · cases h
    · rename_i hb; exact if_neg hb
  · rfl
theorem rdV_none {a p : Int} (h : endB a p = false) : rdV a p = noneV := by unfold rdV; rw [h]; rfl

theorem rdS_yes {a p : Nat} (h : endB a p = true) : rdS (endL a p) = rdV a p := by
  obtain ⟨h1, h2, h3, h4⟩ := end_bounds h
  unfold rdS endL
  rw [words_of_two (dec_no_space a) (dec_no_space p)]
  simp only [numL_dec (show a ≤ 9999 by omega), numL_dec (show p ≤ 9999 by omega)]
theorem rdS_no {l : List UInt8} (h : ∀ a p : Nat, endB a p = true → l ≠ endL a p) : rdS l = noneV := by
  unfold rdS
  split
  · rename_i x y hw
    by_cases hb : endB (numL x) (numL y) = true
    · obtain ⟨h1, h2, h3, h4⟩ := end_bounds hb
      have ex := numL_inv (show 0 ≤ numL x by omega)
      have ey := numL_inv (show 0 ≤ numL y by omega)
      refine absurd ?_ (h (numL x).toNat (numL y).toNat (by rw [Int.toNat_of_nonneg (by omega), Int.toNat_of_nonneg (by omega)]; exact hb))
      rw [words_two hw, endL, ← ex, ← ey]
    · exact rdV_none (by simpa using hb)
  · rfl

theorem specRead_any (s : ByteArray) (w : World) (hs : s.size ≤ 2097152) :
    Calls Tryz.prog 189 #[.string s] w fun e w' => e = .returned (rdS s.data.toList) ∧ Below w.heap.size w w' := by
  by_cases h : (wordsL s.data.toList).length = 2
  · match hw : wordsL s.data.toList, h with
    | [x, y], _ =>
      have e : rdS s.data.toList = rdV (numL x) (numL y) := by unfold rdS; rw [hw]
      rw [e]; exact specRead_two s x y w hs hw
  · have e : rdS s.data.toList = noneV := by
      unfold rdS; split
      · rename_i x y hw; rw [hw] at h; simp at h
      · rfl
    rw [e]; exact specRead_len s w hs h

theorem rdS_form (l : List UInt8) : ∃ (a p : Int) (b : Bool), rdS l = .tuple #[.agg #[.int .i64 a, .int .i64 p], .bool b] := by
  unfold rdS
  split
  · unfold rdV; split
    · exact ⟨_, _, _, rfl⟩
    · exact ⟨_, _, _, rfl⟩
  · exact ⟨_, _, _, rfl⟩

end Go.Proofs.YtglpijjkihpeeaaGreatDoor
