/- SegAdd of the specification and of the program, at every text and every segment. Condition: the text has at most 2^21 bytes, the segment likewise. -/
import Derived.Test.YtjnhmobdigfpiaaGen
import Derived.Test.YtjnhmobdigfpiaaInside
import Derived.Test.YtjnhmobdigfpiaaCuts
namespace Go.Proofs.Ytjnhmobdigfpiaa
open Go.RowKit

def addS (kn : ByteArray) (sq : Int) (d : ByteArray) : ByteArray := ⟨(addL kn.data.toList sq d.data.toList).toArray⟩
theorem addS_in (kn d : ByteArray) (q : Nat) (hq : q ≤ kn.size) : kn ++ d.extract (kn.size - q) d.size = addS kn q d := by
  unfold addS
  rw [addL_in (by rw [len_list]; exact hq), ext_list, List.take_of_length_le (by rw [len_list]; omega), len_list]
  apply ByteArray.ext
  apply Array.ext'
  simp
theorem addS_old (kn d : ByteArray) (q : Nat) (hq : q + d.size ≤ kn.size) : kn = addS kn q d := by
  unfold addS
  rw [addL_old (by rw [len_list, len_list]; exact hq)]
theorem addS_out (kn d : ByteArray) (q : Int) (hq : ¬ (0 ≤ q ∧ q ≤ kn.size)) : kn = addS kn q d := by
  unfold addS
  rw [addL_out (by rw [len_list]; exact hq)]
theorem ret_str {a b : ByteArray} (h : a = b) : Ending.returned (.string a) = .returned (.string b) := by rw [h]

set_option maxRecDepth 100000 in
set_option maxHeartbeats 1600000 in
theorem implAdd_any (kn : ByteArray) (sa sp da dp sq ak : Int) (d : ByteArray) (w : World) (hk : kn.size ≤ 2097152) (hd : d.size ≤ 2097152) :
    Calls Try.prog 11 #[.string kn, .agg #[.int .i64 sa, .int .i64 sp, .int .i64 da, .int .i64 dp, .int .i64 sq, .int .i64 ak, .string d]] w fun e w' => e = .returned (.string (addS kn sq d)) ∧ Below w.heap.size w w' := by
  by_cases hq : 0 ≤ sq ∧ sq ≤ kn.size
  · obtain ⟨q, rfl⟩ : ∃ q : Nat, sq = q := ⟨sq.toNat, by omega⟩
    have h1 : inB (q : Int) 0 (kn.size : Int) = true := by unfold inB; rw [decide_eq_true (by omega), decide_eq_true (by omega)]; rfl
    have hq2 : q ≤ kn.size := by omega
    have HI := Lib.hid (addS_in kn d q hq2)
    have HO : Hid (q + d.size ≤ kn.size → kn = addS kn q d) := addS_old kn d q
    clear hq
    go_enter Try.func11, Try.ntmps11
    go_wp2_with (go_at_call 23; refine (within_any _ _ _ _).mono ?_; rintro e w' ⟨rfl, rfl⟩)
    all_goals
      go_ret
      first
        | exact ⟨ret_str HI.out, (Below.refl _ _).alloc (Nat.le_refl _) _⟩
        | exact ⟨ret_str (HO.out (by omega)), (Below.refl _ _).alloc (Nat.le_refl _) _⟩
  · have h1 : inB sq 0 (kn.size : Int) = false := by
      unfold inB
      by_cases h0 : 0 ≤ sq
      · rw [decide_eq_true h0, decide_eq_false (by omega)]; rfl
      · rw [decide_eq_false h0]; rfl
    have HO := Lib.hid (addS_out kn d sq hq)
    clear hq
    go_enter Try.func11, Try.ntmps11
    go_wp2_with (go_at_call 23; refine (within_any _ _ _ _).mono ?_; rintro e w' ⟨rfl, rfl⟩)
    go_ret
    exact ⟨ret_str HO.out, (Below.refl _ _).alloc (Nat.le_refl _) _⟩

end Go.Proofs.Ytjnhmobdigfpiaa
