/- Plain facts: a text's lines are those that are cut off one by one at the sign that ends a line; what is behind the last such sign. No program. No condition. -/
import Derived.Test.YtbhpogddnpaacaaGreatDoorLines
import Derived.Lib.LastIndexByte
import Derived.Lib.CutLaws
namespace Go.Proofs.YtbhpogddnpaacaaGreatDoor

theorem indexK_none {b0 : UInt8} {l : List UInt8} (h : Lib.index l [b0] < 0) : ∀ c ∈ l, c ≠ b0 := by
  induction l with
  | nil => simp
  | cons b r ih =>
    unfold Lib.index at h
    intro c hc
    split at h
    · omega
    · rename_i hb
      have hb' : b ≠ b0 := by
        intro e; subst e; simp at hb
      have hge := Lib.index_ge r [b0]
      split at h
      · rename_i h2
        have h2' : Lib.index r [b0] = -1 := by simpa using h2
        rcases List.mem_cons.1 hc with rfl | hc
        · exact hb'
        · exact ih (by omega) c hc
      · rename_i h2
        have h2' : Lib.index r [b0] ≠ -1 := by simpa using h2
        omega
theorem cutK_yes {b0 : UInt8} {l : List UInt8} (h : 0 ≤ Lib.index l [b0]) : l = (Lib.cut l [b0]).1 ++ b0 :: (Lib.cut l [b0]).2.1 ∧ ∀ c ∈ (Lib.cut l [b0]).1, c ≠ b0 := by
  unfold Lib.cut
  rw [if_pos h]
  simp only [List.length_singleton]
  induction l with
  | nil => simp [Lib.index] at h
  | cons b r ih =>
    by_cases hb : b = b0
    · subst hb
      have e : Lib.index (b :: r) [b] = 0 := by simp [Lib.index]
      rw [e]; simp
    · have hp : List.isPrefixOf [b0] (b :: r) = false := by
        show (b0 == b && List.isPrefixOf [] r) = false
        rw [show (b0 == b) = false by (simp; exact fun e => hb e.symm)]; rfl
      have hge := Lib.index_ge r [b0]
      by_cases h2 : Lib.index r [b0] = -1
      · have e : Lib.index (b :: r) [b0] = -1 := by unfold Lib.index; rw [hp]; simp [h2]
        omega
      · have e : Lib.index (b :: r) [b0] = Lib.index r [b0] + 1 := by
          rw [Lib.index, hp]; simp [h2]
        rw [e]
        have h3 : 0 ≤ Lib.index r [b0] := by omega
        obtain ⟨i1, i2⟩ := ih h3
        have e3 : (Lib.index r [b0] + 1).toNat = (Lib.index r [b0]).toNat + 1 := by omega
        rw [e3]
        refine ⟨?_, ?_⟩
        · rw [List.take_succ_cons, show (Lib.index r [b0]).toNat + 1 + 1 = ((Lib.index r [b0]).toNat + 1) + 1 from rfl, List.drop_succ_cons, List.cons_append, ← i1]
        · intro c hc
          rw [List.take_succ_cons] at hc
          rcases List.mem_cons.1 hc with rfl | hc
          · exact hb
          · exact i2 c hc
theorem cutK_no {b0 : UInt8} {l : List UInt8} (h : ¬ 0 ≤ Lib.index l [b0]) : Lib.cut l [b0] = (l, [], false) := by unfold Lib.cut; rw [if_neg h]

theorem stl_plain (l : List UInt8) (x : List (List UInt8) × List UInt8) (h : ∀ c ∈ l, c ≠ 59) : l.foldl stl x = (x.1, x.2 ++ l) := by
  induction l generalizing x with
  | nil => simp
  | cons c r ih =>
    rw [List.foldl_cons, ih _ (fun c hc => h c (by simp [hc]))]
    unfold stl; rw [if_neg (h c (by simp))]; simp
theorem stl_shift (l : List UInt8) (a x : List (List UInt8)) (y : List UInt8) : l.foldl stl (a ++ x, y) = (a ++ (l.foldl stl (x, y)).1, (l.foldl stl (x, y)).2) := by
  induction l generalizing x y with
  | nil => rfl
  | cons c r ih =>
    rw [List.foldl_cons, List.foldl_cons]
    by_cases h : c = 59
    · have e1 : stl (a ++ x, y) c = (a ++ (x ++ [y]), []) := by unfold stl; rw [if_pos h]; simp
      have e2 : stl (x, y) c = (x ++ [y], []) := by unfold stl; rw [if_pos h]
      rw [e1, e2, ih]
    · have e1 : stl (a ++ x, y) c = (a ++ x, y ++ [c]) := by unfold stl; rw [if_neg h]
      have e2 : stl (x, y) c = (x, y ++ [c]) := by unfold stl; rw [if_neg h]
      rw [e1, e2, ih]
/-- A text that begins with a line and its sign. -/
theorem linesF_cons {p r : List UInt8} (h : ∀ c ∈ p, c ≠ 59) : linesL (p ++ 59 :: r) = p :: linesL r ∧ restL (p ++ 59 :: r) = restL r := by
  have e : linesF (p ++ 59 :: r) = ([p] ++ (linesF r).1, (linesF r).2) := by
    unfold linesF
    rw [List.foldl_append, stl_plain p _ h, List.foldl_cons]
    have e1 : stl (([] : List (List UInt8)), [] ++ p) 59 = ([p] ++ [], []) := by unfold stl; simp
    show r.foldl stl (stl ([], [] ++ p) 59) = _
    rw [e1, stl_shift]
  constructor
  · show (linesF _).1 = _; rw [e]; rfl
  · show (linesF _).2 = _; rw [e]; rfl
theorem lines_none {l : List UInt8} (h : ∀ c ∈ l, c ≠ 59) : linesL l = [] ∧ restL l = l := by
  have e : linesF l = ([], l) := by unfold linesF; rw [stl_plain l _ h]; rfl
  constructor
  · show (linesF _).1 = _; rw [e]
  · show (linesF _).2 = _; rw [e]
/-- What is behind the last sign. -/
theorem rest_last {p r : List UInt8} (h : ∀ c ∈ r, c ≠ 59) : restL (p ++ 59 :: r) = r := by
  show (linesF _).2 = _
  unfold linesF
  rw [List.foldl_append, List.foldl_cons]
  have e1 : ∀ x, stl x 59 = (x.1 ++ [x.2], []) := fun x => by unfold stl; simp
  rw [e1, stl_plain r _ h]; rfl

theorem lines_cut_yes {l : List UInt8} (h : 0 ≤ Lib.index l [59]) : linesL l = (Lib.cut l [59]).1 :: linesL (Lib.cut l [59]).2.1 := by
  obtain ⟨e, hp⟩ := cutK_yes h
  exact (congrArg linesL e).trans (linesF_cons hp).1
theorem lines_cut_no {l : List UInt8} (h : ¬ 0 ≤ Lib.index l [59]) : linesL l = [] := (lines_none (indexK_none (by omega))).1
theorem cut_len {l : List UInt8} (h : 0 ≤ Lib.index l [59]) : (Lib.cut l [59]).2.1.length < l.length := by
  obtain ⟨e, _⟩ := cutK_yes h
  have := congrArg List.length e
  simp at this; omega

theorem bang_list (s : ByteArray) (j : Nat) (hj : j < s.size) : s.data[j]! = s.data.toList[j]'(by simpa using hj) := by
  rw [getElem!_pos s.data j (by simpa using hj)]; simp
/-- What is behind the last sign, by its place. -/
theorem rest_at (s : ByteArray) : ∃ i : Nat, Lib.lastIndexByte s 59 + 1 = i ∧ i ≤ s.size ∧ restL s.data.toList = s.data.toList.drop i := by
  have hl : s.data.toList.length = s.size := by simp
  rcases Lib.lastIndexByte_spec s 59 with ⟨e, hn⟩ | ⟨i, hi, e, hc, hn⟩
  · refine ⟨0, by omega, by omega, ?_⟩
    rw [List.drop_zero]
    refine (lines_none fun c hm => ?_).2
    obtain ⟨j, hj, rfl⟩ := List.getElem_of_mem hm
    have := hn j (by omega)
    rw [bang_list s j (by omega)] at this
    intro e'; rw [e'] at this; exact this rfl
  · refine ⟨i + 1, by omega, by omega, ?_⟩
    have hc' : s.data.toList[i]'(by omega) = 59 := by
      rw [bang_list s i hi] at hc
      apply UInt8.toNat_inj.1
      have : (59 : UInt8).toNat = 59 := rfl
      omega
    have e1 : s.data.toList = s.data.toList.take i ++ 59 :: s.data.toList.drop (i + 1) := by
      rw [← hc', List.getElem_cons_drop, List.take_append_drop]
    rw [e1]
    have e2 : (s.data.toList.take i ++ 59 :: s.data.toList.drop (i + 1)).drop (i + 1) = s.data.toList.drop (i + 1) := by rw [← e1]
    rw [e2]
    refine rest_last fun c hm => ?_
    obtain ⟨j, hj, rfl⟩ := List.getElem_of_mem hm
    rw [List.length_drop] at hj
    rw [List.getElem_drop]
    have := hn (i + 1 + j) (by omega) (by omega)
    rw [bang_list s _ (by omega)] at this
    intro e'; rw [e'] at this; exact this rfl

end Go.Proofs.YtbhpogddnpaacaaGreatDoor
