/- What goes outside once goes so again: with the table behind it, and with any that has more ends behind these; and so does each beginning. No condition. (Several texts, joined: StrLen, Semi, LinesP, PortP, StrOut, MapP, PutP, Stays.) -/
import Derived.Test.YtoidmmedpefjfaaGreatDoorTBkrc
import Derived.Test.YtoidmmedpefjfaaGreatDoorLines
import Derived.Lib.LastIndexByte
import Derived.Lib.CutLaws
import Derived.Test.YtoidmmedpefjfaaGreatDoorSSays
import Derived.Test.YtoidmmedpefjfaaGreatDoorVals
import Derived.Test.YtoidmmedpefjfaaGreatDoorPutE

/- How long a stream is outside. No condition. -/
namespace Go.Proofs.YtoidmmedpefjfaaGreatDoor
open Go.RowKit

theorem strE_len (ls : List (List UInt8)) (n : Nat) (hx : ∀ x ∈ ls, x.length ≤ n) (T : List (Int × Int) × List UInt8) : (ls.foldl strF T).2.length ≤ T.2.length + ls.length * (n + 21) := by
  induction ls generalizing T with
  | nil => simp
  | cons l r ih =>
    have h1 := ih (fun x h => hx x (List.mem_cons_of_mem _ h)) (strF T l)
    have h2 : (strF T l).2.length ≤ T.2.length + (n + 21) := by
      have h3 := lineE_len T.1 l
      have h4 := hx l (List.mem_cons_self ..)
      simp only [strF, List.length_append, List.length_cons, List.length_nil]
      omega
    simp only [List.foldl_cons, List.length_cons]
    rw [Nat.add_mul]
    omega

end Go.Proofs.YtoidmmedpefjfaaGreatDoor

/- Plain facts: a text's lines are those that are cut off one by one at the sign that ends a line; what is behind the last such sign. No program. No condition. -/
namespace Go.Proofs.YtoidmmedpefjfaaGreatDoor

theorem indexK_none {b0 : UInt8} {l : List UInt8} (h : Lib.index l [b0] < 0) : ∀ c ∈ l, c ≠ b0 := by
  induction l with
  | nil => simp
  | cons b r ih =>
    unfold Lib.index at h
    intro c hc
    split at h
    · omega
    · rename_i hb
      have hb' : b ≠ b0 := by
        intro e; subst e; simp at hb
      have hge := Lib.index_ge r [b0]
      split at h
      · rename_i h2
        have h2' : Lib.index r [b0] = -1 := by simpa using h2
        rcases List.mem_cons.1 hc with rfl | hc
        · exact hb'
        · exact ih (by omega) c hc
      · rename_i h2
        have h2' : Lib.index r [b0] ≠ -1 := by simpa using h2
        omega
theorem cutK_yes {b0 : UInt8} {l : List UInt8} (h : 0 ≤ Lib.index l [b0]) : l = (Lib.cut l [b0]).1 ++ b0 :: (Lib.cut l [b0]).2.1 ∧ ∀ c ∈ (Lib.cut l [b0]).1, c ≠ b0 := by
  unfold Lib.cut
  rw [if_pos h]
  simp only [List.length_singleton]
  induction l with
  | nil => simp [Lib.index] at h
  | cons b r ih =>
    by_cases hb : b = b0
    · subst hb
      have e : Lib.index (b :: r) [b] = 0 := by simp [Lib.index]
      rw [e]; simp
    · have hp : List.isPrefixOf [b0] (b :: r) = false := by
        show (b0 == b && List.isPrefixOf [] r) = false
        rw [show (b0 == b) = false by (simp; exact fun e => hb e.symm)]; rfl
      have hge := Lib.index_ge r [b0]
      by_cases h2 : Lib.index r [b0] = -1
      · have e : Lib.index (b :: r) [b0] = -1 := by unfold Lib.index; rw [hp]; simp [h2]
        omega
      · have e : Lib.index (b :: r) [b0] = Lib.index r [b0] + 1 := by
          rw [Lib.index, hp]; simp [h2]
        rw [e]
        have h3 : 0 ≤ Lib.index r [b0] := by omega
        obtain ⟨i1, i2⟩ := ih h3
        have e3 : (Lib.index r [b0] + 1).toNat = (Lib.index r [b0]).toNat + 1 := by omega
        rw [e3]
        refine ⟨?_, ?_⟩
        · rw [List.take_succ_cons, show (Lib.index r [b0]).toNat + 1 + 1 = ((Lib.index r [b0]).toNat + 1) + 1 from rfl, List.drop_succ_cons, List.cons_append, ← i1]
        · intro c hc
          rw [List.take_succ_cons] at hc
          rcases List.mem_cons.1 hc with rfl | hc
          · exact hb
          · exact i2 c hc
theorem cutK_no {b0 : UInt8} {l : List UInt8} (h : ¬ 0 ≤ Lib.index l [b0]) : Lib.cut l [b0] = (l, [], false) := by unfold Lib.cut; rw [if_neg h]

theorem stl_plain (l : List UInt8) (x : List (List UInt8) × List UInt8) (h : ∀ c ∈ l, c ≠ 59) : l.foldl stl x = (x.1, x.2 ++ l) := by
  induction l generalizing x with
  | nil => simp
  | cons c r ih =>
    rw [List.foldl_cons, ih _ (fun c hc => h c (by simp [hc]))]
    unfold stl; rw [if_neg (h c (by simp))]; simp
theorem stl_shift (l : List UInt8) (a x : List (List UInt8)) (y : List UInt8) : l.foldl stl (a ++ x, y) = (a ++ (l.foldl stl (x, y)).1, (l.foldl stl (x, y)).2) := by
  induction l generalizing x y with
  | nil => rfl
  | cons c r ih =>
    rw [List.foldl_cons, List.foldl_cons]
    by_cases h : c = 59
    · have e1 : stl (a ++ x, y) c = (a ++ (x ++ [y]), []) := by unfold stl; rw [if_pos h]; simp
      have e2 : stl (x, y) c = (x ++ [y], []) := by unfold stl; rw [if_pos h]
      rw [e1, e2, ih]
    · have e1 : stl (a ++ x, y) c = (a ++ x, y ++ [c]) := by unfold stl; rw [if_neg h]
      have e2 : stl (x, y) c = (x, y ++ [c]) := by unfold stl; rw [if_neg h]
      rw [e1, e2, ih]
/-- A text that begins with a line and its sign. -/
theorem linesF_cons {p r : List UInt8} (h : ∀ c ∈ p, c ≠ 59) : linesL (p ++ 59 :: r) = p :: linesL r ∧ restL (p ++ 59 :: r) = restL r := by
  have e : linesF (p ++ 59 :: r) = ([p] ++ (linesF r).1, (linesF r).2) := by
    unfold linesF
    rw [List.foldl_append, stl_plain p _ h, List.foldl_cons]
    have e1 : stl (([] : List (List UInt8)), [] ++ p) 59 = ([p] ++ [], []) := by unfold stl; simp
    show r.foldl stl (stl ([], [] ++ p) 59) = _
    rw [e1, stl_shift]
  constructor
  · show (linesF _).1 = _; rw [e]; rfl
  · show (linesF _).2 = _; rw [e]; rfl
theorem lines_none {l : List UInt8} (h : ∀ c ∈ l, c ≠ 59) : linesL l = [] ∧ restL l = l := by
  have e : linesF l = ([], l) := by unfold linesF; rw [stl_plain l _ h]; rfl
  constructor
  · show (linesF _).1 = _; rw [e]
  · show (linesF _).2 = _; rw [e]
/-- What is behind the last sign. -/
theorem rest_last {p r : List UInt8} (h : ∀ c ∈ r, c ≠ 59) : restL (p ++ 59 :: r) = r := by
  show (linesF _).2 = _
  unfold linesF
  rw [List.foldl_append, List.foldl_cons]
  have e1 : ∀ x, stl x 59 = (x.1 ++ [x.2], []) := fun x => by unfold stl; simp
  rw [e1, stl_plain r _ h]; rfl

theorem lines_cut_yes {l : List UInt8} (h : 0 ≤ Lib.index l [59]) : linesL l = (Lib.cut l [59]).1 :: linesL (Lib.cut l [59]).2.1 := by
  obtain ⟨e, hp⟩ := cutK_yes h
  exact (congrArg linesL e).trans (linesF_cons hp).1
theorem lines_cut_no {l : List UInt8} (h : ¬ 0 ≤ Lib.index l [59]) : linesL l = [] := (lines_none (indexK_none (by omega))).1
theorem cut_len {l : List UInt8} (h : 0 ≤ Lib.index l [59]) : (Lib.cut l [59]).2.1.length < l.length := by
  obtain ⟨e, _⟩ := cutK_yes h
  have := congrArg List.length e
  simp at this; omega

theorem bang_list (s : ByteArray) (j : Nat) (hj : j < s.size) : s.data[j]! = s.data.toList[j]'(by simpa using hj) := by
  rw [getElem!_pos s.data j (by simpa using hj)]; simp
/-- What is behind the last sign, by its place. -/
theorem rest_at (s : ByteArray) : ∃ i : Nat, Lib.lastIndexByte s 59 + 1 = i ∧ i ≤ s.size ∧ restL s.data.toList = s.data.toList.drop i := by
  have hl : s.data.toList.length = s.size := by simp
  rcases Lib.lastIndexByte_spec s 59 with ⟨e, hn⟩ | ⟨i, hi, e, hc, hn⟩
  · refine ⟨0, by omega, by omega, ?_⟩
    rw [List.drop_zero]
    refine (lines_none fun c hm => ?_).2
    obtain ⟨j, hj, rfl⟩ := List.getElem_of_mem hm
    have := hn j (by omega)
    rw [bang_list s j (by omega)] at this
    intro e'; rw [e'] at this; exact this rfl
  · refine ⟨i + 1, by omega, by omega, ?_⟩
    have hc' : s.data.toList[i]'(by omega) = 59 := by
      rw [bang_list s i hi] at hc
      apply UInt8.toNat_inj.1
      have : (59 : UInt8).toNat = 59 := rfl
      omega
    have e1 : s.data.toList = s.data.toList.take i ++ 59 :: s.data.toList.drop (i + 1) := by
      rw [← hc', List.getElem_cons_drop, List.take_append_drop]
    rw [e1]
    have e2 : (s.data.toList.take i ++ 59 :: s.data.toList.drop (i + 1)).drop (i + 1) = s.data.toList.drop (i + 1) := by rw [← e1]
    rw [e2]
    refine rest_last fun c hm => ?_
    obtain ⟨j, hj, rfl⟩ := List.getElem_of_mem hm
    rw [List.length_drop] at hj
    rw [List.getElem_drop]
    have := hn (i + 1 + j) (by omega) (by omega)
    rw [bang_list s _ (by omega)] at this
    intro e'; rw [e'] at this; exact this rfl

end Go.Proofs.YtoidmmedpefjfaaGreatDoor

/- Plain facts on lines and streams: beginnings, two texts one behind the other, what no line has. No program. No condition. -/
namespace Go.Proofs.YtoidmmedpefjfaaGreatDoor

theorem stl_noSemi (l : List UInt8) (x : List (List UInt8) × List UInt8) (h1 : ∀ y ∈ x.1, ∀ c ∈ y, c ≠ 59) (h2 : ∀ c ∈ x.2, c ≠ 59) :
    (∀ y ∈ (l.foldl stl x).1, ∀ c ∈ y, c ≠ 59) ∧ ∀ c ∈ (l.foldl stl x).2, c ≠ 59 := by
  induction l generalizing x with
  | nil => exact ⟨h1, h2⟩
  | cons c r ih =>
    rw [List.foldl_cons]
    by_cases hc : c = 59
    · have e : stl x c = (x.1 ++ [x.2], []) := by unfold stl; rw [if_pos hc]
      rw [e]
      exact ih _ (fun y hy => (List.mem_append.1 hy).elim (h1 y) (fun e => by simp at e; subst e; exact h2)) (by simp)
    · have e : stl x c = (x.1, x.2 ++ [c]) := by unfold stl; rw [if_neg hc]
      rw [e]
      exact ih _ h1 (fun d hd => (List.mem_append.1 hd).elim (h2 d) (fun e => by simp at e; subst e; exact hc))
/-- No line, and no rest, has the sign that ends a line. -/
theorem line_noSemi {l x : List UInt8} (h : x ∈ linesL l) : ∀ c ∈ x, c ≠ 59 := (stl_noSemi l ([], []) (by simp) (by simp)).1 x h
theorem rest_noSemi (l : List UInt8) : ∀ c ∈ restL l, c ≠ 59 := (stl_noSemi l ([], []) (by simp) (by simp)).2

theorem stl_prefix (l : List UInt8) (x : List (List UInt8) × List UInt8) : x.1 <+: (l.foldl stl x).1 := by
  induction l generalizing x with
  | nil => exact List.prefix_refl _
  | cons c r ih =>
    rw [List.foldl_cons]
    refine List.IsPrefix.trans ?_ (ih _)
    by_cases hc : c = 59
    · have e : stl x c = (x.1 ++ [x.2], []) := by unfold stl; rw [if_pos hc]
      rw [e]; exact List.prefix_append _ _
    · have e : stl x c = (x.1, x.2 ++ [c]) := by unfold stl; rw [if_neg hc]
      rw [e]; exact List.prefix_refl _
/-- What is behind the last sign begins the next line, or the rest. -/
theorem stl_rest (l : List UInt8) (x : List (List UInt8) × List UInt8) : ∃ z ∈ (l.foldl stl x).1 ++ [(l.foldl stl x).2], x.2 <+: z := by
  induction l generalizing x with
  | nil => exact ⟨x.2, by simp, List.prefix_refl _⟩
  | cons c r ih =>
    rw [List.foldl_cons]
    by_cases hc : c = 59
    · have e : stl x c = (x.1 ++ [x.2], []) := by unfold stl; rw [if_pos hc]
      rw [e]
      exact ⟨x.2, List.mem_append_left _ ((stl_prefix r (x.1 ++ [x.2], [])).subset (by simp)), List.prefix_refl _⟩
    · have e : stl x c = (x.1, x.2 ++ [c]) := by unfold stl; rw [if_neg hc]
      rw [e]
      obtain ⟨z, hz, hp⟩ := ih (x.1, x.2 ++ [c])
      exact ⟨z, hz, (List.prefix_append _ _).trans hp⟩
theorem linesF_app (a b : List UInt8) : linesF (a ++ b) = b.foldl stl (linesF a) := by unfold linesF; rw [List.foldl_append]
theorem lines_prefix (a b : List UInt8) : linesL a <+: linesL (a ++ b) := by
  show _ <+: (linesF (a ++ b)).1; rw [linesF_app]; exact stl_prefix b _
theorem lines_take (l : List UInt8) (k : Nat) : linesL (l.take k) <+: linesL l := by
  have := lines_prefix (l.take k) (l.drop k); rwa [List.take_append_drop] at this
/-- Two texts, the first of which ends with a sign, or is empty. -/
theorem lines_join {a : List UInt8} (b : List UInt8) (h : restL a = []) : linesL (a ++ b) = linesL a ++ linesL b ∧ restL (a ++ b) = restL b := by
  have e : linesF (a ++ b) = (linesL a ++ (linesF b).1, (linesF b).2) := by
    rw [linesF_app]
    have e1 : linesF a = (linesL a ++ [], []) := by rw [List.append_nil]; exact Prod.ext rfl h
    rw [e1, stl_shift]; rfl
  constructor
  · show (linesF _).1 = _; rw [e]; rfl
  · show (linesF _).2 = _; rw [e]; rfl
theorem lin_prefix {a b : List UInt8} (h : linB b = true) (hp : a <+: b) : linB a = true := by
  unfold linB at h ⊢
  rw [Bool.and_eq_true] at h ⊢
  obtain ⟨h1, h2⟩ := h
  have hl := hp.length_le
  simp only [decide_eq_true_eq] at h1 ⊢
  exact ⟨by omega, List.all_eq_true.2 fun c hc => List.all_eq_true.1 h2 c (hp.subset hc)⟩
theorem lin_take {l : List UInt8} (h : linB l = true) (k : Nat) : linB (l.take k) = true := lin_prefix h (List.take_prefix _ _)
theorem lin_noSemi {l : List UInt8} (h : linB l = true) : ∀ c ∈ l, c ≠ 59 := by
  intro c hc e
  unfold linB at h
  rw [Bool.and_eq_true] at h
  have := List.all_eq_true.1 h.2 c hc
  rw [e] at this; revert this; decide
theorem lin_semi (l : List UInt8) : linB (l ++ [59]) = false := by
  rcases h : linB (l ++ [59]) with _ | _
  · rfl
  · exact absurd rfl (lin_noSemi h 59 (by simp))
theorem lin_len {l : List UInt8} (h : linB l = true) : l.length ≤ 16 := by
  unfold linB at h; rw [Bool.and_eq_true] at h; simpa using h.1
theorem str_parts {l : List UInt8} (h : strB l = true) : l.length ≤ 120 ∧ (∀ x ∈ linesL l, linB x = true) ∧ linB (restL l) = true := by
  unfold strB at h
  rw [Bool.and_eq_true, Bool.and_eq_true] at h
  exact ⟨by simpa using h.1.1, List.all_eq_true.1 h.1.2, h.2⟩
theorem str_mk {l : List UInt8} (h1 : l.length ≤ 120) (h2 : ∀ x ∈ linesL l, linB x = true) (h3 : linB (restL l) = true) : strB l = true := by
  unfold strB; rw [decide_eq_true h1, List.all_eq_true.2 h2, h3]; rfl
/-- A beginning of a stream is a stream. -/
theorem str_prefix {a b : List UInt8} (h : strB (a ++ b) = true) : strB a = true := by
  obtain ⟨h1, h2, h3⟩ := str_parts h
  rw [List.length_append] at h1
  refine str_mk (by omega) (fun x hx => h2 x ((lines_prefix a b).subset hx)) ?_
  obtain ⟨z, hz, hp⟩ := stl_rest b (linesF a)
  rw [← linesF_app] at hz
  refine lin_prefix (b := z) ?_ hp
  rcases List.mem_append.1 hz with hz | hz
  · exact h2 z hz
  · simp at hz; subst hz; exact h3
theorem str_take {l : List UInt8} (h : strB l = true) (k : Nat) : strB (l.take k) = true := by
  have : strB (l.take k ++ l.drop k) = true := by rw [List.take_append_drop]; exact h
  exact str_prefix this

end Go.Proofs.YtoidmmedpefjfaaGreatDoor

/- Plain facts on the texts of ends and the lines that name them: what is read is what is written. No condition. -/
namespace Go.Proofs.YtoidmmedpefjfaaGreatDoor
open Go.RowKit

/-- What is read as an end is its text. -/
theorem rdE_text {l : List UInt8} {a p : Int} (h : rdE l = some (a, p)) : l = endL a.toNat p.toNat ∧ endB a p = true := by
  unfold rdE at h
  split at h
  · rename_i x y hw
    split at h
    · rename_i hb
      simp at h
      obtain ⟨rfl, rfl⟩ := h
      obtain ⟨h1, h2, h3, h4⟩ := end_bounds hb
      have ex := numL_inv (show 0 ≤ numL x by omega)
      have ey := numL_inv (show 0 ≤ numL y by omega)
      refine ⟨?_, hb⟩
      rw [words_two hw, endL, ← ex, ← ey]
    · cases h
  · cases h
/-- The text of an end is read as it. -/
theorem rdE_endL {a p : Int} (h : endB a p = true) : rdE (endL a.toNat p.toNat) = some (a, p) := by
  obtain ⟨h1, h2, h3, h4⟩ := end_bounds h
  unfold rdE endL
  rw [words_of_two (dec_no_space a.toNat) (dec_no_space p.toNat)]
  simp only [numL_dec (show a.toNat ≤ 9999 by omega), numL_dec (show p.toNat ≤ 9999 by omega)]
  rw [Int.toNat_of_nonneg (by omega), Int.toNat_of_nonneg (by omega), if_pos h]
theorem rdE_inj {l m : List UInt8} {a p : Int} (h1 : rdE l = some (a, p)) (h2 : rdE m = some (a, p)) : l = m := (rdE_text h1).1.trans (rdE_text h2).1.symm

theorem lpL_yes {a p : Int} (h : endB a p = true) : lpL a p = portL ++ endL a.toNat p.toNat := if_pos h
theorem lpL_no {a p : Int} (h : endB a p = false) : lpL a p = [] := if_neg (by simp [h])
theorem lpL_take {a p : Int} (h : endB a p = true) : (lpL a p).take 5 = portL ∧ (lpL a p).drop 5 = endL a.toNat p.toNat := by
  rw [lpL_yes h]; exact ⟨rfl, rfl⟩
/-- What a line that names an end says. -/
theorem says_lpL {a p : Int} (h : endB a p = true) : saysE (lpL a p) = (if insB a p = true then some (a, p) else none) := by
  obtain ⟨e1, e2⟩ := lpL_take h
  unfold saysE; rw [if_pos e1, e2, rdE_endL h]
theorem box_lpL {a p : Int} (h : endB a p = true) : boxE (lpL a p) = (if a = 50 then some p else none) := by
  obtain ⟨e1, e2⟩ := lpL_take h
  unfold boxE; rw [if_pos e1, e2, rdE_endL h]
theorem says_line {l : List UInt8} {a p : Int} (h : saysE l = some (a, p)) : insB a p = true ∧ endB a p = true ∧ l = lpL a p := by
  unfold saysE at h
  split at h
  · rename_i ht
    split at h
    · rename_i a' p' hr
      split at h
      · rename_i hi
        simp at h
        obtain ⟨rfl, rfl⟩ := h
        obtain ⟨e1, e2⟩ := rdE_text hr
        refine ⟨hi, e2, ?_⟩
        rw [lpL_yes e2, ← e1, ← ht, List.take_append_drop]
      · cases h
    · cases h
  · cases h
theorem box_line {l : List UInt8} {p : Int} (h : boxE l = some p) : endB 50 p = true ∧ l = lpL 50 p := by
  unfold boxE at h
  split at h
  · rename_i ht
    split at h
    · rename_i a' p' hr
      split at h
      · rename_i hi
        simp at h
        subst hi h
        obtain ⟨e1, e2⟩ := rdE_text hr
        refine ⟨e2, ?_⟩
        rw [lpL_yes e2, ← e1, ← ht, List.take_append_drop]
      · cases h
    · cases h
  · cases h
/-- A line of the box's names no end inside. -/
theorem box_no_says {l : List UInt8} {p : Int} (h : boxE l = some p) : saysE l = none := by
  obtain ⟨e1, rfl⟩ := box_line h
  rw [says_lpL e1]; rw [if_neg (by simp [insB, inB])]
theorem dec_byte {k : Nat} : ∀ c ∈ Lib.decDigits k, byteB c = true := by
  intro c hc
  have := dec_digs k c hc
  unfold isDig at this
  simp [byteB, this]
/-- A line that names an end is a line. -/
theorem lpL_lin {a p : Int} (h : endB a p = true) : linB (lpL a p) = true := by
  obtain ⟨h1, h2, h3, h4⟩ := end_bounds h
  have l1 := dec_len4 (k := a.toNat) (by omega)
  have l2 := dec_len4 (k := p.toNat) (by omega)
  rw [lpL_yes h]
  unfold linB
  rw [decide_eq_true (by simp [portL, endL]; omega), Bool.true_and, List.all_eq_true]
  intro c hc
  rcases List.mem_append.1 hc with hc | hc
  · have hp : ∀ c ∈ portL, byteB c = true := by decide
    exact hp c hc
  · unfold endL at hc
    rcases List.mem_append.1 hc with hc | hc
    · exact dec_byte c hc
    · rcases List.mem_cons.1 hc with rfl | hc
      · decide
      · exact dec_byte c hc

end Go.Proofs.YtoidmmedpefjfaaGreatDoor

/- Lines that have gone outside: none has a sign, none names an end inside, and they go outside as they are. No condition. -/
namespace Go.Proofs.YtoidmmedpefjfaaGreatDoor
open Go.RowKit

theorem says_nil : saysE [] = none := rfl
theorem says_noneL : saysE noneL = none := rfl
theorem ins_box (p : Int) : insB 50 p = false := by
  unfold insB inB
  simp
theorem lineE_says (es : List (Int × Int)) (l : List UInt8) : saysE (lineE es l).2 = none := by
  rcases h : saysE l with _ | e
  · rw [lineE_none h]; exact h
  · rw [lineE_some h]
    simp only
    split
    · exact says_noneL
    · rcases hb : endB 50 (putE es e).2 with _ | _
      · rw [lpL_no hb]; exact says_nil
      · rw [says_lpL hb, if_neg (by rw [ins_box]; decide)]
theorem lpL_semi (a p : Int) : ∀ c ∈ lpL a p, c ≠ 59 := by
  rcases hb : endB a p with _ | _
  · rw [lpL_no hb]; intro c hc; cases hc
  · exact lin_noSemi (lpL_lin hb)
theorem lineE_semi {es : List (Int × Int)} {l : List UInt8} (hl : ∀ c ∈ l, c ≠ 59) : ∀ c ∈ (lineE es l).2, c ≠ 59 := by
  rcases h : saysE l with _ | e
  · rw [lineE_none h]; exact hl
  · rw [lineE_some h]
    simp only
    split
    · intro c hc e; subst e; revert hc; decide
    · exact lpL_semi _ _
/-- What goes outside is lines. -/
theorem streamE_outs (ls : List (List UInt8)) (h : ∀ l ∈ ls, ∀ c ∈ l, c ≠ 59) (T : List (Int × Int) × List UInt8) :
    ∃ outs : List (List UInt8), outs.length = ls.length ∧ (ls.foldl strF T).2 = T.2 ++ (outs.map (· ++ [59])).flatten ∧ ∀ o ∈ outs, (∀ c ∈ o, c ≠ 59) ∧ saysE o = none := by
  induction ls generalizing T with
  | nil => exact ⟨[], rfl, by simp, fun o ho => by cases ho⟩
  | cons l r ih =>
    obtain ⟨outs, h1, h2, h3⟩ := ih (fun x hx => h x (List.mem_cons_of_mem _ hx)) (strF T l)
    refine ⟨(lineE T.1 l).2 :: outs, by simp [h1], ?_, fun o ho => ?_⟩
    · rw [List.foldl_cons, h2]
      simp [strF]
    · rcases List.mem_cons.1 ho with rfl | ho
      · exact ⟨lineE_semi (h l (List.mem_cons_self ..)), lineE_says _ _⟩
      · exact h3 o ho
theorem lines_flat (outs : List (List UInt8)) (h : ∀ o ∈ outs, ∀ c ∈ o, c ≠ 59) : linesL ((outs.map (· ++ [59])).flatten) = outs ∧ restL ((outs.map (· ++ [59])).flatten) = [] := by
  induction outs with
  | nil => exact ⟨rfl, rfl⟩
  | cons o r ih =>
    obtain ⟨h1, h2⟩ := ih (fun x hx => h x (List.mem_cons_of_mem _ hx))
    have := linesF_cons (p := o) (r := (r.map (· ++ [59])).flatten) (h o (List.mem_cons_self ..))
    rw [show ((o :: r).map (· ++ [59])).flatten = o ++ 59 :: (r.map (· ++ [59])).flatten by simp]
    exact ⟨by rw [this.1, h1], by rw [this.2, h2]⟩
theorem streamE_stays (outs : List (List UInt8)) (h : ∀ o ∈ outs, saysE o = none) (es : List (Int × Int)) (p : List UInt8) : outs.foldl strF (es, p) = (es, p ++ (outs.map (· ++ [59])).flatten) := by
  induction outs generalizing p with
  | nil => simp
  | cons o r ih =>
    rw [List.foldl_cons, show strF (es, p) o = ((lineE es o).1, p ++ (lineE es o).2 ++ [59]) from rfl, lineE_none (h o (List.mem_cons_self ..)), ih (fun x hx => h x (List.mem_cons_of_mem _ hx))]
    simp
/-- What went outside goes so again as it is, and has as many lines. -/
theorem stream_again (es xs : List (Int × Int)) (s : List UInt8) : (linesL (streamE es (linesL s)).2).length = (linesL s).length ∧ restL (streamE es (linesL s)).2 = [] ∧ streamE xs (linesL (streamE es (linesL s)).2) = (xs, (streamE es (linesL s)).2) := by
  obtain ⟨outs, h1, h2, h3⟩ := streamE_outs (linesL s) (fun l hl => line_noSemi hl) (es, [])
  have e : (streamE es (linesL s)).2 = (outs.map (· ++ [59])).flatten := by
    unfold streamE
    rw [h2]; rfl
  obtain ⟨f1, f2⟩ := lines_flat outs (fun o ho => (h3 o ho).1)
  rw [e, f1]
  refine ⟨h1, f2, ?_⟩
  unfold streamE
  rw [streamE_stays outs (fun o ho => (h3 o ho).2)]
  rfl

end Go.Proofs.YtoidmmedpefjfaaGreatDoor

/- Ports and ends of a table are each other's, as data. No condition. -/
namespace Go.Proofs.YtoidmmedpefjfaaGreatDoor
open Go.RowKit

theorem mapB_take {es : List (Int × Int)} (hm : mapB es = true) {k : Nat} (hk : k < es.length) : es[k] ∉ es.take k := by
  unfold mapB at hm
  simp only [Bool.and_eq_true, decide_eq_true_eq, List.all_eq_true, List.mem_range] at hm
  have := hm.2 k hk
  unfold mapP at this
  simp only [Bool.and_eq_true, decide_eq_true_eq] at this
  rw [List.getD_eq_getElem?_getD, List.getElem?_eq_getElem hk] at this
  exact findI_neg.1 this.2
theorem findI_at {es : List (Int × Int)} (hm : mapB es = true) {k : Nat} (hk : k < es.length) : findI es es[k] = k := by
  obtain ⟨j, hj, he, hn, hf⟩ := findI_mem (List.getElem_mem hk)
  rw [hf]
  rcases Nat.lt_trichotomy j k with h | h | h
  · exfalso
    refine mapB_take hm hk ?_
    rw [← he]
    exact List.mem_take_iff_getElem.2 ⟨j, by omega, rfl⟩
  · rw [h]
  · exfalso
    exact hn (List.mem_take_iff_getElem.2 ⟨k, by omega, rfl⟩)
/-- An end that a port names has that port. -/
theorem port_of_end {es : List (Int × Int)} {q : Int} {e : Int × Int} (hm : mapB es = true) (h : endI es q = some e) : portI es e = q := by
  unfold endI at h
  split at h
  · rename_i hq
    obtain ⟨hk, he⟩ := List.getElem?_eq_some_iff.1 h
    have hf := findI_at hm hk
    rw [he] at hf
    unfold portI
    rw [hf, if_neg (by omega)]
    omega
  · cases h
/-- A port that an end has names that end. -/
theorem end_of_port {es : List (Int × Int)} {e : Int × Int} (h : portI es e ≠ 0) : endI es (portI es e) = some e := by
  unfold portI at h ⊢
  split
  · rename_i hf
    rw [if_pos hf] at h
    exact absurd rfl h
  · rename_i hf
    have hmem : e ∈ es := by
      refine Classical.byContradiction fun hn => ?_
      exact hf (findI_neg.2 hn)
    obtain ⟨k, hk, he, _, hfk⟩ := findI_mem hmem
    rw [hfk]
    unfold endI
    rw [if_pos (by omega), show (500 + (k : Int) - 500).toNat = k by omega, List.getElem?_eq_getElem hk, he]

end Go.Proofs.YtoidmmedpefjfaaGreatDoor

/- An end more in a table, as data: who has which port then. No condition. -/
namespace Go.Proofs.YtoidmmedpefjfaaGreatDoor
open Go.RowKit

theorem findI_app {us vs : List (Int × Int)} {x : Int × Int} (h : x ∈ us) : findI (us ++ vs) x = findI us x := by
  obtain ⟨k, hk, he, hn, hf⟩ := findI_mem h
  rw [hf]
  refine findI_hit (by rw [List.length_append]; omega) (by rw [List.getElem_append_left hk]; exact he) (fun j hj hje => hn ?_)
  rw [List.getElem_append_left (by omega)] at hje
  exact List.mem_take_iff_getElem.2 ⟨j, by omega, hje⟩
theorem portI_app {us vs : List (Int × Int)} {x : Int × Int} (h : x ∈ us) : portI (us ++ vs) x = portI us x := by
  unfold portI; rw [findI_app h]
theorem portI_pos' {es : List (Int × Int)} {e : Int × Int} : 0 < portI es e ↔ e ∈ es := by
  constructor
  · intro h
    refine Classical.byContradiction fun hn => ?_
    unfold portI at h
    rw [if_pos (findI_neg.2 hn)] at h
    omega
  · intro h
    unfold portI
    rw [if_neg (fun h2 => findI_neg.1 h2 h)]
    have := findI_bounds es e
    have h3 : ¬ findI es e < 0 := fun h2 => findI_neg.1 h2 h
    omega
theorem putE_fst (us : List (Int × Int)) (e : Int × Int) : (putE us e).1 = if e ∈ us ∨ us.length = 6 then us else us ++ [e] := by
  by_cases h : e ∈ us
  · rw [putE_has h, if_pos (.inl h)]
  · by_cases h6 : us.length = 6
    · rw [putE_full h h6, if_pos (.inr h6)]
    · rw [putE_new h h6, if_neg (by rintro (h1 | h1); exact h h1; exact h6 h1)]
theorem putE_pre (us : List (Int × Int)) (e : Int × Int) : ∃ t, (putE us e).1 = us ++ t ∧ t.length ≤ 1 := by
  rw [putE_fst]
  split
  · exact ⟨[], by simp, by simp⟩
  · exact ⟨[e], rfl, by simp⟩
theorem putE_port {us : List (Int × Int)} {e : Int × Int} (h : (putE us e).2 ≠ 0) : portI (putE us e).1 e = (putE us e).2 := by
  by_cases hm : e ∈ us
  · rw [putE_has hm]
  · by_cases h6 : us.length = 6
    · rw [putE_full hm h6] at h; exact absurd rfl h
    · rw [putE_new hm h6]
      show portI (us ++ [e]) e = _
      unfold portI
      have : findI (us ++ [e]) e = (us.length : Int) := by
        refine findI_hit (k := us.length) (by simp) (by simp) (fun j hj hje => hm ?_)
        rw [List.getElem_append_left hj] at hje
        rw [← hje]; exact List.getElem_mem _
      rw [this, if_neg (by omega)]
theorem putE_zero {us : List (Int × Int)} {e : Int × Int} (h : (putE us e).2 = 0) : portI us e = 0 ∧ us.length = 6 ∧ (putE us e).1 = us := by
  by_cases hm : e ∈ us
  · have := portI_pos'.2 hm
    rw [putE_has hm] at h
    simp only at h
    omega
  · by_cases h6 : us.length = 6
    · refine ⟨?_, h6, by rw [putE_full hm h6]⟩
      have : ¬ 0 < portI us e := fun h2 => hm (portI_pos'.1 h2)
      unfold portI at this ⊢
      rw [if_pos (findI_neg.2 hm)]
    · rw [putE_new hm h6] at h
      simp only at h
      omega
theorem putE_had {us : List (Int × Int)} {e : Int × Int} (h : portI us e ≠ 0) : portI us e = (putE us e).2 := by
  have hm : e ∈ us := by
    refine Classical.byContradiction fun hn => ?_
    unfold portI at h
    rw [if_pos (findI_neg.2 hn)] at h
    exact h rfl
  rw [putE_has hm]
theorem putE_snd_bound (us : List (Int × Int)) (e : Int × Int) (h6 : us.length ≤ 6) : 0 ≤ (putE us e).2 ∧ (putE us e).2 ≤ 506 := by
  have hb := findI_bounds us e
  unfold putE
  split
  · unfold portI; simp only; split <;> omega
  · split
    · simp
    · simp only; omega
theorem put_two_len (us : List (Int × Int)) (a b : Int × Int) : (putE (putE us a).1 b).1.length = (putE (putE us b).1 a).1.length := by
  simp only [putE_fst]
  by_cases ha : a ∈ us <;> by_cases hb : b ∈ us <;> by_cases h6 : us.length = 6 <;> by_cases h5 : us.length = 5 <;> by_cases hab : a = b <;> first
    | (subst hab; rfl)
    | (have hba : ¬ b = a := fun h => hab h.symm
       simp [ha, hb, h6, h5, hab, hba])
theorem put_two_has {us : List (Int × Int)} {a b : Int × Int} (hno : ¬ (a ∈ (putE (putE us a).1 b).1 ∧ b ∈ (putE (putE us a).1 b).1)) : 5 ≤ us.length ∧ (us.length = 6 ∨ a ∈ (putE (putE us a).1 b).1) := by
  simp only [putE_fst] at hno ⊢
  by_cases ha : a ∈ us <;> by_cases hb : b ∈ us <;> by_cases h6 : us.length = 6 <;> by_cases h5 : us.length = 5 <;> by_cases hab : a = b <;> first
    | (subst hab; simp [ha, h6, h5] at hno ⊢ <;> omega)
    | (have hba : ¬ b = a := fun h => hab h.symm
       simp [ha, hb, h6, h5, hab, hba] at hno ⊢ <;> omega)

end Go.Proofs.YtoidmmedpefjfaaGreatDoor

/- What goes outside once goes so again: with the table behind it, and with any that has more ends behind these; and so does each beginning. No condition. -/
namespace Go.Proofs.YtoidmmedpefjfaaGreatDoor
open Go.RowKit

theorem putE_six' {T : List (Int × Int)} {e : Int × Int} (h : T.length ≤ 6) : (putE T e).1.length ≤ 6 := by
  rw [putE_fst]
  split
  · exact h
  · rename_i hn
    have : T.length ≠ 6 := fun h6 => hn (.inr h6)
    simp; omega
theorem putE_again {T t : List (Int × Int)} {e : Int × Int} (h : T.length ≤ 6) (h2 : ((putE T e).1 ++ t).length ≤ 6) : putE ((putE T e).1 ++ t) e = ((putE T e).1 ++ t, (putE T e).2) := by
  by_cases hm : e ∈ T
  · rw [putE_has hm]
    rw [putE_has (List.mem_append_left _ hm)]
    rw [portI_app hm]
  · by_cases h6 : T.length = 6
    · rw [putE_full hm h6] at h2 ⊢
      have ht : t = [] := by
        rcases t with _ | ⟨x, r⟩
        · rfl
        · simp at h2; omega
      subst ht
      simp only [List.append_nil]
      rw [putE_full hm h6]
    · have hp : (putE T e).2 ≠ 0 := by rw [putE_new hm h6]; simp only; omega
      have hq := putE_port hp
      rw [putE_new hm h6] at hq ⊢
      have hm2 : e ∈ T ++ [e] := by simp
      rw [putE_has (List.mem_append_left _ hm2), portI_app hm2]
      simp only at hq ⊢
      rw [hq]
theorem lineE_pre (T : List (Int × Int)) (l : List UInt8) : ∃ t, (lineE T l).1 = T ++ t := by
  rcases h : saysE l with _ | e
  · exact ⟨[], by rw [lineE_none h]; simp⟩
  · obtain ⟨t, ht, _⟩ := putE_pre T e
    exact ⟨t, by rw [lineE_some h]; exact ht⟩
theorem lineE_six {T : List (Int × Int)} {l : List UInt8} (h : T.length ≤ 6) : (lineE T l).1.length ≤ 6 := by
  rcases hs : saysE l with _ | e
  · rw [lineE_none hs]; exact h
  · rw [lineE_some hs]; exact putE_six' h
theorem lineE_again {T t : List (Int × Int)} {l : List UInt8} (h : T.length ≤ 6) (h2 : ((lineE T l).1 ++ t).length ≤ 6) : lineE ((lineE T l).1 ++ t) l = ((lineE T l).1 ++ t, (lineE T l).2) := by
  rcases hs : saysE l with _ | e
  · rw [lineE_none hs, lineE_none hs]
  · rw [lineE_some hs] at h2 ⊢
    simp only at h2 ⊢
    rw [lineE_some hs, putE_again h h2]
theorem fold_pre (ls : List (List UInt8)) (T : List (Int × Int)) (p : List UInt8) : ∃ t, (ls.foldl strF (T, p)).1 = T ++ t := by
  induction ls generalizing T p with
  | nil => exact ⟨[], by simp⟩
  | cons l r ih =>
    obtain ⟨t1, h1⟩ := lineE_pre T l
    obtain ⟨t2, h2⟩ := ih (lineE T l).1 (p ++ (lineE T l).2 ++ [59])
    refine ⟨t1 ++ t2, ?_⟩
    rw [List.foldl_cons, show strF (T, p) l = ((lineE T l).1, p ++ (lineE T l).2 ++ [59]) from rfl, h2, h1, List.append_assoc]
theorem fold_again (ls : List (List UInt8)) (T t : List (Int × Int)) (p : List UInt8) (h : T.length ≤ 6) (h2 : ((ls.foldl strF (T, p)).1 ++ t).length ≤ 6) :
    ls.foldl strF ((ls.foldl strF (T, p)).1 ++ t, p) = ((ls.foldl strF (T, p)).1 ++ t, (ls.foldl strF (T, p)).2) := by
  induction ls generalizing T p with
  | nil => rfl
  | cons l r ih =>
    have e1 : strF (T, p) l = ((lineE T l).1, p ++ (lineE T l).2 ++ [59]) := rfl
    simp only [List.foldl_cons, e1] at h2 ⊢
    obtain ⟨t1, ht1⟩ := fold_pre r (lineE T l).1 (p ++ (lineE T l).2 ++ [59])
    have hE : (r.foldl strF ((lineE T l).1, p ++ (lineE T l).2 ++ [59])).1 ++ t = (lineE T l).1 ++ (t1 ++ t) := by rw [ht1, List.append_assoc]
    have hl := lineE_again (t := t1 ++ t) h (by rw [← hE]; exact h2)
    have e2 : strF ((r.foldl strF ((lineE T l).1, p ++ (lineE T l).2 ++ [59])).1 ++ t, p) l = ((r.foldl strF ((lineE T l).1, p ++ (lineE T l).2 ++ [59])).1 ++ t, p ++ (lineE T l).2 ++ [59]) := by
      rw [hE]
      show ((lineE ((lineE T l).1 ++ (t1 ++ t)) l).1, p ++ (lineE ((lineE T l).1 ++ (t1 ++ t)) l).2 ++ [59]) = _
      rw [hl]
    rw [e2]
    exact ih (lineE T l).1 (p ++ (lineE T l).2 ++ [59]) (lineE_six h) h2
theorem shift_two (ls : List (List UInt8)) (es : List (Int × Int)) (p : List UInt8) : ∃ q, (ls.foldl strF (es, p)).2 = p ++ q := by
  induction ls generalizing es p with
  | nil => exact ⟨[], by simp⟩
  | cons l r ih =>
    obtain ⟨q, hq⟩ := ih (lineE es l).1 (p ++ (lineE es l).2 ++ [59])
    refine ⟨(lineE es l).2 ++ [59] ++ q, ?_⟩
    rw [List.foldl_cons, show strF (es, p) l = ((lineE es l).1, p ++ (lineE es l).2 ++ [59]) from rfl, hq]
    simp
/-- The promise, as data. -/
theorem stream_stays {us t : List (Int × Int)} {s : List UInt8} (h : us.length ≤ 6) (h2 : ((streamE us (linesL s)).1 ++ t).length ≤ 6) (k : Nat) :
    ∃ q, streamE ((streamE us (linesL s)).1 ++ t) (linesL (s.take k)) = ((streamE us (linesL s)).1 ++ t, (streamE us (linesL (s.take k))).2) ∧ (streamE us (linesL s)).2 = (streamE us (linesL (s.take k))).2 ++ q := by
  obtain ⟨r, hr⟩ := lines_take s k
  have e : streamE us (linesL s) = r.foldl strF (streamE us (linesL (s.take k))) := by
    unfold streamE
    rw [← hr, List.foldl_append]
  obtain ⟨⟨T1, T2⟩, hT⟩ : ∃ T, T = streamE us (linesL (s.take k)) := ⟨_, rfl⟩
  rw [← hT] at e ⊢
  obtain ⟨t1, ht1⟩ := fold_pre r T1 T2
  obtain ⟨q, hq⟩ := shift_two r T1 T2
  refine ⟨q, ?_, by rw [e]; exact hq⟩
  have hs : (streamE us (linesL s)).1 ++ t = T1 ++ (t1 ++ t) := by rw [e, ht1, List.append_assoc]
  have hT1 : T1 = ((linesL (s.take k)).foldl strF (us, [])).1 := by
    have := congrArg (·.1) hT
    exact this
  have hT2 : T2 = ((linesL (s.take k)).foldl strF (us, [])).2 := by
    have := congrArg (·.2) hT
    exact this
  rw [hs] at h2 ⊢
  rw [hT1] at h2 ⊢
  rw [hT2]
  exact fold_again (linesL (s.take k)) us (t1 ++ t) [] h h2

end Go.Proofs.YtoidmmedpefjfaaGreatDoor
