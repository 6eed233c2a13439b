/- Ports and ends of a table are each other's, as data. No condition. (Several texts, joined: PosP, PosB, SRwrL, IRwrA, LinesP, PortP, StrOut, MapP.) -/
import Derived.Test.YtbhpogddnpaacaaGreatDoorTPplf
import Derived.Test.YtbhpogddnpaacaaGreatDoorTPplb
import Derived.Test.YtbhpogddnpaacaaGreatDoorTPpld
import Derived.Test.YtbhpogddnpaacaaGreatDoorSemi
import Derived.Test.YtbhpogddnpaacaaGreatDoorTPpla
import Derived.Test.YtbhpogddnpaacaaGreatDoorTPple
import Derived.Test.YtbhpogddnpaacaaGreatDoorVals

/- Places inside and outside, as data. No condition. -/
namespace Go.Proofs.YtbhpogddnpaacaaGreatDoor
open Go.RowKit

theorem pIn_no {l : List (List UInt8 × List UInt8)} {a : Int} {k : Nat} (h : ((insL (l.take k) : Nat) : Int) ≤ a) : ∀ i, i < k → pIn l a i = false := fun i hi => by
  have := insL_mono l (show i + 1 ≤ k by omega)
  simp [pIn]; omega
theorem pOut_no {l : List (List UInt8 × List UInt8)} {a : Int} {k : Nat} (h : ((outsL (l.take k) : Nat) : Int) ≤ a) : ∀ i, i < k → pOut l a i = false := fun i hi => by
  have := outsL_mono l (show i + 1 ≤ k by omega)
  simp [pOut]; omega
/-- Where a place inside lies in the k-th line. -/
theorem kIn_in {l : List (List UInt8 × List UInt8)} {a : Int} {k : Nat} (hk : k < l.length) (h0 : ((insL (l.take k) : Nat) : Int) ≤ a) (h1 : a < ((insL (l.take (k + 1)) : Nat) : Int)) : kIn l a = k :=
  kIn_at hk (pIn_no h0) (by simp [pIn]; omega)
theorem kOut_in {l : List (List UInt8 × List UInt8)} {a : Int} {k : Nat} (hk : k < l.length) (h0 : ((outsL (l.take k) : Nat) : Int) ≤ a) (h1 : a < ((outsL (l.take (k + 1)) : Nat) : Int)) : kOut l a = k :=
  kOut_at hk (pOut_no h0) (by simp [pOut]; omega)
theorem kOut_end {l : List (List UInt8 × List UInt8)} {a : Int} (h0 : ((outsL l : Nat) : Int) ≤ a) : kOut l a = l.length :=
  kOut_all (fun i hi => pOut_no (k := l.length) (by rw [List.take_length]; exact h0) i hi)
theorem kIn_end {l : List (List UInt8 × List UInt8)} {a : Int} (h0 : ((insL l : Nat) : Int) ≤ a) : kIn l a = l.length :=
  kIn_all (fun i hi => pIn_no (k := l.length) (by rw [List.take_length]; exact h0) i hi)
/-- Where a line begins, and ends, both sides agree. -/
theorem outI_from {l : List (List UInt8 × List UInt8)} {k : Nat} (hk : k < l.length) : outI l (insL (l.take k)) = outsL (l.take k) := by
  have := insL_succ hk
  unfold outI
  rw [kIn_in hk (Int.le_refl _) (by omega)]
theorem outI_last {l : List (List UInt8 × List UInt8)} {k : Nat} (hk : k < l.length) : outI l ((insL (l.take (k + 1)) : Nat) - 1) = outsL (l.take k) := by
  have := insL_succ hk
  unfold outI
  rw [kIn_in hk (by omega) (by omega)]
theorem backI_from {l : List (List UInt8 × List UInt8)} {k : Nat} (hk : k < l.length) : backI l (outsL (l.take k)) = insL (l.take k) := by
  have := outsL_succ hk
  unfold backI
  rw [kOut_in hk (Int.le_refl _) (by omega), if_neg (by intro h; have := h.2.2; omega)]
theorem backI_to {l : List (List UInt8 × List UInt8)} {k : Nat} (hk : k < l.length) : backI l (outsL (l.take (k + 1))) = insL (l.take (k + 1)) := by
  by_cases h : k + 1 < l.length
  · exact backI_from h
  · have he : k + 1 = l.length := by omega
    rw [he, List.take_length]
    unfold backI
    rw [kOut_end (Int.le_refl _), if_neg (by intro h; have := h.1; omega), List.take_length]

end Go.Proofs.YtbhpogddnpaacaaGreatDoor

/- Places that come back, as data: they rise with what is there, stay among the lines, and go out no farther. No condition. -/
namespace Go.Proofs.YtbhpogddnpaacaaGreatDoor
open Go.RowKit

theorem kOut_ex (l : List (List UInt8 × List UInt8)) (a : Int) : ∀ n, n ≤ l.length → ∃ k, k ≤ n ∧ (∀ i, i < k → pOut l a i = false) ∧ (k < n → pOut l a k = true)
  | 0, _ => ⟨0, Nat.le_refl _, fun i h => absurd h (Nat.not_lt_zero _), fun h => absurd h (Nat.lt_irrefl _)⟩
  | n + 1, h => by
    obtain ⟨k, h1, h2, h3⟩ := kOut_ex l a n (by omega)
    by_cases hk : k < n
    · exact ⟨k, by omega, h2, fun _ => h3 hk⟩
    · have hkn : k = n := by omega
      subst hkn
      by_cases hp : pOut l a k = true
      · exact ⟨k, by omega, h2, fun _ => hp⟩
      · refine ⟨k + 1, Nat.le_refl _, fun i hi => ?_, fun h => absurd h (Nat.lt_irrefl _)⟩
        by_cases hi2 : i < k
        · exact h2 i hi2
        · have : i = k := by omega
          subst this
          simpa using hp
/-- The line in which a place outside lies. -/
theorem kOut_spec (l : List (List UInt8 × List UInt8)) {a : Int} (ha : 0 ≤ a) : ((outsL (l.take (kOut l a)) : Nat) : Int) ≤ a ∧ (kOut l a < l.length → a < ((outsL (l.take (kOut l a + 1)) : Nat) : Int)) := by
  obtain ⟨k, h1, h2, h3⟩ := kOut_ex l a l.length (Nat.le_refl _)
  have e : kOut l a = k := by
    by_cases hk : k < l.length
    · exact kOut_at hk h2 (h3 hk)
    · have hkl : k = l.length := by omega
      rw [hkl]
      exact kOut_all (fun i hi => h2 i (by omega))
  rw [e]
  constructor
  · rcases k with _ | k
    · simpa [outsL] using ha
    · have := h2 k (by omega)
      simp [pOut] at this
      omega
  · intro hk
    have := h3 hk
    simp [pOut] at this
    omega
theorem kOut_up {l : List (List UInt8 × List UInt8)} {a b : Int} (h : a ≤ b) : kOut l a ≤ kOut l b := by
  unfold kOut
  refine List.countP_mono_left fun i _ hi => ?_
  simp [pOut] at hi ⊢
  omega
/-- Where a place comes back to: in its line. -/
theorem backI_line (l : List (List UInt8 × List UInt8)) {a : Int} (ha : 0 ≤ a) : ((insL (l.take (kOut l a)) : Nat) : Int) ≤ backI l a ∧ (kOut l a < l.length → backI l a < ((insL (l.take (kOut l a + 1)) : Nat) : Int)) ∧ (¬ kOut l a < l.length → backI l a = ((insL l : Nat) : Int)) := by
  obtain ⟨h1, h2⟩ := kOut_spec l ha
  have hle := kOut_le l a
  refine ⟨?_, fun hk => ?_, fun hk => ?_⟩
  · unfold backI
    split
    · rename_i h; have := h.2.2; omega
    · omega
  · have hi := insL_succ hk
    have ho := outsL_succ hk
    have h3 := h2 hk
    unfold backI
    split
    · rename_i h
      have hs := h.2.1
      simp only [spAt, decide_eq_true_eq, List.getElem?_eq_getElem hk, Option.getD_some] at hs
      rw [hs] at ho
      omega
    · omega
  · have hk2 : kOut l a = l.length := by omega
    unfold backI
    rw [if_neg (fun h => hk h.1), hk2, List.take_length]
theorem backI_range (l : List (List UInt8 × List UInt8)) {a : Int} (ha : 0 ≤ a) : 0 ≤ backI l a ∧ backI l a ≤ ((insL l : Nat) : Int) := by
  obtain ⟨h1, h2, h3⟩ := backI_line l ha
  refine ⟨by omega, ?_⟩
  by_cases hk : kOut l a < l.length
  · have := h2 hk
    have := insL_le l (kOut l a + 1)
    omega
  · rw [h3 hk]; exact Int.le_refl _
theorem backI_neg (l : List (List UInt8 × List UInt8)) {a : Int} (ha : a < 0) : backI l a = 0 := by
  have hk : kOut l a = 0 := by
    rcases l with _ | ⟨p, l⟩
    · rfl
    · exact kOut_at (by simp) (fun i h => absurd h (Nat.not_lt_zero _)) (by simp [pOut]; omega)
  unfold backI
  rw [hk, if_neg (by rintro ⟨_, _, h⟩; simp [outsL] at h; omega)]
  simp [insL]
theorem backI_up {l : List (List UInt8 × List UInt8)} {a b : Int} (ha : 0 ≤ a) (h : a ≤ b) : backI l a ≤ backI l b := by
  obtain ⟨a1, a2, a3⟩ := backI_line l ha
  obtain ⟨b1, b2, b3⟩ := backI_line l (show 0 ≤ b by omega)
  have hk := kOut_up (l := l) h
  by_cases he : kOut l a = kOut l b
  · unfold backI
    rw [he]
    split
    · rename_i hc
      rw [if_pos ⟨hc.1, hc.2.1, by omega⟩]
      omega
    · split
      · rename_i hc; have := hc.2.2; omega
      · omega
  · have hlt : kOut l a < kOut l b := by omega
    have := a2 (Nat.lt_of_lt_of_le hlt (kOut_le l b))
    have := insL_mono l (show kOut l a + 1 ≤ kOut l b by omega)
    omega
/-- What comes back to a place lay ahead of it. -/
theorem back_out {l : List (List UInt8 × List UInt8)} {a : Int} (ha : 0 ≤ a) (hl : a < ((outsL l : Nat) : Int)) : outI l (backI l a) ≤ a := by
  obtain ⟨h1, h2, h3⟩ := backI_line l ha
  obtain ⟨g1, g2⟩ := kOut_spec l ha
  have hk : kOut l a < l.length := by
    by_cases hk : kOut l a < l.length
    · exact hk
    · have : kOut l a = l.length := by have := kOut_le l a; omega
      rw [this, List.take_length] at g1
      omega
  unfold outI
  rw [kIn_in hk h1 (h2 hk)]
  exact g1
theorem backI_all (l : List (List UInt8 × List UInt8)) : backI l ((outsL l : Nat) : Int) = ((insL l : Nat) : Int) := by
  unfold backI
  rw [kOut_end (Int.le_refl _), if_neg (fun h => absurd h.1 (Nat.lt_irrefl _)), List.take_length]

end Go.Proofs.YtbhpogddnpaacaaGreatDoor

/- RwrLine of the specification. Conditions: at most 2^22 ends; the text has at most 2^21 bytes. -/
namespace Go.Proofs.YtbhpogddnpaacaaGreatDoor
open Go.RowKit Go.Sort

end Go.Proofs.YtbhpogddnpaacaaGreatDoor

/- RwrLine of the program and of the specification, in one form. Conditions: at most 2^22 ends; all numbers are ints; the text has at most 2^21 bytes; the variables that are read hold what they are laid with. -/
namespace Go.Proofs.YtbhpogddnpaacaaGreatDoor
open Go.RowKit

theorem putE_le' {es : List (Int × Int)} {e : Int × Int} (h : es.length ≤ 6) : (putE es e).1.length ≤ 6 := by
  unfold putE
  split
  · exact h
  · split
    · exact h
    · simp; omega
theorem rwrA_yes {es : List (Int × Int)} {l : List UInt8} (h : (mapB es && linB l) = true) : rwrA es l = lineE es l := if_pos (by simpa using h)
theorem rwrA_not {es : List (Int × Int)} {l : List UInt8} (h : (mapB es && linB l) = false) : rwrA es l = ([], []) := if_neg (by simpa using h)
theorem rwrA_le (es : List (Int × Int)) (l : List UInt8) : (rwrA es l).1.length ≤ 6 := by
  by_cases h : (mapB es && linB l) = true
  · rw [rwrA_yes h]
    exact mapB_le (lineE_ok (by simp at h; exact h.1))
  · rw [rwrA_not (by simpa using h)]
    simp

end Go.Proofs.YtbhpogddnpaacaaGreatDoor

/- Plain facts on lines and streams: beginnings, two texts one behind the other, what no line has. No program. No condition. -/
namespace Go.Proofs.YtbhpogddnpaacaaGreatDoor

theorem stl_noSemi (l : List UInt8) (x : List (List UInt8) × List UInt8) (h1 : ∀ y ∈ x.1, ∀ c ∈ y, c ≠ 59) (h2 : ∀ c ∈ x.2, c ≠ 59) :
    (∀ y ∈ (l.foldl stl x).1, ∀ c ∈ y, c ≠ 59) ∧ ∀ c ∈ (l.foldl stl x).2, c ≠ 59 := by
  induction l generalizing x with
  | nil => exact ⟨h1, h2⟩
  | cons c r ih =>
    rw [List.foldl_cons]
    by_cases hc : c = 59
    · have e : stl x c = (x.1 ++ [x.2], []) := by unfold stl; rw [if_pos hc]
      rw [e]
      exact ih _ (fun y hy => (List.mem_append.1 hy).elim (h1 y) (fun e => by simp at e; subst e; exact h2)) (by simp)
    · have e : stl x c = (x.1, x.2 ++ [c]) := by unfold stl; rw [if_neg hc]
      rw [e]
      exact ih _ h1 (fun d hd => (List.mem_append.1 hd).elim (h2 d) (fun e => by simp at e; subst e; exact hc))
/-- No line, and no rest, has the sign that ends a line. -/
theorem line_noSemi {l x : List UInt8} (h : x ∈ linesL l) : ∀ c ∈ x, c ≠ 59 := (stl_noSemi l ([], []) (by simp) (by simp)).1 x h
theorem rest_noSemi (l : List UInt8) : ∀ c ∈ restL l, c ≠ 59 := (stl_noSemi l ([], []) (by simp) (by simp)).2

theorem stl_prefix (l : List UInt8) (x : List (List UInt8) × List UInt8) : x.1 <+: (l.foldl stl x).1 := by
  induction l generalizing x with
  | nil => exact List.prefix_refl _
  | cons c r ih =>
    rw [List.foldl_cons]
    refine List.IsPrefix.trans ?_ (ih _)
    by_cases hc : c = 59
    · have e : stl x c = (x.1 ++ [x.2], []) := by unfold stl; rw [if_pos hc]
      rw [e]; exact List.prefix_append _ _
    · have e : stl x c = (x.1, x.2 ++ [c]) := by unfold stl; rw [if_neg hc]
      rw [e]; exact List.prefix_refl _
/-- What is behind the last sign begins the next line, or the rest. -/
theorem stl_rest (l : List UInt8) (x : List (List UInt8) × List UInt8) : ∃ z ∈ (l.foldl stl x).1 ++ [(l.foldl stl x).2], x.2 <+: z := by
  induction l generalizing x with
  | nil => exact ⟨x.2, by simp, List.prefix_refl _⟩
  | cons c r ih =>
    rw [List.foldl_cons]
    by_cases hc : c = 59
    · have e : stl x c = (x.1 ++ [x.2], []) := by unfold stl; rw [if_pos hc]
      rw [e]
      exact ⟨x.2, List.mem_append_left _ ((stl_prefix r (x.1 ++ [x.2], [])).subset (by simp)), List.prefix_refl _⟩
    · have e : stl x c = (x.1, x.2 ++ [c]) := by unfold stl; rw [if_neg hc]
      rw [e]
      obtain ⟨z, hz, hp⟩ := ih (x.1, x.2 ++ [c])
      exact ⟨z, hz, (List.prefix_append _ _).trans hp⟩
theorem linesF_app (a b : List UInt8) : linesF (a ++ b) = b.foldl stl (linesF a) := by unfold linesF; rw [List.foldl_append]
theorem lines_prefix (a b : List UInt8) : linesL a <+: linesL (a ++ b) := by
  show _ <+: (linesF (a ++ b)).1; rw [linesF_app]; exact stl_prefix b _
theorem lines_take (l : List UInt8) (k : Nat) : linesL (l.take k) <+: linesL l := by
  have := lines_prefix (l.take k) (l.drop k); rwa [List.take_append_drop] at this
/-- Two texts, the first of which ends with a sign, or is empty. -/
theorem lines_join {a : List UInt8} (b : List UInt8) (h : restL a = []) : linesL (a ++ b) = linesL a ++ linesL b ∧ restL (a ++ b) = restL b := by
  have e : linesF (a ++ b) = (linesL a ++ (linesF b).1, (linesF b).2) := by
    rw [linesF_app]
    have e1 : linesF a = (linesL a ++ [], []) := by rw [List.append_nil]; exact Prod.ext rfl h
    rw [e1, stl_shift]; rfl
  constructor
  · show (linesF _).1 = _; rw [e]; rfl
  · show (linesF _).2 = _; rw [e]; rfl
theorem lin_prefix {a b : List UInt8} (h : linB b = true) (hp : a <+: b) : linB a = true := by
  unfold linB at h ⊢
  rw [Bool.and_eq_true] at h ⊢
  obtain ⟨h1, h2⟩ := h
  have hl := hp.length_le
  simp only [decide_eq_true_eq] at h1 ⊢
  exact ⟨by omega, List.all_eq_true.2 fun c hc => List.all_eq_true.1 h2 c (hp.subset hc)⟩
theorem lin_take {l : List UInt8} (h : linB l = true) (k : Nat) : linB (l.take k) = true := lin_prefix h (List.take_prefix _ _)
theorem lin_noSemi {l : List UInt8} (h : linB l = true) : ∀ c ∈ l, c ≠ 59 := by
  intro c hc e
  unfold linB at h
  rw [Bool.and_eq_true] at h
  have := List.all_eq_true.1 h.2 c hc
  rw [e] at this; revert this; decide
theorem lin_semi (l : List UInt8) : linB (l ++ [59]) = false := by
  rcases h : linB (l ++ [59]) with _ | _
  · rfl
  · exact absurd rfl (lin_noSemi h 59 (by simp))
theorem lin_len {l : List UInt8} (h : linB l = true) : l.length ≤ 16 := by
  unfold linB at h; rw [Bool.and_eq_true] at h; simpa using h.1
theorem str_parts {l : List UInt8} (h : strB l = true) : l.length ≤ 120 ∧ (∀ x ∈ linesL l, linB x = true) ∧ linB (restL l) = true := by
  unfold strB at h
  rw [Bool.and_eq_true, Bool.and_eq_true] at h
  exact ⟨by simpa using h.1.1, List.all_eq_true.1 h.1.2, h.2⟩
theorem str_mk {l : List UInt8} (h1 : l.length ≤ 120) (h2 : ∀ x ∈ linesL l, linB x = true) (h3 : linB (restL l) = true) : strB l = true := by
  unfold strB; rw [decide_eq_true h1, List.all_eq_true.2 h2, h3]; rfl
/-- A beginning of a stream is a stream. -/
theorem str_prefix {a b : List UInt8} (h : strB (a ++ b) = true) : strB a = true := by
  obtain ⟨h1, h2, h3⟩ := str_parts h
  rw [List.length_append] at h1
  refine str_mk (by omega) (fun x hx => h2 x ((lines_prefix a b).subset hx)) ?_
  obtain ⟨z, hz, hp⟩ := stl_rest b (linesF a)
  rw [← linesF_app] at hz
  refine lin_prefix (b := z) ?_ hp
  rcases List.mem_append.1 hz with hz | hz
  · exact h2 z hz
  · simp at hz; subst hz; exact h3
theorem str_take {l : List UInt8} (h : strB l = true) (k : Nat) : strB (l.take k) = true := by
  have : strB (l.take k ++ l.drop k) = true := by rw [List.take_append_drop]; exact h
  exact str_prefix this

end Go.Proofs.YtbhpogddnpaacaaGreatDoor

/- Plain facts on the texts of ends and the lines that name them: what is read is what is written. No condition. -/
namespace Go.Proofs.YtbhpogddnpaacaaGreatDoor
open Go.RowKit

/-- What is read as an end is its text. -/
theorem rdE_text {l : List UInt8} {a p : Int} (h : rdE l = some (a, p)) : l = endL a.toNat p.toNat ∧ endB a p = true := by
  unfold rdE at h
  split at h
  · rename_i x y hw
    split at h
    · rename_i hb
      simp at h
      obtain ⟨rfl, rfl⟩ := h
      obtain ⟨h1, h2, h3, h4⟩ := end_bounds hb
      have ex := numL_inv (show 0 ≤ numL x by omega)
      have ey := numL_inv (show 0 ≤ numL y by omega)
      refine ⟨?_, hb⟩
      rw [words_two hw, endL, ← ex, ← ey]
    · cases h
  · cases h
/-- The text of an end is read as it. -/
theorem rdE_endL {a p : Int} (h : endB a p = true) : rdE (endL a.toNat p.toNat) = some (a, p) := by
  obtain ⟨h1, h2, h3, h4⟩ := end_bounds h
  unfold rdE endL
  rw [words_of_two (dec_no_space a.toNat) (dec_no_space p.toNat)]
  simp only [numL_dec (show a.toNat ≤ 9999 by omega), numL_dec (show p.toNat ≤ 9999 by omega)]
  rw [Int.toNat_of_nonneg (by omega), Int.toNat_of_nonneg (by omega), if_pos h]
theorem rdE_inj {l m : List UInt8} {a p : Int} (h1 : rdE l = some (a, p)) (h2 : rdE m = some (a, p)) : l = m := (rdE_text h1).1.trans (rdE_text h2).1.symm

theorem lpL_yes {a p : Int} (h : endB a p = true) : lpL a p = portL ++ endL a.toNat p.toNat := if_pos h
theorem lpL_no {a p : Int} (h : endB a p = false) : lpL a p = [] := if_neg (by simp [h])
theorem lpL_take {a p : Int} (h : endB a p = true) : (lpL a p).take 5 = portL ∧ (lpL a p).drop 5 = endL a.toNat p.toNat := by
  rw [lpL_yes h]; exact ⟨rfl, rfl⟩
/-- What a line that names an end says. -/
theorem says_lpL {a p : Int} (h : endB a p = true) : saysE (lpL a p) = (if insB a p = true then some (a, p) else none) := by
  obtain ⟨e1, e2⟩ := lpL_take h
  unfold saysE; rw [if_pos e1, e2, rdE_endL h]
theorem box_lpL {a p : Int} (h : endB a p = true) : boxE (lpL a p) = (if a = 50 then some p else none) := by
  obtain ⟨e1, e2⟩ := lpL_take h
  unfold boxE; rw [if_pos e1, e2, rdE_endL h]
theorem says_line {l : List UInt8} {a p : Int} (h : saysE l = some (a, p)) : insB a p = true ∧ endB a p = true ∧ l = lpL a p := by
  unfold saysE at h
  split at h
  · rename_i ht
    split at h
    · rename_i a' p' hr
      split at h
      · rename_i hi
        simp at h
        obtain ⟨rfl, rfl⟩ := h
        obtain ⟨e1, e2⟩ := rdE_text hr
        refine ⟨hi, e2, ?_⟩
        rw [lpL_yes e2, ← e1, ← ht, List.take_append_drop]
      · cases h
    · cases h
  · cases h
theorem box_line {l : List UInt8} {p : Int} (h : boxE l = some p) : endB 50 p = true ∧ l = lpL 50 p := by
  unfold boxE at h
  split at h
  · rename_i ht
    split at h
    · rename_i a' p' hr
      split at h
      · rename_i hi
        simp at h
        subst hi h
        obtain ⟨e1, e2⟩ := rdE_text hr
        refine ⟨e2, ?_⟩
        rw [lpL_yes e2, ← e1, ← ht, List.take_append_drop]
      · cases h
    · cases h
  · cases h
/-- A line of the box's names no end inside. -/
theorem box_no_says {l : List UInt8} {p : Int} (h : boxE l = some p) : saysE l = none := by
  obtain ⟨e1, rfl⟩ := box_line h
  rw [says_lpL e1]; rw [if_neg (by simp [insB, inB])]
theorem dec_byte {k : Nat} : ∀ c ∈ Lib.decDigits k, byteB c = true := by
  intro c hc
  have := dec_digs k c hc
  unfold isDig at this
  simp [byteB, this]
/-- A line that names an end is a line. -/
theorem lpL_lin {a p : Int} (h : endB a p = true) : linB (lpL a p) = true := by
  obtain ⟨h1, h2, h3, h4⟩ := end_bounds h
  have l1 := dec_len4 (k := a.toNat) (by omega)
  have l2 := dec_len4 (k := p.toNat) (by omega)
  rw [lpL_yes h]
  unfold linB
  rw [decide_eq_true (by simp [portL, endL]; omega), Bool.true_and, List.all_eq_true]
  intro c hc
  rcases List.mem_append.1 hc with hc | hc
  · have hp : ∀ c ∈ portL, byteB c = true := by decide
    exact hp c hc
  · unfold endL at hc
    rcases List.mem_append.1 hc with hc | hc
    · exact dec_byte c hc
    · rcases List.mem_cons.1 hc with rfl | hc
      · decide
      · exact dec_byte c hc

end Go.Proofs.YtbhpogddnpaacaaGreatDoor

/- Lines that have gone outside: none has a sign, none names an end inside, and they go outside as they are. No condition. -/
namespace Go.Proofs.YtbhpogddnpaacaaGreatDoor
open Go.RowKit

theorem says_nil : saysE [] = none := rfl
theorem says_noneL : saysE noneL = none := rfl
theorem ins_box (p : Int) : insB 50 p = false := by
  unfold insB inB
  simp
theorem lineE_says (es : List (Int × Int)) (l : List UInt8) : saysE (lineE es l).2 = none := by
  rcases h : saysE l with _ | e
  · rw [lineE_none h]; exact h
  · rw [lineE_some h]
    simp only
    split
    · exact says_noneL
    · rcases hb : endB 50 (putE es e).2 with _ | _
      · rw [lpL_no hb]; exact says_nil
      · rw [says_lpL hb, if_neg (by rw [ins_box]; decide)]
theorem lpL_semi (a p : Int) : ∀ c ∈ lpL a p, c ≠ 59 := by
  rcases hb : endB a p with _ | _
  · rw [lpL_no hb]; intro c hc; cases hc
  · exact lin_noSemi (lpL_lin hb)
theorem lineE_semi {es : List (Int × Int)} {l : List UInt8} (hl : ∀ c ∈ l, c ≠ 59) : ∀ c ∈ (lineE es l).2, c ≠ 59 := by
  rcases h : saysE l with _ | e
  · rw [lineE_none h]; exact hl
  · rw [lineE_some h]
    simp only
    split
    · intro c hc e; subst e; revert hc; decide
    · exact lpL_semi _ _
/-- What goes outside is lines. -/
theorem streamE_outs (ls : List (List UInt8)) (h : ∀ l ∈ ls, ∀ c ∈ l, c ≠ 59) (T : List (Int × Int) × List UInt8) :
    ∃ outs : List (List UInt8), outs.length = ls.length ∧ (ls.foldl strF T).2 = T.2 ++ (outs.map (· ++ [59])).flatten ∧ ∀ o ∈ outs, (∀ c ∈ o, c ≠ 59) ∧ saysE o = none := by
  induction ls generalizing T with
  | nil => exact ⟨[], rfl, by simp, fun o ho => by cases ho⟩
  | cons l r ih =>
    obtain ⟨outs, h1, h2, h3⟩ := ih (fun x hx => h x (List.mem_cons_of_mem _ hx)) (strF T l)
    refine ⟨(lineE T.1 l).2 :: outs, by simp [h1], ?_, fun o ho => ?_⟩
    · rw [List.foldl_cons, h2]
      simp [strF]
    · rcases List.mem_cons.1 ho with rfl | ho
      · exact ⟨lineE_semi (h l (List.mem_cons_self ..)), lineE_says _ _⟩
      · exact h3 o ho
theorem lines_flat (outs : List (List UInt8)) (h : ∀ o ∈ outs, ∀ c ∈ o, c ≠ 59) : linesL ((outs.map (· ++ [59])).flatten) = outs ∧ restL ((outs.map (· ++ [59])).flatten) = [] := by
  induction outs with
  | nil => exact ⟨rfl, rfl⟩
  | cons o r ih =>
    obtain ⟨h1, h2⟩ := ih (fun x hx => h x (List.mem_cons_of_mem _ hx))
    have := linesF_cons (p := o) (r := (r.map (· ++ [59])).flatten) (h o (List.mem_cons_self ..))
    rw [show ((o :: r).map (· ++ [59])).flatten = o ++ 59 :: (r.map (· ++ [59])).flatten by simp]
    exact ⟨by rw [this.1, h1], by rw [this.2, h2]⟩
theorem streamE_stays (outs : List (List UInt8)) (h : ∀ o ∈ outs, saysE o = none) (es : List (Int × Int)) (p : List UInt8) : outs.foldl strF (es, p) = (es, p ++ (outs.map (· ++ [59])).flatten) := by
  induction outs generalizing p with
  | nil => simp
  | cons o r ih =>
    rw [List.foldl_cons, show strF (es, p) o = ((lineE es o).1, p ++ (lineE es o).2 ++ [59]) from rfl, lineE_none (h o (List.mem_cons_self ..)), ih (fun x hx => h x (List.mem_cons_of_mem _ hx))]
    simp
/-- What went outside goes so again as it is, and has as many lines. -/
theorem stream_again (es xs : List (Int × Int)) (s : List UInt8) : (linesL (streamE es (linesL s)).2).length = (linesL s).length ∧ restL (streamE es (linesL s)).2 = [] ∧ streamE xs (linesL (streamE es (linesL s)).2) = (xs, (streamE es (linesL s)).2) := by
  obtain ⟨outs, h1, h2, h3⟩ := streamE_outs (linesL s) (fun l hl => line_noSemi hl) (es, [])
  have e : (streamE es (linesL s)).2 = (outs.map (· ++ [59])).flatten := by
    unfold streamE
    rw [h2]; rfl
  obtain ⟨f1, f2⟩ := lines_flat outs (fun o ho => (h3 o ho).1)
  rw [e, f1]
  refine ⟨h1, f2, ?_⟩
  unfold streamE
  rw [streamE_stays outs (fun o ho => (h3 o ho).2)]
  rfl

end Go.Proofs.YtbhpogddnpaacaaGreatDoor

/- Ports and ends of a table are each other's, as data. No condition. -/
namespace Go.Proofs.YtbhpogddnpaacaaGreatDoor
open Go.RowKit

theorem mapB_take {es : List (Int × Int)} (hm : mapB es = true) {k : Nat} (hk : k < es.length) : es[k] ∉ es.take k := by
  unfold mapB at hm
  simp only [Bool.and_eq_true, decide_eq_true_eq, List.all_eq_true, List.mem_range] at hm
  have := hm.2 k hk
  unfold mapP at this
  simp only [Bool.and_eq_true, decide_eq_true_eq] at this
  rw [List.getD_eq_getElem?_getD, List.getElem?_eq_getElem hk] at this
  exact findI_neg.1 this.2
theorem findI_at {es : List (Int × Int)} (hm : mapB es = true) {k : Nat} (hk : k < es.length) : findI es es[k] = k := by
  obtain ⟨j, hj, he, hn, hf⟩ := findI_mem (List.getElem_mem hk)
  rw [hf]
  rcases Nat.lt_trichotomy j k with h | h | h
  · exfalso
    refine mapB_take hm hk ?_
    rw [← he]
    exact List.mem_take_iff_getElem.2 ⟨j, by omega, rfl⟩
  · rw [h]
  · exfalso
    exact hn (List.mem_take_iff_getElem.2 ⟨k, by omega, rfl⟩)
/-- An end that a port names has that port. -/
theorem port_of_end {es : List (Int × Int)} {q : Int} {e : Int × Int} (hm : mapB es = true) (h : endI es q = some e) : portI es e = q := by
  unfold endI at h
  split at h
  · rename_i hq
    obtain ⟨hk, he⟩ := List.getElem?_eq_some_iff.1 h
    have hf := findI_at hm hk
    rw [he] at hf
    unfold portI
    rw [hf, if_neg (by omega)]
    omega
  · cases h
/-- A port that an end has names that end. -/
theorem end_of_port {es : List (Int × Int)} {e : Int × Int} (h : portI es e ≠ 0) : endI es (portI es e) = some e := by
  unfold portI at h ⊢
  split
  · rename_i hf
    rw [if_pos hf] at h
    exact absurd rfl h
  · rename_i hf
    have hmem : e ∈ es := by
      refine Classical.byContradiction fun hn => ?_
      exact hf (findI_neg.2 hn)
    obtain ⟨k, hk, he, _, hfk⟩ := findI_mem hmem
    rw [hfk]
    unfold endI
    rw [if_pos (by omega), show (500 + (k : Int) - 500).toNat = k by omega, List.getElem?_eq_getElem hk, he]

end Go.Proofs.YtbhpogddnpaacaaGreatDoor
