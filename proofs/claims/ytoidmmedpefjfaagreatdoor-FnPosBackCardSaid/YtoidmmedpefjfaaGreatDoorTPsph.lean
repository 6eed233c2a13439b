/- What a line is as it goes outside, as data: its port, its length, and that it is a line. No condition. (Several texts, joined: IRwrA, LinesP, PortP, StrOut, MapP, PutP, Stays, RwrP.) -/
import Derived.Test.YtoidmmedpefjfaaGreatDoorTPspe
import Derived.Test.YtoidmmedpefjfaaGreatDoorTPspg
import Derived.Test.YtoidmmedpefjfaaGreatDoorSemi
import Derived.Test.YtoidmmedpefjfaaGreatDoorTPspb
import Derived.Test.YtoidmmedpefjfaaGreatDoorTPspf
import Derived.Test.YtoidmmedpefjfaaGreatDoorTPspa

/- RwrLine of the program and of the specification, in one form. Conditions: at most 2^22 ends; all numbers are ints; the text has at most 2^21 bytes; the variables that are read hold what they are laid with. -/
namespace Go.Proofs.YtoidmmedpefjfaaGreatDoor
open Go.RowKit

theorem putE_le' {es : List (Int × Int)} {e : Int × Int} (h : es.length ≤ 6) : (putE es e).1.length ≤ 6 := by
  unfold putE
  split
  · exact h
  · split
    · exact h
    · simp; omega
theorem rwrA_yes {es : List (Int × Int)} {l : List UInt8} (h : (mapB es && linB l) = true) : rwrA es l = lineE es l := if_pos (by simpa using h)
theorem rwrA_not {es : List (Int × Int)} {l : List UInt8} (h : (mapB es && linB l) = false) : rwrA es l = ([], []) := if_neg (by simpa using h)
theorem rwrA_le (es : List (Int × Int)) (l : List UInt8) : (rwrA es l).1.length ≤ 6 := by
  by_cases h : (mapB es && linB l) = true
  · rw [rwrA_yes h]
    exact mapB_le (lineE_ok (by simp at h; exact h.1))
  · rw [rwrA_not (by simpa using h)]
    simp

theorem specRwrA (v : Value) (es : List (Int × Int)) (s : ByteArray) (w : World) (hn : es.length ≤ 4194304) (hs : s.size ≤ 2097152) (ht : TabAt w v es) :
    Calls Tryz.prog 15 #[.agg #[v], .string s] w fun e w' => ∃ g c, e = .returned (.tuple #[.agg #[.slice g (rwrA es s.data.toList).1.length c], .string ⟨(rwrA es s.data.toList).2.toArray⟩]) ∧ FreshTab w' w.heap.size (.slice g (rwrA es s.data.toList).1.length c) (rwrA es s.data.toList).1 ∧ Below w.heap.size w w' := by
  by_cases h : (mapB es && linB s.data.toList) = true
  · rw [rwrA_yes h]
    simp only [Bool.and_eq_true] at h
    refine (specRwrLine_ok v es s w hn hs ht h.1 h.2).mono ?_
    rintro e w' ⟨g, c, rfl, h1, h2⟩
    exact ⟨_, _, rfl, h1.fresh, h2⟩
  · have h' : (mapB es && linB s.data.toList) = false := by simpa using h
    rw [rwrA_not h']
    refine (specRwrLine_not v es s w hn hs ht h').mono ?_
    rintro e w' ⟨rfl, h2⟩
    exact ⟨_, _, rfl, FreshTab.nil _ _, h2⟩

theorem implRwrA (v : Value) (es : List (Int × Int)) (s : ByteArray) (w : World) (hn : es.length ≤ 4194304) (hs : s.size ≤ 2097152) (hwf : wfE es) (ht : TabAt w v es) (hv : VarsOk w) :
    Calls Tryz.prog 14 #[.agg #[v], .string s] w fun e w' => ∃ g c, e = .returned (.tuple #[.agg #[.slice g (rwrA es s.data.toList).1.length c], .string ⟨(rwrA es s.data.toList).2.toArray⟩]) ∧ FreshTab w' w.heap.size (.slice g (rwrA es s.data.toList).1.length c) (rwrA es s.data.toList).1 ∧ Below w.heap.size w w' := by
  by_cases h : (mapB es && linB s.data.toList) = true
  · rw [rwrA_yes h]
    simp only [Bool.and_eq_true] at h
    refine (implRwrLine_ok v es s w hn hs ht h.1 h.2 hv).mono ?_
    rintro e w' ⟨g, c, rfl, h1, h2⟩
    exact ⟨_, _, rfl, h1.fresh, h2⟩
  · have h' : (mapB es && linB s.data.toList) = false := by simpa using h
    rw [rwrA_not h']
    refine (implRwrLine_not v es s w hn hs hwf ht h').mono ?_
    rintro e w' ⟨rfl, h2⟩
    exact ⟨_, _, rfl, FreshTab.nil _ _, h2⟩

end Go.Proofs.YtoidmmedpefjfaaGreatDoor

/- Plain facts on lines and streams: beginnings, two texts one behind the other, what no line has. No program. No condition. -/
namespace Go.Proofs.YtoidmmedpefjfaaGreatDoor

theorem stl_noSemi (l : List UInt8) (x : List (List UInt8) × List UInt8) (h1 : ∀ y ∈ x.1, ∀ c ∈ y, c ≠ 59) (h2 : ∀ c ∈ x.2, c ≠ 59) :
    (∀ y ∈ (l.foldl stl x).1, ∀ c ∈ y, c ≠ 59) ∧ ∀ c ∈ (l.foldl stl x).2, c ≠ 59 := by
  induction l generalizing x with
  | nil => exact ⟨h1, h2⟩
  | cons c r ih =>
    rw [List.foldl_cons]
    by_cases hc : c = 59
    · have e : stl x c = (x.1 ++ [x.2], []) := by unfold stl; rw [if_pos hc]
      rw [e]
      exact ih _ (fun y hy => (List.mem_append.1 hy).elim (h1 y) (fun e => by simp at e; subst e; exact h2)) (by simp)
    · have e : stl x c = (x.1, x.2 ++ [c]) := by unfold stl; rw [if_neg hc]
      rw [e]
      exact ih _ h1 (fun d hd => (List.mem_append.1 hd).elim (h2 d) (fun e => by simp at e; subst e; exact hc))
/-- No line, and no rest, has the sign that ends a line. -/
theorem line_noSemi {l x : List UInt8} (h : x ∈ linesL l) : ∀ c ∈ x, c ≠ 59 := (stl_noSemi l ([], []) (by simp) (by simp)).1 x h
theorem rest_noSemi (l : List UInt8) : ∀ c ∈ restL l, c ≠ 59 := (stl_noSemi l ([], []) (by simp) (by simp)).2

theorem stl_prefix (l : List UInt8) (x : List (List UInt8) × List UInt8) : x.1 <+: (l.foldl stl x).1 := by
  induction l generalizing x with
  | nil => exact List.prefix_refl _
  | cons c r ih =>
    rw [List.foldl_cons]
    refine List.IsPrefix.trans ?_ (ih _)
    by_cases hc : c = 59
    · have e : stl x c = (x.1 ++ [x.2], []) := by unfold stl; rw [if_pos hc]
      rw [e]; exact List.prefix_append _ _
    · have e : stl x c = (x.1, x.2 ++ [c]) := by unfold stl; rw [if_neg hc]
      rw [e]; exact List.prefix_refl _
/-- What is behind the last sign begins the next line, or the rest. -/
theorem stl_rest (l : List UInt8) (x : List (List UInt8) × List UInt8) : ∃ z ∈ (l.foldl stl x).1 ++ [(l.foldl stl x).2], x.2 <+: z := by
  induction l generalizing x with
  | nil => exact ⟨x.2, by simp, List.prefix_refl _⟩
  | cons c r ih =>
    rw [List.foldl_cons]
    by_cases hc : c = 59
    · have e : stl x c = (x.1 ++ [x.2], []) := by unfold stl; rw [if_pos hc]
      rw [e]
      exact ⟨x.2, List.mem_append_left _ ((stl_prefix r (x.1 ++ [x.2], [])).subset (by simp)), List.prefix_refl _⟩
    · have e : stl x c = (x.1, x.2 ++ [c]) := by unfold stl; rw [if_neg hc]
      rw [e]
      obtain ⟨z, hz, hp⟩ := ih (x.1, x.2 ++ [c])
      exact ⟨z, hz, (List.prefix_append _ _).trans hp⟩
theorem linesF_app (a b : List UInt8) : linesF (a ++ b) = b.foldl stl (linesF a) := by unfold linesF; rw [List.foldl_append]
theorem lines_prefix (a b : List UInt8) : linesL a <+: linesL (a ++ b) := by
  show _ <+: (linesF (a ++ b)).1; rw [linesF_app]; exact stl_prefix b _
theorem lines_take (l : List UInt8) (k : Nat) : linesL (l.take k) <+: linesL l := by
  have := lines_prefix (l.take k) (l.drop k); rwa [List.take_append_drop] at this
/-- Two texts, the first of which ends with a sign, or is empty. -/
theorem lines_join {a : List UInt8} (b : List UInt8) (h : restL a = []) : linesL (a ++ b) = linesL a ++ linesL b ∧ restL (a ++ b) = restL b := by
  have e : linesF (a ++ b) = (linesL a ++ (linesF b).1, (linesF b).2) := by
    rw [linesF_app]
    have e1 : linesF a = (linesL a ++ [], []) := by rw [List.append_nil]; exact Prod.ext rfl h
    rw [e1, stl_shift]; rfl
  constructor
  · show (linesF _).1 = _; rw [e]; rfl
  · show (linesF _).2 = _; rw [e]; rfl
theorem lin_prefix {a b : List UInt8} (h : linB b = true) (hp : a <+: b) : linB a = true := by
  unfold linB at h ⊢
  rw [Bool.and_eq_true] at h ⊢
  obtain ⟨h1, h2⟩ := h
  have hl := hp.length_le
  simp only [decide_eq_true_eq] at h1 ⊢
  exact ⟨by omega, List.all_eq_true.2 fun c hc => List.all_eq_true.1 h2 c (hp.subset hc)⟩
theorem lin_take {l : List UInt8} (h : linB l = true) (k : Nat) : linB (l.take k) = true := lin_prefix h (List.take_prefix _ _)
theorem lin_noSemi {l : List UInt8} (h : linB l = true) : ∀ c ∈ l, c ≠ 59 := by
  intro c hc e
  unfold linB at h
  rw [Bool.and_eq_true] at h
  have := List.all_eq_true.1 h.2 c hc
  rw [e] at this; revert this; decide
theorem lin_semi (l : List UInt8) : linB (l ++ [59]) = false := by
  rcases h : linB (l ++ [59]) with _ | _
  · rfl
  · exact absurd rfl (lin_noSemi h 59 (by simp))
theorem lin_len {l : List UInt8} (h : linB l = true) : l.length ≤ 16 := by
  unfold linB at h; rw [Bool.and_eq_true] at h; simpa using h.1
theorem str_parts {l : List UInt8} (h : strB l = true) : l.length ≤ 120 ∧ (∀ x ∈ linesL l, linB x = true) ∧ linB (restL l) = true := by
  unfold strB at h
  rw [Bool.and_eq_true, Bool.and_eq_true] at h
  exact ⟨by simpa using h.1.1, List.all_eq_true.1 h.1.2, h.2⟩
theorem str_mk {l : List UInt8} (h1 : l.length ≤ 120) (h2 : ∀ x ∈ linesL l, linB x = true) (h3 : linB (restL l) = true) : strB l = true := by
  unfold strB; rw [decide_eq_true h1, List.all_eq_true.2 h2, h3]; rfl
/-- A beginning of a stream is a stream. -/
theorem str_prefix {a b : List UInt8} (h : strB (a ++ b) = true) : strB a = true := by
  obtain ⟨h1, h2, h3⟩ := str_parts h
  rw [List.length_append] at h1
  refine str_mk (by omega) (fun x hx => h2 x ((lines_prefix a b).subset hx)) ?_
  obtain ⟨z, hz, hp⟩ := stl_rest b (linesF a)
  rw [← linesF_app] at hz
  refine lin_prefix (b := z) ?_ hp
  rcases List.mem_append.1 hz with hz | hz
  · exact h2 z hz
  · simp at hz; subst hz; exact h3
theorem str_take {l : List UInt8} (h : strB l = true) (k : Nat) : strB (l.take k) = true := by
  have : strB (l.take k ++ l.drop k) = true := by rw [List.take_append_drop]; exact h
  exact str_prefix this

end Go.Proofs.YtoidmmedpefjfaaGreatDoor

/- Plain facts on the texts of ends and the lines that name them: what is read is what is written. No condition. -/
namespace Go.Proofs.YtoidmmedpefjfaaGreatDoor
open Go.RowKit

/-- What is read as an end is its text. -/
theorem rdE_text {l : List UInt8} {a p : Int} (h : rdE l = some (a, p)) : l = endL a.toNat p.toNat ∧ endB a p = true := by
  unfold rdE at h
  split at h
  · rename_i x y hw
    split at h
    · rename_i hb
      simp at h
      obtain ⟨rfl, rfl⟩ := h
      obtain ⟨h1, h2, h3, h4⟩ := end_bounds hb
      have ex := numL_inv (show 0 ≤ numL x by omega)
      have ey := numL_inv (show 0 ≤ numL y by omega)
      refine ⟨?_, hb⟩
      rw [words_two hw, endL, ← ex, ← ey]
    · cases h
  · cases h
/-- The text of an end is read as it. -/
theorem rdE_endL {a p : Int} (h : endB a p = true) : rdE (endL a.toNat p.toNat) = some (a, p) := by
  obtain ⟨h1, h2, h3, h4⟩ := end_bounds h
  unfold rdE endL
  rw [words_of_two (dec_no_space a.toNat) (dec_no_space p.toNat)]
  simp only [numL_dec (show a.toNat ≤ 9999 by omega), numL_dec (show p.toNat ≤ 9999 by omega)]
  rw [Int.toNat_of_nonneg (by omega), Int.toNat_of_nonneg (by omega), if_pos h]
theorem rdE_inj {l m : List UInt8} {a p : Int} (h1 : rdE l = some (a, p)) (h2 : rdE m = some (a, p)) : l = m := (rdE_text h1).1.trans (rdE_text h2).1.symm

theorem lpL_yes {a p : Int} (h : endB a p = true) : lpL a p = portL ++ endL a.toNat p.toNat := if_pos h
theorem lpL_no {a p : Int} (h : endB a p = false) : lpL a p = [] := if_neg (by simp [h])
theorem lpL_take {a p : Int} (h : endB a p = true) : (lpL a p).take 5 = portL ∧ (lpL a p).drop 5 = endL a.toNat p.toNat := by
  rw [lpL_yes h]; exact ⟨rfl, rfl⟩
/-- What a line that names an end says. -/
theorem says_lpL {a p : Int} (h : endB a p = true) : saysE (lpL a p) = (if insB a p = true then some (a, p) else none) := by
  obtain ⟨e1, e2⟩ := lpL_take h
  unfold saysE; rw [if_pos e1, e2, rdE_endL h]
theorem box_lpL {a p : Int} (h : endB a p = true) : boxE (lpL a p) = (if a = 50 then some p else none) := by
  obtain ⟨e1, e2⟩ := lpL_take h
  unfold boxE; rw [if_pos e1, e2, rdE_endL h]
theorem says_line {l : List UInt8} {a p : Int} (h : saysE l = some (a, p)) : insB a p = true ∧ endB a p = true ∧ l = lpL a p := by
  unfold saysE at h
  split at h
  · rename_i ht
    split at h
    · rename_i a' p' hr
      split at h
      · rename_i hi
        simp at h
        obtain ⟨rfl, rfl⟩ := h
        obtain ⟨e1, e2⟩ := rdE_text hr
        refine ⟨hi, e2, ?_⟩
        rw [lpL_yes e2, ← e1, ← ht, List.take_append_drop]
      · cases h
    · cases h
  · cases h
theorem box_line {l : List UInt8} {p : Int} (h : boxE l = some p) : endB 50 p = true ∧ l = lpL 50 p := by
  unfold boxE at h
  split at h
  · rename_i ht
    split at h
    · rename_i a' p' hr
      split at h
      · rename_i hi
        simp at h
        subst hi h
        obtain ⟨e1, e2⟩ := rdE_text hr
        refine ⟨e2, ?_⟩
        rw [lpL_yes e2, ← e1, ← ht, List.take_append_drop]
      · cases h
    · cases h
  · cases h
/-- A line of the box's names no end inside. -/
theorem box_no_says {l : List UInt8} {p : Int} (h : boxE l = some p) : saysE l = none := by
  obtain ⟨e1, rfl⟩ := box_line h
  rw [says_lpL e1]; rw [if_neg (by simp [insB, inB])]
theorem dec_byte {k : Nat} : ∀ c ∈ Lib.decDigits k, byteB c = true := by
  intro c hc
  have := dec_digs k c hc
  unfold isDig at this
  simp [byteB, this]
/-- A line that names an end is a line. -/
theorem lpL_lin {a p : Int} (h : endB a p = true) : linB (lpL a p) = true := by
  obtain ⟨h1, h2, h3, h4⟩ := end_bounds h
  have l1 := dec_len4 (k := a.toNat) (by omega)
  have l2 := dec_len4 (k := p.toNat) (by omega)
  rw [lpL_yes h]
  unfold linB
  rw [decide_eq_true (by simp [portL, endL]; omega), Bool.true_and, List.all_eq_true]
  intro c hc
  rcases List.mem_append.1 hc with hc | hc
  · have hp : ∀ c ∈ portL, byteB c = true := by decide
    exact hp c hc
  · unfold endL at hc
    rcases List.mem_append.1 hc with hc | hc
    · exact dec_byte c hc
    · rcases List.mem_cons.1 hc with rfl | hc
      · decide
      · exact dec_byte c hc

end Go.Proofs.YtoidmmedpefjfaaGreatDoor

/- Lines that have gone outside: none has a sign, none names an end inside, and they go outside as they are. No condition. -/
namespace Go.Proofs.YtoidmmedpefjfaaGreatDoor
open Go.RowKit

theorem says_nil : saysE [] = none := rfl
theorem says_noneL : saysE noneL = none := rfl
theorem ins_box (p : Int) : insB 50 p = false := by
  unfold insB inB
  simp
theorem lineE_says (es : List (Int × Int)) (l : List UInt8) : saysE (lineE es l).2 = none := by
  rcases h : saysE l with _ | e
  · rw [lineE_none h]; exact h
  · rw [lineE_some h]
    simp only
    split
    · exact says_noneL
    · rcases hb : endB 50 (putE es e).2 with _ | _
      · rw [lpL_no hb]; exact says_nil
      · rw [says_lpL hb, if_neg (by rw [ins_box]; decide)]
theorem lpL_semi (a p : Int) : ∀ c ∈ lpL a p, c ≠ 59 := by
  rcases hb : endB a p with _ | _
  · rw [lpL_no hb]; intro c hc; cases hc
  · exact lin_noSemi (lpL_lin hb)
theorem lineE_semi {es : List (Int × Int)} {l : List UInt8} (hl : ∀ c ∈ l, c ≠ 59) : ∀ c ∈ (lineE es l).2, c ≠ 59 := by
  rcases h : saysE l with _ | e
  · rw [lineE_none h]; exact hl
  · rw [lineE_some h]
    simp only
    split
    · intro c hc e; subst e; revert hc; decide
    · exact lpL_semi _ _
/-- What goes outside is lines. -/
theorem streamE_outs (ls : List (List UInt8)) (h : ∀ l ∈ ls, ∀ c ∈ l, c ≠ 59) (T : List (Int × Int) × List UInt8) :
    ∃ outs : List (List UInt8), outs.length = ls.length ∧ (ls.foldl strF T).2 = T.2 ++ (outs.map (· ++ [59])).flatten ∧ ∀ o ∈ outs, (∀ c ∈ o, c ≠ 59) ∧ saysE o = none := by
  induction ls generalizing T with
  | nil => exact ⟨[], rfl, by simp, fun o ho => by cases ho⟩
  | cons l r ih =>
    obtain ⟨outs, h1, h2, h3⟩ := ih (fun x hx => h x (List.mem_cons_of_mem _ hx)) (strF T l)
    refine ⟨(lineE T.1 l).2 :: outs, by simp [h1], ?_, fun o ho => ?_⟩
    · rw [List.foldl_cons, h2]
      simp [strF]
    · rcases List.mem_cons.1 ho with rfl | ho
      · exact ⟨lineE_semi (h l (List.mem_cons_self ..)), lineE_says _ _⟩
      · exact h3 o ho
theorem lines_flat (outs : List (List UInt8)) (h : ∀ o ∈ outs, ∀ c ∈ o, c ≠ 59) : linesL ((outs.map (· ++ [59])).flatten) = outs ∧ restL ((outs.map (· ++ [59])).flatten) = [] := by
  induction outs with
  | nil => exact ⟨rfl, rfl⟩
  | cons o r ih =>
    obtain ⟨h1, h2⟩ := ih (fun x hx => h x (List.mem_cons_of_mem _ hx))
    have := linesF_cons (p := o) (r := (r.map (· ++ [59])).flatten) (h o (List.mem_cons_self ..))
    rw [show ((o :: r).map (· ++ [59])).flatten = o ++ 59 :: (r.map (· ++ [59])).flatten by simp]
    exact ⟨by rw [this.1, h1], by rw [this.2, h2]⟩
theorem streamE_stays (outs : List (List UInt8)) (h : ∀ o ∈ outs, saysE o = none) (es : List (Int × Int)) (p : List UInt8) : outs.foldl strF (es, p) = (es, p ++ (outs.map (· ++ [59])).flatten) := by
  induction outs generalizing p with
  | nil => simp
  | cons o r ih =>
    rw [List.foldl_cons, show strF (es, p) o = ((lineE es o).1, p ++ (lineE es o).2 ++ [59]) from rfl, lineE_none (h o (List.mem_cons_self ..)), ih (fun x hx => h x (List.mem_cons_of_mem _ hx))]
    simp
/-- What went outside goes so again as it is, and has as many lines. -/
theorem stream_again (es xs : List (Int × Int)) (s : List UInt8) : (linesL (streamE es (linesL s)).2).length = (linesL s).length ∧ restL (streamE es (linesL s)).2 = [] ∧ streamE xs (linesL (streamE es (linesL s)).2) = (xs, (streamE es (linesL s)).2) := by
  obtain ⟨outs, h1, h2, h3⟩ := streamE_outs (linesL s) (fun l hl => line_noSemi hl) (es, [])
  have e : (streamE es (linesL s)).2 = (outs.map (· ++ [59])).flatten := by
    unfold streamE
    rw [h2]; rfl
  obtain ⟨f1, f2⟩ := lines_flat outs (fun o ho => (h3 o ho).1)
  rw [e, f1]
  refine ⟨h1, f2, ?_⟩
  unfold streamE
  rw [streamE_stays outs (fun o ho => (h3 o ho).2)]
  rfl

end Go.Proofs.YtoidmmedpefjfaaGreatDoor

/- Ports and ends of a table are each other's, as data. No condition. -/
namespace Go.Proofs.YtoidmmedpefjfaaGreatDoor
open Go.RowKit

theorem mapB_take {es : List (Int × Int)} (hm : mapB es = true) {k : Nat} (hk : k < es.length) : es[k] ∉ es.take k := by
  unfold mapB at hm
  simp only [Bool.and_eq_true, decide_eq_true_eq, List.all_eq_true, List.mem_range] at hm
  have := hm.2 k hk
  unfold mapP at this
  simp only [Bool.and_eq_true, decide_eq_true_eq] at this
  rw [List.getD_eq_getElem?_getD, List.getElem?_eq_getElem hk] at this
  exact findI_neg.1 this.2
theorem findI_at {es : List (Int × Int)} (hm : mapB es = true) {k : Nat} (hk : k < es.length) : findI es es[k] = k := by
  obtain ⟨j, hj, he, hn, hf⟩ := findI_mem (List.getElem_mem hk)
  rw [hf]
  rcases Nat.lt_trichotomy j k with h | h | h
  · exfalso
    refine mapB_take hm hk ?_
    rw [← he]
    exact List.mem_take_iff_getElem.2 ⟨j, by omega, rfl⟩
  · rw [h]
  · exfalso
    exact hn (List.mem_take_iff_getElem.2 ⟨k, by omega, rfl⟩)
/-- An end that a port names has that port. -/
theorem port_of_end {es : List (Int × Int)} {q : Int} {e : Int × Int} (hm : mapB es = true) (h : endI es q = some e) : portI es e = q := by
  unfold endI at h
  split at h
  · rename_i hq
    obtain ⟨hk, he⟩ := List.getElem?_eq_some_iff.1 h
    have hf := findI_at hm hk
    rw [he] at hf
    unfold portI
    rw [hf, if_neg (by omega)]
    omega
  · cases h
/-- A port that an end has names that end. -/
theorem end_of_port {es : List (Int × Int)} {e : Int × Int} (h : portI es e ≠ 0) : endI es (portI es e) = some e := by
  unfold portI at h ⊢
  split
  · rename_i hf
    rw [if_pos hf] at h
    exact absurd rfl h
  · rename_i hf
    have hmem : e ∈ es := by
      refine Classical.byContradiction fun hn => ?_
      exact hf (findI_neg.2 hn)
    obtain ⟨k, hk, he, _, hfk⟩ := findI_mem hmem
    rw [hfk]
    unfold endI
    rw [if_pos (by omega), show (500 + (k : Int) - 500).toNat = k by omega, List.getElem?_eq_getElem hk, he]

end Go.Proofs.YtoidmmedpefjfaaGreatDoor

/- An end more in a table, as data: who has which port then. No condition. -/
namespace Go.Proofs.YtoidmmedpefjfaaGreatDoor
open Go.RowKit

theorem findI_app {us vs : List (Int × Int)} {x : Int × Int} (h : x ∈ us) : findI (us ++ vs) x = findI us x := by
  obtain ⟨k, hk, he, hn, hf⟩ := findI_mem h
  rw [hf]
  refine findI_hit (by rw [List.length_append]; omega) (by rw [List.getElem_append_left hk]; exact he) (fun j hj hje => hn ?_)
  rw [List.getElem_append_left (by omega)] at hje
  exact List.mem_take_iff_getElem.2 ⟨j, by omega, hje⟩
theorem portI_app {us vs : List (Int × Int)} {x : Int × Int} (h : x ∈ us) : portI (us ++ vs) x = portI us x := by
  unfold portI; rw [findI_app h]
theorem portI_pos' {es : List (Int × Int)} {e : Int × Int} : 0 < portI es e ↔ e ∈ es := by
  constructor
  · intro h
    refine Classical.byContradiction fun hn => ?_
    unfold portI at h
    rw [if_pos (findI_neg.2 hn)] at h
    omega
  · intro h
    unfold portI
    rw [if_neg (fun h2 => findI_neg.1 h2 h)]
    have := findI_bounds es e
    have h3 : ¬ findI es e < 0 := fun h2 => findI_neg.1 h2 h
    omega
theorem putE_fst (us : List (Int × Int)) (e : Int × Int) : (putE us e).1 = if e ∈ us ∨ us.length = 6 then us else us ++ [e] := by
  by_cases h : e ∈ us
  · rw [putE_has h, if_pos (.inl h)]
  · by_cases h6 : us.length = 6
    · rw [putE_full h h6, if_pos (.inr h6)]
    · rw [putE_new h h6, if_neg (by rintro (h1 | h1); exact h h1; exact h6 h1)]
theorem putE_pre (us : List (Int × Int)) (e : Int × Int) : ∃ t, (putE us e).1 = us ++ t ∧ t.length ≤ 1 := by
  rw [putE_fst]
  split
  · exact ⟨[], by simp, by simp⟩
  · exact ⟨[e], rfl, by simp⟩
theorem putE_port {us : List (Int × Int)} {e : Int × Int} (h : (putE us e).2 ≠ 0) : portI (putE us e).1 e = (putE us e).2 := by
  by_cases hm : e ∈ us
  · rw [putE_has hm]
  · by_cases h6 : us.length = 6
    · rw [putE_full hm h6] at h; exact absurd rfl h
    · rw [putE_new hm h6]
      show portI (us ++ [e]) e = _
      unfold portI
      have : findI (us ++ [e]) e = (us.length : Int) := by
        refine findI_hit (k := us.length) (by simp) (by simp) (fun j hj hje => hm ?_)
        rw [List.getElem_append_left hj] at hje
        rw [← hje]; exact List.getElem_mem _
      rw [this, if_neg (by omega)]
theorem putE_zero {us : List (Int × Int)} {e : Int × Int} (h : (putE us e).2 = 0) : portI us e = 0 ∧ us.length = 6 ∧ (putE us e).1 = us := by
  by_cases hm : e ∈ us
  · have := portI_pos'.2 hm
    rw [putE_has hm] at h
    simp only at h
    omega
  · by_cases h6 : us.length = 6
    · refine ⟨?_, h6, by rw [putE_full hm h6]⟩
      have : ¬ 0 < portI us e := fun h2 => hm (portI_pos'.1 h2)
      unfold portI at this ⊢
      rw [if_pos (findI_neg.2 hm)]
    · rw [putE_new hm h6] at h
      simp only at h
      omega
theorem putE_had {us : List (Int × Int)} {e : Int × Int} (h : portI us e ≠ 0) : portI us e = (putE us e).2 := by
  have hm : e ∈ us := by
    refine Classical.byContradiction fun hn => ?_
    unfold portI at h
    rw [if_pos (findI_neg.2 hn)] at h
    exact h rfl
  rw [putE_has hm]
theorem putE_snd_bound (us : List (Int × Int)) (e : Int × Int) (h6 : us.length ≤ 6) : 0 ≤ (putE us e).2 ∧ (putE us e).2 ≤ 506 := by
  have hb := findI_bounds us e
  unfold putE
  split
  · unfold portI; simp only; split <;> omega
  · split
    · simp
    · simp only; omega
theorem put_two_len (us : List (Int × Int)) (a b : Int × Int) : (putE (putE us a).1 b).1.length = (putE (putE us b).1 a).1.length := by
  simp only [putE_fst]
  by_cases ha : a ∈ us <;> by_cases hb : b ∈ us <;> by_cases h6 : us.length = 6 <;> by_cases h5 : us.length = 5 <;> by_cases hab : a = b <;> first
    | (subst hab; rfl)
    | (have hba : ¬ b = a := fun h => hab h.symm
       simp [ha, hb, h6, h5, hab, hba])
theorem put_two_has {us : List (Int × Int)} {a b : Int × Int} (hno : ¬ (a ∈ (putE (putE us a).1 b).1 ∧ b ∈ (putE (putE us a).1 b).1)) : 5 ≤ us.length ∧ (us.length = 6 ∨ a ∈ (putE (putE us a).1 b).1) := by
  simp only [putE_fst] at hno ⊢
  by_cases ha : a ∈ us <;> by_cases hb : b ∈ us <;> by_cases h6 : us.length = 6 <;> by_cases h5 : us.length = 5 <;> by_cases hab : a = b <;> first
    | (subst hab; simp [ha, h6, h5] at hno ⊢ <;> omega)
    | (have hba : ¬ b = a := fun h => hab h.symm
       simp [ha, hb, h6, h5, hab, hba] at hno ⊢ <;> omega)

end Go.Proofs.YtoidmmedpefjfaaGreatDoor

/- What goes outside once goes so again: with the table behind it, and with any that has more ends behind these; and so does each beginning. No condition. -/
namespace Go.Proofs.YtoidmmedpefjfaaGreatDoor
open Go.RowKit

theorem putE_six' {T : List (Int × Int)} {e : Int × Int} (h : T.length ≤ 6) : (putE T e).1.length ≤ 6 := by
  rw [putE_fst]
  split
  · exact h
  · rename_i hn
    have : T.length ≠ 6 := fun h6 => hn (.inr h6)
    simp; omega
theorem putE_again {T t : List (Int × Int)} {e : Int × Int} (h : T.length ≤ 6) (h2 : ((putE T e).1 ++ t).length ≤ 6) : putE ((putE T e).1 ++ t) e = ((putE T e).1 ++ t, (putE T e).2) := by
  by_cases hm : e ∈ T
  · rw [putE_has hm]
    rw [putE_has (List.mem_append_left _ hm)]
    rw [portI_app hm]
  · by_cases h6 : T.length = 6
    · rw [putE_full hm h6] at h2 ⊢
      have ht : t = [] := by
        rcases t with _ | ⟨x, r⟩
        · rfl
        · simp at h2; omega
      subst ht
      simp only [List.append_nil]
      rw [putE_full hm h6]
    · have hp : (putE T e).2 ≠ 0 := by rw [putE_new hm h6]; simp only; omega
      have hq := putE_port hp
      rw [putE_new hm h6] at hq ⊢
      have hm2 : e ∈ T ++ [e] := by simp
      rw [putE_has (List.mem_append_left _ hm2), portI_app hm2]
      simp only at hq ⊢
      rw [hq]
theorem lineE_pre (T : List (Int × Int)) (l : List UInt8) : ∃ t, (lineE T l).1 = T ++ t := by
  rcases h : saysE l with _ | e
  · exact ⟨[], by rw [lineE_none h]; simp⟩
  · obtain ⟨t, ht, _⟩ := putE_pre T e
    exact ⟨t, by rw [lineE_some h]; exact ht⟩
theorem lineE_six {T : List (Int × Int)} {l : List UInt8} (h : T.length ≤ 6) : (lineE T l).1.length ≤ 6 := by
  rcases hs : saysE l with _ | e
  · rw [lineE_none hs]; exact h
  · rw [lineE_some hs]; exact putE_six' h
theorem lineE_again {T t : List (Int × Int)} {l : List UInt8} (h : T.length ≤ 6) (h2 : ((lineE T l).1 ++ t).length ≤ 6) : lineE ((lineE T l).1 ++ t) l = ((lineE T l).1 ++ t, (lineE T l).2) := by
  rcases hs : saysE l with _ | e
  · rw [lineE_none hs, lineE_none hs]
  · rw [lineE_some hs] at h2 ⊢
    simp only at h2 ⊢
    rw [lineE_some hs, putE_again h h2]
theorem fold_pre (ls : List (List UInt8)) (T : List (Int × Int)) (p : List UInt8) : ∃ t, (ls.foldl strF (T, p)).1 = T ++ t := by
  induction ls generalizing T p with
  | nil => exact ⟨[], by simp⟩
  | cons l r ih =>
    obtain ⟨t1, h1⟩ := lineE_pre T l
    obtain ⟨t2, h2⟩ := ih (lineE T l).1 (p ++ (lineE T l).2 ++ [59])
    refine ⟨t1 ++ t2, ?_⟩
    rw [List.foldl_cons, show strF (T, p) l = ((lineE T l).1, p ++ (lineE T l).2 ++ [59]) from rfl, h2, h1, List.append_assoc]
theorem fold_again (ls : List (List UInt8)) (T t : List (Int × Int)) (p : List UInt8) (h : T.length ≤ 6) (h2 : ((ls.foldl strF (T, p)).1 ++ t).length ≤ 6) :
    ls.foldl strF ((ls.foldl strF (T, p)).1 ++ t, p) = ((ls.foldl strF (T, p)).1 ++ t, (ls.foldl strF (T, p)).2) := by
  induction ls generalizing T p with
  | nil => rfl
  | cons l r ih =>
    have e1 : strF (T, p) l = ((lineE T l).1, p ++ (lineE T l).2 ++ [59]) := rfl
    simp only [List.foldl_cons, e1] at h2 ⊢
    obtain ⟨t1, ht1⟩ := fold_pre r (lineE T l).1 (p ++ (lineE T l).2 ++ [59])
    have hE : (r.foldl strF ((lineE T l).1, p ++ (lineE T l).2 ++ [59])).1 ++ t = (lineE T l).1 ++ (t1 ++ t) := by rw [ht1, List.append_assoc]
    have hl := lineE_again (t := t1 ++ t) h (by rw [← hE]; exact h2)
    have e2 : strF ((r.foldl strF ((lineE T l).1, p ++ (lineE T l).2 ++ [59])).1 ++ t, p) l = ((r.foldl strF ((lineE T l).1, p ++ (lineE T l).2 ++ [59])).1 ++ t, p ++ (lineE T l).2 ++ [59]) := by
      rw [hE]
      show ((lineE ((lineE T l).1 ++ (t1 ++ t)) l).1, p ++ (lineE ((lineE T l).1 ++ (t1 ++ t)) l).2 ++ [59]) = _
      rw [hl]
    rw [e2]
    exact ih (lineE T l).1 (p ++ (lineE T l).2 ++ [59]) (lineE_six h) h2
theorem shift_two (ls : List (List UInt8)) (es : List (Int × Int)) (p : List UInt8) : ∃ q, (ls.foldl strF (es, p)).2 = p ++ q := by
  induction ls generalizing es p with
  | nil => exact ⟨[], by simp⟩
  | cons l r ih =>
    obtain ⟨q, hq⟩ := ih (lineE es l).1 (p ++ (lineE es l).2 ++ [59])
    refine ⟨(lineE es l).2 ++ [59] ++ q, ?_⟩
    rw [List.foldl_cons, show strF (es, p) l = ((lineE es l).1, p ++ (lineE es l).2 ++ [59]) from rfl, hq]
    simp
/-- The promise, as data. -/
theorem stream_stays {us t : List (Int × Int)} {s : List UInt8} (h : us.length ≤ 6) (h2 : ((streamE us (linesL s)).1 ++ t).length ≤ 6) (k : Nat) :
    ∃ q, streamE ((streamE us (linesL s)).1 ++ t) (linesL (s.take k)) = ((streamE us (linesL s)).1 ++ t, (streamE us (linesL (s.take k))).2) ∧ (streamE us (linesL s)).2 = (streamE us (linesL (s.take k))).2 ++ q := by
  obtain ⟨r, hr⟩ := lines_take s k
  have e : streamE us (linesL s) = r.foldl strF (streamE us (linesL (s.take k))) := by
    unfold streamE
    rw [← hr, List.foldl_append]
  obtain ⟨⟨T1, T2⟩, hT⟩ : ∃ T, T = streamE us (linesL (s.take k)) := ⟨_, rfl⟩
  rw [← hT] at e ⊢
  obtain ⟨t1, ht1⟩ := fold_pre r T1 T2
  obtain ⟨q, hq⟩ := shift_two r T1 T2
  refine ⟨q, ?_, by rw [e]; exact hq⟩
  have hs : (streamE us (linesL s)).1 ++ t = T1 ++ (t1 ++ t) := by rw [e, ht1, List.append_assoc]
  have hT1 : T1 = ((linesL (s.take k)).foldl strF (us, [])).1 := by
    have := congrArg (·.1) hT
    exact this
  have hT2 : T2 = ((linesL (s.take k)).foldl strF (us, [])).2 := by
    have := congrArg (·.2) hT
    exact this
  rw [hs] at h2 ⊢
  rw [hT1] at h2 ⊢
  rw [hT2]
  exact fold_again (linesL (s.take k)) us (t1 ++ t) [] h h2

end Go.Proofs.YtoidmmedpefjfaaGreatDoor

/- What a line is as it goes outside, as data: its port, its length, and that it is a line. No condition. -/
namespace Go.Proofs.YtoidmmedpefjfaaGreatDoor
open Go.RowKit

theorem data_inj {a b : ByteArray} (h : a.data.toList = b.data.toList) : a = b := by
  rw [← Lib.mk_data a, ← Lib.mk_data b, h]
theorem putE_low {us : List (Int × Int)} {e : Int × Int} (h : (putE us e).2 ≠ 0) : 500 ≤ (putE us e).2 := by
  have hb := findI_bounds us e
  unfold putE at h ⊢
  split at h
  · rename_i h1
    rw [if_pos h1]
    unfold portI at h1 ⊢
    split at h1
    · omega
    · rename_i h2
      simp only
      rw [if_neg h2]; omega
  · rename_i h1
    rw [if_neg h1]
    split at h
    · exact absurd rfl h
    · rename_i h2
      rw [if_neg h2]
      simp only; omega
theorem box_end {q : Int} (h0 : 500 ≤ q) (h1 : q ≤ 506) : endB 50 q = true := by
  unfold endB boxB inB
  simp
  right; omega
theorem lin_line {es : List (Int × Int)} {l : List UInt8} (hm : mapB es = true) (hl : linB l = true) : linB (lineE es l).2 = true := by
  rcases h : saysE l with _ | e
  · rw [lineE_none h]; exact hl
  · rw [lineE_some h]
    simp only
    have hb := putE_snd_bound es e (mapB_le hm)
    by_cases h0 : (putE es e).2 = 0
    · rw [if_pos h0]; decide
    · rw [if_neg h0]
      exact lpL_lin (box_end (putE_low h0) hb.2)
theorem rwrA_len (es : List (Int × Int)) (l : List UInt8) : (rwrA es l).2.length ≤ l.length + 20 := by
  unfold rwrA
  split
  · exact lineE_len es l
  · simp
theorem findI_snoc {us : List (Int × Int)} {e : Int × Int} (h : e ∉ us) : findI (us ++ [e]) e = us.length := by
  refine findI_hit (k := us.length) (by simp) (by simp) ?_
  intro j hj he
  rw [List.getElem_append_left hj] at he
  exact h (he ▸ List.getElem_mem _)
/-- The port that an end has behind it is the one that is told. -/
theorem rwr_port (us : List (Int × Int)) (e : Int × Int) (_ : us.length ≤ 6) : portI (putE us e).1 e = (putE us e).2 := by
  by_cases h0 : (putE us e).2 = 0
  · obtain ⟨h1, _, h3⟩ := putE_zero h0
    rw [h3, h1, h0]
  · exact putE_port h0

end Go.Proofs.YtoidmmedpefjfaaGreatDoor
