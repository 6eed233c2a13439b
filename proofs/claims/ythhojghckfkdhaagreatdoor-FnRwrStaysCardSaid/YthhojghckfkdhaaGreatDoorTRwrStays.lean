/- The law RwrStays, at every code: true, and the codes stay as they were. The card: the variables that are read are tied to the program's text. No condition beside what the card says. (Several texts, joined: StrLen, StrALen, LinesP, PortP, StrOut, MapP, PutP, Stays, ILines, RdV, Tag, LwRwrStays, HoldFnRwrStays.) -/
import Derived.Test.YthhojghckfkdhaaGreatDoorTRwrStaysa
import Derived.Test.YthhojghckfkdhaaGreatDoorSemi
import Derived.Test.YthhojghckfkdhaaGreatDoorSSays
import Derived.Test.YthhojghckfkdhaaGreatDoorVals
import Derived.Test.YthhojghckfkdhaaGreatDoorPutE
import Derived.Test.YthhojghckfkdhaaGreatDoorISeq
import Derived.Test.YthhojghckfkdhaaGreatDoorGen
import Derived.Test.YthhojghckfkdhaaGreatDoorOwnEnds
import Derived.Test.YthhojghckfkdhaaGreatDoorDrawRS
import Derived.Test.YthhojghckfkdhaaGreatDoorHaOk
import Derived.Test.YthhojghckfkdhaaGreatDoorHaEnds
import Derived.Test.YthhojghckfkdhaaGreatDoorHaStarts
import Derived.Deep.RegionHeld3
import Derived.Deep.DeepCutAuto
import Derived.Test.YthhojghckfkdhaaGreatDoorCards
import Derived.Test.YthhojghckfkdhaaGreatDoorTie
import Derived.ProofKit
import Derived.ChangeSame
import Derived.JoinedOf
import Derived.JoinedAt
import Derived.RowKit3
import Derived.RowKitTokens
import Derived.LaidMore
import Derived.Stop.LaidErr
import Derived.Stop.Joined
import Derived.SevenTiedAt
import Derived.OpenShut
import Derived.ShutString
import Derived.ChangeOld
import Derived.Below
import Derived.Carry

/- How long a stream is outside. No condition. -/
namespace Go.Proofs.YthhojghckfkdhaaGreatDoor
open Go.RowKit

theorem strE_len (ls : List (List UInt8)) (n : Nat) (hx : ∀ x ∈ ls, x.length ≤ n) (T : List (Int × Int) × List UInt8) : (ls.foldl strF T).2.length ≤ T.2.length + ls.length * (n + 21) := by
  induction ls generalizing T with
  | nil => simp
  | cons l r ih =>
    have h1 := ih (fun x h => hx x (List.mem_cons_of_mem _ h)) (strF T l)
    have h2 : (strF T l).2.length ≤ T.2.length + (n + 21) := by
      have h3 := lineE_len T.1 l
      have h4 := hx l (List.mem_cons_self ..)
      simp only [strF, List.length_append, List.length_cons, List.length_nil]
      omega
    simp only [List.foldl_cons, List.length_cons]
    rw [Nat.add_mul]
    omega

end Go.Proofs.YthhojghckfkdhaaGreatDoor

/- How long a stream is outside. No condition. -/
namespace Go.Proofs.YthhojghckfkdhaaGreatDoor
open Go.RowKit

theorem strA_len (es : List (Int × Int)) (s : List UInt8) : (strA es s).2.length ≤ 2097152 := by
  unfold strA
  split
  · rename_i h
    have h1 : s.length ≤ 120 := by have := h.2; unfold strB at this; simp at this; exact this.1.1
    have hl := lines_len s
    have := strE_len (linesL s) 120 (fun x hx => by have := line_len hx; omega) (es, [])
    unfold streamE
    have h3 : (linesL s).length * (120 + 21) ≤ 120 * (120 + 21) := Nat.mul_le_mul_right _ (by omega)
    simp only [List.length_nil] at this
    omega
  · simp

end Go.Proofs.YthhojghckfkdhaaGreatDoor

/- Plain facts on lines and streams: beginnings, two texts one behind the other, what no line has. No program. No condition. -/
namespace Go.Proofs.YthhojghckfkdhaaGreatDoor

theorem stl_noSemi (l : List UInt8) (x : List (List UInt8) × List UInt8) (h1 : ∀ y ∈ x.1, ∀ c ∈ y, c ≠ 59) (h2 : ∀ c ∈ x.2, c ≠ 59) :
    (∀ y ∈ (l.foldl stl x).1, ∀ c ∈ y, c ≠ 59) ∧ ∀ c ∈ (l.foldl stl x).2, c ≠ 59 := by
  induction l generalizing x with
  | nil => exact ⟨h1, h2⟩
  | cons c r ih =>
    rw [List.foldl_cons]
    by_cases hc : c = 59
    · have e : stl x c = (x.1 ++ [x.2], []) := by unfold stl; rw [if_pos hc]
      rw [e]
      exact ih _ (fun y hy => (List.mem_append.1 hy).elim (h1 y) (fun e => by simp at e; subst e; exact h2)) (by simp)
    · have e : stl x c = (x.1, x.2 ++ [c]) := by unfold stl; rw [if_neg hc]
      rw [e]
      exact ih _ h1 (fun d hd => (List.mem_append.1 hd).elim (h2 d) (fun e => by simp at e; subst e; exact hc))
/-- No line, and no rest, has the sign that ends a line. -/
theorem line_noSemi {l x : List UInt8} (h : x ∈ linesL l) : ∀ c ∈ x, c ≠ 59 := (stl_noSemi l ([], []) (by simp) (by simp)).1 x h
theorem rest_noSemi (l : List UInt8) : ∀ c ∈ restL l, c ≠ 59 := (stl_noSemi l ([], []) (by simp) (by simp)).2

theorem stl_prefix (l : List UInt8) (x : List (List UInt8) × List UInt8) : x.1 <+: (l.foldl stl x).1 := by
  induction l generalizing x with
  | nil => exact List.prefix_refl _
  | cons c r ih =>
    rw [List.foldl_cons]
    refine List.IsPrefix.trans ?_ (ih _)
    by_cases hc : c = 59
    · have e : stl x c = (x.1 ++ [x.2], []) := by unfold stl; rw [if_pos hc]
      rw [e]; exact List.prefix_append _ _
    · have e : stl x c = (x.1, x.2 ++ [c]) := by unfold stl; rw [if_neg hc]
      rw [e]; exact List.prefix_refl _
/-- What is behind the last sign begins the next line, or the rest. -/
theorem stl_rest (l : List UInt8) (x : List (List UInt8) × List UInt8) : ∃ z ∈ (l.foldl stl x).1 ++ [(l.foldl stl x).2], x.2 <+: z := by
  induction l generalizing x with
  | nil => exact ⟨x.2, by simp, List.prefix_refl _⟩
  | cons c r ih =>
    rw [List.foldl_cons]
    by_cases hc : c = 59
    · have e : stl x c = (x.1 ++ [x.2], []) := by unfold stl; rw [if_pos hc]
      rw [e]
      exact ⟨x.2, List.mem_append_left _ ((stl_prefix r (x.1 ++ [x.2], [])).subset (by simp)), List.prefix_refl _⟩
    · have e : stl x c = (x.1, x.2 ++ [c]) := by unfold stl; rw [if_neg hc]
      rw [e]
      obtain ⟨z, hz, hp⟩ := ih (x.1, x.2 ++ [c])
      exact ⟨z, hz, (List.prefix_append _ _).trans hp⟩
theorem linesF_app (a b : List UInt8) : linesF (a ++ b) = b.foldl stl (linesF a) := by unfold linesF; rw [List.foldl_append]
theorem lines_prefix (a b : List UInt8) : linesL a <+: linesL (a ++ b) := by
  show _ <+: (linesF (a ++ b)).1; rw [linesF_app]; exact stl_prefix b _
theorem lines_take (l : List UInt8) (k : Nat) : linesL (l.take k) <+: linesL l := by
  have := lines_prefix (l.take k) (l.drop k); rwa [List.take_append_drop] at this
/-- Two texts, the first of which ends with a sign, or is empty. -/
theorem lines_join {a : List UInt8} (b : List UInt8) (h : restL a = []) : linesL (a ++ b) = linesL a ++ linesL b ∧ restL (a ++ b) = restL b := by
  have e : linesF (a ++ b) = (linesL a ++ (linesF b).1, (linesF b).2) := by
    rw [linesF_app]
    have e1 : linesF a = (linesL a ++ [], []) := by rw [List.append_nil]; exact Prod.ext rfl h
    rw [e1, stl_shift]; rfl
  constructor
  · show (linesF _).1 = _; rw [e]; rfl
  · show (linesF _).2 = _; rw [e]; rfl
theorem lin_prefix {a b : List UInt8} (h : linB b = true) (hp : a <+: b) : linB a = true := by
  unfold linB at h ⊢
  rw [Bool.and_eq_true] at h ⊢
  obtain ⟨h1, h2⟩ := h
  have hl := hp.length_le
  simp only [decide_eq_true_eq] at h1 ⊢
  exact ⟨by omega, List.all_eq_true.2 fun c hc => List.all_eq_true.1 h2 c (hp.subset hc)⟩
theorem lin_take {l : List UInt8} (h : linB l = true) (k : Nat) : linB (l.take k) = true := lin_prefix h (List.take_prefix _ _)
theorem lin_noSemi {l : List UInt8} (h : linB l = true) : ∀ c ∈ l, c ≠ 59 := by
  intro c hc e
  unfold linB at h
  rw [Bool.and_eq_true] at h
  have := List.all_eq_true.1 h.2 c hc
  rw [e] at this; revert this; decide
theorem lin_semi (l : List UInt8) : linB (l ++ [59]) = false := by
  rcases h : linB (l ++ [59]) with _ | _
  · rfl
  · exact absurd rfl (lin_noSemi h 59 (by simp))
theorem lin_len {l : List UInt8} (h : linB l = true) : l.length ≤ 16 := by
  unfold linB at h; rw [Bool.and_eq_true] at h; simpa using h.1
theorem str_parts {l : List UInt8} (h : strB l = true) : l.length ≤ 120 ∧ (∀ x ∈ linesL l, linB x = true) ∧ linB (restL l) = true := by
  unfold strB at h
  rw [Bool.and_eq_true, Bool.and_eq_true] at h
  exact ⟨by simpa using h.1.1, List.all_eq_true.1 h.1.2, h.2⟩
theorem str_mk {l : List UInt8} (h1 : l.length ≤ 120) (h2 : ∀ x ∈ linesL l, linB x = true) (h3 : linB (restL l) = true) : strB l = true := by
  unfold strB; rw [decide_eq_true h1, List.all_eq_true.2 h2, h3]; rfl
/-- A beginning of a stream is a stream. -/
theorem str_prefix {a b : List UInt8} (h : strB (a ++ b) = true) : strB a = true := by
  obtain ⟨h1, h2, h3⟩ := str_parts h
  rw [List.length_append] at h1
  refine str_mk (by omega) (fun x hx => h2 x ((lines_prefix a b).subset hx)) ?_
  obtain ⟨z, hz, hp⟩ := stl_rest b (linesF a)
  rw [← linesF_app] at hz
  refine lin_prefix (b := z) ?_ hp
  rcases List.mem_append.1 hz with hz | hz
  · exact h2 z hz
  · simp at hz; subst hz; exact h3
theorem str_take {l : List UInt8} (h : strB l = true) (k : Nat) : strB (l.take k) = true := by
  have : strB (l.take k ++ l.drop k) = true := by rw [List.take_append_drop]; exact h
  exact str_prefix this

end Go.Proofs.YthhojghckfkdhaaGreatDoor

/- Plain facts on the texts of ends and the lines that name them: what is read is what is written. No condition. -/
namespace Go.Proofs.YthhojghckfkdhaaGreatDoor
open Go.RowKit

/-- What is read as an end is its text. -/
theorem rdE_text {l : List UInt8} {a p : Int} (h : rdE l = some (a, p)) : l = endL a.toNat p.toNat ∧ endB a p = true := by
  unfold rdE at h
  split at h
  · rename_i x y hw
    split at h
    · rename_i hb
      simp at h
      obtain ⟨rfl, rfl⟩ := h
      obtain ⟨h1, h2, h3, h4⟩ := end_bounds hb
      have ex := numL_inv (show 0 ≤ numL x by omega)
      have ey := numL_inv (show 0 ≤ numL y by omega)
      refine ⟨?_, hb⟩
      rw [words_two hw, endL, ← ex, ← ey]
    · cases h
  · cases h
/-- The text of an end is read as it. -/
theorem rdE_endL {a p : Int} (h : endB a p = true) : rdE (endL a.toNat p.toNat) = some (a, p) := by
  obtain ⟨h1, h2, h3, h4⟩ := end_bounds h
  unfold rdE endL
  rw [words_of_two (dec_no_space a.toNat) (dec_no_space p.toNat)]
  simp only [numL_dec (show a.toNat ≤ 9999 by omega), numL_dec (show p.toNat ≤ 9999 by omega)]
  rw [Int.toNat_of_nonneg (by omega), Int.toNat_of_nonneg (by omega), if_pos h]
theorem rdE_inj {l m : List UInt8} {a p : Int} (h1 : rdE l = some (a, p)) (h2 : rdE m = some (a, p)) : l = m := (rdE_text h1).1.trans (rdE_text h2).1.symm

theorem lpL_yes {a p : Int} (h : endB a p = true) : lpL a p = portL ++ endL a.toNat p.toNat := if_pos h
theorem lpL_no {a p : Int} (h : endB a p = false) : lpL a p = [] := if_neg (by simp [h])
theorem lpL_take {a p : Int} (h : endB a p = true) : (lpL a p).take 5 = portL ∧ (lpL a p).drop 5 = endL a.toNat p.toNat := by
  rw [lpL_yes h]; exact ⟨rfl, rfl⟩
/-- What a line that names an end says. -/
theorem says_lpL {a p : Int} (h : endB a p = true) : saysE (lpL a p) = (if insB a p = true then some (a, p) else none) := by
  obtain ⟨e1, e2⟩ := lpL_take h
  unfold saysE; rw [if_pos e1, e2, rdE_endL h]
theorem box_lpL {a p : Int} (h : endB a p = true) : boxE (lpL a p) = (if a = 50 then some p else none) := by
  obtain ⟨e1, e2⟩ := lpL_take h
  unfold boxE; rw [if_pos e1, e2, rdE_endL h]
theorem says_line {l : List UInt8} {a p : Int} (h : saysE l = some (a, p)) : insB a p = true ∧ endB a p = true ∧ l = lpL a p := by
  unfold saysE at h
  split at h
  · rename_i ht
    split at h
    · rename_i a' p' hr
      split at h
      · rename_i hi
        simp at h
        obtain ⟨rfl, rfl⟩ := h
        obtain ⟨e1, e2⟩ := rdE_text hr
        refine ⟨hi, e2, ?_⟩
        rw [lpL_yes e2, ← e1, ← ht, List.take_append_drop]
      · cases h
    · cases h
  · cases h
theorem box_line {l : List UInt8} {p : Int} (h : boxE l = some p) : endB 50 p = true ∧ l = lpL 50 p := by
  unfold boxE at h
  split at h
  · rename_i ht
    split at h
    · rename_i a' p' hr
      split at h
      · rename_i hi
        simp at h
        subst hi h
        obtain ⟨e1, e2⟩ := rdE_text hr
        refine ⟨e2, ?_⟩
        rw [lpL_yes e2, ← e1, ← ht, List.take_append_drop]
      · cases h
    · cases h
  · cases h
/-- A line of the box's names no end inside. -/
theorem box_no_says {l : List UInt8} {p : Int} (h : boxE l = some p) : saysE l = none := by
  obtain ⟨e1, rfl⟩ := box_line h
  rw [says_lpL e1]; rw [if_neg (by simp [insB, inB])]
theorem dec_byte {k : Nat} : ∀ c ∈ Lib.decDigits k, byteB c = true := by
  intro c hc
  have := dec_digs k c hc
  unfold isDig at this
  simp [byteB, this]
/-- A line that names an end is a line. -/
theorem lpL_lin {a p : Int} (h : endB a p = true) : linB (lpL a p) = true := by
  obtain ⟨h1, h2, h3, h4⟩ := end_bounds h
  have l1 := dec_len4 (k := a.toNat) (by omega)
  have l2 := dec_len4 (k := p.toNat) (by omega)
  rw [lpL_yes h]
  unfold linB
  rw [decide_eq_true (by simp [portL, endL]; omega), Bool.true_and, List.all_eq_true]
  intro c hc
  rcases List.mem_append.1 hc with hc | hc
  · have hp : ∀ c ∈ portL, byteB c = true := by decide
    exact hp c hc
  · unfold endL at hc
    rcases List.mem_append.1 hc with hc | hc
    · exact dec_byte c hc
    · rcases List.mem_cons.1 hc with rfl | hc
      · decide
      · exact dec_byte c hc

end Go.Proofs.YthhojghckfkdhaaGreatDoor

/- Lines that have gone outside: none has a sign, none names an end inside, and they go outside as they are. No condition. -/
namespace Go.Proofs.YthhojghckfkdhaaGreatDoor
open Go.RowKit

theorem says_nil : saysE [] = none := rfl
theorem says_noneL : saysE noneL = none := rfl
theorem ins_box (p : Int) : insB 50 p = false := by
  unfold insB inB
  simp
theorem lineE_says (es : List (Int × Int)) (l : List UInt8) : saysE (lineE es l).2 = none := by
  rcases h : saysE l with _ | e
  · rw [lineE_none h]; exact h
  · rw [lineE_some h]
    simp only
    split
    · exact says_noneL
    · rcases hb : endB 50 (putE es e).2 with _ | _
      · rw [lpL_no hb]; exact says_nil
      · rw [says_lpL hb, if_neg (by rw [ins_box]; decide)]
theorem lpL_semi (a p : Int) : ∀ c ∈ lpL a p, c ≠ 59 := by
  rcases hb : endB a p with _ | _
  · rw [lpL_no hb]; intro c hc; cases hc
  · exact lin_noSemi (lpL_lin hb)
theorem lineE_semi {es : List (Int × Int)} {l : List UInt8} (hl : ∀ c ∈ l, c ≠ 59) : ∀ c ∈ (lineE es l).2, c ≠ 59 := by
  rcases h : saysE l with _ | e
  · rw [lineE_none h]; exact hl
  · rw [lineE_some h]
    simp only
    split
    · intro c hc e; subst e; revert hc; decide
    · exact lpL_semi _ _
/-- What goes outside is lines. -/
theorem streamE_outs (ls : List (List UInt8)) (h : ∀ l ∈ ls, ∀ c ∈ l, c ≠ 59) (T : List (Int × Int) × List UInt8) :
    ∃ outs : List (List UInt8), outs.length = ls.length ∧ (ls.foldl strF T).2 = T.2 ++ (outs.map (· ++ [59])).flatten ∧ ∀ o ∈ outs, (∀ c ∈ o, c ≠ 59) ∧ saysE o = none := by
  induction ls generalizing T with
  | nil => exact ⟨[], rfl, by simp, fun o ho => by cases ho⟩
  | cons l r ih =>
    obtain ⟨outs, h1, h2, h3⟩ := ih (fun x hx => h x (List.mem_cons_of_mem _ hx)) (strF T l)
    refine ⟨(lineE T.1 l).2 :: outs, by simp [h1], ?_, fun o ho => ?_⟩
    · rw [List.foldl_cons, h2]
      simp [strF]
    · rcases List.mem_cons.1 ho with rfl | ho
      · exact ⟨lineE_semi (h l (List.mem_cons_self ..)), lineE_says _ _⟩
      · exact h3 o ho
theorem lines_flat (outs : List (List UInt8)) (h : ∀ o ∈ outs, ∀ c ∈ o, c ≠ 59) : linesL ((outs.map (· ++ [59])).flatten) = outs ∧ restL ((outs.map (· ++ [59])).flatten) = [] := by
  induction outs with
  | nil => exact ⟨rfl, rfl⟩
  | cons o r ih =>
    obtain ⟨h1, h2⟩ := ih (fun x hx => h x (List.mem_cons_of_mem _ hx))
    have := linesF_cons (p := o) (r := (r.map (· ++ [59])).flatten) (h o (List.mem_cons_self ..))
    rw [show ((o :: r).map (· ++ [59])).flatten = o ++ 59 :: (r.map (· ++ [59])).flatten by simp]
    exact ⟨by rw [this.1, h1], by rw [this.2, h2]⟩
theorem streamE_stays (outs : List (List UInt8)) (h : ∀ o ∈ outs, saysE o = none) (es : List (Int × Int)) (p : List UInt8) : outs.foldl strF (es, p) = (es, p ++ (outs.map (· ++ [59])).flatten) := by
  induction outs generalizing p with
  | nil => simp
  | cons o r ih =>
    rw [List.foldl_cons, show strF (es, p) o = ((lineE es o).1, p ++ (lineE es o).2 ++ [59]) from rfl, lineE_none (h o (List.mem_cons_self ..)), ih (fun x hx => h x (List.mem_cons_of_mem _ hx))]
    simp
/-- What went outside goes so again as it is, and has as many lines. -/
theorem stream_again (es xs : List (Int × Int)) (s : List UInt8) : (linesL (streamE es (linesL s)).2).length = (linesL s).length ∧ restL (streamE es (linesL s)).2 = [] ∧ streamE xs (linesL (streamE es (linesL s)).2) = (xs, (streamE es (linesL s)).2) := by
  obtain ⟨outs, h1, h2, h3⟩ := streamE_outs (linesL s) (fun l hl => line_noSemi hl) (es, [])
  have e : (streamE es (linesL s)).2 = (outs.map (· ++ [59])).flatten := by
    unfold streamE
    rw [h2]; rfl
  obtain ⟨f1, f2⟩ := lines_flat outs (fun o ho => (h3 o ho).1)
  rw [e, f1]
  refine ⟨h1, f2, ?_⟩
  unfold streamE
  rw [streamE_stays outs (fun o ho => (h3 o ho).2)]
  rfl

end Go.Proofs.YthhojghckfkdhaaGreatDoor

/- Ports and ends of a table are each other's, as data. No condition. -/
namespace Go.Proofs.YthhojghckfkdhaaGreatDoor
open Go.RowKit

theorem mapB_take {es : List (Int × Int)} (hm : mapB es = true) {k : Nat} (hk : k < es.length) : es[k] ∉ es.take k := by
  unfold mapB at hm
  simp only [Bool.and_eq_true, decide_eq_true_eq, List.all_eq_true, List.mem_range] at hm
  have := hm.2 k hk
  unfold mapP at this
  simp only [Bool.and_eq_true, decide_eq_true_eq] at this
  rw [List.getD_eq_getElem?_getD, List.getElem?_eq_getElem hk] at this
  exact findI_neg.1 this.2
theorem findI_at {es : List (Int × Int)} (hm : mapB es = true) {k : Nat} (hk : k < es.length) : findI es es[k] = k := by
  obtain ⟨j, hj, he, hn, hf⟩ := findI_mem (List.getElem_mem hk)
  rw [hf]
  rcases Nat.lt_trichotomy j k with h | h | h
  · exfalso
    refine mapB_take hm hk ?_
    rw [← he]
    exact List.mem_take_iff_getElem.2 ⟨j, by omega, rfl⟩
  · rw [h]
  · exfalso
    exact hn (List.mem_take_iff_getElem.2 ⟨k, by omega, rfl⟩)
/-- An end that a port names has that port. -/
theorem port_of_end {es : List (Int × Int)} {q : Int} {e : Int × Int} (hm : mapB es = true) (h : endI es q = some e) : portI es e = q := by
  unfold endI at h
  split at h
  · rename_i hq
    obtain ⟨hk, he⟩ := List.getElem?_eq_some_iff.1 h
    have hf := findI_at hm hk
    rw [he] at hf
    unfold portI
    rw [hf, if_neg (by omega)]
    omega
  · cases h
/-- A port that an end has names that end. -/
theorem end_of_port {es : List (Int × Int)} {e : Int × Int} (h : portI es e ≠ 0) : endI es (portI es e) = some e := by
  unfold portI at h ⊢
  split
  · rename_i hf
    rw [if_pos hf] at h
    exact absurd rfl h
  · rename_i hf
    have hmem : e ∈ es := by
      refine Classical.byContradiction fun hn => ?_
      exact hf (findI_neg.2 hn)
    obtain ⟨k, hk, he, _, hfk⟩ := findI_mem hmem
    rw [hfk]
    unfold endI
    rw [if_pos (by omega), show (500 + (k : Int) - 500).toNat = k by omega, List.getElem?_eq_getElem hk, he]

end Go.Proofs.YthhojghckfkdhaaGreatDoor

/- An end more in a table, as data: who has which port then. No condition. -/
namespace Go.Proofs.YthhojghckfkdhaaGreatDoor
open Go.RowKit

theorem findI_app {us vs : List (Int × Int)} {x : Int × Int} (h : x ∈ us) : findI (us ++ vs) x = findI us x := by
  obtain ⟨k, hk, he, hn, hf⟩ := findI_mem h
  rw [hf]
  refine findI_hit (by rw [List.length_append]; omega) (by rw [List.getElem_append_left hk]; exact he) (fun j hj hje => hn ?_)
  rw [List.getElem_append_left (by omega)] at hje
  exact List.mem_take_iff_getElem.2 ⟨j, by omega, hje⟩
theorem portI_app {us vs : List (Int × Int)} {x : Int × Int} (h : x ∈ us) : portI (us ++ vs) x = portI us x := by
  unfold portI; rw [findI_app h]
theorem portI_pos' {es : List (Int × Int)} {e : Int × Int} : 0 < portI es e ↔ e ∈ es := by
  constructor
  · intro h
    refine Classical.byContradiction fun hn => ?_
    unfold portI at h
    rw [if_pos (findI_neg.2 hn)] at h
    omega
  · intro h
    unfold portI
    rw [if_neg (fun h2 => findI_neg.1 h2 h)]
    have := findI_bounds es e
    have h3 : ¬ findI es e < 0 := fun h2 => findI_neg.1 h2 h
    omega
theorem putE_fst (us : List (Int × Int)) (e : Int × Int) : (putE us e).1 = if e ∈ us ∨ us.length = 6 then us else us ++ [e] := by
  by_cases h : e ∈ us
  · rw [putE_has h, if_pos (.inl h)]
  · by_cases h6 : us.length = 6
    · rw [putE_full h h6, if_pos (.inr h6)]
    · rw [putE_new h h6, if_neg (by rintro (h1 | h1); exact h h1; exact h6 h1)]
theorem putE_pre (us : List (Int × Int)) (e : Int × Int) : ∃ t, (putE us e).1 = us ++ t ∧ t.length ≤ 1 := by
  rw [putE_fst]
  split
  · exact ⟨[], by simp, by simp⟩
  · exact ⟨[e], rfl, by simp⟩
theorem putE_port {us : List (Int × Int)} {e : Int × Int} (h : (putE us e).2 ≠ 0) : portI (putE us e).1 e = (putE us e).2 := by
  by_cases hm : e ∈ us
  · rw [putE_has hm]
  · by_cases h6 : us.length = 6
    · rw [putE_full hm h6] at h; exact absurd rfl h
    · rw [putE_new hm h6]
      show portI (us ++ [e]) e = _
      unfold portI
      have : findI (us ++ [e]) e = (us.length : Int) := by
        refine findI_hit (k := us.length) (by simp) (by simp) (fun j hj hje => hm ?_)
        rw [List.getElem_append_left hj] at hje
        rw [← hje]; exact List.getElem_mem _
      rw [this, if_neg (by omega)]
theorem putE_zero {us : List (Int × Int)} {e : Int × Int} (h : (putE us e).2 = 0) : portI us e = 0 ∧ us.length = 6 ∧ (putE us e).1 = us := by
  by_cases hm : e ∈ us
  · have := portI_pos'.2 hm
    rw [putE_has hm] at h
    simp only at h
    omega
  · by_cases h6 : us.length = 6
    · refine ⟨?_, h6, by rw [putE_full hm h6]⟩
      have : ¬ 0 < portI us e := fun h2 => hm (portI_pos'.1 h2)
      unfold portI at this ⊢
      rw [if_pos (findI_neg.2 hm)]
    · rw [putE_new hm h6] at h
      simp only at h
      omega
theorem putE_had {us : List (Int × Int)} {e : Int × Int} (h : portI us e ≠ 0) : portI us e = (putE us e).2 := by
  have hm : e ∈ us := by
    refine Classical.byContradiction fun hn => ?_
    unfold portI at h
    rw [if_pos (findI_neg.2 hn)] at h
    exact h rfl
  rw [putE_has hm]
theorem putE_snd_bound (us : List (Int × Int)) (e : Int × Int) (h6 : us.length ≤ 6) : 0 ≤ (putE us e).2 ∧ (putE us e).2 ≤ 506 := by
  have hb := findI_bounds us e
  unfold putE
  split
  · unfold portI; simp only; split <;> omega
  · split
    · simp
    · simp only; omega
theorem put_two_len (us : List (Int × Int)) (a b : Int × Int) : (putE (putE us a).1 b).1.length = (putE (putE us b).1 a).1.length := by
  simp only [putE_fst]
  by_cases ha : a ∈ us <;> by_cases hb : b ∈ us <;> by_cases h6 : us.length = 6 <;> by_cases h5 : us.length = 5 <;> by_cases hab : a = b <;> first
    | (subst hab; rfl)
    | (have hba : ¬ b = a := fun h => hab h.symm
       simp [ha, hb, h6, h5, hab, hba])
theorem put_two_has {us : List (Int × Int)} {a b : Int × Int} (hno : ¬ (a ∈ (putE (putE us a).1 b).1 ∧ b ∈ (putE (putE us a).1 b).1)) : 5 ≤ us.length ∧ (us.length = 6 ∨ a ∈ (putE (putE us a).1 b).1) := by
  simp only [putE_fst] at hno ⊢
  by_cases ha : a ∈ us <;> by_cases hb : b ∈ us <;> by_cases h6 : us.length = 6 <;> by_cases h5 : us.length = 5 <;> by_cases hab : a = b <;> first
    | (subst hab; simp [ha, h6, h5] at hno ⊢ <;> omega)
    | (have hba : ¬ b = a := fun h => hab h.symm
       simp [ha, hb, h6, h5, hab, hba] at hno ⊢ <;> omega)

end Go.Proofs.YthhojghckfkdhaaGreatDoor

/- What goes outside once goes so again: with the table behind it, and with any that has more ends behind these; and so does each beginning. No condition. -/
namespace Go.Proofs.YthhojghckfkdhaaGreatDoor
open Go.RowKit

theorem putE_six' {T : List (Int × Int)} {e : Int × Int} (h : T.length ≤ 6) : (putE T e).1.length ≤ 6 := by
  rw [putE_fst]
  split
  · exact h
  · rename_i hn
    have : T.length ≠ 6 := fun h6 => hn (.inr h6)
    simp; omega
theorem putE_again {T t : List (Int × Int)} {e : Int × Int} (h : T.length ≤ 6) (h2 : ((putE T e).1 ++ t).length ≤ 6) : putE ((putE T e).1 ++ t) e = ((putE T e).1 ++ t, (putE T e).2) := by
  by_cases hm : e ∈ T
  · rw [putE_has hm]
    rw [putE_has (List.mem_append_left _ hm)]
    rw [portI_app hm]
  · by_cases h6 : T.length = 6
    · rw [putE_full hm h6] at h2 ⊢
      have ht : t = [] := by
        rcases t with _ | ⟨x, r⟩
        · rfl
        · simp at h2; omega
      subst ht
      simp only [List.append_nil]
      rw [putE_full hm h6]
    · have hp : (putE T e).2 ≠ 0 := by rw [putE_new hm h6]; simp only; omega
      have hq := putE_port hp
      rw [putE_new hm h6] at hq ⊢
      have hm2 : e ∈ T ++ [e] := by simp
      rw [putE_has (List.mem_append_left _ hm2), portI_app hm2]
      simp only at hq ⊢
      rw [hq]
theorem lineE_pre (T : List (Int × Int)) (l : List UInt8) : ∃ t, (lineE T l).1 = T ++ t := by
  rcases h : saysE l with _ | e
  · exact ⟨[], by rw [lineE_none h]; simp⟩
  · obtain ⟨t, ht, _⟩ := putE_pre T e
    exact ⟨t, by rw [lineE_some h]; exact ht⟩
theorem lineE_six {T : List (Int × Int)} {l : List UInt8} (h : T.length ≤ 6) : (lineE T l).1.length ≤ 6 := by
  rcases hs : saysE l with _ | e
  · rw [lineE_none hs]; exact h
  · rw [lineE_some hs]; exact putE_six' h
theorem lineE_again {T t : List (Int × Int)} {l : List UInt8} (h : T.length ≤ 6) (h2 : ((lineE T l).1 ++ t).length ≤ 6) : lineE ((lineE T l).1 ++ t) l = ((lineE T l).1 ++ t, (lineE T l).2) := by
  rcases hs : saysE l with _ | e
  · rw [lineE_none hs, lineE_none hs]
  · rw [lineE_some hs] at h2 ⊢
    simp only at h2 ⊢
    rw [lineE_some hs, putE_again h h2]
theorem fold_pre (ls : List (List UInt8)) (T : List (Int × Int)) (p : List UInt8) : ∃ t, (ls.foldl strF (T, p)).1 = T ++ t := by
  induction ls generalizing T p with
  | nil => exact ⟨[], by simp⟩
  | cons l r ih =>
    obtain ⟨t1, h1⟩ := lineE_pre T l
    obtain ⟨t2, h2⟩ := ih (lineE T l).1 (p ++ (lineE T l).2 ++ [59])
    refine ⟨t1 ++ t2, ?_⟩
    rw [List.foldl_cons, show strF (T, p) l = ((lineE T l).1, p ++ (lineE T l).2 ++ [59]) from rfl, h2, h1, List.append_assoc]
theorem fold_again (ls : List (List UInt8)) (T t : List (Int × Int)) (p : List UInt8) (h : T.length ≤ 6) (h2 : ((ls.foldl strF (T, p)).1 ++ t).length ≤ 6) :
    ls.foldl strF ((ls.foldl strF (T, p)).1 ++ t, p) = ((ls.foldl strF (T, p)).1 ++ t, (ls.foldl strF (T, p)).2) := by
  induction ls generalizing T p with
  | nil => rfl
  | cons l r ih =>
    have e1 : strF (T, p) l = ((lineE T l).1, p ++ (lineE T l).2 ++ [59]) := rfl
    simp only [List.foldl_cons, e1] at h2 ⊢
    obtain ⟨t1, ht1⟩ := fold_pre r (lineE T l).1 (p ++ (lineE T l).2 ++ [59])
    have hE : (r.foldl strF ((lineE T l).1, p ++ (lineE T l).2 ++ [59])).1 ++ t = (lineE T l).1 ++ (t1 ++ t) := by rw [ht1, List.append_assoc]
    have hl := lineE_again (t := t1 ++ t) h (by rw [← hE]; exact h2)
    have e2 : strF ((r.foldl strF ((lineE T l).1, p ++ (lineE T l).2 ++ [59])).1 ++ t, p) l = ((r.foldl strF ((lineE T l).1, p ++ (lineE T l).2 ++ [59])).1 ++ t, p ++ (lineE T l).2 ++ [59]) := by
      rw [hE]
      show ((lineE ((lineE T l).1 ++ (t1 ++ t)) l).1, p ++ (lineE ((lineE T l).1 ++ (t1 ++ t)) l).2 ++ [59]) = _
      rw [hl]
    rw [e2]
    exact ih (lineE T l).1 (p ++ (lineE T l).2 ++ [59]) (lineE_six h) h2
theorem shift_two (ls : List (List UInt8)) (es : List (Int × Int)) (p : List UInt8) : ∃ q, (ls.foldl strF (es, p)).2 = p ++ q := by
  induction ls generalizing es p with
  | nil => exact ⟨[], by simp⟩
  | cons l r ih =>
    obtain ⟨q, hq⟩ := ih (lineE es l).1 (p ++ (lineE es l).2 ++ [59])
    refine ⟨(lineE es l).2 ++ [59] ++ q, ?_⟩
    rw [List.foldl_cons, show strF (es, p) l = ((lineE es l).1, p ++ (lineE es l).2 ++ [59]) from rfl, hq]
    simp
/-- The promise, as data. -/
theorem stream_stays {us t : List (Int × Int)} {s : List UInt8} (h : us.length ≤ 6) (h2 : ((streamE us (linesL s)).1 ++ t).length ≤ 6) (k : Nat) :
    ∃ q, streamE ((streamE us (linesL s)).1 ++ t) (linesL (s.take k)) = ((streamE us (linesL s)).1 ++ t, (streamE us (linesL (s.take k))).2) ∧ (streamE us (linesL s)).2 = (streamE us (linesL (s.take k))).2 ++ q := by
  obtain ⟨r, hr⟩ := lines_take s k
  have e : streamE us (linesL s) = r.foldl strF (streamE us (linesL (s.take k))) := by
    unfold streamE
    rw [← hr, List.foldl_append]
  obtain ⟨⟨T1, T2⟩, hT⟩ : ∃ T, T = streamE us (linesL (s.take k)) := ⟨_, rfl⟩
  rw [← hT] at e ⊢
  obtain ⟨t1, ht1⟩ := fold_pre r T1 T2
  obtain ⟨q, hq⟩ := shift_two r T1 T2
  refine ⟨q, ?_, by rw [e]; exact hq⟩
  have hs : (streamE us (linesL s)).1 ++ t = T1 ++ (t1 ++ t) := by rw [e, ht1, List.append_assoc]
  have hT1 : T1 = ((linesL (s.take k)).foldl strF (us, [])).1 := by
    have := congrArg (·.1) hT
    exact this
  have hT2 : T2 = ((linesL (s.take k)).foldl strF (us, [])).2 := by
    have := congrArg (·.2) hT
    exact this
  rw [hs] at h2 ⊢
  rw [hT1] at h2 ⊢
  rw [hT2]
  exact fold_again (linesL (s.take k)) us (t1 ++ t) [] h h2

end Go.Proofs.YthhojghckfkdhaaGreatDoor

/- StrLines of the program: the lines of a text as a list of its own, and what is behind the last sign. Condition: the text has at most 2^21 bytes. -/
namespace Go.Proofs.YthhojghckfkdhaaGreatDoor
open Go.RowKit Go.Shelf

set_option maxRecDepth 100000 in
set_option maxHeartbeats 2000000 in
theorem append_in (n : Nat) (hn : 3 ≤ n) (s : ByteArray) (hs : s.size ≤ 2097152) (Bn : Nat) (w : World) (hBn : Bn < w.heap.size) (hc : w.cell? ⟨Bn, 0, none⟩ = some (.string s)) :
    CallsIn Fence.wide n Tryz.prog 112 #[.slice none 0 0, .func (.func 109) #[] #[.pointer (some ⟨Bn, 0, none⟩)]] w fun e w' => ∃ v, e = .returned v ∧ w'.ownsRow w.heap.size 9 1 v (linesL s.data.toList).length ((linesL s.data.toList).map strV) ∧ Below w.heap.size w w' := by
  have h1 : 1 ≤ n := by omega
  have hll := lines_len s.data.toList
  rw [len_list] at hll
  obtain ⟨i0, hi, hz0, hz1, hz2⟩ := info_parts infoStr
  refine callsIn_of_wp_marks Tryz.func112 rfl trivial ?_ rfl
  simp only [Tryz.ntmps112, List.size_toArray, List.length_cons, List.length_nil, Nat.reduceAdd, Nat.reduceSub, Array.replicate_succ, Array.replicate_zero, List.push_toArray, List.append_toArray, List.nil_append, List.cons_append]
  gi_wp2
  have bO := Boxed.new w 40 (.slice none 0 0)
  have hB0 : Below w.heap.size w (w.alloc (.cells #[.slice none 0 0] 40)) := (Below.refl _ w).alloc (Nat.le_refl _) _
  refine wpIn_rangeFunc_ownG rfl h1 (gf := 109) (lb := #[.pointer (some ⟨Bn, 0, none⟩)]) rfl trivial (enters_of Tryz.func109 (by kernel_rfl) rfl)
    (tell_stops (n - 1) (by omega) Bn s hs (w.alloc (.cells #[.slice none 0 0] 40)) (by simp; omega) ((hB0.cell (p := ⟨Bn, 0, none⟩) hBn).trans hc)) (fun _ _ => trivial) (fun _ _ _ _ _ _ _ _ => trivial) (Below.refl _ _) (fun _ => rfl)
    (fun pre W => (∃ v, Boxed W w.heap.size 40 v ∧ W.ownsRow w.heap.size 9 1 v pre.length (pre.map strV) ∧ True) ∧ Below w.heap.size w W)
    (fun _ _ _ => False)
    (OwnFrom.and (Own.from (holdsRow_own w.heap.size w.heap.size 40 9 1 (fun pre : List (List UInt8) => pre.length) (fun pre => pre.map strV) (fun _ _ => True)) _) (ownFrom_below (Nat.le_refl _) (by simp)))
    (fun _ _ _ _ _ hs _ _ => hs)
    ⟨⟨_, bO, World.ownsRow_nil _ _ _ _, trivial⟩, hB0⟩
    (fun x => { tmps := #[.slice none 0 0, .func (.func 109) #[] #[.pointer (some ⟨Bn, 0, none⟩)], .pointer (some ⟨w.heap.size, 0, none⟩), undef, .slice none 0 0, .string ⟨x.toArray⟩, .func (.func 109) #[] #[.pointer (some ⟨Bn, 0, none⟩)], .string ⟨x.toArray⟩, undef, undef, undef, undef, undef], defers := [] }) ?assign ?body ?done ?stop
  case assign =>
    intro l x W K hK
    gi_wp2_with (rw [Oper.semAt_eq _ _ _ (fun c h => by cases h)]; go_simp; try go_bits)
    exact hK
  case body =>
    rintro l pre x W ⟨⟨v, hv, hrow, _⟩, hB⟩ hlt
    have hc := hv.cell
    have hpl : (pre.map strV).length = pre.length := List.length_map _
    gi_wp2_with (first
      | (gi_at_builtin; refine wpListIn_append_own _ rfl _ _ 40 rfl w.heap.size 9 i0 (.string ⟨#[]⟩) 1 16 Tryz.underlying40 hi hz0 hz1 hz2 rfl (by decide) _ _ _ rfl (hrow.alloc _) ⟨W.heap.size, 0, none⟩ 1 1 [.string ⟨x.toArray⟩] rfl rfl (cell_one_new _ _ _) (by simp [Value.oneCell']) (by unfold maxLen; omega) (by omega) (by have := hB.size; simp; omega) ?_; intro v' w1 hown' hgrow _; obtain ⟨g', cap', rfl⟩ := ownsRow_succ hown'; obtain ⟨hv1, hv2, hr2, hk2, hb2⟩ := hv.appended (by decide) hrow hB.size (Nat.le_refl _) hown' hgrow; have hc1 := hv1.cell; have hf1 := hv1.frozen)
      | (rw [Oper.semAt_eq _ _ _ (fun c h => by cases h)]; go_simp; try go_bits))
    exact ⟨hk2.from _, trivial, ⟨_, hv2, by simpa [strV] using hr2, trivial⟩, hB.trans hb2⟩
  case done =>
    rintro D ys W hD rfl ⟨⟨v, hv, hrow, _⟩, hB⟩ hK
    have hc := hv.cell
    gi_wp2
    refine ⟨by simp, .inl ⟨_, _, rfl, run_takeDeferred hK, ?_⟩⟩
    exact ⟨_, results_tmp rfl _ _ _, v, rfl, ownsRow_putObj hrow _ hK rfl, hB.trans (belowK_b (w := w) (Nat.le_refl _) W D _ _ (by simp at hD; omega) hK rfl rfl)⟩
  case stop =>
    rintro D c pre W _ _ h _
    exact h.elim

set_option maxRecDepth 100000 in
set_option maxHeartbeats 800000 in
theorem collect_any (s : ByteArray) (hs : s.size ≤ 2097152) (Bn : Nat) (w : World) (hBn : Bn < w.heap.size) (hc : w.cell? ⟨Bn, 0, none⟩ = some (.string s)) :
    Calls Tryz.prog 78 #[.func (.func 109) #[] #[.pointer (some ⟨Bn, 0, none⟩)]] w fun e w' => ∃ v, e = .returned v ∧ w'.ownsRow w.heap.size 9 1 v (linesL s.data.toList).length ((linesL s.data.toList).map strV) ∧ Below w.heap.size w w' := by
  have HA := Lib.hid (callsIn_wide.1 (append_in 3 (by omega) s hs Bn w hBn hc))
  clear hc
  go_enter Tryz.func78, Tryz.ntmps78
  go_wp2_with (go_at_call 112; refine HA.out.mono ?_; rintro e w' ⟨v, rfl, ho, hb⟩)
  obtain ⟨a1, cap1, rfl⟩ := own_form ho
  go_ret
  exact ⟨_, rfl, ho, hb⟩

set_option maxRecDepth 100000 in
set_option maxHeartbeats 800000 in
theorem implLines_any (s : ByteArray) (w : World) (hs : s.size ≤ 2097152) :
    Calls Tryz.prog 33 #[.string s] w fun e w' => ∃ v, e = .returned (.tuple #[v, .string ⟨(restL s.data.toList).toArray⟩]) ∧ w'.ownsRow w.heap.size 9 1 v (linesL s.data.toList).length ((linesL s.data.toList).map strV) ∧ Below w.heap.size w w' := by
  go_enter Tryz.func33, Tryz.ntmps33
  go_wp2_with (first
    | (go_at_call 74; refine (linesOf_any _ _).mono ?_; rintro e w' ⟨rfl, rfl⟩)
    | (go_at_call 78; refine (collect_any s hs w.heap.size _ (by simp) (by simp)).mono ?_; rintro e w1 ⟨v, rfl, ho, hb⟩; obtain ⟨a1, cap1, rfl⟩ := own_form ho)
    | (go_at_call 79; refine (rest_any _ _ (by omega)).mono ?_; rintro e w2 ⟨rfl, rfl⟩))
  go_ret2
  exact ⟨_, rfl, own_base ho (by simp), below_box hb⟩

end Go.Proofs.YthhojghckfkdhaaGreatDoor

/- What a list of texts reads as, in a world. No condition. -/
namespace Go.Proofs.YthhojghckfkdhaaGreatDoor
open Go.RowKit

/-- The cells of a row, none of them frozen. -/
def RowAt (w : World) (g : Nat) (xs : List Value) : Prop := ∀ i (hi : i < xs.length), w.cell? ⟨g, i, none⟩ = some xs[i] ∧ w.frozen? ⟨g, i, none⟩ = false
theorem RowAt.below {w w' : World} {B g : Nat} {xs : List Value} (h : RowAt w g xs) (hb : Below B w w') (hg : g < B) : RowAt w' g xs :=
  fun i hi => ⟨(hb.cell (p := ⟨g, i, none⟩) hg).trans (h i hi).1, (hb.frozen (p := ⟨g, i, none⟩) hg).trans (h i hi).2⟩
theorem RowAt.lt {w : World} {g : Nat} {xs : List Value} (h : RowAt w g xs) (hn : 0 < xs.length) : g < w.heap.size := World.block_lt_of_cell? w _ (h 0 hn).1
theorem addr_ne {g i j : Nat} (h : i ≠ j) : (⟨g, i, none⟩ : Addr) ≠ ⟨g, j, none⟩ := by intro e; injection e with _ e2; exact h e2
theorem RowAt.set {w : World} {g i : Nat} {xs : List Value} (h : RowAt w g xs) (hi : i < xs.length) (u : Value) : RowAt (w.setCell ⟨g, i, none⟩ u) g (xs.set i u) := by
  intro j hj
  have hj' : j < xs.length := by simpa using hj
  refine ⟨?_, by rw [World.frozen?_setCell]; exact (h j hj').2⟩
  by_cases e : i = j
  · subst e
    rw [World.cell?_setCell_same _ _ _ (h i hi).1]; simp
  · rw [World.cell?_setCell_other _ _ _ u (addr_ne e), (h j hj').1]
    simp [e]
/-- A slice reads as these cells. -/
def RdV (w : World) (v : Value) (xs : List Value) : Prop := ∃ a cap, v = .slice a xs.length cap ∧ (0 < xs.length → ∃ g, a = some ⟨g, 0, none⟩ ∧ RowAt w g xs)
theorem RdV.below {w w' : World} {v : Value} {xs : List Value} (h : RdV w v xs) (hb : Below w.heap.size w w') : RdV w' v xs := by
  obtain ⟨a, cap, rfl, hr⟩ := h
  refine ⟨a, cap, rfl, fun hn => ?_⟩
  obtain ⟨g, rfl, hrow⟩ := hr hn
  exact ⟨g, rfl, hrow.below hb (hrow.lt hn)⟩
theorem RdV.of_own {w : World} {B n : Nat} {e : TypeId} {v : Value} {xs : List Value} (h : w.ownsRow B e 1 v n xs) : RdV w v xs ∧ xs.length = n := by
  have hl : xs.length = n := by rw [h.1]; omega
  obtain ⟨a, cap, e⟩ := own_form h
  refine ⟨⟨a, cap, by rw [e, hl], fun hn => ?_⟩, hl⟩
  obtain ⟨g, cap', e', _, _, _, hc⟩ := own_cells h (by omega)
  rw [e] at e'
  simp at e'
  exact ⟨g, e'.1, hc⟩
theorem eq_cell {w : World} {g i : Nat} {xs : List Value} (h : RowAt w g xs) (hi : i < xs.length) : w.cell? ⟨g, i, none⟩ = some xs[i] := (h i hi).1

end Go.Proofs.YthhojghckfkdhaaGreatDoor

/- Blocks that hold structs of one type: a table's row lies in none of them. No condition. -/
namespace Go.Proofs.YthhojghckfkdhaaGreatDoor
open Go.RowKit

/-- A block of cells of this type. -/
def TagT (w : World) (b : Nat) (t : TypeId) : Prop := ∃ cs fz, w.heap[b]? = some (.cells cs t fz)
theorem TagT.later {w w' : World} {b : Nat} {t : TypeId} (h : TagT w b t) (hb : Below w.heap.size w w') : TagT w' b t := by
  obtain ⟨cs, fz, h⟩ := h
  exact ⟨cs, fz, (hb.block b (Array.getElem?_eq_some_iff.1 h).1).trans h⟩
theorem TagT.new (w : World) (cs : Array Value) (t : TypeId) : TagT (w.alloc (.cells cs t)) w.heap.size t := ⟨cs, _, heap_alloc_new w (.cells cs t)⟩
theorem OwnTab.setTagT {w : World} {B : Nat} {v : Value} {es : List (Int × Int)} {t : TypeId} (h : OwnTab w B v es) {a : Addr} (ht : TagT w a.block t) (hne : t ≠ 34) (u : Value) : OwnTab (w.setCell a u) B v es := by
  refine ⟨h.1, ?_⟩
  rcases h.2 with h2 | ⟨g, cap, cur, hv, hB, hg, r⟩
  · exact .inl h2
  · refine .inr ⟨g, cap, cur, hv, hB, ?_, r⟩
    rw [Below.heap_setCell _ _ _ _ fun e => ?_]
    · exact hg
    · obtain ⟨cs, fz, h1⟩ := ht
      rw [← e, hg] at h1
      injection h1 with h1
      injection h1 with _ h2 _
      exact hne h2.symm
theorem tabT_ne : (25 : TypeId) ≠ 34 := by decide
theorem TagT.setCell {w : World} {b : Nat} {t : TypeId} (h : TagT w b t) (a : Addr) (u : Value) : TagT (w.setCell a u) b t := by
  obtain ⟨cs, fz, h⟩ := h
  by_cases e : b = a.block
  · subst e
    refine ⟨if a.spot.isSome then cs else cs.setIfInBounds a.off u, fz, ?_⟩
    show (w.heap.modify a.block _)[a.block]? = _
    rw [Array.getElem?_modify]
    simp [h]
  · exact ⟨cs, fz, (Below.heap_setCell _ _ _ _ e).trans h⟩

end Go.Proofs.YthhojghckfkdhaaGreatDoor

/- The law that what goes outside once goes so again: at every two codes. Conditions: the codes lie in memory; the variables that are read hold what they are laid with. -/
namespace Go.Proofs.YthhojghckfkdhaaGreatDoor
open Go.RowKit Go.Sort

theorem boxD {w w' : World} {b i : Nat} {v : Value} (h : w.cell? ⟨b, i, none⟩ = some v) (hb : Below w.heap.size w w') : w'.cell? ⟨b, i, none⟩ = some v := by
  rw [hb.cell (p := ⟨b, i, none⟩) (World.block_lt_of_cell? w _ h)]; exact h
theorem boxF {w w' : World} {b i : Nat} {v : Value} (h : w.cell? ⟨b, i, none⟩ = some v) (hf : w.frozen? ⟨b, i, none⟩ = false) (hb : Below w.heap.size w w') : w'.frozen? ⟨b, i, none⟩ = false := by
  rw [hb.frozen (p := ⟨b, i, none⟩) (World.block_lt_of_cell? w _ h)]; exact hf
theorem SmE.wfE {us : List (Int × Int)} (h : SmE us) : wfE us := fun x hx => (h x hx).wf
theorem fzAt {w : World} {cs : Array Value} {t : TypeId} {b : Nat} (h : b = w.heap.size) : (w.alloc (.cells cs t)).frozen? ⟨b, 0, none⟩ = false := by subst h; exact (cell_new _ _ _ 0).2
theorem tagAt {w : World} {cs : Array Value} {t : TypeId} {b : Nat} (h : b = w.heap.size) : TagT (w.alloc (.cells cs t)) b t := by subst h; exact TagT.new _ _ _
/-- RwrStream of the program answers a table in memory of its own. -/
theorem implStrO (v : Value) (es : List (Int × Int)) (s : ByteArray) (w : World) (hn : es.length ≤ 4194304) (hs : s.size ≤ 2097152) (ht : TabAt w v es) (hm : mapB es = true) (hi : strB s.data.toList = true) (hv : VarsOk w) :
    Calls Tryz.prog 30 #[.agg #[v], .string s] w fun e w' => ∃ g c, e = .returned (.tuple #[.agg #[.slice g (streamE es (linesL s.data.toList)).1.length c], .string ⟨(streamE es (linesL s.data.toList)).2.toArray⟩]) ∧ OwnTab w' 0 (.slice g (streamE es (linesL s.data.toList)).1.length c) (streamE es (linesL s.data.toList)).1 ∧ Below w.heap.size w w' := by
  refine (implStream_ok v es s w hn hs ht hm hi hv).mono ?_
  rintro e w' ⟨g, c, rfl, ho, hb⟩
  exact ⟨_, _, rfl, ho.mono (Nat.zero_le _), hb⟩

set_option maxRecDepth 100000 in
set_option maxHeartbeats 12800000 in
theorem lwRwrStays_of (ao : Option Addr) (n cap : Nat) (ao2 : Option Addr) (n2 cap2 : Nat) (w : World) (h : BytesIn w ao n) (hn : n ≤ cap) (h2 : BytesIn w ao2 n2) (hn2 : n2 ≤ cap2) (hv : VarsOk w) (hb1 : ¬ 1048576 < n) (hb2 : ¬ 1048576 < n2) :
    Calls Tryz.prog 5 #[.slice ao n cap, .slice ao2 n2 cap2] w fun e w' => e = .returned (.bool true) ∧ Below w.heap.size w w' := by
  have H := Lib.hid h
  have HB2 : Hid (∀ w', Below w.heap.size w w' → BytesIn w' ao2 n2) := fun w' hb => h2.below hb
  have HV : Hid (∀ w', Below w.heap.size w w' → VarsOk w') := fun w' h => hv.below h
  clear h h2 hv
  go_enter Tryz.func5, Tryz.ntmps5
  go_wp2_with fail
  (go_at_call 29; refine (drawRwrStream_any ao n cap _ H.out hn).mono ?_; rintro e w1 ⟨g1, k1, us, s, rfl, o1, ⟨u8, sm1⟩, hss, b1⟩)
  have BW := Lib.hid b1
  have Tt := Lib.hid (o1.mono (Nat.zero_le _))
  clear b1 o1 H sm1
  obtain ⟨mb, hmb⟩ : ∃ mb, mb = mapB us := ⟨_, rfl⟩
  obtain ⟨sa, hsa⟩ : ∃ sa, sa = strB s.data.toList := ⟨_, rfl⟩
  have HMO : Hid (∀ w, TabAt w (.slice g1 us.length k1) us → Calls Tryz.prog 20 #[.agg #[.slice g1 us.length k1]] w fun e w' => e = .returned (.bool mb) ∧ Below w.heap.size w w') := fun w ht => by rw [hmb]; exact specMapOk_any _ us w (by omega) ht
  have HOA : Hid (∀ w, Calls Tryz.prog 32 #[.string s] w fun e w' => e = .returned (.bool sa) ∧ Below w.heap.size w w') := fun w => by rw [hsa]; exact specStr_any s w (by omega)
  have HMB := Lib.hid hmb
  have HSAQ := Lib.hid hsa
  clear hmb hsa
  go_wp2_with fail
  obtain ⟨W1, hW1⟩ : ∃ W, W = (w1.alloc (.cells #[.slice g1 us.length k1] 25)) := ⟨_, rfl⟩
  have qW1 : Below w1.heap.size w1 W1 := by rw [hW1]; exact (Below.refl _ _).alloc (Nat.le_refl _) _
  have zW1 : w1.heap.size + 1 ≤ W1.heap.size := by rw [hW1]; simp
  have ct0 : W1.cell? ⟨w1.heap.size, 0, none⟩ = some (.slice g1 us.length k1) := by rw [hW1]; simp
  replace Tt := Lib.hid (Tt.out.below qW1)
  have BWz := BW.out.size
  replace BW := Lib.hid (BW.out.trans (qW1.mono BW.out.size))
  rw [← hW1]
  obtain ⟨bt, hbt⟩ : ∃ b, b = w1.heap.size := ⟨_, rfl⟩
  have lt : bt < W1.heap.size := by omega
  rw [← hbt] at ct0 ⊢
  have mt : w.heap.size ≤ bt := by have := BWz; omega
  clear hbt hW1
  clear qW1 zW1 BWz
  (go_at_call 20; refine (HMO.out _ Tt.out.tab).mono ?_; rintro e w2x ⟨rfl, qb⟩)
  have zb := qb.size
  replace ct0 := boxD ct0 qb
  replace lt : bt < w2x.heap.size := by omega
  replace Tt := Lib.hid (Tt.out.below qb)
  replace BW := Lib.hid (BW.out.trans (qb.mono BW.out.size))
  clear qb zb
  cases mb
  · go_wp2_with fail
    (go_at_call 22; refine (haOk_any _).mono ?_; rintro e wl ⟨rfl, rfl⟩)
    go_wp2_with fail
    go_ret
    exact ⟨rfl, BW.out⟩
  · go_wp2_with fail
    (go_at_call 32; refine (HOA.out _).mono ?_; rintro e w3x ⟨rfl, qb⟩)
    have zb := qb.size
    replace ct0 := boxD ct0 qb
    replace lt : bt < w3x.heap.size := by omega
    replace Tt := Lib.hid (Tt.out.below qb)
    replace BW := Lib.hid (BW.out.trans (qb.mono BW.out.size))
    clear qb zb
    cases sa
    · go_wp2_with fail
      (go_at_call 22; refine (haOk_any _).mono ?_; rintro e wl ⟨rfl, rfl⟩)
      go_wp2_with fail
      go_ret
      exact ⟨rfl, BW.out⟩
    · have hm : mapB us = true := HMB.out.symm
      have hs : strB s.data.toList = true := HSAQ.out.symm
      have hmx : mapB (streamE us (linesL s.data.toList)).1 = true := streamE_ok hm _
      have hu6 := mapB_le hm
      have hx6 := mapB_le hmx
      obtain ⟨hy1, hrest, hy2⟩ := stream_again us us s.data.toList
      obtain ⟨outs, hoz, houts, hsay⟩ := streamE_outs (linesL s.data.toList) (fun l hl => line_noSemi hl) (us, [])
      have hq1 := strA_len us s.data.toList
      rw [show strA us s.data.toList = streamE us (linesL s.data.toList) from strA_yes (by rw [hm, hs]; rfl)] at hq1
      have hlin : linesL (streamE us (linesL s.data.toList)).2 = outs := by
        have e1 : (streamE us (linesL s.data.toList)).2 = (outs.map (· ++ [59])).flatten := by
          unfold streamE; rw [houts]; rfl
        rw [e1]
        exact (lines_flat outs (fun o ho => (hsay o ho).1)).1
      have HST : Hid (∀ t, mapB ((streamE us (linesL s.data.toList)).1 ++ t) = true → ∀ k, streamE ((streamE us (linesL s.data.toList)).1 ++ t) (linesL (s.data.toList.take k)) = ((streamE us (linesL s.data.toList)).1 ++ t, (streamE us (linesL (s.data.toList.take k))).2) ∧ ∃ q, (streamE us (linesL s.data.toList)).2 = (streamE us (linesL (s.data.toList.take k))).2 ++ q) := fun t ht k => by
        obtain ⟨q, h1, h2⟩ := stream_stays (t := t) hu6 (mapB_le ht) k
        exact ⟨h1, q, h2⟩
      obtain ⟨xs, hxs⟩ : ∃ xs, xs = (streamE us (linesL s.data.toList)).1 := ⟨_, rfl⟩
      obtain ⟨Q1, hQ1⟩ : ∃ Q1 : ByteArray, Q1 = ⟨(streamE us (linesL s.data.toList)).2.toArray⟩ := ⟨_, rfl⟩
      have hQl : (streamE us (linesL s.data.toList)).2 = Q1.data.toList := by rw [hQ1]
      have HIA : Hid (∀ w, TabAt w (.slice g1 us.length k1) us → VarsOk w → Calls Tryz.prog 30 #[.agg #[.slice g1 us.length k1], .string s] w fun e w' => ∃ g c, e = .returned (.tuple #[.agg #[.slice g xs.length c], .string Q1]) ∧ OwnTab w' 0 (.slice g xs.length c) xs ∧ Below w.heap.size w w') := fun w ht hv => by rw [hxs, hQ1]; exact implStrO _ us s w (by omega) (by omega) ht hm hs hv
      rw [hQl] at hrest hlin hq1 HST
      rw [← hxs] at hmx hx6 HST
      have hQ1s : Q1.size ≤ 2097152 := by rw [← len_list]; exact hq1
      have HK : Hid (∀ t, mapB (xs ++ t) = true → ∀ k, ∃ P : ByteArray, (∃ q, Q1.data.toList = P.data.toList ++ q) ∧ ∀ v w, TabAt w v (xs ++ t) → VarsOk w → Calls Tryz.prog 30 #[.agg #[v], .string (s.extract 0 k)] w fun e w' => ∃ g c, e = .returned (.tuple #[.agg #[.slice g (xs ++ t).length c], .string P]) ∧ OwnTab w' 0 (.slice g (xs ++ t).length c) (xs ++ t) ∧ Below w.heap.size w w') := fun t ht k => by
        obtain ⟨h1, q, h2⟩ := HST.out t ht k
        have hd : (s.extract 0 k).data.toList = s.data.toList.take k := by rw [ext_list]; simp
        have hsk : strB (s.extract 0 k).data.toList = true := by rw [hd]; exact str_take hs k
        refine ⟨⟨(streamE us (linesL (s.data.toList.take k))).2.toArray⟩, ⟨q, by rw [h2]⟩, fun v w htv hv => ?_⟩
        have hl := mapB_le ht
        have hez : (s.extract 0 k).size ≤ 2097152 := by rw [ByteArray.size_extract]; omega
        have := implStrO v (xs ++ t) (s.extract 0 k) w (by omega) hez htv ht hsk hv
        rw [hd, h1] at this
        exact this
      have HZ : Hid (∀ t, mapB (xs ++ t) = true → ∀ v w, TabAt w v (xs ++ t) → VarsOk w → Calls Tryz.prog 30 #[.agg #[v], .string s] w fun e w' => ∃ g c, e = .returned (.tuple #[.agg #[.slice g (xs ++ t).length c], .string Q1]) ∧ OwnTab w' 0 (.slice g (xs ++ t).length c) (xs ++ t) ∧ Below w.heap.size w w') := fun t ht v w htv hv => by
        obtain ⟨h1, q, h2⟩ := HST.out t ht s.data.toList.length
        rw [List.take_length] at h1 h2
        have hl := mapB_le ht
        have := implStrO v (xs ++ t) s w (by omega) (by omega) htv ht hs hv
        rw [h1, hQl] at this
        exact this
      have hli := lines_len Q1.data.toList
      rw [len_list, hlin] at hli
      have hol : outs.length ≤ 2097152 := by omega
      have HLF : Hid (∀ w, Calls Tryz.prog 33 #[.string Q1] w fun e w' => ∃ v, e = .returned (.tuple #[v, .string ⟨#[]⟩]) ∧ w'.ownsRow w.heap.size 9 1 v outs.length (outs.map strV) ∧ Below w.heap.size w w') := fun w => by
        have := implLines_any Q1 w hQ1s
        rw [hrest, hlin] at this
        exact this
      have HSAY := Lib.hid hsay
      have HOL : Hid (∀ o ∈ outs, o.length ≤ 2097152) := fun o ho => by
        have := line_len (l := Q1.data.toList) (x := o) (by rw [hlin]; exact ho)
        rw [len_list] at this
        omega
      have HMX := Lib.hid hmx
      clear hy1 hy2 hoz hm hs hmx hrest houts hsay hq1 hlin hxs hQ1 hQl HST hli
      go_wp2_with fail
      (go_at_call 30; refine (HIA.out _ Tt.out.tab (HV.out _ BW.out)).mono ?_; rintro e w4x ⟨g3, k3, rfl, f3, qb⟩)
      have zb := qb.size
      replace ct0 := boxD ct0 qb
      replace lt : bt < w4x.heap.size := by omega
      replace Tt := Lib.hid (Tt.out.below qb)
      replace BW := Lib.hid (BW.out.trans (qb.mono BW.out.size))
      clear qb zb
      have Tx := Lib.hid f3
      clear f3
      have at0 : ∀ o, (w4x.alloc o).cell? ⟨bt, 0, none⟩ = some (.slice g1 us.length k1) := fun o => by rw [cell_alloc_lt lt]; exact ct0
      go_wp2_with fail
      obtain ⟨W5, hW5⟩ : ∃ W, W = (w4x.alloc (.cells #[.slice g3 xs.length k3] 25)) := ⟨_, rfl⟩
      have qW5 : Below w4x.heap.size w4x W5 := by rw [hW5]; exact (Below.refl _ _).alloc (Nat.le_refl _) _
      have zW5 : w4x.heap.size + 1 ≤ W5.heap.size := by rw [hW5]; simp
      have ntx : bt < w4x.heap.size := lt
      replace ct0 := boxD ct0 qW5
      replace lt : bt < W5.heap.size := by omega
      have cx0 : W5.cell? ⟨w4x.heap.size, 0, none⟩ = some (.slice g3 xs.length k3) := by rw [hW5]; simp
      replace Tt := Lib.hid (Tt.out.below qW5)
      replace Tx := Lib.hid (Tx.out.below qW5)
      have BWz := BW.out.size
      replace BW := Lib.hid (BW.out.trans (qW5.mono BW.out.size))
      rw [← hW5]
      obtain ⟨bx, hbx⟩ : ∃ b, b = w4x.heap.size := ⟨_, rfl⟩
      have lx : bx < W5.heap.size := by omega
      rw [← hbx] at cx0 ⊢
      replace ntx : bt < bx := by omega
      have mx : w.heap.size ≤ bx := by have := BWz; omega
      clear hbx hW5
      clear at0
      clear qW5 zW5 BWz
      (go_at_call 29; refine (drawRwrStream_any ao2 n2 cap2 _ (HB2.out _ BW.out) hn2).mono ?_; rintro e w6x ⟨g2, k2, vs, u, rfl, _, _, hus, qb⟩)
      have zb := qb.size
      replace ct0 := boxD ct0 qb
      replace lt : bt < w6x.heap.size := by omega
      replace cx0 := boxD cx0 qb
      replace lx : bx < w6x.heap.size := by omega
      replace Tt := Lib.hid (Tt.out.below qb)
      replace Tx := Lib.hid (Tx.out.below qb)
      replace BW := Lib.hid (BW.out.trans (qb.mono BW.out.size))
      clear qb zb
      obtain ⟨su, hsu⟩ : ∃ su, su = strB u.data.toList := ⟨_, rfl⟩
      have HOU : Hid (∀ w, Calls Tryz.prog 32 #[.string u] w fun e w' => e = .returned (.bool su) ∧ Below w.heap.size w w') := fun w => by rw [hsu]; exact specStr_any u w (by omega)
      have HY : Hid (su = true → ∃ t, mapB (xs ++ t) = true ∧ ∀ v w, TabAt w v xs → VarsOk w → Calls Tryz.prog 30 #[.agg #[v], .string u] w fun e w' => ∃ g c q, e = .returned (.tuple #[.agg #[.slice g (xs ++ t).length c], .string q]) ∧ OwnTab w' 0 (.slice g (xs ++ t).length c) (xs ++ t) ∧ Below w.heap.size w w') := fun e1 => by
        rw [hsu] at e1
        obtain ⟨t, ht⟩ := fold_pre (linesL u.data.toList) xs []
        have hmu : mapB (streamE xs (linesL u.data.toList)).1 = true := streamE_ok HMX.out _
        have ht' : (streamE xs (linesL u.data.toList)).1 = xs ++ t := ht
        rw [ht'] at hmu
        refine ⟨t, hmu, fun v w htv hv => ?_⟩
        have := implStrO v xs u w (by omega) (by omega) htv HMX.out e1 hv
        rw [ht'] at this
        refine this.mono ?_
        rintro e w' ⟨g, c, rfl, ho, hb⟩
        exact ⟨g, c, _, rfl, ho, hb⟩
      clear hsu
      have at0 : ∀ o oo, ((w6x.alloc o).alloc oo).cell? ⟨bt, 0, none⟩ = some (.slice g1 us.length k1) := fun o oo => by rw [cell_alloc_lt (by simp; omega), cell_alloc_lt lt]; exact ct0
      have ax0 : ∀ o oo, ((w6x.alloc o).alloc oo).cell? ⟨bx, 0, none⟩ = some (.slice g3 xs.length k3) := fun o oo => by rw [cell_alloc_lt (by simp; omega), cell_alloc_lt lx]; exact cx0
      have et0 : ∀ o, (w6x.alloc o).cell? ⟨bt, 0, none⟩ = some (.slice g1 us.length k1) := fun o => by rw [cell_alloc_lt lt]; exact ct0
      have ex0 : ∀ o, (w6x.alloc o).cell? ⟨bx, 0, none⟩ = some (.slice g3 xs.length k3) := fun o => by rw [cell_alloc_lt lx]; exact cx0
      go_wp2_with fail
      clear et0 ex0
      obtain ⟨W7, hW7⟩ : ∃ W, W = ((w6x.alloc (.cells #[.slice g2 vs.length k2] 25)).alloc (.cells #[.slice g3 xs.length k3] 25)) := ⟨_, rfl⟩
      have qW7 : Below w6x.heap.size w6x W7 := by rw [hW7]; exact ((Below.refl _ _).alloc (Nat.le_refl _) _).alloc (by simp) _
      have zW7 : w6x.heap.size + 2 ≤ W7.heap.size := by rw [hW7]; simp
      have ntc : bt < w6x.heap.size := lt
      have ntq : bt < w6x.heap.size := lt
      have nxc : bx < w6x.heap.size := lx
      have nxq : bx < w6x.heap.size := lx
      replace ct0 := boxD ct0 qW7
      replace lt : bt < W7.heap.size := by omega
      replace cx0 := boxD cx0 qW7
      replace lx : bx < W7.heap.size := by omega
      have cc0 : W7.cell? ⟨w6x.heap.size, 0, none⟩ = some (.slice g2 vs.length k2) := by rw [hW7, cell_alloc_lt (by simp)]; exact (cell_new _ _ _ 0).1
      have cq0 : W7.cell? ⟨w6x.heap.size + 1, 0, none⟩ = some (.slice g3 xs.length k3) := by rw [hW7]; simp
      have fq : W7.frozen? ⟨w6x.heap.size + 1, 0, none⟩ = false := by rw [hW7]; exact fzAt (by simp)
      have Gq : Hid (TagT W7 (w6x.heap.size + 1) 25) := by rw [hW7]; exact Lib.hid (tagAt (by simp))
      replace Tt := Lib.hid (Tt.out.below qW7)
      replace Tx := Lib.hid (Tx.out.below qW7)
      have BWz := BW.out.size
      replace BW := Lib.hid (BW.out.trans (qW7.mono BW.out.size))
      rw [← hW7]
      obtain ⟨bq, hbq⟩ : ∃ b, b = w6x.heap.size + 1 := ⟨_, rfl⟩
      have lq : bq < W7.heap.size := by omega
      rw [← hbq] at cq0 fq Gq ⊢
      replace ntq : bt < bq := by omega
      replace nxq : bx < bq := by omega
      have mq : w.heap.size ≤ bq := by have := BWz; omega
      obtain ⟨bc, hbc⟩ : ∃ b, b = w6x.heap.size := ⟨_, rfl⟩
      have lc : bc < W7.heap.size := by omega
      rw [← hbc] at cc0 ⊢
      replace ntc : bt < bc := by omega
      replace nxc : bx < bc := by omega
      have mc : w.heap.size ≤ bc := by have := BWz; omega
      have ncq : bc < bq := by omega
      clear hbc hbq hW7
      clear at0 ax0
      clear qW7 zW7 BWz
      (go_at_call 32; refine (HOU.out _).mono ?_; rintro e w8x ⟨rfl, qb⟩)
      have zb := qb.size
      replace fq := boxF cq0 fq qb
      replace Gq := Lib.hid (Gq.out.later qb)
      replace ct0 := boxD ct0 qb
      replace lt : bt < w8x.heap.size := by omega
      replace cx0 := boxD cx0 qb
      replace lx : bx < w8x.heap.size := by omega
      replace cc0 := boxD cc0 qb
      replace lc : bc < w8x.heap.size := by omega
      replace cq0 := boxD cq0 qb
      replace lq : bq < w8x.heap.size := by omega
      replace Tt := Lib.hid (Tt.out.below qb)
      replace Tx := Lib.hid (Tx.out.below qb)
      replace BW := Lib.hid (BW.out.trans (qb.mono BW.out.size))
      clear qb zb
      cases su
      · have HZY : Hid (∀ v w, TabAt w v xs → VarsOk w → Calls Tryz.prog 30 #[.agg #[v], .string s] w fun e w' => ∃ g c, e = .returned (.tuple #[.agg #[.slice g xs.length c], .string Q1]) ∧ OwnTab w' 0 (.slice g xs.length c) xs ∧ Below w.heap.size w w') := by have := HZ.out [] (by rw [List.append_nil]; exact HMX.out); rw [List.append_nil] at this; exact this
        have HKY : Hid (∀ k, ∃ P : ByteArray, (∃ q, Q1.data.toList = P.data.toList ++ q) ∧ ∀ v w, TabAt w v xs → VarsOk w → Calls Tryz.prog 30 #[.agg #[v], .string (s.extract 0 k)] w fun e w' => ∃ g c, e = .returned (.tuple #[.agg #[.slice g xs.length c], .string P]) ∧ OwnTab w' 0 (.slice g xs.length c) xs ∧ Below w.heap.size w w') := by have := HK.out [] (by rw [List.append_nil]; exact HMX.out); rw [List.append_nil] at this; exact this
        have HHE : Hid (∀ v1 v2 w, TabAt w v1 xs → TabAt w v2 xs → Calls Tryz.prog 19 #[v1, v2] w fun e w' => e = .returned (.bool true) ∧ Below w.heap.size w w') := fun v1 v2 w h1 h2 => haEnds_same xs v1 v2 w (by omega) h1 h2
        have Ty := Tx
        clear HY HZ HK
        go_wp2_with fail
        (go_at_call 30; refine (HZY.out _ _ Ty.out.tab (HV.out _ BW.out)).mono ?_; rintro e w9x ⟨g7, k7, rfl, f7, qb⟩)
        have zb := qb.size
        replace fq := boxF cq0 fq qb
        replace Gq := Lib.hid (Gq.out.later qb)
        replace ct0 := boxD ct0 qb
        replace lt : bt < w9x.heap.size := by omega
        replace cx0 := boxD cx0 qb
        replace lx : bx < w9x.heap.size := by omega
        replace cc0 := boxD cc0 qb
        replace lc : bc < w9x.heap.size := by omega
        replace cq0 := boxD cq0 qb
        replace lq : bq < w9x.heap.size := by omega
        replace Tt := Lib.hid (Tt.out.below qb)
        replace Tx := Lib.hid (Tx.out.below qb)
        replace Ty := Lib.hid (Ty.out.below qb)
        replace BW := Lib.hid (BW.out.trans (qb.mono BW.out.size))
        clear qb zb
        have Tz := Lib.hid f7
        clear f7
        have at0 : ∀ o, (w9x.alloc o).cell? ⟨bt, 0, none⟩ = some (.slice g1 us.length k1) := fun o => by rw [cell_alloc_lt lt]; exact ct0
        have ax0 : ∀ o, (w9x.alloc o).cell? ⟨bx, 0, none⟩ = some (.slice g3 xs.length k3) := fun o => by rw [cell_alloc_lt lx]; exact cx0
        have ac0 : ∀ o, (w9x.alloc o).cell? ⟨bc, 0, none⟩ = some (.slice g2 vs.length k2) := fun o => by rw [cell_alloc_lt lc]; exact cc0
        have aq0 : ∀ o, (w9x.alloc o).cell? ⟨bq, 0, none⟩ = some (.slice g3 xs.length k3) := fun o => by rw [cell_alloc_lt lq]; exact cq0
        go_wp2_with fail
        obtain ⟨W10, hW10⟩ : ∃ W, W = (w9x.alloc (.cells #[.slice g7 xs.length k7] 25)) := ⟨_, rfl⟩
        have qW10 : Below w9x.heap.size w9x W10 := by rw [hW10]; exact (Below.refl _ _).alloc (Nat.le_refl _) _
        have zW10 : w9x.heap.size + 1 ≤ W10.heap.size := by rw [hW10]; simp
        have ntz : bt < w9x.heap.size := lt
        have nxz : bx < w9x.heap.size := lx
        have ncz : bc < w9x.heap.size := lc
        have nqz : bq < w9x.heap.size := lq
        replace fq := boxF cq0 fq qW10
        replace Gq := Lib.hid (Gq.out.later qW10)
        replace ct0 := boxD ct0 qW10
        replace lt : bt < W10.heap.size := by omega
        replace cx0 := boxD cx0 qW10
        replace lx : bx < W10.heap.size := by omega
        replace cc0 := boxD cc0 qW10
        replace lc : bc < W10.heap.size := by omega
        replace cq0 := boxD cq0 qW10
        replace lq : bq < W10.heap.size := by omega
        have cz0 : W10.cell? ⟨w9x.heap.size, 0, none⟩ = some (.slice g7 xs.length k7) := by rw [hW10]; simp
        replace Tt := Lib.hid (Tt.out.below qW10)
        replace Tx := Lib.hid (Tx.out.below qW10)
        replace Ty := Lib.hid (Ty.out.below qW10)
        replace Tz := Lib.hid (Tz.out.below qW10)
        have BWz := BW.out.size
        replace BW := Lib.hid (BW.out.trans (qW10.mono BW.out.size))
        rw [← hW10]
        obtain ⟨bz, hbz⟩ : ∃ b, b = w9x.heap.size := ⟨_, rfl⟩
        have lz : bz < W10.heap.size := by omega
        rw [← hbz] at cz0 ⊢
        replace ntz : bt < bz := by omega
        replace nxz : bx < bz := by omega
        replace ncz : bc < bz := by omega
        replace nqz : bq < bz := by omega
        have mz : w.heap.size ≤ bz := by have := BWz; omega
        clear hbz hW10
        clear at0 ax0 ac0 aq0
        clear qW10 zW10 BWz
        (go_at_call 19; refine (HHE.out _ _ _ Tz.out.tab Ty.out.tab).mono ?_; rintro e w11x ⟨rfl, qb⟩)
        have zb := qb.size
        replace fq := boxF cq0 fq qb
        replace Gq := Lib.hid (Gq.out.later qb)
        replace ct0 := boxD ct0 qb
        replace lt : bt < w11x.heap.size := by omega
        replace cx0 := boxD cx0 qb
        replace lx : bx < w11x.heap.size := by omega
        replace cc0 := boxD cc0 qb
        replace lc : bc < w11x.heap.size := by omega
        replace cq0 := boxD cq0 qb
        replace lq : bq < w11x.heap.size := by omega
        replace cz0 := boxD cz0 qb
        replace lz : bz < w11x.heap.size := by omega
        replace Tt := Lib.hid (Tt.out.below qb)
        replace Tx := Lib.hid (Tx.out.below qb)
        replace Ty := Lib.hid (Ty.out.below qb)
        replace Tz := Lib.hid (Tz.out.below qb)
        replace BW := Lib.hid (BW.out.trans (qb.mono BW.out.size))
        clear qb zb
        go_wp2_with fail
        go_loopw [14] (fun i wr => ∃ j : Nat, j ≤ s.size ∧ i = .int .i64 j ∧ Below w11x.heap.size w11x wr) (fun i _ => s.size - (intOf i).toNat)
        case atStart => exact ⟨0, Nat.zero_le _, rfl, Below.refl _ _⟩
        case round =>
          obtain ⟨j, hj, rfl, hb⟩ := hrel
          have ry := boxD cq0 hb
          have RY := Lib.hid (Ty.out.below hb)
          have HB := Lib.hid hb
          have hbz := hb.size
          have hWz := BW.out.size
          have VR : Hid (∀ w', Below wr.heap.size wr w' → VarsOk w') := fun w' h => HV.out _ (BW.out.trans ((HB.out.trans (h.mono hbz)).mono hWz))
          clear hb
          by_cases hlt : j < s.size
          · obtain ⟨P, ⟨q, hPq⟩, HPc⟩ := HKY.out j
            have HPC := Lib.hid HPc
            have HPQ := Lib.hid hPq
            clear HPc hPq
            have hjs : (j : Int) ≤ (s.size : Int) := by omega
            have mk9 : Hid (∀ w', Below wr.heap.size wr w' → w'.cell? ⟨bq, 0, none⟩ = some (.slice g3 xs.length k3) ∧ Below wr.heap.size wr w') := fun w' hb => ⟨boxD ry hb, hb⟩
            go_upto_region 17 with fail
            go_cut [16] (fun t wx => t = .string P ∧ Below wr.heap.size wr wx)
            case first =>
              go_region_held3 (fun w' => w'.cell? ⟨bq, 0, none⟩ = some (.slice g3 xs.length k3) ∧ Below wr.heap.size wr w')
                (first
                  | exact mk9.out _ (Below.refl _ _).drew
                  | exact mk9.out _ cc
                  | exact mk9.out _ (cc.alloc cc.size _)
                  | exact mk9.out _ (cc.setCell (by first | (simp; done) | (simp; omega)) _)
                  | exact mk9.out _ (((Below.refl _ _).drew).alloc (Nat.le_refl _) _)
                  | (trace_state; fail))
                (first
                  | (go_at_call 30; have hS := (by assumption : _ ∧ Below wr.heap.size wr _); refine (HPC.out _ _ (RY.out.below hS.2).tab (VR.out _ hS.2)).mono ?_; rintro e wN ⟨gN, cN, rfl, oN, bN⟩; have cc : Below wr.heap.size wr wN := hS.2.trans (bN.mono hS.2.size); (first | (have hk := fresh1 bN; obtain ⟨k0, kf⟩ := hk) | (have hk := fresh1d bN; obtain ⟨k0, kf⟩ := hk) | skip)))
              all_goals (go_wp2_with fail; go_meet)
              all_goals (first | exact ⟨rfl, cc.alloc cc.size _⟩ | exact ⟨rfl, cc.setCell (by first | (simp; done) | (simp; omega)) _⟩ | exact ⟨rfl, cc⟩ | (trace_state; fail))
            case rest =>
              obtain ⟨rfl, c11⟩ := hcut
              go_wp2_with fail
              (go_at_call 34; refine (haStarts_pre Q1 P q _ HPQ.out).mono ?_; rintro e wl ⟨rfl, rfl⟩)
              go_wp2_with fail
              go_roundw
              case rel => exact ⟨j + 1, by omega, by go_num, HB.out.trans (c11.mono hbz)⟩
              case measure => simp [intOf]; omega
          · have BR : Hid (Below w.heap.size w wr) := BW.out.trans (HB.out.mono hWz)
            go_wp2_with fail
            ((first | go_at_call 33 | skip); refine (HLF.out _).mono ?_; rintro e w20 ⟨vl, rfl, ol, bl⟩; obtain ⟨al, cl, rfl⟩ := own_form ol; have RL := Lib.hid (RdV.of_own ol).1; have B20 : Hid (Below w.heap.size w w20) := BR.out.trans (bl.mono BR.out.size); clear ol bl)
            go_wp2_with fail
            go_loopw [19] (fun i wr => ∃ j : Nat, j ≤ outs.length ∧ i = .int .i64 j ∧ Below w20.heap.size w20 wr) (fun i _ => outs.length - (intOf i).toNat)
            case atStart => exact ⟨0, Nat.zero_le _, rfl, Below.refl _ _⟩
            case round =>
              obtain ⟨i, hi, rfl, hb2⟩ := hrel
              have HB20 := Lib.hid hb2
              have hz20 := hb2.size
              have hW20 := B20.out.size
              by_cases hli : i < outs.length
              · obtain ⟨ax, cx', ex, hrx⟩ := RL.out.below hb2
                rw [List.length_map] at hrx
                simp at ex
                obtain ⟨ex1, ex2⟩ := ex
                subst ex1
                subst ex2
                obtain ⟨gx, hgx, rowx⟩ := hrx (by omega)
                subst hgx
                obtain ⟨x, hx⟩ : ∃ x, x = outs[i] := ⟨_, rfl⟩
                have cX := (rowx i (by simpa using hli)).1
                simp only [List.getElem_map, ← hx, strV] at cX
                have hxs := HSAY.out x (by rw [hx]; exact List.getElem_mem _)
                have hxl := HOL.out x (by rw [hx]; exact List.getElem_mem _)
                have HSX : Hid (∀ w, VarsOk w → Calls Tryz.prog 23 #[.string ⟨x.toArray⟩] w fun e w' => e = .returned (.tuple #[.agg #[.int .i64 0, .int .i64 0], .bool false]) ∧ Below w.heap.size w w') := fun w hv => by
                  have := implSays_any ⟨x.toArray⟩ w (by simpa [ByteArray.size] using hxl) hv
                  rw [show saysE (⟨x.toArray⟩ : ByteArray).data.toList = none from hxs.2] at this
                  exact this
                have VX := Lib.hid (HV.out _ (B20.out.trans (hb2.mono hW20)))
                clear rowx hrx hx hxs hxl hb2
                go_wp2_with fail
                (go_at_call 23; refine (HSX.out _ VX.out).mono ?_; rintro e w21 ⟨rfl, b21⟩; have B21 : Hid (∀ o, Below w20.heap.size w20 (w21.alloc o)) := (fun o => (HB20.out.trans (b21.mono hz20)).alloc (Nat.le_trans hz20 b21.size) o); clear b21)
                go_wp2_with fail
                go_roundw
                case rel => exact ⟨i + 1, by omega, by go_num, B21.out _⟩
                case measure => simp [intOf]; omega
              · have BF : Hid (Below w.heap.size w wr) := B20.out.trans (HB20.out.mono hW20)
                go_wp2_with fail
                go_ret
                exact ⟨by simp, BF.out⟩
      · obtain ⟨t, hmt, hyc⟩ := HY.out (by simp)
        have hl6 := mapB_le hmt
        have HZ0 := Lib.hid (HZ.out t hmt)
        have HK0 := Lib.hid (HK.out t hmt)
        obtain ⟨ys, hys⟩ : ∃ ys, ys = xs ++ t := ⟨_, rfl⟩
        rw [← hys] at hyc hl6 HZ0 HK0
        have HYC := Lib.hid hyc
        have HZY := HZ0
        have HKY := HK0
        have HHE : Hid (∀ v1 v2 w, TabAt w v1 ys → TabAt w v2 ys → Calls Tryz.prog 19 #[v1, v2] w fun e w' => e = .returned (.bool true) ∧ Below w.heap.size w w') := fun v1 v2 w h1 h2 => haEnds_same ys v1 v2 w (by omega) h1 h2
        clear HY HZ HK HZ0 HK0 hyc hmt hys
        go_wp2_with fail
        (go_at_call 30; refine (HYC.out _ _ Tx.out.tab (HV.out _ BW.out)).mono ?_; rintro e w9x ⟨g5, k5, q5, rfl, f5, qb⟩)
        have zb := qb.size
        replace fq := boxF cq0 fq qb
        replace Gq := Lib.hid (Gq.out.later qb)
        replace ct0 := boxD ct0 qb
        replace lt : bt < w9x.heap.size := by omega
        replace cx0 := boxD cx0 qb
        replace lx : bx < w9x.heap.size := by omega
        replace cc0 := boxD cc0 qb
        replace lc : bc < w9x.heap.size := by omega
        replace cq0 := boxD cq0 qb
        replace lq : bq < w9x.heap.size := by omega
        replace Tt := Lib.hid (Tt.out.below qb)
        replace Tx := Lib.hid (Tx.out.below qb)
        replace BW := Lib.hid (BW.out.trans (qb.mono BW.out.size))
        clear qb zb
        have Ty := Lib.hid f5
        clear f5
        have at0 : (w9x.setCell ⟨bq, 0, none⟩ (.slice g5 ys.length k5)).cell? ⟨bt, 0, none⟩ = some (.slice g1 us.length k1) := by rw [World.cell?_setCell_far _ ⟨bq, 0, none⟩ ⟨bt, 0, none⟩ _ (by show bq ≠ bt; omega)]; exact ct0
        have ax0 : (w9x.setCell ⟨bq, 0, none⟩ (.slice g5 ys.length k5)).cell? ⟨bx, 0, none⟩ = some (.slice g3 xs.length k3) := by rw [World.cell?_setCell_far _ ⟨bq, 0, none⟩ ⟨bx, 0, none⟩ _ (by show bq ≠ bx; omega)]; exact cx0
        have ac0 : (w9x.setCell ⟨bq, 0, none⟩ (.slice g5 ys.length k5)).cell? ⟨bc, 0, none⟩ = some (.slice g2 vs.length k2) := by rw [World.cell?_setCell_far _ ⟨bq, 0, none⟩ ⟨bc, 0, none⟩ _ (by show bq ≠ bc; omega)]; exact cc0
        have aq0 : (w9x.setCell ⟨bq, 0, none⟩ (.slice g5 ys.length k5)).cell? ⟨bq, 0, none⟩ = some (.slice g5 ys.length k5) := World.cell?_setCell_same _ _ _ cq0
        go_wp2_with fail
        obtain ⟨W10, hW10⟩ : ∃ W, W = (w9x.setCell ⟨bq, 0, none⟩ (.slice g5 ys.length k5)) := ⟨_, rfl⟩
        rw [← hW10] at at0 ax0 ac0 aq0 ⊢
        have zW10 : W10.heap.size = w9x.heap.size := by rw [hW10]; simp
        clear ct0
        have ct0 := at0
        clear at0
        replace lt : bt < W10.heap.size := by omega
        clear cx0
        have cx0 := ax0
        clear ax0
        replace lx : bx < W10.heap.size := by omega
        clear cc0
        have cc0 := ac0
        clear ac0
        replace lc : bc < W10.heap.size := by omega
        clear cq0
        have cq0 := aq0
        clear aq0
        replace lq : bq < W10.heap.size := by omega
        replace Tt := Lib.hid (Tt.out.setTagT (a := ⟨bq, 0, none⟩) Gq.out tabT_ne (.slice g5 ys.length k5))
        rw [← hW10] at Tt
        replace Tx := Lib.hid (Tx.out.setTagT (a := ⟨bq, 0, none⟩) Gq.out tabT_ne (.slice g5 ys.length k5))
        rw [← hW10] at Tx
        replace Ty := Lib.hid (Ty.out.setTagT (a := ⟨bq, 0, none⟩) Gq.out tabT_ne (.slice g5 ys.length k5))
        rw [← hW10] at Ty
        replace fq : W10.frozen? ⟨bq, 0, none⟩ = false := by rw [hW10, World.frozen?_setCell]; exact fq
        replace Gq := Lib.hid (Gq.out.setCell ⟨bq, 0, none⟩ (.slice g5 ys.length k5))
        rw [← hW10] at Gq
        replace BW := Lib.hid (BW.out.setCell (p := ⟨bq, 0, none⟩) mq (.slice g5 ys.length k5))
        rw [← hW10] at BW
        clear hW10 zW10
        (go_at_call 30; refine (HZY.out _ _ Ty.out.tab (HV.out _ BW.out)).mono ?_; rintro e w11x ⟨g7, k7, rfl, f7, qb⟩)
        have zb := qb.size
        replace fq := boxF cq0 fq qb
        replace Gq := Lib.hid (Gq.out.later qb)
        replace ct0 := boxD ct0 qb
        replace lt : bt < w11x.heap.size := by omega
        replace cx0 := boxD cx0 qb
        replace lx : bx < w11x.heap.size := by omega
        replace cc0 := boxD cc0 qb
        replace lc : bc < w11x.heap.size := by omega
        replace cq0 := boxD cq0 qb
        replace lq : bq < w11x.heap.size := by omega
        replace Tt := Lib.hid (Tt.out.below qb)
        replace Tx := Lib.hid (Tx.out.below qb)
        replace Ty := Lib.hid (Ty.out.below qb)
        replace BW := Lib.hid (BW.out.trans (qb.mono BW.out.size))
        clear qb zb
        have Tz := Lib.hid f7
        clear f7
        have at0 : ∀ o, (w11x.alloc o).cell? ⟨bt, 0, none⟩ = some (.slice g1 us.length k1) := fun o => by rw [cell_alloc_lt lt]; exact ct0
        have ax0 : ∀ o, (w11x.alloc o).cell? ⟨bx, 0, none⟩ = some (.slice g3 xs.length k3) := fun o => by rw [cell_alloc_lt lx]; exact cx0
        have ac0 : ∀ o, (w11x.alloc o).cell? ⟨bc, 0, none⟩ = some (.slice g2 vs.length k2) := fun o => by rw [cell_alloc_lt lc]; exact cc0
        have aq0 : ∀ o, (w11x.alloc o).cell? ⟨bq, 0, none⟩ = some (.slice g5 ys.length k5) := fun o => by rw [cell_alloc_lt lq]; exact cq0
        go_wp2_with fail
        obtain ⟨W12, hW12⟩ : ∃ W, W = (w11x.alloc (.cells #[.slice g7 ys.length k7] 25)) := ⟨_, rfl⟩
        have qW12 : Below w11x.heap.size w11x W12 := by rw [hW12]; exact (Below.refl _ _).alloc (Nat.le_refl _) _
        have zW12 : w11x.heap.size + 1 ≤ W12.heap.size := by rw [hW12]; simp
        have ntz : bt < w11x.heap.size := lt
        have nxz : bx < w11x.heap.size := lx
        have ncz : bc < w11x.heap.size := lc
        have nqz : bq < w11x.heap.size := lq
        replace fq := boxF cq0 fq qW12
        replace Gq := Lib.hid (Gq.out.later qW12)
        replace ct0 := boxD ct0 qW12
        replace lt : bt < W12.heap.size := by omega
        replace cx0 := boxD cx0 qW12
        replace lx : bx < W12.heap.size := by omega
        replace cc0 := boxD cc0 qW12
        replace lc : bc < W12.heap.size := by omega
        replace cq0 := boxD cq0 qW12
        replace lq : bq < W12.heap.size := by omega
        have cz0 : W12.cell? ⟨w11x.heap.size, 0, none⟩ = some (.slice g7 ys.length k7) := by rw [hW12]; simp
        replace Tt := Lib.hid (Tt.out.below qW12)
        replace Tx := Lib.hid (Tx.out.below qW12)
        replace Ty := Lib.hid (Ty.out.below qW12)
        replace Tz := Lib.hid (Tz.out.below qW12)
        have BWz := BW.out.size
        replace BW := Lib.hid (BW.out.trans (qW12.mono BW.out.size))
        rw [← hW12]
        obtain ⟨bz, hbz⟩ : ∃ b, b = w11x.heap.size := ⟨_, rfl⟩
        have lz : bz < W12.heap.size := by omega
        rw [← hbz] at cz0 ⊢
        replace ntz : bt < bz := by omega
        replace nxz : bx < bz := by omega
        replace ncz : bc < bz := by omega
        replace nqz : bq < bz := by omega
        have mz : w.heap.size ≤ bz := by have := BWz; omega
        clear hbz hW12
        clear at0 ax0 ac0 aq0
        clear qW12 zW12 BWz
        (go_at_call 19; refine (HHE.out _ _ _ Tz.out.tab Ty.out.tab).mono ?_; rintro e w13x ⟨rfl, qb⟩)
        have zb := qb.size
        replace fq := boxF cq0 fq qb
        replace Gq := Lib.hid (Gq.out.later qb)
        replace ct0 := boxD ct0 qb
        replace lt : bt < w13x.heap.size := by omega
        replace cx0 := boxD cx0 qb
        replace lx : bx < w13x.heap.size := by omega
        replace cc0 := boxD cc0 qb
        replace lc : bc < w13x.heap.size := by omega
        replace cq0 := boxD cq0 qb
        replace lq : bq < w13x.heap.size := by omega
        replace cz0 := boxD cz0 qb
        replace lz : bz < w13x.heap.size := by omega
        replace Tt := Lib.hid (Tt.out.below qb)
        replace Tx := Lib.hid (Tx.out.below qb)
        replace Ty := Lib.hid (Ty.out.below qb)
        replace Tz := Lib.hid (Tz.out.below qb)
        replace BW := Lib.hid (BW.out.trans (qb.mono BW.out.size))
        clear qb zb
        go_wp2_with fail
        go_loopw [14] (fun i wr => ∃ j : Nat, j ≤ s.size ∧ i = .int .i64 j ∧ Below w13x.heap.size w13x wr) (fun i _ => s.size - (intOf i).toNat)
        case atStart => exact ⟨0, Nat.zero_le _, rfl, Below.refl _ _⟩
        case round =>
          obtain ⟨j, hj, rfl, hb⟩ := hrel
          have ry := boxD cq0 hb
          have RY := Lib.hid (Ty.out.below hb)
          have HB := Lib.hid hb
          have hbz := hb.size
          have hWz := BW.out.size
          have VR : Hid (∀ w', Below wr.heap.size wr w' → VarsOk w') := fun w' h => HV.out _ (BW.out.trans ((HB.out.trans (h.mono hbz)).mono hWz))
          clear hb
          by_cases hlt : j < s.size
          · obtain ⟨P, ⟨q, hPq⟩, HPc⟩ := HKY.out j
            have HPC := Lib.hid HPc
            have HPQ := Lib.hid hPq
            clear HPc hPq
            have hjs : (j : Int) ≤ (s.size : Int) := by omega
            have mk9 : Hid (∀ w', Below wr.heap.size wr w' → w'.cell? ⟨bq, 0, none⟩ = some (.slice g5 ys.length k5) ∧ Below wr.heap.size wr w') := fun w' hb => ⟨boxD ry hb, hb⟩
            go_upto_region 17 with fail
            go_cut [16] (fun t wx => t = .string P ∧ Below wr.heap.size wr wx)
            case first =>
              go_region_held3 (fun w' => w'.cell? ⟨bq, 0, none⟩ = some (.slice g5 ys.length k5) ∧ Below wr.heap.size wr w')
                (first
                  | exact mk9.out _ (Below.refl _ _).drew
                  | exact mk9.out _ cc
                  | exact mk9.out _ (cc.alloc cc.size _)
                  | exact mk9.out _ (cc.setCell (by first | (simp; done) | (simp; omega)) _)
                  | exact mk9.out _ (((Below.refl _ _).drew).alloc (Nat.le_refl _) _)
                  | (trace_state; fail))
                (first
                  | (go_at_call 30; have hS := (by assumption : _ ∧ Below wr.heap.size wr _); refine (HPC.out _ _ (RY.out.below hS.2).tab (VR.out _ hS.2)).mono ?_; rintro e wN ⟨gN, cN, rfl, oN, bN⟩; have cc : Below wr.heap.size wr wN := hS.2.trans (bN.mono hS.2.size); (first | (have hk := fresh1 bN; obtain ⟨k0, kf⟩ := hk) | (have hk := fresh1d bN; obtain ⟨k0, kf⟩ := hk) | skip)))
              all_goals (go_wp2_with fail; go_meet)
              all_goals (first | exact ⟨rfl, cc.alloc cc.size _⟩ | exact ⟨rfl, cc.setCell (by first | (simp; done) | (simp; omega)) _⟩ | exact ⟨rfl, cc⟩ | (trace_state; fail))
            case rest =>
              obtain ⟨rfl, c11⟩ := hcut
              go_wp2_with fail
              (go_at_call 34; refine (haStarts_pre Q1 P q _ HPQ.out).mono ?_; rintro e wl ⟨rfl, rfl⟩)
              go_wp2_with fail
              go_roundw
              case rel => exact ⟨j + 1, by omega, by go_num, HB.out.trans (c11.mono hbz)⟩
              case measure => simp [intOf]; omega
          · have BR : Hid (Below w.heap.size w wr) := BW.out.trans (HB.out.mono hWz)
            go_wp2_with fail
            ((first | go_at_call 33 | skip); refine (HLF.out _).mono ?_; rintro e w20 ⟨vl, rfl, ol, bl⟩; obtain ⟨al, cl, rfl⟩ := own_form ol; have RL := Lib.hid (RdV.of_own ol).1; have B20 : Hid (Below w.heap.size w w20) := BR.out.trans (bl.mono BR.out.size); clear ol bl)
            go_wp2_with fail
            go_loopw [19] (fun i wr => ∃ j : Nat, j ≤ outs.length ∧ i = .int .i64 j ∧ Below w20.heap.size w20 wr) (fun i _ => outs.length - (intOf i).toNat)
            case atStart => exact ⟨0, Nat.zero_le _, rfl, Below.refl _ _⟩
            case round =>
              obtain ⟨i, hi, rfl, hb2⟩ := hrel
              have HB20 := Lib.hid hb2
              have hz20 := hb2.size
              have hW20 := B20.out.size
              by_cases hli : i < outs.length
              · obtain ⟨ax, cx', ex, hrx⟩ := RL.out.below hb2
                rw [List.length_map] at hrx
                simp at ex
                obtain ⟨ex1, ex2⟩ := ex
                subst ex1
                subst ex2
                obtain ⟨gx, hgx, rowx⟩ := hrx (by omega)
                subst hgx
                obtain ⟨x, hx⟩ : ∃ x, x = outs[i] := ⟨_, rfl⟩
                have cX := (rowx i (by simpa using hli)).1
                simp only [List.getElem_map, ← hx, strV] at cX
                have hxs := HSAY.out x (by rw [hx]; exact List.getElem_mem _)
                have hxl := HOL.out x (by rw [hx]; exact List.getElem_mem _)
                have HSX : Hid (∀ w, VarsOk w → Calls Tryz.prog 23 #[.string ⟨x.toArray⟩] w fun e w' => e = .returned (.tuple #[.agg #[.int .i64 0, .int .i64 0], .bool false]) ∧ Below w.heap.size w w') := fun w hv => by
                  have := implSays_any ⟨x.toArray⟩ w (by simpa [ByteArray.size] using hxl) hv
                  rw [show saysE (⟨x.toArray⟩ : ByteArray).data.toList = none from hxs.2] at this
                  exact this
                have VX := Lib.hid (HV.out _ (B20.out.trans (hb2.mono hW20)))
                clear rowx hrx hx hxs hxl hb2
                go_wp2_with fail
                (go_at_call 23; refine (HSX.out _ VX.out).mono ?_; rintro e w21 ⟨rfl, b21⟩; have B21 : Hid (∀ o, Below w20.heap.size w20 (w21.alloc o)) := (fun o => (HB20.out.trans (b21.mono hz20)).alloc (Nat.le_trans hz20 b21.size) o); clear b21)
                go_wp2_with fail
                go_roundw
                case rel => exact ⟨i + 1, by omega, by go_num, B21.out _⟩
                case measure => simp [intOf]; omega
              · have BF : Hid (Below w.heap.size w wr) := B20.out.trans (HB20.out.mono hW20)
                go_wp2_with fail
                go_ret
                exact ⟨by simp, BF.out⟩

set_option maxRecDepth 100000 in
set_option maxHeartbeats 800000 in
theorem lwRwrStays_any (ao : Option Addr) (n cap : Nat) (ao2 : Option Addr) (n2 cap2 : Nat) (w : World) (h : BytesIn w ao n) (hn : n ≤ cap) (h2 : BytesIn w ao2 n2) (hn2 : n2 ≤ cap2) (hv : VarsOk w) :
    Calls Tryz.prog 5 #[.slice ao n cap, .slice ao2 n2 cap2] w fun e w' => e = .returned (.bool true) ∧ Below w.heap.size w w' := by
  by_cases hb1 : 1048576 < n
  · clear h h2 hv
    go_enter Tryz.func5, Tryz.ntmps5
    go_wp2_with fail
    go_ret
    exact ⟨rfl, Below.refl _ _⟩
  · by_cases hb2 : 1048576 < n2
    · clear h h2 hv
      go_enter Tryz.func5, Tryz.ntmps5
      go_wp2_with fail
      go_ret
      exact ⟨rfl, Below.refl _ _⟩
    · exact lwRwrStays_of ao n cap ao2 n2 cap2 w h hn h2 hn2 hv hb1 hb2

end Go.Proofs.YthhojghckfkdhaaGreatDoor

/- The law RwrStays, at every code: true, and the codes stay as they were. The card: the variables that are read are tied to the program's text. No condition beside what the card says. -/
namespace Go.Proofs.YthhojghckfkdhaaGreatDoor
open Go.ChangeShapes Go.WideShapes Go.ChangeAt Go.RowKit Go.Joins Go.WideMaps Go.WideElems
open Go.ChangeMaps (open_string shut_string)

theorem laidOutFn : laidOutB Tryz.prog = true := by kernel_rfl

/-- A code that came in lies in memory. -/
theorem bytes_in {H : Type} {enc : TypeId × Value → H} {W : World} {a : Option Addr} {len cap : Nat} {d : DataW H} {p : List MemPlace} (h : DataW.Trod enc Tryz.prog W 0 (fun _ => true) true 22 (.slice a len cap) d p) : BytesIn W a len ∧ len ≤ cap := by
  obtain ⟨fuel, hf⟩ := h
  have hlt := DataW.trod_lt fuel _ _ _ hf
  rcases open_ints Tryz.underlying22 Tryz.underlying5 (by kernel_rfl) hf with ⟨hcs, _⟩ | ⟨x, l, c, zs, hcs, _, hl, hm, hz, _, hcell, hwz⟩
  · simp [Value.cells] at hcs
    obtain ⟨rfl, rfl, rfl⟩ := hcs
    exact ⟨.inl rfl, Nat.le_refl _⟩
  · simp [Value.cells] at hcs
    obtain ⟨rfl, rfl, rfl⟩ := hcs
    refine ⟨?_, hl⟩
    by_cases h0 : len = 0
    · exact .inl h0
    · have hzl : zs.length = cap := by simpa using hz
      have hcl : ∀ i, i < len → ∃ b : UInt8, W.cell? (x.add i) = some (.int .u8 (b.toNat : Int)) := by
        intro i hi
        have hc := hcell i (by omega)
        have hw := hwz (zs.getD i 0) (by rw [List.getD_eq_getElem?_getD, List.getElem?_eq_getElem (by omega)]; exact List.getElem_mem _)
        have h255 := bounds_u8 hw
        generalize zs.getD i 0 = z at hc h255
        refine ⟨UInt8.ofNat z.toNat, ?_⟩
        rw [hc]
        congr 2
        simp
        omega
      obtain ⟨b0, hb0⟩ := hcl 0 (by omega)
      refine .inr ⟨x, rfl, ?_, hcl⟩
      have := World.block_lt_of_cell? W _ hb0
      unfold Addr.add at this; simpa using this

theorem ownRwrStays : ownKnob Tryz.prog.godebug = none := by kernel_rfl
theorem starErr : "*errors.errorString" = "*" ++ "errors.errorString" := by decide
theorem rowErr (u : TypeId) (h : Tryz.prog.typeName? 3 u = some "*errors.errorString") : u = 156 :=
  typeName_ptr_named (nm := "errors.errorString") (by rw [← starErr]; kernel_rfl) (by kernel_rfl) (by decide) u (by rw [← starErr]; exact h)

/-- What the row's list gives a walk. -/
theorem vars_of_laid {W : World} (h : laidMetH Tryz.prog Rows.fnRwrStaysRow.laid W) :
    VarsOk W ∧ (∃ t a, W.var? Tryz.prog "loop.example/hatchway/impl.errNoEnd" = some #[.iface t (.pointer (some a))]) ∧ (∃ t a, W.var? Tryz.prog "loop.example/hatchway/impl.errNoNumber" = some #[.iface t (.pointer (some a))]) := by
  rw [MakeChecks.laidMetH_plain _ _ _ (by kernel_rfl)] at h
  have h3 := laidMet.tail (laidMet.tail h)
  have ht : laidMet Tryz.prog (("internal/strconv.uint64pow10", Lib.tabData .u64 Lib.pow10Tab) :: _) W := h3
  have tab : TabOk W := Lib.tabIs_of_head (g := 3) (t := 138) (e := 131) (n := 20) (by kernel_rfl) (by kernel_rfl) Tryz.underlying138 Tryz.underlying131 (by kernel_rfl) (by kernel_rfl) ht
  have h4 := laidMet.tail h3
  obtain ⟨a1, _, v1, _⟩ := laid_sentinel (g := 5) (tp := 156) (te := 158) (ts := 9) h4 (by kernel_rfl) (by kernel_rfl) Tryz.underlying84 rowErr Tryz.underlying156 Tryz.underlying158 rfl rfl Tryz.underlying9 (by kernel_rfl) (by kernel_rfl)
  have h5 := laidMet.tail h4
  obtain ⟨a2, _, v2, _⟩ := laid_sentinel (g := 4) (tp := 156) (te := 158) (ts := 9) h5 (by kernel_rfl) (by kernel_rfl) Tryz.underlying84 rowErr Tryz.underlying156 Tryz.underlying158 rfl rfl Tryz.underlying9 (by kernel_rfl) (by kernel_rfl)
  have h6 := laidMet.tail h5
  obtain ⟨a3, _, v3, _⟩ := laid_sentinel (g := 2) (tp := 156) (te := 158) (ts := 9) h6 (by kernel_rfl) (by kernel_rfl) Tryz.underlying84 rowErr Tryz.underlying156 Tryz.underlying158 rfl rfl Tryz.underlying9 (by kernel_rfl) (by kernel_rfl)
  have h7 := laidMet.tail h6
  obtain ⟨a4, _, v4, _⟩ := laid_sentinel (g := 0) (tp := 156) (te := 158) (ts := 9) h7 (by kernel_rfl) (by kernel_rfl) Tryz.underlying84 rowErr Tryz.underlying156 Tryz.underlying158 rfl rfl Tryz.underlying9 (by kernel_rfl) (by kernel_rfl)
  have c3 := World.var?_cell (g := 2) (by kernel_rfl) v3 0
  have c4 := World.var?_cell (g := 0) (by kernel_rfl) v4 0
  exact ⟨⟨tab, ⟨_, _, v2⟩, ⟨_, _, v1⟩, ⟨_, _, by simpa using c3⟩, ⟨_, _, by simpa using c4⟩⟩, ⟨_, _, v4⟩, ⟨_, _, v3⟩⟩

/-- The two variables of the program's, read as tokens. -/
theorem vars_read {H : Type} (enc : TypeId × Value → H) {W : World} {x0 x1 : Value} (h0 : W.var? Tryz.prog "loop.example/hatchway/impl.errNoEnd" = some #[x0]) (h1 : W.var? Tryz.prog "loop.example/hatchway/impl.errNoNumber" = some #[x1]) (i0 : IsIface x0) (i1 : IsIface x1) (sp : Nat → Bool) :
    DataW.TrodVars enc Tryz.prog W sp ["loop.example/hatchway/impl.errNoEnd", "loop.example/hatchway/impl.errNoNumber"] [tok enc x0, tok enc x1] [.cell 0 0, .cell 2 0] :=
  vars_read2 enc (g0 := 0) (g1 := 2) (by kernel_rfl) (by kernel_rfl) Tryz.underlying84 h0 i0 (by kernel_rfl) (by kernel_rfl) Tryz.underlying84 h1 i1 sp

/-- The heap that the variables' own initialisers leave meets the condition. -/
theorem doorRwrStays (os : Os) (args : Array Value) : laidMetH Tryz.prog Rows.fnRwrStaysRow.laid ((World.doorLaid Tryz.prog 400 os).forCall (fun _ _ => 0) ⟨#[], args, []⟩).memory :=
  laidMetH_of_parts3 (fuel := 8) (laidMet_of_run' 8 (by kernel_rfl) (by kernel_rfl)) (by kernel_rfl) (by kernel_rfl)

set_option maxRecDepth 100000 in
theorem liftedRwrStays (os : Os) (started : os.Started) (H : Type) (enc : TypeId × Value → H) :
    ReturnsInHanded {} Tryz.checked os 5 .any (fun w args => (Rows.fnRwrStaysSpec.pre enc Tryz.prog Tryz.f5 [] false w args ∧ laidMetH Tryz.prog Rows.fnRwrStaysRow.laid w) ∧ sizedMet enc Tryz.prog Tryz.f5 (OpenSpec.ofChange Rows.fnRwrStaysSpec) false w args)
      (Rows.fnRwrStaysSpec.post enc Tryz.prog Tryz.f5 false true false false) := by
  refine returnsInHanded_of_change_and (C := Tryz.checked) (X := fun w _ => laidMetH Tryz.prog Rows.fnRwrStaysRow.laid w) (fun _ _ _ hh h => h.of_heap hh) ownRwrStays started (by kernel_rfl) Tryz.func5
    (ChangeSpec.witness_shaped (enc := enc) (C := Tryz.checked) (os := os) (X := fun w _ => laidMetH Tryz.prog Rows.fnRwrStaysRow.laid w) false (World.doorLaid Tryz.prog 400 os) #[.slice none 0 0, .slice none 0 0] 8 rfl (World.shaped_of_RefB (by kernel_rfl) (by kernel_rfl)) (by kernel_rfl) (by kernel_rfl) (by kernel_rfl) (doorRwrStays os _)) ?_
  intro W base args ds gs before hval0 hW _ _ hL _
  have hval : ∀ (j : Nat) t v, Tryz.f5.params[j]? = some t → args[j]? = some v → Value.okWide Tryz.prog W .any base t v := hval0
  have hW' := hW
  obtain ⟨p, q, hA0, hV0, rfl, _, _⟩ := hW
  have hA : DataW.TrodAll enc Tryz.prog W 0 (fun _ => true) true Tryz.f5.params.toList args.toList ds p := hA0
  have hV : DataW.TrodVars enc Tryz.prog W (fun _ => true) ["loop.example/hatchway/impl.errNoEnd", "loop.example/hatchway/impl.errNoNumber"] gs q := hV0
  rw [Tryz.params5] at hA hval
  obtain ⟨v0, vs0, d0, ds0, p0, q0, hargs, rfl, rfl, h0, r0⟩ := trodAll_cons hA
  obtain ⟨v1, vs1, d1, ds1, p1, q1, rfl, rfl, rfl, h1, r1⟩ := trodAll_cons r0
  obtain ⟨rfl, rfl, rfl⟩ := trodAll_nil r1
  obtain rfl : args = #[v0, v1] := by cases args; simp_all
  obtain ⟨a0, len0, cap0, rfl⟩ := okWide_slice Tryz.underlying22 (hval 0 22 v0 rfl rfl)
  have k0 := h0
  have lt0 : ∀ x ∈ p0, x.block < W.heap.size := by obtain ⟨m, hm⟩ := k0; exact DataW.trod_lt m _ _ _ hm
  obtain ⟨w0, le0⟩ := bytes_in h0
  obtain ⟨a1, len1, cap1, rfl⟩ := okWide_slice Tryz.underlying22 (hval 1 22 v1 rfl rfl)
  have k1 := h1
  have lt1 : ∀ x ∈ p1, x.block < W.heap.size := by obtain ⟨m, hm⟩ := k1; exact DataW.trod_lt m _ _ _ hm
  obtain ⟨w1, le1⟩ := bytes_in h1
  obtain ⟨hok, ⟨t4, a4, hv4⟩, ⟨t3, a3, hv3⟩⟩ := vars_of_laid hL
  obtain ⟨rfl, rfl⟩ := hV.unique (vars_read enc hv4 hv3 trivial trivial _)
  clear hA0 hV0 hval0
  have key := lwRwrStays_any a0 len0 cap0 a1 len1 cap1 W w0 le0 w1 le1 hok
  refine key.mono fun e W' ⟨he, bel⟩ => ?_
  subst he
  exact ⟨_, rfl, _, _, _, [], _, [.cell 0 0, .cell 2 0], hW', trodAll_mk1 (shut_bool Tryz.underlying4 true), (trodAll_cons_mk (Below.trod laidOutFn (by kernel_rfl) (of_decide_eq_true (by kernel_rfl)) k0 bel lt0) (trodAll_cons_mk (Below.trod laidOutFn (by kernel_rfl) (of_decide_eq_true (by kernel_rfl)) k1 bel lt1) trodAll_mk0)),
    vars_read enc (var_stays (g := 0) (by kernel_rfl) hv4 bel (Nat.le_refl _)) (var_stays (g := 2) (by kernel_rfl) hv3 bel (Nat.le_refl _)) trivial trivial _, bel.frame _, fun h => by cases h⟩

theorem fnRwrStays_row : Rows.FnRwrStaysSaid :=
  OpenClaim.holds_of_wide 5 Tryz.f5 rfl rfl rfl rfl rfl rfl rfl ⟨rfl, rfl, rfl, rfl, rfl⟩ rfl rfl rfl rfl rfl (by kernel_rfl) Tryz.func5 (by kernel_rfl)
    (of_decide_eq_true (by kernel_rfl)) (by unfold Func.isWrapper; rw [if_neg (of_decide_eq_false (by kernel_rfl))]; exact ⟨rfl, rfl⟩)
    (fun os started H enc _ => liftedRwrStays os started H enc)

theorem fnRwrStays_holds : Rows.FnRwrStaysCardSaid :=
  Claim7.holds_tied_plain_at .later [] Rows.fnRwrStaysCard.laidKinds true Rows.fnRwrStaysCard.stood.harness true
    fnRwrStays_row (fun _ h => by cases h) (by kernel_rfl) (fun _ h => by cases h) fnRwrStays_row_tie rfl ⟨rfl, rfl⟩ (by kernel_rfl) rfl
    (fun f fn hf hfn => by
      obtain rfl : f = 5 := Option.some.inj ((show Tryz.prog.funcNamed "loop.example/hatchway/laws.FnRwrStays" = some 5 by kernel_rfl).symm.trans hf) |>.symm
      obtain rfl : fn = Tryz.f5 := (Option.some.inj (Tryz.func5.symm.trans hfn)).symm
      exact ⟨by kernel_rfl, fun j t ht => by
        rw [Tryz.params5] at ht
        have hm : t ∈ [22] := by
          have := Array.mem_of_getElem? ht
          simpa using this
        have hall : ([22].all fun u => !Tryz.prog.wantsStandIn u) = true := by kernel_rfl
        exact (show Tryz.prog.wantsStandIn t = false by simpa using List.all_eq_true.1 hall t hm)⟩)
    (by kernel_rfl)

end Go.Proofs.YthhojghckfkdhaaGreatDoor
