/- The law that a stream goes outside line by line: at every code. Conditions: the code lies in memory; the variables that are read hold what they are laid with. (Several texts, joined: IRwrA, StrLen, StrALen, LinesP, ILines, RdV, Tag, LwRwrStream.) -/
import Derived.Test.YtoidmmedpefjfaaGreatDoorTRwsd
import Derived.Test.YtoidmmedpefjfaaGreatDoorSemi
import Derived.Test.YtoidmmedpefjfaaGreatDoorISeq
import Derived.Test.YtoidmmedpefjfaaGreatDoorGen
import Derived.Test.YtoidmmedpefjfaaGreatDoorOwnEnds
import Derived.Test.YtoidmmedpefjfaaGreatDoorDrawRS
import Derived.Test.YtoidmmedpefjfaaGreatDoorHaOk
import Derived.Test.YtoidmmedpefjfaaGreatDoorHaEnds
import Derived.Deep.RegionHeld3
import Derived.Deep.DeepCutAuto

/- RwrLine of the program and of the specification, in one form. Conditions: at most 2^22 ends; all numbers are ints; the text has at most 2^21 bytes; the variables that are read hold what they are laid with. -/
namespace Go.Proofs.YtoidmmedpefjfaaGreatDoor
open Go.RowKit

theorem putE_le' {es : List (Int × Int)} {e : Int × Int} (h : es.length ≤ 6) : (putE es e).1.length ≤ 6 := by
  unfold putE
  split
  · exact h
  · split
    · exact h
    · simp; omega
theorem rwrA_yes {es : List (Int × Int)} {l : List UInt8} (h : (mapB es && linB l) = true) : rwrA es l = lineE es l := if_pos (by simpa using h)
theorem rwrA_not {es : List (Int × Int)} {l : List UInt8} (h : (mapB es && linB l) = false) : rwrA es l = ([], []) := if_neg (by simpa using h)
theorem rwrA_le (es : List (Int × Int)) (l : List UInt8) : (rwrA es l).1.length ≤ 6 := by
  by_cases h : (mapB es && linB l) = true
  · rw [rwrA_yes h]
    exact mapB_le (lineE_ok (by simp at h; exact h.1))
  · rw [rwrA_not (by simpa using h)]
    simp

theorem specRwrA (v : Value) (es : List (Int × Int)) (s : ByteArray) (w : World) (hn : es.length ≤ 4194304) (hs : s.size ≤ 2097152) (ht : TabAt w v es) :
    Calls Tryz.prog 15 #[.agg #[v], .string s] w fun e w' => ∃ g c, e = .returned (.tuple #[.agg #[.slice g (rwrA es s.data.toList).1.length c], .string ⟨(rwrA es s.data.toList).2.toArray⟩]) ∧ FreshTab w' w.heap.size (.slice g (rwrA es s.data.toList).1.length c) (rwrA es s.data.toList).1 ∧ Below w.heap.size w w' := by
  by_cases h : (mapB es && linB s.data.toList) = true
  · rw [rwrA_yes h]
    simp only [Bool.and_eq_true] at h
    refine (specRwrLine_ok v es s w hn hs ht h.1 h.2).mono ?_
    rintro e w' ⟨g, c, rfl, h1, h2⟩
    exact ⟨_, _, rfl, h1.fresh, h2⟩
  · have h' : (mapB es && linB s.data.toList) = false := by simpa using h
    rw [rwrA_not h']
    refine (specRwrLine_not v es s w hn hs ht h').mono ?_
    rintro e w' ⟨rfl, h2⟩
    exact ⟨_, _, rfl, FreshTab.nil _ _, h2⟩

theorem implRwrA (v : Value) (es : List (Int × Int)) (s : ByteArray) (w : World) (hn : es.length ≤ 4194304) (hs : s.size ≤ 2097152) (hwf : wfE es) (ht : TabAt w v es) (hv : VarsOk w) :
    Calls Tryz.prog 14 #[.agg #[v], .string s] w fun e w' => ∃ g c, e = .returned (.tuple #[.agg #[.slice g (rwrA es s.data.toList).1.length c], .string ⟨(rwrA es s.data.toList).2.toArray⟩]) ∧ FreshTab w' w.heap.size (.slice g (rwrA es s.data.toList).1.length c) (rwrA es s.data.toList).1 ∧ Below w.heap.size w w' := by
  by_cases h : (mapB es && linB s.data.toList) = true
  · rw [rwrA_yes h]
    simp only [Bool.and_eq_true] at h
    refine (implRwrLine_ok v es s w hn hs ht h.1 h.2 hv).mono ?_
    rintro e w' ⟨g, c, rfl, h1, h2⟩
    exact ⟨_, _, rfl, h1.fresh, h2⟩
  · have h' : (mapB es && linB s.data.toList) = false := by simpa using h
    rw [rwrA_not h']
    refine (implRwrLine_not v es s w hn hs hwf ht h').mono ?_
    rintro e w' ⟨rfl, h2⟩
    exact ⟨_, _, rfl, FreshTab.nil _ _, h2⟩

end Go.Proofs.YtoidmmedpefjfaaGreatDoor

/- How long a stream is outside. No condition. -/
namespace Go.Proofs.YtoidmmedpefjfaaGreatDoor
open Go.RowKit

theorem strE_len (ls : List (List UInt8)) (n : Nat) (hx : ∀ x ∈ ls, x.length ≤ n) (T : List (Int × Int) × List UInt8) : (ls.foldl strF T).2.length ≤ T.2.length + ls.length * (n + 21) := by
  induction ls generalizing T with
  | nil => simp
  | cons l r ih =>
    have h1 := ih (fun x h => hx x (List.mem_cons_of_mem _ h)) (strF T l)
    have h2 : (strF T l).2.length ≤ T.2.length + (n + 21) := by
      have h3 := lineE_len T.1 l
      have h4 := hx l (List.mem_cons_self ..)
      simp only [strF, List.length_append, List.length_cons, List.length_nil]
      omega
    simp only [List.foldl_cons, List.length_cons]
    rw [Nat.add_mul]
    omega

end Go.Proofs.YtoidmmedpefjfaaGreatDoor

/- How long a stream is outside. No condition. -/
namespace Go.Proofs.YtoidmmedpefjfaaGreatDoor
open Go.RowKit

theorem strA_len (es : List (Int × Int)) (s : List UInt8) : (strA es s).2.length ≤ 2097152 := by
  unfold strA
  split
  · rename_i h
    have h1 : s.length ≤ 120 := by have := h.2; unfold strB at this; simp at this; exact this.1.1
    have hl := lines_len s
    have := strE_len (linesL s) 120 (fun x hx => by have := line_len hx; omega) (es, [])
    unfold streamE
    have h3 : (linesL s).length * (120 + 21) ≤ 120 * (120 + 21) := Nat.mul_le_mul_right _ (by omega)
    simp only [List.length_nil] at this
    omega
  · simp

end Go.Proofs.YtoidmmedpefjfaaGreatDoor

/- Plain facts on lines and streams: beginnings, two texts one behind the other, what no line has. No program. No condition. -/
namespace Go.Proofs.YtoidmmedpefjfaaGreatDoor

theorem stl_noSemi (l : List UInt8) (x : List (List UInt8) × List UInt8) (h1 : ∀ y ∈ x.1, ∀ c ∈ y, c ≠ 59) (h2 : ∀ c ∈ x.2, c ≠ 59) :
    (∀ y ∈ (l.foldl stl x).1, ∀ c ∈ y, c ≠ 59) ∧ ∀ c ∈ (l.foldl stl x).2, c ≠ 59 := by
  induction l generalizing x with
  | nil => exact ⟨h1, h2⟩
  | cons c r ih =>
    rw [List.foldl_cons]
    by_cases hc : c = 59
    · have e : stl x c = (x.1 ++ [x.2], []) := by unfold stl; rw [if_pos hc]
      rw [e]
      exact ih _ (fun y hy => (List.mem_append.1 hy).elim (h1 y) (fun e => by simp at e; subst e; exact h2)) (by simp)
    · have e : stl x c = (x.1, x.2 ++ [c]) := by unfold stl; rw [if_neg hc]
      rw [e]
      exact ih _ h1 (fun d hd => (List.mem_append.1 hd).elim (h2 d) (fun e => by simp at e; subst e; exact hc))
/-- No line, and no rest, has the sign that ends a line. -/
theorem line_noSemi {l x : List UInt8} (h : x ∈ linesL l) : ∀ c ∈ x, c ≠ 59 := (stl_noSemi l ([], []) (by simp) (by simp)).1 x h
theorem rest_noSemi (l : List UInt8) : ∀ c ∈ restL l, c ≠ 59 := (stl_noSemi l ([], []) (by simp) (by simp)).2

theorem stl_prefix (l : List UInt8) (x : List (List UInt8) × List UInt8) : x.1 <+: (l.foldl stl x).1 := by
  induction l generalizing x with
  | nil => exact List.prefix_refl _
  | cons c r ih =>
    rw [List.foldl_cons]
    refine List.IsPrefix.trans ?_ (ih _)
    by_cases hc : c = 59
    · have e : stl x c = (x.1 ++ [x.2], []) := by unfold stl; rw [if_pos hc]
      rw [e]; exact List.prefix_append _ _
    · have e : stl x c = (x.1, x.2 ++ [c]) := by unfold stl; rw [if_neg hc]
      rw [e]; exact List.prefix_refl _
/-- What is behind the last sign begins the next line, or the rest. -/
theorem stl_rest (l : List UInt8) (x : List (List UInt8) × List UInt8) : ∃ z ∈ (l.foldl stl x).1 ++ [(l.foldl stl x).2], x.2 <+: z := by
  induction l generalizing x with
  | nil => exact ⟨x.2, by simp, List.prefix_refl _⟩
  | cons c r ih =>
    rw [List.foldl_cons]
    by_cases hc : c = 59
    · have e : stl x c = (x.1 ++ [x.2], []) := by unfold stl; rw [if_pos hc]
      rw [e]
      exact ⟨x.2, List.mem_append_left _ ((stl_prefix r (x.1 ++ [x.2], [])).subset (by simp)), List.prefix_refl _⟩
    · have e : stl x c = (x.1, x.2 ++ [c]) := by unfold stl; rw [if_neg hc]
      rw [e]
      obtain ⟨z, hz, hp⟩ := ih (x.1, x.2 ++ [c])
      exact ⟨z, hz, (List.prefix_append _ _).trans hp⟩
theorem linesF_app (a b : List UInt8) : linesF (a ++ b) = b.foldl stl (linesF a) := by unfold linesF; rw [List.foldl_append]
theorem lines_prefix (a b : List UInt8) : linesL a <+: linesL (a ++ b) := by
  show _ <+: (linesF (a ++ b)).1; rw [linesF_app]; exact stl_prefix b _
theorem lines_take (l : List UInt8) (k : Nat) : linesL (l.take k) <+: linesL l := by
  have := lines_prefix (l.take k) (l.drop k); rwa [List.take_append_drop] at this
/-- Two texts, the first of which ends with a sign, or is empty. -/
theorem lines_join {a : List UInt8} (b : List UInt8) (h : restL a = []) : linesL (a ++ b) = linesL a ++ linesL b ∧ restL (a ++ b) = restL b := by
  have e : linesF (a ++ b) = (linesL a ++ (linesF b).1, (linesF b).2) := by
    rw [linesF_app]
    have e1 : linesF a = (linesL a ++ [], []) := by rw [List.append_nil]; exact Prod.ext rfl h
    rw [e1, stl_shift]; rfl
  constructor
  · show (linesF _).1 = _; rw [e]; rfl
  · show (linesF _).2 = _; rw [e]; rfl
theorem lin_prefix {a b : List UInt8} (h : linB b = true) (hp : a <+: b) : linB a = true := by
  unfold linB at h ⊢
  rw [Bool.and_eq_true] at h ⊢
  obtain ⟨h1, h2⟩ := h
  have hl := hp.length_le
  simp only [decide_eq_true_eq] at h1 ⊢
  exact ⟨by omega, List.all_eq_true.2 fun c hc => List.all_eq_true.1 h2 c (hp.subset hc)⟩
theorem lin_take {l : List UInt8} (h : linB l = true) (k : Nat) : linB (l.take k) = true := lin_prefix h (List.take_prefix _ _)
theorem lin_noSemi {l : List UInt8} (h : linB l = true) : ∀ c ∈ l, c ≠ 59 := by
  intro c hc e
  unfold linB at h
  rw [Bool.and_eq_true] at h
  have := List.all_eq_true.1 h.2 c hc
  rw [e] at this; revert this; decide
theorem lin_semi (l : List UInt8) : linB (l ++ [59]) = false := by
  rcases h : linB (l ++ [59]) with _ | _
  · rfl
  · exact absurd rfl (lin_noSemi h 59 (by simp))
theorem lin_len {l : List UInt8} (h : linB l = true) : l.length ≤ 16 := by
  unfold linB at h; rw [Bool.and_eq_true] at h; simpa using h.1
theorem str_parts {l : List UInt8} (h : strB l = true) : l.length ≤ 120 ∧ (∀ x ∈ linesL l, linB x = true) ∧ linB (restL l) = true := by
  unfold strB at h
  rw [Bool.and_eq_true, Bool.and_eq_true] at h
  exact ⟨by simpa using h.1.1, List.all_eq_true.1 h.1.2, h.2⟩
theorem str_mk {l : List UInt8} (h1 : l.length ≤ 120) (h2 : ∀ x ∈ linesL l, linB x = true) (h3 : linB (restL l) = true) : strB l = true := by
  unfold strB; rw [decide_eq_true h1, List.all_eq_true.2 h2, h3]; rfl
/-- A beginning of a stream is a stream. -/
theorem str_prefix {a b : List UInt8} (h : strB (a ++ b) = true) : strB a = true := by
  obtain ⟨h1, h2, h3⟩ := str_parts h
  rw [List.length_append] at h1
  refine str_mk (by omega) (fun x hx => h2 x ((lines_prefix a b).subset hx)) ?_
  obtain ⟨z, hz, hp⟩ := stl_rest b (linesF a)
  rw [← linesF_app] at hz
  refine lin_prefix (b := z) ?_ hp
  rcases List.mem_append.1 hz with hz | hz
  · exact h2 z hz
  · simp at hz; subst hz; exact h3
theorem str_take {l : List UInt8} (h : strB l = true) (k : Nat) : strB (l.take k) = true := by
  have : strB (l.take k ++ l.drop k) = true := by rw [List.take_append_drop]; exact h
  exact str_prefix this

end Go.Proofs.YtoidmmedpefjfaaGreatDoor

/- StrLines of the program: the lines of a text as a list of its own, and what is behind the last sign. Condition: the text has at most 2^21 bytes. -/
namespace Go.Proofs.YtoidmmedpefjfaaGreatDoor
open Go.RowKit Go.Shelf

set_option maxRecDepth 100000 in
set_option maxHeartbeats 2000000 in
theorem append_in (n : Nat) (hn : 3 ≤ n) (s : ByteArray) (hs : s.size ≤ 2097152) (Bn : Nat) (w : World) (hBn : Bn < w.heap.size) (hc : w.cell? ⟨Bn, 0, none⟩ = some (.string s)) :
    CallsIn Fence.wide n Tryz.prog 109 #[.slice none 0 0, .func (.func 106) #[] #[.pointer (some ⟨Bn, 0, none⟩)]] w fun e w' => ∃ v, e = .returned v ∧ w'.ownsRow w.heap.size 9 1 v (linesL s.data.toList).length ((linesL s.data.toList).map strV) ∧ Below w.heap.size w w' := by
  have h1 : 1 ≤ n := by omega
  have hll := lines_len s.data.toList
  rw [len_list] at hll
  obtain ⟨i0, hi, hz0, hz1, hz2⟩ := info_parts infoStr
  refine callsIn_of_wp_marks Tryz.func109 rfl trivial ?_ rfl
  simp only [Tryz.ntmps109, List.size_toArray, List.length_cons, List.length_nil, Nat.reduceAdd, Nat.reduceSub, Array.replicate_succ, Array.replicate_zero, List.push_toArray, List.append_toArray, List.nil_append, List.cons_append]
  gi_wp2
  have bO := Boxed.new w 40 (.slice none 0 0)
  have hB0 : Below w.heap.size w (w.alloc (.cells #[.slice none 0 0] 40)) := (Below.refl _ w).alloc (Nat.le_refl _) _
  refine wpIn_rangeFunc_ownG rfl h1 (gf := 106) (lb := #[.pointer (some ⟨Bn, 0, none⟩)]) rfl trivial (enters_of Tryz.func106 (by kernel_rfl) rfl)
    (tell_stops (n - 1) (by omega) Bn s hs (w.alloc (.cells #[.slice none 0 0] 40)) (by simp; omega) ((hB0.cell (p := ⟨Bn, 0, none⟩) hBn).trans hc)) (fun _ _ => trivial) (fun _ _ _ _ _ _ _ _ => trivial) (Below.refl _ _) (fun _ => rfl)
    (fun pre W => (∃ v, Boxed W w.heap.size 40 v ∧ W.ownsRow w.heap.size 9 1 v pre.length (pre.map strV) ∧ True) ∧ Below w.heap.size w W)
    (fun _ _ _ => False)
    (OwnFrom.and (Own.from (holdsRow_own w.heap.size w.heap.size 40 9 1 (fun pre : List (List UInt8) => pre.length) (fun pre => pre.map strV) (fun _ _ => True)) _) (ownFrom_below (Nat.le_refl _) (by simp)))
    (fun _ _ _ _ _ hs _ _ => hs)
    ⟨⟨_, bO, World.ownsRow_nil _ _ _ _, trivial⟩, hB0⟩
    (fun x => { tmps := #[.slice none 0 0, .func (.func 106) #[] #[.pointer (some ⟨Bn, 0, none⟩)], .pointer (some ⟨w.heap.size, 0, none⟩), undef, .slice none 0 0, .string ⟨x.toArray⟩, .func (.func 106) #[] #[.pointer (some ⟨Bn, 0, none⟩)], .string ⟨x.toArray⟩, undef, undef, undef, undef, undef], defers := [] }) ?assign ?body ?done ?stop
  case assign =>
    intro l x W K hK
    gi_wp2_with (rw [Oper.semAt_eq _ _ _ (fun c h => by cases h)]; go_simp; try go_bits)
    exact hK
  case body =>
    rintro l pre x W ⟨⟨v, hv, hrow, _⟩, hB⟩ hlt
    have hc := hv.cell
    have hpl : (pre.map strV).length = pre.length := List.length_map _
    gi_wp2_with (first
      | (gi_at_builtin; refine wpListIn_append_own _ rfl _ _ 40 rfl w.heap.size 9 i0 (.string ⟨#[]⟩) 1 16 Tryz.underlying40 hi hz0 hz1 hz2 rfl (by decide) _ _ _ rfl (hrow.alloc _) ⟨W.heap.size, 0, none⟩ 1 1 [.string ⟨x.toArray⟩] rfl rfl (cell_one_new _ _ _) (by simp [Value.oneCell']) (by unfold maxLen; omega) (by omega) (by have := hB.size; simp; omega) ?_; intro v' w1 hown' hgrow _; obtain ⟨g', cap', rfl⟩ := ownsRow_succ hown'; obtain ⟨hv1, hv2, hr2, hk2, hb2⟩ := hv.appended (by decide) hrow hB.size (Nat.le_refl _) hown' hgrow; have hc1 := hv1.cell; have hf1 := hv1.frozen)
      | (rw [Oper.semAt_eq _ _ _ (fun c h => by cases h)]; go_simp; try go_bits))
    exact ⟨hk2.from _, trivial, ⟨_, hv2, by simpa [strV] using hr2, trivial⟩, hB.trans hb2⟩
  case done =>
    rintro D ys W hD rfl ⟨⟨v, hv, hrow, _⟩, hB⟩ hK
    have hc := hv.cell
    gi_wp2
    refine ⟨by simp, .inl ⟨_, _, rfl, run_takeDeferred hK, ?_⟩⟩
    exact ⟨_, results_tmp rfl _ _ _, v, rfl, ownsRow_putObj hrow _ hK rfl, hB.trans (belowK_b (w := w) (Nat.le_refl _) W D _ _ (by simp at hD; omega) hK rfl rfl)⟩
  case stop =>
    rintro D c pre W _ _ h _
    exact h.elim

set_option maxRecDepth 100000 in
set_option maxHeartbeats 800000 in
theorem collect_any (s : ByteArray) (hs : s.size ≤ 2097152) (Bn : Nat) (w : World) (hBn : Bn < w.heap.size) (hc : w.cell? ⟨Bn, 0, none⟩ = some (.string s)) :
    Calls Tryz.prog 74 #[.func (.func 106) #[] #[.pointer (some ⟨Bn, 0, none⟩)]] w fun e w' => ∃ v, e = .returned v ∧ w'.ownsRow w.heap.size 9 1 v (linesL s.data.toList).length ((linesL s.data.toList).map strV) ∧ Below w.heap.size w w' := by
  have HA := Lib.hid (callsIn_wide.1 (append_in 3 (by omega) s hs Bn w hBn hc))
  clear hc
  go_enter Tryz.func74, Tryz.ntmps74
  go_wp2_with (go_at_call 109; refine HA.out.mono ?_; rintro e w' ⟨v, rfl, ho, hb⟩)
  obtain ⟨a1, cap1, rfl⟩ := own_form ho
  go_ret
  exact ⟨_, rfl, ho, hb⟩

set_option maxRecDepth 100000 in
set_option maxHeartbeats 800000 in
theorem implLines_any (s : ByteArray) (w : World) (hs : s.size ≤ 2097152) :
    Calls Tryz.prog 30 #[.string s] w fun e w' => ∃ v, e = .returned (.tuple #[v, .string ⟨(restL s.data.toList).toArray⟩]) ∧ w'.ownsRow w.heap.size 9 1 v (linesL s.data.toList).length ((linesL s.data.toList).map strV) ∧ Below w.heap.size w w' := by
  go_enter Tryz.func30, Tryz.ntmps30
  go_wp2_with (first
    | (go_at_call 69; refine (linesOf_any _ _).mono ?_; rintro e w' ⟨rfl, rfl⟩)
    | (go_at_call 74; refine (collect_any s hs w.heap.size _ (by simp) (by simp)).mono ?_; rintro e w1 ⟨v, rfl, ho, hb⟩; obtain ⟨a1, cap1, rfl⟩ := own_form ho)
    | (go_at_call 75; refine (rest_any _ _ (by omega)).mono ?_; rintro e w2 ⟨rfl, rfl⟩))
  go_ret2
  exact ⟨_, rfl, own_base ho (by simp), below_box hb⟩

end Go.Proofs.YtoidmmedpefjfaaGreatDoor

/- What a list of texts reads as, in a world. No condition. -/
namespace Go.Proofs.YtoidmmedpefjfaaGreatDoor
open Go.RowKit

/-- The cells of a row, none of them frozen. -/
def RowAt (w : World) (g : Nat) (xs : List Value) : Prop := ∀ i (hi : i < xs.length), w.cell? ⟨g, i, none⟩ = some xs[i] ∧ w.frozen? ⟨g, i, none⟩ = false
theorem RowAt.below {w w' : World} {B g : Nat} {xs : List Value} (h : RowAt w g xs) (hb : Below B w w') (hg : g < B) : RowAt w' g xs :=
  fun i hi => ⟨(hb.cell (p := ⟨g, i, none⟩) hg).trans (h i hi).1, (hb.frozen (p := ⟨g, i, none⟩) hg).trans (h i hi).2⟩
theorem RowAt.lt {w : World} {g : Nat} {xs : List Value} (h : RowAt w g xs) (hn : 0 < xs.length) : g < w.heap.size := World.block_lt_of_cell? w _ (h 0 hn).1
theorem addr_ne {g i j : Nat} (h : i ≠ j) : (⟨g, i, none⟩ : Addr) ≠ ⟨g, j, none⟩ := by intro e; injection e with _ e2; exact h e2
theorem RowAt.set {w : World} {g i : Nat} {xs : List Value} (h : RowAt w g xs) (hi : i < xs.length) (u : Value) : RowAt (w.setCell ⟨g, i, none⟩ u) g (xs.set i u) := by
  intro j hj
  have hj' : j < xs.length := by simpa using hj
  refine ⟨?_, by rw [World.frozen?_setCell]; exact (h j hj').2⟩
  by_cases e : i = j
  · subst e
    rw [World.cell?_setCell_same _ _ _ (h i hi).1]; simp
  · rw [World.cell?_setCell_other _ _ _ u (addr_ne e), (h j hj').1]
    simp [e]
/-- A slice reads as these cells. -/
def RdV (w : World) (v : Value) (xs : List Value) : Prop := ∃ a cap, v = .slice a xs.length cap ∧ (0 < xs.length → ∃ g, a = some ⟨g, 0, none⟩ ∧ RowAt w g xs)
theorem RdV.below {w w' : World} {v : Value} {xs : List Value} (h : RdV w v xs) (hb : Below w.heap.size w w') : RdV w' v xs := by
  obtain ⟨a, cap, rfl, hr⟩ := h
  refine ⟨a, cap, rfl, fun hn => ?_⟩
  obtain ⟨g, rfl, hrow⟩ := hr hn
  exact ⟨g, rfl, hrow.below hb (hrow.lt hn)⟩
theorem RdV.of_own {w : World} {B n : Nat} {e : TypeId} {v : Value} {xs : List Value} (h : w.ownsRow B e 1 v n xs) : RdV w v xs ∧ xs.length = n := by
  have hl : xs.length = n := by rw [h.1]; omega
  obtain ⟨a, cap, e⟩ := own_form h
  refine ⟨⟨a, cap, by rw [e, hl], fun hn => ?_⟩, hl⟩
  obtain ⟨g, cap', e', _, _, _, hc⟩ := own_cells h (by omega)
  rw [e] at e'
  simp at e'
  exact ⟨g, e'.1, hc⟩
theorem eq_cell {w : World} {g i : Nat} {xs : List Value} (h : RowAt w g xs) (hi : i < xs.length) : w.cell? ⟨g, i, none⟩ = some xs[i] := (h i hi).1

end Go.Proofs.YtoidmmedpefjfaaGreatDoor

/- Blocks that hold structs of one type: a table's row lies in none of them. No condition. -/
namespace Go.Proofs.YtoidmmedpefjfaaGreatDoor
open Go.RowKit

/-- A block of cells of this type. -/
def TagT (w : World) (b : Nat) (t : TypeId) : Prop := ∃ cs fz, w.heap[b]? = some (.cells cs t fz)
theorem TagT.later {w w' : World} {b : Nat} {t : TypeId} (h : TagT w b t) (hb : Below w.heap.size w w') : TagT w' b t := by
  obtain ⟨cs, fz, h⟩ := h
  exact ⟨cs, fz, (hb.block b (Array.getElem?_eq_some_iff.1 h).1).trans h⟩
theorem TagT.new (w : World) (cs : Array Value) (t : TypeId) : TagT (w.alloc (.cells cs t)) w.heap.size t := ⟨cs, _, heap_alloc_new w (.cells cs t)⟩
theorem OwnTab.setTagT {w : World} {B : Nat} {v : Value} {es : List (Int × Int)} {t : TypeId} (h : OwnTab w B v es) {a : Addr} (ht : TagT w a.block t) (hne : t ≠ 34) (u : Value) : OwnTab (w.setCell a u) B v es := by
  refine ⟨h.1, ?_⟩
  rcases h.2 with h2 | ⟨g, cap, cur, hv, hB, hg, r⟩
  · exact .inl h2
  · refine .inr ⟨g, cap, cur, hv, hB, ?_, r⟩
    rw [Below.heap_setCell _ _ _ _ fun e => ?_]
    · exact hg
    · obtain ⟨cs, fz, h1⟩ := ht
      rw [← e, hg] at h1
      injection h1 with h1
      injection h1 with _ h2 _
      exact hne h2.symm
theorem tabT_ne : (25 : TypeId) ≠ 34 := by decide
theorem TagT.setCell {w : World} {b : Nat} {t : TypeId} (h : TagT w b t) (a : Addr) (u : Value) : TagT (w.setCell a u) b t := by
  obtain ⟨cs, fz, h⟩ := h
  by_cases e : b = a.block
  · subst e
    refine ⟨if a.spot.isSome then cs else cs.setIfInBounds a.off u, fz, ?_⟩
    show (w.heap.modify a.block _)[a.block]? = _
    rw [Array.getElem?_modify]
    simp [h]
  · exact ⟨cs, fz, (Below.heap_setCell _ _ _ _ e).trans h⟩

end Go.Proofs.YtoidmmedpefjfaaGreatDoor

/- The law that a stream goes outside line by line: at every code. Conditions: the code lies in memory; the variables that are read hold what they are laid with. -/
namespace Go.Proofs.YtoidmmedpefjfaaGreatDoor
open Go.RowKit Go.Sort

theorem boxD {w w' : World} {b i : Nat} {v : Value} (h : w.cell? ⟨b, i, none⟩ = some v) (hb : Below w.heap.size w w') : w'.cell? ⟨b, i, none⟩ = some v := by
  rw [hb.cell (p := ⟨b, i, none⟩) (World.block_lt_of_cell? w _ h)]; exact h
theorem SmE.wfE {us : List (Int × Int)} (h : SmE us) : wfE us := fun x hx => (h x hx).wf
theorem boxF {w w' : World} {b i : Nat} {v : Value} (h : w.cell? ⟨b, i, none⟩ = some v) (hf : w.frozen? ⟨b, i, none⟩ = false) (hb : Below w.heap.size w w') : w'.frozen? ⟨b, i, none⟩ = false := by
  rw [hb.frozen (p := ⟨b, i, none⟩) (World.block_lt_of_cell? w _ h)]; exact hf
theorem fzAt {w : World} {cs : Array Value} {t : TypeId} {b : Nat} (h : b = w.heap.size) : (w.alloc (.cells cs t)).frozen? ⟨b, 0, none⟩ = false := by subst h; exact (cell_new _ _ _ 0).2
theorem tagAt {w : World} {cs : Array Value} {t : TypeId} {b : Nat} (h : b = w.heap.size) : TagT (w.alloc (.cells cs t)) b t := by subst h; exact TagT.new _ _ _
theorem fresh1g {W w : World} {x : Value} {t : TypeId} (h : Below (W.alloc (.cells #[x] t)).heap.size (W.alloc (.cells #[x] t)) w) : TagT w W.heap.size t := (TagT.new W #[x] t).later h
theorem fresh1dg {W w : World} {x : Value} {t : TypeId} (h : Below (W.alloc (.cells #[x] t)).drew.heap.size (W.alloc (.cells #[x] t)).drew w) : TagT w W.heap.size t := fresh1g (((Below.refl _ _).drew).trans h)
/-- RwrStream of the program answers a table in memory of its own. -/
theorem implStrO (v : Value) (es : List (Int × Int)) (s : ByteArray) (w : World) (hn : es.length ≤ 4194304) (hs : s.size ≤ 2097152) (ht : TabAt w v es) (hm : mapB es = true) (hi : strB s.data.toList = true) (hv : VarsOk w) :
    Calls Tryz.prog 27 #[.agg #[v], .string s] w fun e w' => ∃ g c, e = .returned (.tuple #[.agg #[.slice g (streamE es (linesL s.data.toList)).1.length c], .string ⟨(streamE es (linesL s.data.toList)).2.toArray⟩]) ∧ OwnTab w' 0 (.slice g (streamE es (linesL s.data.toList)).1.length c) (streamE es (linesL s.data.toList)).1 ∧ Below w.heap.size w w' := by
  refine (implStream_ok v es s w hn hs ht hm hi hv).mono ?_
  rintro e w' ⟨g, c, rfl, ho, hb⟩
  exact ⟨_, _, rfl, ho.mono (Nat.zero_le _), hb⟩
/-- RwrLine of the program answers a table in memory of its own. -/
theorem implLinO (v : Value) (es : List (Int × Int)) (s : ByteArray) (w : World) (hn : es.length ≤ 4194304) (hs : s.size ≤ 2097152) (ht : TabAt w v es) (hm : mapB es = true) (hi : linB s.data.toList = true) (hv : VarsOk w) :
    Calls Tryz.prog 14 #[.agg #[v], .string s] w fun e w' => ∃ g c, e = .returned (.tuple #[.agg #[.slice g (lineE es s.data.toList).1.length c], .string ⟨(lineE es s.data.toList).2.toArray⟩]) ∧ OwnTab w' 0 (.slice g (lineE es s.data.toList).1.length c) (lineE es s.data.toList).1 ∧ Below w.heap.size w w' := by
  refine (implRwrLine_ok v es s w hn hs ht hm hi hv).mono ?_
  rintro e w' ⟨g, c, rfl, ho, hb⟩
  exact ⟨_, _, rfl, ho.mono (Nat.zero_le _), hb⟩

set_option maxRecDepth 100000 in
set_option maxHeartbeats 12800000 in
theorem lwRwrStream_of (ao : Option Addr) (n cap : Nat) (w : World) (h : BytesIn w ao n) (hn : n ≤ cap) (hv : VarsOk w) (hb1 : ¬ 1048576 < n) :
    Calls Tryz.prog 4 #[.slice ao n cap] w fun e w' => e = .returned (.bool true) ∧ Below w.heap.size w w' := by
  have H := Lib.hid h
  have HV : Hid (∀ w', Below w.heap.size w w' → VarsOk w') := fun w' h => hv.below h
  clear h hv
  go_enter Tryz.func4, Tryz.ntmps4
  go_wp2_with fail
  (go_at_call 26; refine (drawRwrStream_any ao n cap _ H.out hn).mono ?_; rintro e w1 ⟨g1, k1, us, s, rfl, o1, ⟨u8, sm1⟩, hss, b1⟩)
  have BW := Lib.hid b1
  have Tt := Lib.hid (o1.mono (Nat.zero_le _))
  have WU := Lib.hid sm1.wfE
  clear b1 o1 H sm1
  have hxl := strA_le us s.data.toList
  have hq1 := strA_len us s.data.toList
  obtain ⟨xs, hxs⟩ : ∃ xs, xs = (strA us s.data.toList).1 := ⟨_, rfl⟩
  obtain ⟨Q1, hQ1⟩ : ∃ Q1 : ByteArray, Q1 = ⟨(strA us s.data.toList).2.toArray⟩ := ⟨_, rfl⟩
  have hQ1s : Q1.size ≤ 2097152 := by rw [hQ1]; simpa [ByteArray.size] using hq1
  rw [← hxs] at hxl
  obtain ⟨mb, hmb⟩ : ∃ mb, mb = mapB us := ⟨_, rfl⟩
  obtain ⟨sb, hsb⟩ : ∃ sb, sb = strB s.data.toList := ⟨_, rfl⟩
  have HIA : Hid (∀ w, TabAt w (.slice g1 us.length k1) us → VarsOk w → Calls Tryz.prog 27 #[.agg #[.slice g1 us.length k1], .string s] w fun e w' => ∃ g c, e = .returned (.tuple #[.agg #[.slice g xs.length c], .string (Q1)]) ∧ FreshTab w' w.heap.size (.slice g xs.length c) xs ∧ Below w.heap.size w w') := fun w ht hv => by rw [hxs, hQ1]; exact implStrA _ us s w (by omega) (by omega) WU.out ht hv
  have HSA : Hid (∀ w, TabAt w (.slice g1 us.length k1) us → Calls Tryz.prog 28 #[.agg #[.slice g1 us.length k1], .string s] w fun e w' => ∃ g c, e = .returned (.tuple #[.agg #[.slice g xs.length c], .string (Q1)]) ∧ FreshTab w' w.heap.size (.slice g xs.length c) xs ∧ Below w.heap.size w w') := fun w ht => by rw [hxs, hQ1]; exact specStrA _ us s w (by omega) (by omega) ht
  have HHE : Hid (∀ (l : List (Int × Int)) v1 v2 w, l.length ≤ 4194304 → TabAt w v1 l → TabAt w v2 l → Calls Tryz.prog 16 #[v1, v2] w fun e w' => e = .returned (.bool true) ∧ Below w.heap.size w w') := fun l v1 v2 w hl h1 h2 => haEnds_same l v1 v2 w hl h1 h2
  have HMO : Hid (∀ w, TabAt w (.slice g1 us.length k1) us → Calls Tryz.prog 17 #[.agg #[.slice g1 us.length k1]] w fun e w' => e = .returned (.bool mb) ∧ Below w.heap.size w w') := fun w ht => by rw [hmb]; exact specMapOk_any _ us w (by omega) ht
  have HSO : Hid (∀ w, Calls Tryz.prog 29 #[.string s] w fun e w' => e = .returned (.bool sb) ∧ Below w.heap.size w w') := fun w => by rw [hsb]; exact specStr_any s w (by omega)
  have HNO : Hid ((mb && sb) = false → xs = [] ∧ Q1 = ⟨#[]⟩) := fun e1 => by
    rw [hmb, hsb] at e1
    rw [hxs, hQ1, strA_not e1]
    exact ⟨rfl, rfl⟩
  have HYES : Hid (mb = true → sb = true → mapB us = true ∧ strB s.data.toList = true ∧ xs = (streamE us (linesL s.data.toList)).1 ∧ Q1.data.toList = (streamE us (linesL s.data.toList)).2) := fun e1 e2 => by
    rw [hmb] at e1
    rw [hsb] at e2
    have e3 := strA_yes (es := us) (l := s.data.toList) (by rw [e1, e2]; rfl)
    exact ⟨e1, e2, by rw [hxs, e3], by rw [hQ1, e3]⟩
  clear hxs hQ1 hmb hsb hq1
  go_wp2_with fail
  obtain ⟨W1, hW1⟩ : ∃ W, W = (w1.alloc (.cells #[.slice g1 us.length k1] 25)) := ⟨_, rfl⟩
  have qW1 : Below w1.heap.size w1 W1 := by rw [hW1]; exact (Below.refl _ _).alloc (Nat.le_refl _) _
  have zW1 : w1.heap.size + 1 ≤ W1.heap.size := by rw [hW1]; simp
  have ct0 : W1.cell? ⟨w1.heap.size, 0, none⟩ = some (.slice g1 us.length k1) := by rw [hW1]; simp
  replace Tt := Lib.hid (Tt.out.below qW1)
  replace BW := Lib.hid (BW.out.trans (qW1.mono BW.out.size))
  rw [← hW1]
  obtain ⟨bt, hbt⟩ : ∃ b, b = w1.heap.size := ⟨_, rfl⟩
  have lt : bt < W1.heap.size := by omega
  rw [← hbt] at ct0 ⊢
  clear hbt hW1
  clear qW1 zW1
  (go_at_call 27; refine (HIA.out _ Tt.out.tab (HV.out _ BW.out)).mono ?_; rintro e w2x ⟨g3, k3, rfl, f3, qb⟩)
  have zb := qb.size
  replace ct0 := boxD ct0 qb
  replace lt : bt < w2x.heap.size := by omega
  replace Tt := Lib.hid (Tt.out.below qb)
  replace BW := Lib.hid (BW.out.trans (qb.mono BW.out.size))
  clear qb zb
  have FX := Lib.hid f3
  have Tx := Lib.hid f3.tab
  clear f3
  clear FX
  have at0 : ∀ o, (w2x.alloc o).cell? ⟨bt, 0, none⟩ = some (.slice g1 us.length k1) := fun o => by rw [cell_alloc_lt lt]; exact ct0
  go_wp2_with fail
  obtain ⟨W3, hW3⟩ : ∃ W, W = (w2x.alloc (.cells #[.slice g3 xs.length k3] 25)) := ⟨_, rfl⟩
  have qW3 : Below w2x.heap.size w2x W3 := by rw [hW3]; exact (Below.refl _ _).alloc (Nat.le_refl _) _
  have zW3 : w2x.heap.size + 1 ≤ W3.heap.size := by rw [hW3]; simp
  replace ct0 := boxD ct0 qW3
  replace lt : bt < W3.heap.size := by omega
  have cx0 : W3.cell? ⟨w2x.heap.size, 0, none⟩ = some (.slice g3 xs.length k3) := by rw [hW3]; simp
  replace Tt := Lib.hid (Tt.out.below qW3)
  replace Tx := Lib.hid (Tx.out.below qW3)
  replace BW := Lib.hid (BW.out.trans (qW3.mono BW.out.size))
  rw [← hW3]
  obtain ⟨bx, hbx⟩ : ∃ b, b = w2x.heap.size := ⟨_, rfl⟩
  have lx : bx < W3.heap.size := by omega
  rw [← hbx] at cx0 ⊢
  clear hbx hW3
  clear at0
  clear qW3 zW3
  (go_at_call 28; refine (HSA.out _ Tt.out.tab).mono ?_; rintro e w4x ⟨g4, k4, rfl, f4, qb⟩)
  have zb := qb.size
  replace ct0 := boxD ct0 qb
  replace lt : bt < w4x.heap.size := by omega
  replace cx0 := boxD cx0 qb
  replace lx : bx < w4x.heap.size := by omega
  replace Tt := Lib.hid (Tt.out.below qb)
  replace Tx := Lib.hid (Tx.out.below qb)
  replace BW := Lib.hid (BW.out.trans (qb.mono BW.out.size))
  clear qb zb
  have Tc := Lib.hid f4.tab
  clear f4
  have at0 : ∀ o, (w4x.alloc o).cell? ⟨bt, 0, none⟩ = some (.slice g1 us.length k1) := fun o => by rw [cell_alloc_lt lt]; exact ct0
  have ax0 : ∀ o, (w4x.alloc o).cell? ⟨bx, 0, none⟩ = some (.slice g3 xs.length k3) := fun o => by rw [cell_alloc_lt lx]; exact cx0
  go_wp2_with fail
  obtain ⟨W5, hW5⟩ : ∃ W, W = (w4x.alloc (.cells #[.slice g4 xs.length k4] 25)) := ⟨_, rfl⟩
  have qW5 : Below w4x.heap.size w4x W5 := by rw [hW5]; exact (Below.refl _ _).alloc (Nat.le_refl _) _
  have zW5 : w4x.heap.size + 1 ≤ W5.heap.size := by rw [hW5]; simp
  replace ct0 := boxD ct0 qW5
  replace lt : bt < W5.heap.size := by omega
  replace cx0 := boxD cx0 qW5
  replace lx : bx < W5.heap.size := by omega
  have cc0 : W5.cell? ⟨w4x.heap.size, 0, none⟩ = some (.slice g4 xs.length k4) := by rw [hW5]; simp
  replace Tt := Lib.hid (Tt.out.below qW5)
  replace Tx := Lib.hid (Tx.out.below qW5)
  replace Tc := Lib.hid (Tc.out.below qW5)
  replace BW := Lib.hid (BW.out.trans (qW5.mono BW.out.size))
  rw [← hW5]
  obtain ⟨bc, hbc⟩ : ∃ b, b = w4x.heap.size := ⟨_, rfl⟩
  have lc : bc < W5.heap.size := by omega
  rw [← hbc] at cc0 ⊢
  clear hbc hW5
  clear at0 ax0
  clear qW5 zW5
  (go_at_call 16; refine (HHE.out xs _ _ _ (by omega) Tx.out Tc.out).mono ?_; rintro e w6x ⟨rfl, qb⟩)
  have zb := qb.size
  replace ct0 := boxD ct0 qb
  replace lt : bt < w6x.heap.size := by omega
  replace cx0 := boxD cx0 qb
  replace lx : bx < w6x.heap.size := by omega
  replace cc0 := boxD cc0 qb
  replace lc : bc < w6x.heap.size := by omega
  replace Tt := Lib.hid (Tt.out.below qb)
  replace Tx := Lib.hid (Tx.out.below qb)
  replace Tc := Lib.hid (Tc.out.below qb)
  replace BW := Lib.hid (BW.out.trans (qb.mono BW.out.size))
  clear qb zb
  clear Tc
  go_wp2_with fail
  (go_at_call 17; refine (HMO.out _ Tt.out.tab).mono ?_; rintro e w7x ⟨rfl, qb⟩)
  have zb := qb.size
  replace ct0 := boxD ct0 qb
  replace lt : bt < w7x.heap.size := by omega
  replace cx0 := boxD cx0 qb
  replace lx : bx < w7x.heap.size := by omega
  replace cc0 := boxD cc0 qb
  replace lc : bc < w7x.heap.size := by omega
  replace Tt := Lib.hid (Tt.out.below qb)
  replace Tx := Lib.hid (Tx.out.below qb)
  replace BW := Lib.hid (BW.out.trans (qb.mono BW.out.size))
  clear qb zb
  cases mb
  · obtain ⟨e1, e2⟩ := HNO.out (by simp)
    subst e1
    subst e2
    clear HNO HYES
    go_wp2_with fail
    (go_at_call 19; refine (haOk_any _).mono ?_; rintro e wl ⟨rfl, rfl⟩)
    go_wp2_with fail
    go_ret
    exact ⟨rfl, BW.out⟩
  · go_wp2_with fail
    (go_at_call 29; refine (HSO.out _).mono ?_; rintro e w8x ⟨rfl, qb⟩)
    have zb := qb.size
    replace ct0 := boxD ct0 qb
    replace lt : bt < w8x.heap.size := by omega
    replace cx0 := boxD cx0 qb
    replace lx : bx < w8x.heap.size := by omega
    replace cc0 := boxD cc0 qb
    replace lc : bc < w8x.heap.size := by omega
    replace Tt := Lib.hid (Tt.out.below qb)
    replace Tx := Lib.hid (Tx.out.below qb)
    replace BW := Lib.hid (BW.out.trans (qb.mono BW.out.size))
    clear qb zb
    cases sb
    · obtain ⟨e1, e2⟩ := HNO.out (by simp)
      subst e1
      subst e2
      clear HNO HYES
      go_wp2_with fail
      (go_at_call 19; refine (haOk_any _).mono ?_; rintro e wl ⟨rfl, rfl⟩)
      go_wp2_with fail
      go_ret
      exact ⟨rfl, BW.out⟩
    · obtain ⟨hm, hs, hx1, hq1⟩ := HYES.out (by simp) (by simp)
      clear HNO HYES
      have HL : Hid (∀ w, Calls Tryz.prog 30 #[.string s] w fun e w' => ∃ v, e = .returned (.tuple #[v, .string ⟨(restL s.data.toList).toArray⟩]) ∧ w'.ownsRow w.heap.size 9 1 v (linesL s.data.toList).length ((linesL s.data.toList).map strV) ∧ Below w.heap.size w w') := fun w => implLines_any s w (by omega)
      obtain ⟨ls, hls⟩ : ∃ ls, ls = linesL s.data.toList := ⟨_, rfl⟩
      obtain ⟨rs, hrs⟩ : ∃ rs, rs = (restL s.data.toList).toArray := ⟨_, rfl⟩
      have hlx : ∀ y ∈ ls, linB y = true := fun y hy => (str_parts hs).2.1 y (by rw [← hls]; exact hy)
      have hln : ls.length ≤ 200 := by rw [hls]; have := lines_len s.data.toList; rw [len_list] at this; omega
      rw [← hls] at HL hx1 hq1
      rw [← hrs] at HL
      have HLX := Lib.hid hlx
      have HX1 := Lib.hid hx1
      have HQ1 := Lib.hid hq1
      have HM := Lib.hid hm
      have hu6 := mapB_le hm
      clear hls hrs hlx hx1 hq1 hm hs
      go_wp2_with fail
      (go_at_call 30; refine (HL.out _).mono ?_; rintro e w9x ⟨vl, rfl, ol, qb⟩)
      have zb := qb.size
      replace ct0 := boxD ct0 qb
      replace lt : bt < w9x.heap.size := by omega
      replace cx0 := boxD cx0 qb
      replace lx : bx < w9x.heap.size := by omega
      replace cc0 := boxD cc0 qb
      replace lc : bc < w9x.heap.size := by omega
      replace Tt := Lib.hid (Tt.out.below qb)
      replace Tx := Lib.hid (Tx.out.below qb)
      replace BW := Lib.hid (BW.out.trans (qb.mono BW.out.size))
      clear qb zb
      obtain ⟨al, cl, rfl⟩ := own_form ol
      have RL := Lib.hid (RdV.of_own ol).1
      clear ol
      have Tx9 := Tx
      have RL9 := RL
      have BW9 := BW
      have cx9 := cx0
      have at0 : ∀ o, (w9x.alloc o).cell? ⟨bt, 0, none⟩ = some (.slice g1 us.length k1) := fun o => by rw [cell_alloc_lt lt]; exact ct0
      have ax0 : ∀ o, (w9x.alloc o).cell? ⟨bx, 0, none⟩ = some (.slice g3 xs.length k3) := fun o => by rw [cell_alloc_lt lx]; exact cx0
      have ac0 : ∀ o, (w9x.alloc o).cell? ⟨bc, 0, none⟩ = some (.slice g4 xs.length k4) := fun o => by rw [cell_alloc_lt lc]; exact cc0
      go_wp2_with fail
      obtain ⟨W10, hW10⟩ : ∃ W, W = (w9x.alloc (.cells #[.slice g1 us.length k1] 25)) := ⟨_, rfl⟩
      have qW10 : Below w9x.heap.size w9x W10 := by rw [hW10]; exact (Below.refl _ _).alloc (Nat.le_refl _) _
      have zW10 : w9x.heap.size + 1 ≤ W10.heap.size := by rw [hW10]; simp
      have ntr : bt < w9x.heap.size := lt
      have nxr : bx < w9x.heap.size := lx
      have ncr : bc < w9x.heap.size := lc
      replace ct0 := boxD ct0 qW10
      replace lt : bt < W10.heap.size := by omega
      replace cx0 := boxD cx0 qW10
      replace lx : bx < W10.heap.size := by omega
      replace cc0 := boxD cc0 qW10
      replace lc : bc < W10.heap.size := by omega
      have cr0 : W10.cell? ⟨w9x.heap.size, 0, none⟩ = some (.slice g1 us.length k1) := by rw [hW10]; simp
      have fr : W10.frozen? ⟨w9x.heap.size, 0, none⟩ = false := by rw [hW10]; exact (cell_new _ _ _ 0).2
      have Gr : Hid (TagT W10 (w9x.heap.size) 25) := by rw [hW10]; exact TagT.new _ _ _
      replace Tt := Lib.hid (Tt.out.below qW10)
      replace Tx := Lib.hid (Tx.out.below qW10)
      replace RL := Lib.hid (RL.out.below qW10)
      have BWz := BW.out.size
      replace BW := Lib.hid (BW.out.trans (qW10.mono BW.out.size))
      rw [← hW10]
      obtain ⟨br, hbr⟩ : ∃ b, b = w9x.heap.size := ⟨_, rfl⟩
      have lr : br < W10.heap.size := by omega
      rw [← hbr] at cr0 fr Gr ⊢
      replace ntr : bt < br := by omega
      replace nxr : bx < br := by omega
      replace ncr : bc < br := by omega
      have mr : w.heap.size ≤ br := by have := BWz; omega
      have HK : Hid (∀ w', Below br w9x w' → TabAt w' (.slice g3 xs.length k3) xs ∧ RdV w' (.slice al ls.length cl) (ls.map strV) ∧ w'.cell? ⟨bx, 0, none⟩ = some (.slice g3 xs.length k3) ∧ Below w.heap.size w w') := fun w' hb => by
        rw [hbr] at hb
        exact ⟨Tx9.out.below hb, RL9.out.below hb, boxD cx9 hb, BW9.out.trans (hb.mono BW9.out.size)⟩
      have B9 : Hid (Below br w9x W10) := by rw [hbr, hW10]; exact (Below.refl _ _).alloc (Nat.le_refl _) _
      clear hbr hW10
      clear at0 ax0 ac0
      clear qW10 zW10 BWz
      have OR := Tt
      clear Tt Tx RL BW Tx9 RL9 BW9 cx9 cx0 cc0 ct0 lt lx lc ntr nxr ncr HIA HSA HMO HSO HL
      go_wp2_with fail
      go_loopw [12, 13, 14, 15] (fun o i _ _ wr => ∃ (j : Nat) (vs : List (Int × Int)) (x : List UInt8) (g : Option Addr) (c : Nat), j ≤ ls.length ∧ i = .int .i64 j ∧ o = .string ⟨x.toArray⟩ ∧ (vs, x) = streamE us (ls.take j) ∧ x.length ≤ j * 2097173 ∧ wr.cell? ⟨br, 0, none⟩ = some (.slice g vs.length c) ∧ wr.frozen? ⟨br, 0, none⟩ = false ∧ TagT wr br 25 ∧ OwnTab wr 0 (.slice g vs.length c) vs ∧ Below br w9x wr) (fun _ i _ _ _ => ls.length - (intOf i).toNat)
      case atStart => exact ⟨0, us, [], g1, k1, Nat.zero_le _, rfl, rfl, rfl, by simp, cr0, fr, Gr.out, OR.out, B9.out⟩
      case round =>
        obtain ⟨j, vs, x, g, c, hj, rfl, rfl, hT, hxj, cy, fy, gy, oy, hb⟩ := hrel
        have HT := Lib.hid hT
        have HO := Lib.hid oy
        have HG := Lib.hid gy
        have HB := Lib.hid hb
        have lyr : br < wr.heap.size := World.block_lt_of_cell? wr _ cy
        obtain ⟨tx, rl, cx, bw⟩ := HK.out wr hb
        have TX := Lib.hid tx
        have BW := Lib.hid bw
        have hv6 : vs.length ≤ 6 := by
          have := mapB_le (streamE_ok HM.out (ls.take j))
          rw [← HT.out] at this
          exact this
        clear hT gy oy hb tx bw
        by_cases hlt : j < ls.length
        · obtain ⟨ax, cx', ex, hrx⟩ := rl
          rw [List.length_map] at hrx
          simp at ex
          obtain ⟨ex1, ex2⟩ := ex
          subst ex1
          subst ex2
          obtain ⟨gx, hgx, rowx⟩ := hrx (by omega)
          subst hgx
          have q0 := (rowx j (by simpa using hlt)).1
          simp only [List.getElem_map] at q0
          have hlin := HLX.out ls[j] (List.getElem_mem hlt)
          have HTK : Hid (ls.take (j + 1) = ls.take j ++ [ls[j]]) := List.take_succ_eq_append_getElem hlt
          obtain ⟨y, hy⟩ : ∃ y, y = ls[j] := ⟨_, rfl⟩
          rw [← hy] at q0 hlin HTK
          have hyl := lin_len hlin
          obtain ⟨vs', hvs'⟩ : ∃ vs', vs' = (lineE vs y).1 := ⟨_, rfl⟩
          obtain ⟨x', hx'⟩ : ∃ x', x' = (lineE vs y).2 := ⟨_, rfl⟩
          have HN : Hid ((vs', x ++ x' ++ [59]) = streamE us (ls.take (j + 1))) := by
            show _ = _
            rw [HTK.out, streamE_snoc, ← HT.out, hvs', hx']; rfl
          have hxl : x'.length ≤ 2097172 := by have := lineE_len vs y; rw [hx']; omega
          have hxb : x.length ≤ 4400000000000 := by have : j * 2097173 ≤ 200 * 2097173 := Nat.mul_le_mul_right _ (by omega); omega
          have hxn : (x ++ x' ++ [59]).length ≤ (j + 1) * 2097173 := by simp; omega
          have HXN := Lib.hid hxn
          have hvm : mapB vs = true := by
            have := streamE_ok HM.out (ls.take j)
            rw [← HT.out] at this
            exact this
          have HC : Hid (∀ w0, Below wr.heap.size wr w0 → Calls Tryz.prog 14 #[.agg #[.slice g vs.length c], strV y] w0 fun e w' => ∃ g c, e = .returned (.tuple #[.agg #[.slice g vs'.length c], .string ⟨x'.toArray⟩]) ∧ OwnTab w' 0 (.slice g vs'.length c) vs' ∧ Below w0.heap.size w0 w') := fun w0 hb => by
            rw [hvs', hx']
            exact implLinO _ vs ⟨y.toArray⟩ w0 (by omega) (by show y.toArray.size ≤ _; simp; omega) (HO.out.below hb).tab hvm hlin (HV.out _ (BW.out.trans (hb.mono BW.out.size)))
          have hj2 : (j : Int) ≤ 200 := by omega
          have mk : Hid (∀ w', Below wr.heap.size wr w' → w'.cell? ⟨br, 0, none⟩ = some (.slice g vs.length c) ∧ w'.cell? ⟨gx, j, none⟩ = some (strV y) ∧ Below wr.heap.size wr w') := fun w' h => ⟨box_below cy h, box_below q0 h, h⟩
          clear rowx hrx hy hlin hyl hvs' hx' hxn hvm hxj cx
          go_upto_region 16 with fail
          go_cut [14, 15] (fun s14 s15 wx => ∃ b g c, s14 = .pointer (some ⟨b, 0, none⟩) ∧ s15 = .string ⟨x'.toArray⟩ ∧ wx.cell? ⟨b, 0, none⟩ = some (.slice g vs'.length c) ∧ OwnTab wx 0 (.slice g vs'.length c) vs' ∧ Below wr.heap.size wr wx)
          case first =>
            go_region_held3 (fun w' => w'.cell? ⟨br, 0, none⟩ = some (.slice g vs.length c) ∧ w'.cell? ⟨gx, j, none⟩ = some (strV y) ∧ Below wr.heap.size wr w')
              (first
                | exact mk.out _ (Below.refl _ _).drew
                | exact mk.out _ cc
                | exact mk.out _ (cc.alloc cc.size _)
                | exact mk.out _ (cc.setCell (by first | (simp; done) | (simp; omega)) _)
                | exact mk.out _ (((Below.refl _ _).drew).alloc (Nat.le_refl _) _)
                | (trace_state; fail))
              (first | (go_at_call 14; have hS := (by assumption : _ ∧ _ ∧ Below wr.heap.size wr _); refine (HC.out _ hS.2.2).mono ?_; rintro e wN ⟨gN, cN, rfl, oN, bN⟩; have ON := Lib.hid oN; have cc : Below wr.heap.size wr wN := hS.2.2.trans (bN.mono hS.2.2.size); (first | (have hk := fresh1 bN; obtain ⟨k0, kf⟩ := hk; have kt := fresh1g bN) | (have hk := fresh1d bN; obtain ⟨k0, kf⟩ := hk; have kt := fresh1dg bN) | skip)))
            all_goals (go_wp2_with fail; go_meet)
            all_goals (first | exact ⟨_, _, _, rfl, rfl, by simp, ON.out.below ((Below.refl _ _).alloc (Nat.le_refl _) _), cc.alloc cc.size _⟩ | exact ⟨_, _, _, rfl, rfl, World.cell?_setCell_same _ _ _ k0, ON.out.setTagT kt tabT_ne _, cc.setCell (by first | (simp; done) | (simp; omega)) _⟩ | (trace_state; fail))
          case rest =>
            obtain ⟨b, gN, cN, rfl, rfl, kN, oN, bN⟩ := hcut
            have ON := Lib.hid oN
            have t3 := box_below cy bN
            have f3 := box_frozen cy fy bN
            have G3 := Lib.hid (HG.out.later bN)
            have B3 := Lib.hid (HB.out.trans (bN.mono (Nat.le_of_lt lyr)))
            have HSX : Hid ((⟨x.toArray⟩ : ByteArray) ++ ⟨x'.toArray⟩ ++ ⟨#[59]⟩ = ⟨(x ++ x' ++ [59]).toArray⟩) := by
              show _ = _
              apply ByteArray.ext
              apply Array.ext'
              simp
            clear oN bN cy fy q0 mk HC
            go_wp2_with fail
            go_roundw
            case rel =>
              exact ⟨j + 1, vs', x ++ x' ++ [59], gN, cN, by omega, by go_num, by rw [HSX.out], HN.out, HXN.out, World.cell?_setCell_same _ _ _ t3, by rw [World.frozen?_setCell]; exact f3, G3.out.setCell _ _, ON.out.setTagT G3.out tabT_ne _, B3.out.setCell (Nat.le_refl _) _⟩
            case measure => simp [intOf]; omega
        · have hje : j = ls.length := by omega
          have hTE : (vs, x) = streamE us ls := by rw [HT.out, hje, List.take_length]
          have hvx : vs = xs := by rw [HX1.out, ← hTE]
          have hxq : (⟨x.toArray⟩ : ByteArray) = Q1 := by rw [← Lib.mk_data Q1, HQ1.out, ← hTE]
          clear hlt hTE rl HX1 HQ1 HT
          subst hvx
          rw [hxq]
          clear hxq
          have hv6' : vs.length ≤ 4194304 := by omega
          go_wp2_with fail
          (go_at_call 16; refine (HHE.out vs _ _ _ hv6' HO.out.tab TX.out).mono ?_; rintro e wl ⟨rfl, bl⟩)
          go_wp2_with fail
          go_ret
          exact ⟨by simp, BW.out.trans (bl.mono BW.out.size)⟩

set_option maxRecDepth 100000 in
set_option maxHeartbeats 800000 in
theorem lwRwrStream_any (ao : Option Addr) (n cap : Nat) (w : World) (h : BytesIn w ao n) (hn : n ≤ cap) (hv : VarsOk w) :
    Calls Tryz.prog 4 #[.slice ao n cap] w fun e w' => e = .returned (.bool true) ∧ Below w.heap.size w w' := by
  by_cases hb1 : 1048576 < n
  · clear h hv
    go_enter Tryz.func4, Tryz.ntmps4
    go_wp2_with fail
    go_ret
    exact ⟨rfl, Below.refl _ _⟩
  · exact lwRwrStream_of ao n cap w h hn hv hb1

end Go.Proofs.YtoidmmedpefjfaaGreatDoor
