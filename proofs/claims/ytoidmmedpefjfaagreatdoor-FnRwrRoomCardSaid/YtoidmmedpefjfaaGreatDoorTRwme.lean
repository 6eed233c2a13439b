/- Lines that have gone outside: none has a sign, none names an end inside, and they go outside as they are. No condition. (Several texts, joined: StrALen, LinesP, ILines, RdV, SRwrL, IRwrA, PortP, StrOut.) -/
import Derived.Test.YtoidmmedpefjfaaGreatDoorTRwmd
import Derived.Test.YtoidmmedpefjfaaGreatDoorSemi
import Derived.Test.YtoidmmedpefjfaaGreatDoorISeq
import Derived.Test.YtoidmmedpefjfaaGreatDoorGen
import Derived.Test.YtoidmmedpefjfaaGreatDoorTRwma

/- How long a stream is outside. No condition. -/
namespace Go.Proofs.YtoidmmedpefjfaaGreatDoor
open Go.RowKit

theorem strA_len (es : List (Int × Int)) (s : List UInt8) : (strA es s).2.length ≤ 2097152 := by
  unfold strA
  split
  · rename_i h
    have h1 : s.length ≤ 120 := by have := h.2; unfold strB at this; simp at this; exact this.1.1
    have hl := lines_len s
    have := strE_len (linesL s) 120 (fun x hx => by have := line_len hx; omega) (es, [])
    unfold streamE
    have h3 : (linesL s).length * (120 + 21) ≤ 120 * (120 + 21) := Nat.mul_le_mul_right _ (by omega)
    simp only [List.length_nil] at this
    omega
  · simp

end Go.Proofs.YtoidmmedpefjfaaGreatDoor

/- Plain facts on lines and streams: beginnings, two texts one behind the other, what no line has. No program. No condition. -/
namespace Go.Proofs.YtoidmmedpefjfaaGreatDoor

theorem stl_noSemi (l : List UInt8) (x : List (List UInt8) × List UInt8) (h1 : ∀ y ∈ x.1, ∀ c ∈ y, c ≠ 59) (h2 : ∀ c ∈ x.2, c ≠ 59) :
    (∀ y ∈ (l.foldl stl x).1, ∀ c ∈ y, c ≠ 59) ∧ ∀ c ∈ (l.foldl stl x).2, c ≠ 59 := by
  induction l generalizing x with
  | nil => exact ⟨h1, h2⟩
  | cons c r ih =>
    rw [List.foldl_cons]
    by_cases hc : c = 59
    · have e : stl x c = (x.1 ++ [x.2], []) := by unfold stl; rw [if_pos hc]
      rw [e]
      exact ih _ (fun y hy => (List.mem_append.1 hy).elim (h1 y) (fun e => by simp at e; subst e; exact h2)) (by simp)
    · have e : stl x c = (x.1, x.2 ++ [c]) := by unfold stl; rw [if_neg hc]
      rw [e]
      exact ih _ h1 (fun d hd => (List.mem_append.1 hd).elim (h2 d) (fun e => by simp at e; subst e; exact hc))
/-- No line, and no rest, has the sign that ends a line. -/
theorem line_noSemi {l x : List UInt8} (h : x ∈ linesL l) : ∀ c ∈ x, c ≠ 59 := (stl_noSemi l ([], []) (by simp) (by simp)).1 x h
theorem rest_noSemi (l : List UInt8) : ∀ c ∈ restL l, c ≠ 59 := (stl_noSemi l ([], []) (by simp) (by simp)).2

theorem stl_prefix (l : List UInt8) (x : List (List UInt8) × List UInt8) : x.1 <+: (l.foldl stl x).1 := by
  induction l generalizing x with
  | nil => exact List.prefix_refl _
  | cons c r ih =>
    rw [List.foldl_cons]
    refine List.IsPrefix.trans ?_ (ih _)
    by_cases hc : c = 59
    · have e : stl x c = (x.1 ++ [x.2], []) := by unfold stl; rw [if_pos hc]
      rw [e]; exact List.prefix_append _ _
    · have e : stl x c = (x.1, x.2 ++ [c]) := by unfold stl; rw [if_neg hc]
      rw [e]; exact List.prefix_refl _
/-- What is behind the last sign begins the next line, or the rest. -/
theorem stl_rest (l : List UInt8) (x : List (List UInt8) × List UInt8) : ∃ z ∈ (l.foldl stl x).1 ++ [(l.foldl stl x).2], x.2 <+: z := by
  induction l generalizing x with
  | nil => exact ⟨x.2, by simp, List.prefix_refl _⟩
  | cons c r ih =>
    rw [List.foldl_cons]
    by_cases hc : c = 59
    · have e : stl x c = (x.1 ++ [x.2], []) := by unfold stl; rw [if_pos hc]
      rw [e]
      exact ⟨x.2, List.mem_append_left _ ((stl_prefix r (x.1 ++ [x.2], [])).subset (by simp)), List.prefix_refl _⟩
    · have e : stl x c = (x.1, x.2 ++ [c]) := by unfold stl; rw [if_neg hc]
      rw [e]
      obtain ⟨z, hz, hp⟩ := ih (x.1, x.2 ++ [c])
      exact ⟨z, hz, (List.prefix_append _ _).trans hp⟩
theorem linesF_app (a b : List UInt8) : linesF (a ++ b) = b.foldl stl (linesF a) := by unfold linesF; rw [List.foldl_append]
theorem lines_prefix (a b : List UInt8) : linesL a <+: linesL (a ++ b) := by
  show _ <+: (linesF (a ++ b)).1; rw [linesF_app]; exact stl_prefix b _
theorem lines_take (l : List UInt8) (k : Nat) : linesL (l.take k) <+: linesL l := by
  have := lines_prefix (l.take k) (l.drop k); rwa [List.take_append_drop] at this
/-- Two texts, the first of which ends with a sign, or is empty. -/
theorem lines_join {a : List UInt8} (b : List UInt8) (h : restL a = []) : linesL (a ++ b) = linesL a ++ linesL b ∧ restL (a ++ b) = restL b := by
  have e : linesF (a ++ b) = (linesL a ++ (linesF b).1, (linesF b).2) := by
    rw [linesF_app]
    have e1 : linesF a = (linesL a ++ [], []) := by rw [List.append_nil]; exact Prod.ext rfl h
    rw [e1, stl_shift]; rfl
  constructor
  · show (linesF _).1 = _; rw [e]; rfl
  · show (linesF _).2 = _; rw [e]; rfl
theorem lin_prefix {a b : List UInt8} (h : linB b = true) (hp : a <+: b) : linB a = true := by
  unfold linB at h ⊢
  rw [Bool.and_eq_true] at h ⊢
  obtain ⟨h1, h2⟩ := h
  have hl := hp.length_le
  simp only [decide_eq_true_eq] at h1 ⊢
  exact ⟨by omega, List.all_eq_true.2 fun c hc => List.all_eq_true.1 h2 c (hp.subset hc)⟩
theorem lin_take {l : List UInt8} (h : linB l = true) (k : Nat) : linB (l.take k) = true := lin_prefix h (List.take_prefix _ _)
theorem lin_noSemi {l : List UInt8} (h : linB l = true) : ∀ c ∈ l, c ≠ 59 := by
  intro c hc e
  unfold linB at h
  rw [Bool.and_eq_true] at h
  have := List.all_eq_true.1 h.2 c hc
  rw [e] at this; revert this; decide
theorem lin_semi (l : List UInt8) : linB (l ++ [59]) = false := by
  rcases h : linB (l ++ [59]) with _ | _
  · rfl
  · exact absurd rfl (lin_noSemi h 59 (by simp))
theorem lin_len {l : List UInt8} (h : linB l = true) : l.length ≤ 16 := by
  unfold linB at h; rw [Bool.and_eq_true] at h; simpa using h.1
theorem str_parts {l : List UInt8} (h : strB l = true) : l.length ≤ 120 ∧ (∀ x ∈ linesL l, linB x = true) ∧ linB (restL l) = true := by
  unfold strB at h
  rw [Bool.and_eq_true, Bool.and_eq_true] at h
  exact ⟨by simpa using h.1.1, List.all_eq_true.1 h.1.2, h.2⟩
theorem str_mk {l : List UInt8} (h1 : l.length ≤ 120) (h2 : ∀ x ∈ linesL l, linB x = true) (h3 : linB (restL l) = true) : strB l = true := by
  unfold strB; rw [decide_eq_true h1, List.all_eq_true.2 h2, h3]; rfl
/-- A beginning of a stream is a stream. -/
theorem str_prefix {a b : List UInt8} (h : strB (a ++ b) = true) : strB a = true := by
  obtain ⟨h1, h2, h3⟩ := str_parts h
  rw [List.length_append] at h1
  refine str_mk (by omega) (fun x hx => h2 x ((lines_prefix a b).subset hx)) ?_
  obtain ⟨z, hz, hp⟩ := stl_rest b (linesF a)
  rw [← linesF_app] at hz
  refine lin_prefix (b := z) ?_ hp
  rcases List.mem_append.1 hz with hz | hz
  · exact h2 z hz
  · simp at hz; subst hz; exact h3
theorem str_take {l : List UInt8} (h : strB l = true) (k : Nat) : strB (l.take k) = true := by
  have : strB (l.take k ++ l.drop k) = true := by rw [List.take_append_drop]; exact h
  exact str_prefix this

end Go.Proofs.YtoidmmedpefjfaaGreatDoor

/- StrLines of the program: the lines of a text as a list of its own, and what is behind the last sign. Condition: the text has at most 2^21 bytes. -/
namespace Go.Proofs.YtoidmmedpefjfaaGreatDoor
open Go.RowKit Go.Shelf

set_option maxRecDepth 100000 in
set_option maxHeartbeats 2000000 in
theorem append_in (n : Nat) (hn : 3 ≤ n) (s : ByteArray) (hs : s.size ≤ 2097152) (Bn : Nat) (w : World) (hBn : Bn < w.heap.size) (hc : w.cell? ⟨Bn, 0, none⟩ = some (.string s)) :
    CallsIn Fence.wide n Tryz.prog 109 #[.slice none 0 0, .func (.func 106) #[] #[.pointer (some ⟨Bn, 0, none⟩)]] w fun e w' => ∃ v, e = .returned v ∧ w'.ownsRow w.heap.size 9 1 v (linesL s.data.toList).length ((linesL s.data.toList).map strV) ∧ Below w.heap.size w w' := by
  have h1 : 1 ≤ n := by omega
  have hll := lines_len s.data.toList
  rw [len_list] at hll
  obtain ⟨i0, hi, hz0, hz1, hz2⟩ := info_parts infoStr
  refine callsIn_of_wp_marks Tryz.func109 rfl trivial ?_ rfl
  simp only [Tryz.ntmps109, List.size_toArray, List.length_cons, List.length_nil, Nat.reduceAdd, Nat.reduceSub, Array.replicate_succ, Array.replicate_zero, List.push_toArray, List.append_toArray, List.nil_append, List.cons_append]
  gi_wp2
  have bO := Boxed.new w 40 (.slice none 0 0)
  have hB0 : Below w.heap.size w (w.alloc (.cells #[.slice none 0 0] 40)) := (Below.refl _ w).alloc (Nat.le_refl _) _
  refine wpIn_rangeFunc_ownG rfl h1 (gf := 106) (lb := #[.pointer (some ⟨Bn, 0, none⟩)]) rfl trivial (enters_of Tryz.func106 (by kernel_rfl) rfl)
    (tell_stops (n - 1) (by omega) Bn s hs (w.alloc (.cells #[.slice none 0 0] 40)) (by simp; omega) ((hB0.cell (p := ⟨Bn, 0, none⟩) hBn).trans hc)) (fun _ _ => trivial) (fun _ _ _ _ _ _ _ _ => trivial) (Below.refl _ _) (fun _ => rfl)
    (fun pre W => (∃ v, Boxed W w.heap.size 40 v ∧ W.ownsRow w.heap.size 9 1 v pre.length (pre.map strV) ∧ True) ∧ Below w.heap.size w W)
    (fun _ _ _ => False)
    (OwnFrom.and (Own.from (holdsRow_own w.heap.size w.heap.size 40 9 1 (fun pre : List (List UInt8) => pre.length) (fun pre => pre.map strV) (fun _ _ => True)) _) (ownFrom_below (Nat.le_refl _) (by simp)))
    (fun _ _ _ _ _ hs _ _ => hs)
    ⟨⟨_, bO, World.ownsRow_nil _ _ _ _, trivial⟩, hB0⟩
    (fun x => { tmps := #[.slice none 0 0, .func (.func 106) #[] #[.pointer (some ⟨Bn, 0, none⟩)], .pointer (some ⟨w.heap.size, 0, none⟩), undef, .slice none 0 0, .string ⟨x.toArray⟩, .func (.func 106) #[] #[.pointer (some ⟨Bn, 0, none⟩)], .string ⟨x.toArray⟩, undef, undef, undef, undef, undef], defers := [] }) ?assign ?body ?done ?stop
  case assign =>
    intro l x W K hK
    gi_wp2_with (rw [Oper.semAt_eq _ _ _ (fun c h => by cases h)]; go_simp; try go_bits)
    exact hK
  case body =>
    rintro l pre x W ⟨⟨v, hv, hrow, _⟩, hB⟩ hlt
    have hc := hv.cell
    have hpl : (pre.map strV).length = pre.length := List.length_map _
    gi_wp2_with (first
      | (gi_at_builtin; refine wpListIn_append_own _ rfl _ _ 40 rfl w.heap.size 9 i0 (.string ⟨#[]⟩) 1 16 Tryz.underlying40 hi hz0 hz1 hz2 rfl (by decide) _ _ _ rfl (hrow.alloc _) ⟨W.heap.size, 0, none⟩ 1 1 [.string ⟨x.toArray⟩] rfl rfl (cell_one_new _ _ _) (by simp [Value.oneCell']) (by unfold maxLen; omega) (by omega) (by have := hB.size; simp; omega) ?_; intro v' w1 hown' hgrow _; obtain ⟨g', cap', rfl⟩ := ownsRow_succ hown'; obtain ⟨hv1, hv2, hr2, hk2, hb2⟩ := hv.appended (by decide) hrow hB.size (Nat.le_refl _) hown' hgrow; have hc1 := hv1.cell; have hf1 := hv1.frozen)
      | (rw [Oper.semAt_eq _ _ _ (fun c h => by cases h)]; go_simp; try go_bits))
    exact ⟨hk2.from _, trivial, ⟨_, hv2, by simpa [strV] using hr2, trivial⟩, hB.trans hb2⟩
  case done =>
    rintro D ys W hD rfl ⟨⟨v, hv, hrow, _⟩, hB⟩ hK
    have hc := hv.cell
    gi_wp2
    refine ⟨by simp, .inl ⟨_, _, rfl, run_takeDeferred hK, ?_⟩⟩
    exact ⟨_, results_tmp rfl _ _ _, v, rfl, ownsRow_putObj hrow _ hK rfl, hB.trans (belowK_b (w := w) (Nat.le_refl _) W D _ _ (by simp at hD; omega) hK rfl rfl)⟩
  case stop =>
    rintro D c pre W _ _ h _
    exact h.elim

set_option maxRecDepth 100000 in
set_option maxHeartbeats 800000 in
theorem collect_any (s : ByteArray) (hs : s.size ≤ 2097152) (Bn : Nat) (w : World) (hBn : Bn < w.heap.size) (hc : w.cell? ⟨Bn, 0, none⟩ = some (.string s)) :
    Calls Tryz.prog 74 #[.func (.func 106) #[] #[.pointer (some ⟨Bn, 0, none⟩)]] w fun e w' => ∃ v, e = .returned v ∧ w'.ownsRow w.heap.size 9 1 v (linesL s.data.toList).length ((linesL s.data.toList).map strV) ∧ Below w.heap.size w w' := by
  have HA := Lib.hid (callsIn_wide.1 (append_in 3 (by omega) s hs Bn w hBn hc))
  clear hc
  go_enter Tryz.func74, Tryz.ntmps74
  go_wp2_with (go_at_call 109; refine HA.out.mono ?_; rintro e w' ⟨v, rfl, ho, hb⟩)
  obtain ⟨a1, cap1, rfl⟩ := own_form ho
  go_ret
  exact ⟨_, rfl, ho, hb⟩

set_option maxRecDepth 100000 in
set_option maxHeartbeats 800000 in
theorem implLines_any (s : ByteArray) (w : World) (hs : s.size ≤ 2097152) :
    Calls Tryz.prog 30 #[.string s] w fun e w' => ∃ v, e = .returned (.tuple #[v, .string ⟨(restL s.data.toList).toArray⟩]) ∧ w'.ownsRow w.heap.size 9 1 v (linesL s.data.toList).length ((linesL s.data.toList).map strV) ∧ Below w.heap.size w w' := by
  go_enter Tryz.func30, Tryz.ntmps30
  go_wp2_with (first
    | (go_at_call 69; refine (linesOf_any _ _).mono ?_; rintro e w' ⟨rfl, rfl⟩)
    | (go_at_call 74; refine (collect_any s hs w.heap.size _ (by simp) (by simp)).mono ?_; rintro e w1 ⟨v, rfl, ho, hb⟩; obtain ⟨a1, cap1, rfl⟩ := own_form ho)
    | (go_at_call 75; refine (rest_any _ _ (by omega)).mono ?_; rintro e w2 ⟨rfl, rfl⟩))
  go_ret2
  exact ⟨_, rfl, own_base ho (by simp), below_box hb⟩

end Go.Proofs.YtoidmmedpefjfaaGreatDoor

/- What a list of texts reads as, in a world. No condition. -/
namespace Go.Proofs.YtoidmmedpefjfaaGreatDoor
open Go.RowKit

/-- The cells of a row, none of them frozen. -/
def RowAt (w : World) (g : Nat) (xs : List Value) : Prop := ∀ i (hi : i < xs.length), w.cell? ⟨g, i, none⟩ = some xs[i] ∧ w.frozen? ⟨g, i, none⟩ = false
theorem RowAt.below {w w' : World} {B g : Nat} {xs : List Value} (h : RowAt w g xs) (hb : Below B w w') (hg : g < B) : RowAt w' g xs :=
  fun i hi => ⟨(hb.cell (p := ⟨g, i, none⟩) hg).trans (h i hi).1, (hb.frozen (p := ⟨g, i, none⟩) hg).trans (h i hi).2⟩
theorem RowAt.lt {w : World} {g : Nat} {xs : List Value} (h : RowAt w g xs) (hn : 0 < xs.length) : g < w.heap.size := World.block_lt_of_cell? w _ (h 0 hn).1
theorem addr_ne {g i j : Nat} (h : i ≠ j) : (⟨g, i, none⟩ : Addr) ≠ ⟨g, j, none⟩ := by intro e; injection e with _ e2; exact h e2
theorem RowAt.set {w : World} {g i : Nat} {xs : List Value} (h : RowAt w g xs) (hi : i < xs.length) (u : Value) : RowAt (w.setCell ⟨g, i, none⟩ u) g (xs.set i u) := by
  intro j hj
  have hj' : j < xs.length := by simpa using hj
  refine ⟨?_, by rw [World.frozen?_setCell]; exact (h j hj').2⟩
  by_cases e : i = j
  · subst e
    rw [World.cell?_setCell_same _ _ _ (h i hi).1]; simp
  · rw [World.cell?_setCell_other _ _ _ u (addr_ne e), (h j hj').1]
    simp [e]
/-- A slice reads as these cells. -/
def RdV (w : World) (v : Value) (xs : List Value) : Prop := ∃ a cap, v = .slice a xs.length cap ∧ (0 < xs.length → ∃ g, a = some ⟨g, 0, none⟩ ∧ RowAt w g xs)
theorem RdV.below {w w' : World} {v : Value} {xs : List Value} (h : RdV w v xs) (hb : Below w.heap.size w w') : RdV w' v xs := by
  obtain ⟨a, cap, rfl, hr⟩ := h
  refine ⟨a, cap, rfl, fun hn => ?_⟩
  obtain ⟨g, rfl, hrow⟩ := hr hn
  exact ⟨g, rfl, hrow.below hb (hrow.lt hn)⟩
theorem RdV.of_own {w : World} {B n : Nat} {e : TypeId} {v : Value} {xs : List Value} (h : w.ownsRow B e 1 v n xs) : RdV w v xs ∧ xs.length = n := by
  have hl : xs.length = n := by rw [h.1]; omega
  obtain ⟨a, cap, e⟩ := own_form h
  refine ⟨⟨a, cap, by rw [e, hl], fun hn => ?_⟩, hl⟩
  obtain ⟨g, cap', e', _, _, _, hc⟩ := own_cells h (by omega)
  rw [e] at e'
  simp at e'
  exact ⟨g, e'.1, hc⟩
theorem eq_cell {w : World} {g i : Nat} {xs : List Value} (h : RowAt w g xs) (hi : i < xs.length) : w.cell? ⟨g, i, none⟩ = some xs[i] := (h i hi).1

end Go.Proofs.YtoidmmedpefjfaaGreatDoor

/- RwrLine of the specification. Conditions: at most 2^22 ends; the text has at most 2^21 bytes. -/
namespace Go.Proofs.YtoidmmedpefjfaaGreatDoor
open Go.RowKit Go.Sort

set_option maxRecDepth 100000 in
set_option maxHeartbeats 1600000 in
/-- RwrLine of what is no table, or of no line: nothing. -/
theorem specRwrLine_not (v : Value) (es : List (Int × Int)) (s : ByteArray) (w : World) (hn : es.length ≤ 4194304) (hs : s.size ≤ 2097152) (ht : TabAt w v es) (hno : (mapB es && linB s.data.toList) = false) :
    Calls Tryz.prog 15 #[.agg #[v], .string s] w fun e w' => e = .returned (.tuple #[.agg #[.slice none 0 0], .string ⟨#[]⟩]) ∧ Below w.heap.size w w' := by
  have HT := Lib.hid ht
  obtain ⟨ad, cap, rfl, hcap, hr⟩ := ht
  have hM : Hid (∀ w, TabAt w (.slice ad es.length cap) es → Calls Tryz.prog 17 #[.agg #[.slice ad es.length cap]] w fun e w' => e = .returned (.bool (mapB es)) ∧ Below w.heap.size w w') := fun w h => specMapOk_any _ es w hn h
  have hL : Hid (∀ w, Calls Tryz.prog 18 #[.string s] w fun e w' => e = .returned (.bool (linB s.data.toList)) ∧ w = w') := fun w => specLin_any s w (by omega)
  clear hr
  by_cases hm : mapB es = true
  · have hi : linB s.data.toList = false := by rw [hm] at hno; simpa using hno
    rw [hm] at hM
    rw [hi] at hL
    clear hno hm hi
    go_enter Tryz.func15, Tryz.ntmps15
    go_wp2_with (first
      | (go_at_call 17; refine (hM.out _ (HT.out.below (((Below.refl _ _).alloc (Nat.le_refl _) _).alloc (by simp) _))).mono ?_; rintro e w1 ⟨rfl, b1⟩; obtain ⟨cA, cB, b01, z1⟩ := cell_two b1; have r0 := (cB 0).1; have g0 := (cB 0).2; simp at r0; clear cA cB)
      | (go_at_call 18; refine (hL.out _).mono ?_; rintro e w2 ⟨rfl, rfl⟩))
    refine bodyPost_ret (v := .tuple #[.agg #[.slice none 0 0], .string ⟨#[]⟩]) (by simp [results, Tryz.results15, go_sem, World.cell?_setCell_same _ _ _ r0]) rfl ⟨rfl, ?_⟩
    exact b01.setCell (by simp) _
  · have hm' : mapB es = false := by simpa using hm
    rw [hm'] at hM
    clear hno hm hm'
    go_enter Tryz.func15, Tryz.ntmps15
    go_wp2_with (go_at_call 17; refine (hM.out _ (HT.out.below (((Below.refl _ _).alloc (Nat.le_refl _) _).alloc (by simp) _))).mono ?_; rintro e w1 ⟨rfl, b1⟩; obtain ⟨cA, cB, b01, z1⟩ := cell_two b1; have r0 := (cB 0).1; have g0 := (cB 0).2; simp at r0; clear cA cB)
    refine bodyPost_ret (v := .tuple #[.agg #[.slice none 0 0], .string ⟨#[]⟩]) (by simp [results, Tryz.results15, go_sem, World.cell?_setCell_same _ _ _ r0]) rfl ⟨rfl, ?_⟩
    exact b01.setCell (by simp) _

set_option maxRecDepth 100000 in
set_option maxHeartbeats 1600000 in
/-- RwrLine of a table and a line: the table then, in memory of the call's own, and the line. -/
theorem specRwrLine_ok (v : Value) (es : List (Int × Int)) (s : ByteArray) (w : World) (hn : es.length ≤ 4194304) (hs : s.size ≤ 2097152) (ht : TabAt w v es) (hm : mapB es = true) (hi : linB s.data.toList = true) :
    Calls Tryz.prog 15 #[.agg #[v], .string s] w fun e w' => ∃ g c, e = .returned (.tuple #[.agg #[.slice (some g) (lineE es s.data.toList).1.length c], .string ⟨(lineE es s.data.toList).2.toArray⟩]) ∧ OwnTab w' w.heap.size (.slice (some g) (lineE es s.data.toList).1.length c) (lineE es s.data.toList).1 ∧ Below w.heap.size w w' := by
  have HT := Lib.hid ht
  obtain ⟨ad, cap, rfl, hcap, hr⟩ := ht
  have hM : Hid (∀ w, TabAt w (.slice ad es.length cap) es → Calls Tryz.prog 17 #[.agg #[.slice ad es.length cap]] w fun e w' => e = .returned (.bool true) ∧ Below w.heap.size w w') := fun w h => by rw [← hm]; exact specMapOk_any _ es w hn h
  have hL : Hid (∀ w, Calls Tryz.prog 18 #[.string s] w fun e w' => e = .returned (.bool true) ∧ w = w') := fun w => by rw [← hi]; exact specLin_any s w (by omega)
  have hP0 : Hid (∀ (B : Nat) (ad : Addr) (cap : Nat) (w : World), B ≤ w.heap.size → OwnTab w B (.slice (some ad) es.length cap) es → Calls Tryz.prog 54 #[.agg #[.slice (some ad) es.length cap], .string s] w fun e w' => ∃ g c, e = .returned (.tuple #[.agg #[.slice (some g) (lineE es s.data.toList).1.length c], .string ⟨(lineE es s.data.toList).2.toArray⟩]) ∧ OwnTab w' B (.slice (some g) (lineE es s.data.toList).1.length c) (lineE es s.data.toList).1 ∧ Below w.heap.size w w') := fun B ad cap w h1 h2 => specLine_any B ad cap es s w hn hs h1 h2
  have hC : Hid (∀ wx, TabAt wx (.slice ad es.length cap) es → Calls Tryz.prog 55 #[.agg #[.slice ad es.length cap]] wx fun e w' => ∃ g c, e = .returned (.agg #[.slice (some g) es.length c]) ∧ OwnTab w' wx.heap.size (.slice (some g) es.length c) es ∧ Below wx.heap.size wx w') := fun wx h => specCopy_any _ es wx hn h
  obtain ⟨us, hus⟩ : ∃ us, us = (lineE es s.data.toList).1 := ⟨_, rfl⟩
  obtain ⟨q, hq⟩ : ∃ q, q = (lineE es s.data.toList).2.toArray := ⟨_, rfl⟩
  have hP : Hid (∀ (B : Nat) (ad : Addr) (cap : Nat) (w : World), B ≤ w.heap.size → OwnTab w B (.slice (some ad) es.length cap) es → Calls Tryz.prog 54 #[.agg #[.slice (some ad) es.length cap], .string s] w fun e w' => ∃ g c, e = .returned (.tuple #[.agg #[.slice (some g) us.length c], .string ⟨q⟩]) ∧ OwnTab w' B (.slice (some g) us.length c) us ∧ Below w.heap.size w w') := by rw [hus, hq]; exact hP0
  rw [← hus, ← hq]
  clear hr hm hi hus hq hP0
  go_enter Tryz.func15, Tryz.ntmps15
  go_upto_region 3 with (first
    | (go_at_call 17; refine (hM.out _ (HT.out.below (((Below.refl _ _).alloc (Nat.le_refl _) _).alloc (by simp) _))).mono ?_; rintro e w1 ⟨rfl, b1⟩; obtain ⟨cA, cB, b01, z1⟩ := cell_two b1; have t0 := (cA 0).1; have r0 := (cB 0).1; have g0 := (cB 0).2; simp at t0 r0; clear cA cB b1)
    | (go_at_call 18; refine (hL.out _).mono ?_; rintro e w2 ⟨rfl, rfl⟩))
  have B01 := Lib.hid b01
  clear b01
  go_wp2_with fail
  (go_at_call 55; refine (hC.out _ (HT.out.below B01.out)).mono ?_; rintro e w3 ⟨g3, c3, rfl, o3, b3⟩; have O3 := Lib.hid o3; have B3 := Lib.hid b3; clear o3 b3)
  have r3 : w3.cell? ⟨w.heap.size + 1, 0, none⟩ = some (.slice none 0 0) := (by rw [B3.out.cell (by simp; omega)]; exact r0)
  have g03 : w3.frozen? ⟨w.heap.size + 1, 0, none⟩ = false := (by rw [B3.out.frozen (by simp; omega)]; exact g0)
  have z3 := B3.out.size
  go_wp2_with fail
  (go_at_call 54; refine (hP.out w1.heap.size _ _ _ B3.out.size O3.out).mono ?_; rintro e w4 ⟨g4, c4, rfl, o4, b4⟩; have O4 := Lib.hid o4; have B4 := Lib.hid b4; clear o4 b4)
  have r4 : w4.cell? ⟨w.heap.size + 1, 0, none⟩ = some (.slice none 0 0) := (by rw [B4.out.cell (by simp; omega)]; exact r3)
  have g04 : w4.frozen? ⟨w.heap.size + 1, 0, none⟩ = false := (by rw [B4.out.frozen (by simp; omega)]; exact g03)
  go_wp2_with fail
  refine bodyPost_ret (v := .tuple #[.agg #[.slice (some g4) us.length c4], .string ⟨q⟩]) (by simp [results, Tryz.results15, go_sem, World.cell?_setCell_same _ _ _ r4]) rfl ⟨_, _, rfl, ?_, ?_⟩
  · exact OwnTab.mono (B := w1.heap.size) (ownsRow_setCell_below O4.out (by simp; omega) _) (by omega)
  · exact ((B01.out.trans (B3.out.mono (by omega))).trans (B4.out.mono (by omega))).setCell (by simp) _

end Go.Proofs.YtoidmmedpefjfaaGreatDoor

/- RwrLine of the program and of the specification, in one form. Conditions: at most 2^22 ends; all numbers are ints; the text has at most 2^21 bytes; the variables that are read hold what they are laid with. -/
namespace Go.Proofs.YtoidmmedpefjfaaGreatDoor
open Go.RowKit

theorem putE_le' {es : List (Int × Int)} {e : Int × Int} (h : es.length ≤ 6) : (putE es e).1.length ≤ 6 := by
  unfold putE
  split
  · exact h
  · split
    · exact h
    · simp; omega
theorem rwrA_yes {es : List (Int × Int)} {l : List UInt8} (h : (mapB es && linB l) = true) : rwrA es l = lineE es l := if_pos (by simpa using h)
theorem rwrA_not {es : List (Int × Int)} {l : List UInt8} (h : (mapB es && linB l) = false) : rwrA es l = ([], []) := if_neg (by simpa using h)
theorem rwrA_le (es : List (Int × Int)) (l : List UInt8) : (rwrA es l).1.length ≤ 6 := by
  by_cases h : (mapB es && linB l) = true
  · rw [rwrA_yes h]
    exact mapB_le (lineE_ok (by simp at h; exact h.1))
  · rw [rwrA_not (by simpa using h)]
    simp

theorem specRwrA (v : Value) (es : List (Int × Int)) (s : ByteArray) (w : World) (hn : es.length ≤ 4194304) (hs : s.size ≤ 2097152) (ht : TabAt w v es) :
    Calls Tryz.prog 15 #[.agg #[v], .string s] w fun e w' => ∃ g c, e = .returned (.tuple #[.agg #[.slice g (rwrA es s.data.toList).1.length c], .string ⟨(rwrA es s.data.toList).2.toArray⟩]) ∧ FreshTab w' w.heap.size (.slice g (rwrA es s.data.toList).1.length c) (rwrA es s.data.toList).1 ∧ Below w.heap.size w w' := by
  by_cases h : (mapB es && linB s.data.toList) = true
  · rw [rwrA_yes h]
    simp only [Bool.and_eq_true] at h
    refine (specRwrLine_ok v es s w hn hs ht h.1 h.2).mono ?_
    rintro e w' ⟨g, c, rfl, h1, h2⟩
    exact ⟨_, _, rfl, h1.fresh, h2⟩
  · have h' : (mapB es && linB s.data.toList) = false := by simpa using h
    rw [rwrA_not h']
    refine (specRwrLine_not v es s w hn hs ht h').mono ?_
    rintro e w' ⟨rfl, h2⟩
    exact ⟨_, _, rfl, FreshTab.nil _ _, h2⟩

theorem implRwrA (v : Value) (es : List (Int × Int)) (s : ByteArray) (w : World) (hn : es.length ≤ 4194304) (hs : s.size ≤ 2097152) (hwf : wfE es) (ht : TabAt w v es) (hv : VarsOk w) :
    Calls Tryz.prog 14 #[.agg #[v], .string s] w fun e w' => ∃ g c, e = .returned (.tuple #[.agg #[.slice g (rwrA es s.data.toList).1.length c], .string ⟨(rwrA es s.data.toList).2.toArray⟩]) ∧ FreshTab w' w.heap.size (.slice g (rwrA es s.data.toList).1.length c) (rwrA es s.data.toList).1 ∧ Below w.heap.size w w' := by
  by_cases h : (mapB es && linB s.data.toList) = true
  · rw [rwrA_yes h]
    simp only [Bool.and_eq_true] at h
    refine (implRwrLine_ok v es s w hn hs ht h.1 h.2 hv).mono ?_
    rintro e w' ⟨g, c, rfl, h1, h2⟩
    exact ⟨_, _, rfl, h1.fresh, h2⟩
  · have h' : (mapB es && linB s.data.toList) = false := by simpa using h
    rw [rwrA_not h']
    refine (implRwrLine_not v es s w hn hs hwf ht h').mono ?_
    rintro e w' ⟨rfl, h2⟩
    exact ⟨_, _, rfl, FreshTab.nil _ _, h2⟩

end Go.Proofs.YtoidmmedpefjfaaGreatDoor

/- Plain facts on the texts of ends and the lines that name them: what is read is what is written. No condition. -/
namespace Go.Proofs.YtoidmmedpefjfaaGreatDoor
open Go.RowKit

/-- What is read as an end is its text. -/
theorem rdE_text {l : List UInt8} {a p : Int} (h : rdE l = some (a, p)) : l = endL a.toNat p.toNat ∧ endB a p = true := by
  unfold rdE at h
  split at h
  · rename_i x y hw
    split at h
    · rename_i hb
      simp at h
      obtain ⟨rfl, rfl⟩ := h
      obtain ⟨h1, h2, h3, h4⟩ := end_bounds hb
      have ex := numL_inv (show 0 ≤ numL x by omega)
      have ey := numL_inv (show 0 ≤ numL y by omega)
      refine ⟨?_, hb⟩
      rw [words_two hw, endL, ← ex, ← ey]
    · cases h
  · cases h
/-- The text of an end is read as it. -/
theorem rdE_endL {a p : Int} (h : endB a p = true) : rdE (endL a.toNat p.toNat) = some (a, p) := by
  obtain ⟨h1, h2, h3, h4⟩ := end_bounds h
  unfold rdE endL
  rw [words_of_two (dec_no_space a.toNat) (dec_no_space p.toNat)]
  simp only [numL_dec (show a.toNat ≤ 9999 by omega), numL_dec (show p.toNat ≤ 9999 by omega)]
  rw [Int.toNat_of_nonneg (by omega), Int.toNat_of_nonneg (by omega), if_pos h]
theorem rdE_inj {l m : List UInt8} {a p : Int} (h1 : rdE l = some (a, p)) (h2 : rdE m = some (a, p)) : l = m := (rdE_text h1).1.trans (rdE_text h2).1.symm

theorem lpL_yes {a p : Int} (h : endB a p = true) : lpL a p = portL ++ endL a.toNat p.toNat := if_pos h
theorem lpL_no {a p : Int} (h : endB a p = false) : lpL a p = [] := if_neg (by simp [h])
theorem lpL_take {a p : Int} (h : endB a p = true) : (lpL a p).take 5 = portL ∧ (lpL a p).drop 5 = endL a.toNat p.toNat := by
  rw [lpL_yes h]; exact ⟨rfl, rfl⟩
/-- What a line that names an end says. -/
theorem says_lpL {a p : Int} (h : endB a p = true) : saysE (lpL a p) = (if insB a p = true then some (a, p) else none) := by
  obtain ⟨e1, e2⟩ := lpL_take h
  unfold saysE; rw [if_pos e1, e2, rdE_endL h]
theorem box_lpL {a p : Int} (h : endB a p = true) : boxE (lpL a p) = (if a = 50 then some p else none) := by
  obtain ⟨e1, e2⟩ := lpL_take h
  unfold boxE; rw [if_pos e1, e2, rdE_endL h]
theorem says_line {l : List UInt8} {a p : Int} (h : saysE l = some (a, p)) : insB a p = true ∧ endB a p = true ∧ l = lpL a p := by
  unfold saysE at h
  split at h
  · rename_i ht
    split at h
    · rename_i a' p' hr
      split at h
      · rename_i hi
        simp at h
        obtain ⟨rfl, rfl⟩ := h
        obtain ⟨e1, e2⟩ := rdE_text hr
        refine ⟨hi, e2, ?_⟩
        rw [lpL_yes e2, ← e1, ← ht, List.take_append_drop]
      · cases h
    · cases h
  · cases h
theorem box_line {l : List UInt8} {p : Int} (h : boxE l = some p) : endB 50 p = true ∧ l = lpL 50 p := by
  unfold boxE at h
  split at h
  · rename_i ht
    split at h
    · rename_i a' p' hr
      split at h
      · rename_i hi
        simp at h
        subst hi h
        obtain ⟨e1, e2⟩ := rdE_text hr
        refine ⟨e2, ?_⟩
        rw [lpL_yes e2, ← e1, ← ht, List.take_append_drop]
      · cases h
    · cases h
  · cases h
/-- A line of the box's names no end inside. -/
theorem box_no_says {l : List UInt8} {p : Int} (h : boxE l = some p) : saysE l = none := by
  obtain ⟨e1, rfl⟩ := box_line h
  rw [says_lpL e1]; rw [if_neg (by simp [insB, inB])]
theorem dec_byte {k : Nat} : ∀ c ∈ Lib.decDigits k, byteB c = true := by
  intro c hc
  have := dec_digs k c hc
  unfold isDig at this
  simp [byteB, this]
/-- A line that names an end is a line. -/
theorem lpL_lin {a p : Int} (h : endB a p = true) : linB (lpL a p) = true := by
  obtain ⟨h1, h2, h3, h4⟩ := end_bounds h
  have l1 := dec_len4 (k := a.toNat) (by omega)
  have l2 := dec_len4 (k := p.toNat) (by omega)
  rw [lpL_yes h]
  unfold linB
  rw [decide_eq_true (by simp [portL, endL]; omega), Bool.true_and, List.all_eq_true]
  intro c hc
  rcases List.mem_append.1 hc with hc | hc
  · have hp : ∀ c ∈ portL, byteB c = true := by decide
    exact hp c hc
  · unfold endL at hc
    rcases List.mem_append.1 hc with hc | hc
    · exact dec_byte c hc
    · rcases List.mem_cons.1 hc with rfl | hc
      · decide
      · exact dec_byte c hc

end Go.Proofs.YtoidmmedpefjfaaGreatDoor

/- Lines that have gone outside: none has a sign, none names an end inside, and they go outside as they are. No condition. -/
namespace Go.Proofs.YtoidmmedpefjfaaGreatDoor
open Go.RowKit

theorem says_nil : saysE [] = none := rfl
theorem says_noneL : saysE noneL = none := rfl
theorem ins_box (p : Int) : insB 50 p = false := by
  unfold insB inB
  simp
theorem lineE_says (es : List (Int × Int)) (l : List UInt8) : saysE (lineE es l).2 = none := by
  rcases h : saysE l with _ | e
  · rw [lineE_none h]; exact h
  · rw [lineE_some h]
    simp only
    split
    · exact says_noneL
    · rcases hb : endB 50 (putE es e).2 with _ | _
      · rw [lpL_no hb]; exact says_nil
      · rw [says_lpL hb, if_neg (by rw [ins_box]; decide)]
theorem lpL_semi (a p : Int) : ∀ c ∈ lpL a p, c ≠ 59 := by
  rcases hb : endB a p with _ | _
  · rw [lpL_no hb]; intro c hc; cases hc
  · exact lin_noSemi (lpL_lin hb)
theorem lineE_semi {es : List (Int × Int)} {l : List UInt8} (hl : ∀ c ∈ l, c ≠ 59) : ∀ c ∈ (lineE es l).2, c ≠ 59 := by
  rcases h : saysE l with _ | e
  · rw [lineE_none h]; exact hl
  · rw [lineE_some h]
    simp only
    split
    · intro c hc e; subst e; revert hc; decide
    · exact lpL_semi _ _
/-- What goes outside is lines. -/
theorem streamE_outs (ls : List (List UInt8)) (h : ∀ l ∈ ls, ∀ c ∈ l, c ≠ 59) (T : List (Int × Int) × List UInt8) :
    ∃ outs : List (List UInt8), outs.length = ls.length ∧ (ls.foldl strF T).2 = T.2 ++ (outs.map (· ++ [59])).flatten ∧ ∀ o ∈ outs, (∀ c ∈ o, c ≠ 59) ∧ saysE o = none := by
  induction ls generalizing T with
  | nil => exact ⟨[], rfl, by simp, fun o ho => by cases ho⟩
  | cons l r ih =>
    obtain ⟨outs, h1, h2, h3⟩ := ih (fun x hx => h x (List.mem_cons_of_mem _ hx)) (strF T l)
    refine ⟨(lineE T.1 l).2 :: outs, by simp [h1], ?_, fun o ho => ?_⟩
    · rw [List.foldl_cons, h2]
      simp [strF]
    · rcases List.mem_cons.1 ho with rfl | ho
      · exact ⟨lineE_semi (h l (List.mem_cons_self ..)), lineE_says _ _⟩
      · exact h3 o ho
theorem lines_flat (outs : List (List UInt8)) (h : ∀ o ∈ outs, ∀ c ∈ o, c ≠ 59) : linesL ((outs.map (· ++ [59])).flatten) = outs ∧ restL ((outs.map (· ++ [59])).flatten) = [] := by
  induction outs with
  | nil => exact ⟨rfl, rfl⟩
  | cons o r ih =>
    obtain ⟨h1, h2⟩ := ih (fun x hx => h x (List.mem_cons_of_mem _ hx))
    have := linesF_cons (p := o) (r := (r.map (· ++ [59])).flatten) (h o (List.mem_cons_self ..))
    rw [show ((o :: r).map (· ++ [59])).flatten = o ++ 59 :: (r.map (· ++ [59])).flatten by simp]
    exact ⟨by rw [this.1, h1], by rw [this.2, h2]⟩
theorem streamE_stays (outs : List (List UInt8)) (h : ∀ o ∈ outs, saysE o = none) (es : List (Int × Int)) (p : List UInt8) : outs.foldl strF (es, p) = (es, p ++ (outs.map (· ++ [59])).flatten) := by
  induction outs generalizing p with
  | nil => simp
  | cons o r ih =>
    rw [List.foldl_cons, show strF (es, p) o = ((lineE es o).1, p ++ (lineE es o).2 ++ [59]) from rfl, lineE_none (h o (List.mem_cons_self ..)), ih (fun x hx => h x (List.mem_cons_of_mem _ hx))]
    simp
/-- What went outside goes so again as it is, and has as many lines. -/
theorem stream_again (es xs : List (Int × Int)) (s : List UInt8) : (linesL (streamE es (linesL s)).2).length = (linesL s).length ∧ restL (streamE es (linesL s)).2 = [] ∧ streamE xs (linesL (streamE es (linesL s)).2) = (xs, (streamE es (linesL s)).2) := by
  obtain ⟨outs, h1, h2, h3⟩ := streamE_outs (linesL s) (fun l hl => line_noSemi hl) (es, [])
  have e : (streamE es (linesL s)).2 = (outs.map (· ++ [59])).flatten := by
    unfold streamE
    rw [h2]; rfl
  obtain ⟨f1, f2⟩ := lines_flat outs (fun o ho => (h3 o ho).1)
  rw [e, f1]
  refine ⟨h1, f2, ?_⟩
  unfold streamE
  rw [streamE_stays outs (fun o ho => (h3 o ho).2)]
  rfl

end Go.Proofs.YtoidmmedpefjfaaGreatDoor
