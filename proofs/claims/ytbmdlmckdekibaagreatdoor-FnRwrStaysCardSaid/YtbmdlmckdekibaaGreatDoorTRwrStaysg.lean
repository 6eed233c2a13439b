/- The law that what goes outside once goes so again: at every two codes. Conditions: the codes lie in memory; the variables that are read hold what they are laid with. (Several texts, joined: Stays, ILines, RdV, Tag, LwRwrStays.) -/
import Derived.Test.YtbmdlmckdekibaaGreatDoorTRwrStaysf
import Derived.Test.YtbmdlmckdekibaaGreatDoorISeq
import Derived.Test.YtbmdlmckdekibaaGreatDoorGen
import Derived.Test.YtbmdlmckdekibaaGreatDoorOwnEnds
import Derived.Test.YtbmdlmckdekibaaGreatDoorDrawRS
import Derived.Test.YtbmdlmckdekibaaGreatDoorHaOk
import Derived.Test.YtbmdlmckdekibaaGreatDoorHaEnds
import Derived.Test.YtbmdlmckdekibaaGreatDoorHaStarts
import Derived.Deep.RegionHeld3
import Derived.Deep.DeepCutAuto

/- What goes outside once goes so again: with the table behind it, and with any that has more ends behind these; and so does each beginning. No condition. -/
namespace Go.Proofs.YtbmdlmckdekibaaGreatDoor
open Go.RowKit

theorem putE_six' {T : List (Int × Int)} {e : Int × Int} (h : T.length ≤ 6) : (putE T e).1.length ≤ 6 := by
  rw [putE_fst]
  split
  · exact h
  · rename_i hn
    have : T.length ≠ 6 := fun h6 => hn (.inr h6)
    simp; omega
theorem putE_again {T t : List (Int × Int)} {e : Int × Int} (h : T.length ≤ 6) (h2 : ((putE T e).1 ++ t).length ≤ 6) : putE ((putE T e).1 ++ t) e = ((putE T e).1 ++ t, (putE T e).2) := by
  by_cases hm : e ∈ T
  · rw [putE_has hm]
    rw [putE_has (List.mem_append_left _ hm)]
    rw [portI_app hm]
  · by_cases h6 : T.length = 6
    · rw [putE_full hm h6] at h2 ⊢
      have ht : t = [] := by
        rcases t with _ | ⟨x, r⟩
        · rfl
        · simp at h2; omega
      subst ht
      simp only [List.append_nil]
      rw [putE_full hm h6]
    · have hp : (putE T e).2 ≠ 0 := by rw [putE_new hm h6]; simp only; omega
      have hq := putE_port hp
      rw [putE_new hm h6] at hq ⊢
      have hm2 : e ∈ T ++ [e] := by simp
      rw [putE_has (List.mem_append_left _ hm2), portI_app hm2]
      simp only at hq ⊢
      rw [hq]
theorem lineE_pre (T : List (Int × Int)) (l : List UInt8) : ∃ t, (lineE T l).1 = T ++ t := by
  rcases h : saysE l with _ | e
  · exact ⟨[], by rw [lineE_none h]; simp⟩
  · obtain ⟨t, ht, _⟩ := putE_pre T e
    exact ⟨t, by rw [lineE_some h]; exact ht⟩
theorem lineE_six {T : List (Int × Int)} {l : List UInt8} (h : T.length ≤ 6) : (lineE T l).1.length ≤ 6 := by
  rcases hs : saysE l with _ | e
  · rw [lineE_none hs]; exact h
  · rw [lineE_some hs]; exact putE_six' h
theorem lineE_again {T t : List (Int × Int)} {l : List UInt8} (h : T.length ≤ 6) (h2 : ((lineE T l).1 ++ t).length ≤ 6) : lineE ((lineE T l).1 ++ t) l = ((lineE T l).1 ++ t, (lineE T l).2) := by
  rcases hs : saysE l with _ | e
  · rw [lineE_none hs, lineE_none hs]
  · rw [lineE_some hs] at h2 ⊢
    simp only at h2 ⊢
    rw [lineE_some hs, putE_again h h2]
theorem fold_pre (ls : List (List UInt8)) (T : List (Int × Int)) (p : List UInt8) : ∃ t, (ls.foldl strF (T, p)).1 = T ++ t := by
  induction ls generalizing T p with
  | nil => exact ⟨[], by simp⟩
  | cons l r ih =>
    obtain ⟨t1, h1⟩ := lineE_pre T l
    obtain ⟨t2, h2⟩ := ih (lineE T l).1 (p ++ (lineE T l).2 ++ [59])
    refine ⟨t1 ++ t2, ?_⟩
    rw [List.foldl_cons, show strF (T, p) l = ((lineE T l).1, p ++ (lineE T l).2 ++ [59]) from rfl, h2, h1, List.append_assoc]
theorem fold_again (ls : List (List UInt8)) (T t : List (Int × Int)) (p : List UInt8) (h : T.length ≤ 6) (h2 : ((ls.foldl strF (T, p)).1 ++ t).length ≤ 6) :
    ls.foldl strF ((ls.foldl strF (T, p)).1 ++ t, p) = ((ls.foldl strF (T, p)).1 ++ t, (ls.foldl strF (T, p)).2) := by
  induction ls generalizing T p with
  | nil => rfl
  | cons l r ih =>
    have e1 : strF (T, p) l = ((lineE T l).1, p ++ (lineE T l).2 ++ [59]) := rfl
    simp only [List.foldl_cons, e1] at h2 ⊢
    obtain ⟨t1, ht1⟩ := fold_pre r (lineE T l).1 (p ++ (lineE T l).2 ++ [59])
    have hE : (r.foldl strF ((lineE T l).1, p ++ (lineE T l).2 ++ [59])).1 ++ t = (lineE T l).1 ++ (t1 ++ t) := by rw [ht1, List.append_assoc]
    have hl := lineE_again (t := t1 ++ t) h (by rw [← hE]; exact h2)
    have e2 : strF ((r.foldl strF ((lineE T l).1, p ++ (lineE T l).2 ++ [59])).1 ++ t, p) l = ((r.foldl strF ((lineE T l).1, p ++ (lineE T l).2 ++ [59])).1 ++ t, p ++ (lineE T l).2 ++ [59]) := by
      rw [hE]
      show ((lineE ((lineE T l).1 ++ (t1 ++ t)) l).1, p ++ (lineE ((lineE T l).1 ++ (t1 ++ t)) l).2 ++ [59]) = _
      rw [hl]
    rw [e2]
    exact ih (lineE T l).1 (p ++ (lineE T l).2 ++ [59]) (lineE_six h) h2
theorem shift_two (ls : List (List UInt8)) (es : List (Int × Int)) (p : List UInt8) : ∃ q, (ls.foldl strF (es, p)).2 = p ++ q := by
  induction ls generalizing es p with
  | nil => exact ⟨[], by simp⟩
  | cons l r ih =>
    obtain ⟨q, hq⟩ := ih (lineE es l).1 (p ++ (lineE es l).2 ++ [59])
    refine ⟨(lineE es l).2 ++ [59] ++ q, ?_⟩
    rw [List.foldl_cons, show strF (es, p) l = ((lineE es l).1, p ++ (lineE es l).2 ++ [59]) from rfl, hq]
    simp
/-- The promise, as data. -/
theorem stream_stays {us t : List (Int × Int)} {s : List UInt8} (h : us.length ≤ 6) (h2 : ((streamE us (linesL s)).1 ++ t).length ≤ 6) (k : Nat) :
    ∃ q, streamE ((streamE us (linesL s)).1 ++ t) (linesL (s.take k)) = ((streamE us (linesL s)).1 ++ t, (streamE us (linesL (s.take k))).2) ∧ (streamE us (linesL s)).2 = (streamE us (linesL (s.take k))).2 ++ q := by
  obtain ⟨r, hr⟩ := lines_take s k
  have e : streamE us (linesL s) = r.foldl strF (streamE us (linesL (s.take k))) := by
    unfold streamE
    rw [← hr, List.foldl_append]
  obtain ⟨⟨T1, T2⟩, hT⟩ : ∃ T, T = streamE us (linesL (s.take k)) := ⟨_, rfl⟩
  rw [← hT] at e ⊢
  obtain ⟨t1, ht1⟩ := fold_pre r T1 T2
  obtain ⟨q, hq⟩ := shift_two r T1 T2
  refine ⟨q, ?_, by rw [e]; exact hq⟩
  have hs : (streamE us (linesL s)).1 ++ t = T1 ++ (t1 ++ t) := by rw [e, ht1, List.append_assoc]
  have hT1 : T1 = ((linesL (s.take k)).foldl strF (us, [])).1 := by
    have := congrArg (·.1) hT
    exact this
  have hT2 : T2 = ((linesL (s.take k)).foldl strF (us, [])).2 := by
    have := congrArg (·.2) hT
    exact this
  rw [hs] at h2 ⊢
  rw [hT1] at h2 ⊢
  rw [hT2]
  exact fold_again (linesL (s.take k)) us (t1 ++ t) [] h h2

end Go.Proofs.YtbmdlmckdekibaaGreatDoor

/- StrLines of the program: the lines of a text as a list of its own, and what is behind the last sign. Condition: the text has at most 2^21 bytes. -/
namespace Go.Proofs.YtbmdlmckdekibaaGreatDoor
open Go.RowKit Go.Shelf

set_option maxRecDepth 100000 in
set_option maxHeartbeats 2000000 in
theorem append_in (n : Nat) (hn : 3 ≤ n) (s : ByteArray) (hs : s.size ≤ 2097152) (Bn : Nat) (w : World) (hBn : Bn < w.heap.size) (hc : w.cell? ⟨Bn, 0, none⟩ = some (.string s)) :
    CallsIn Fence.wide n Tryz.prog 59 #[.slice none 0 0, .func (.func 52) #[] #[.pointer (some ⟨Bn, 0, none⟩)]] w fun e w' => ∃ v, e = .returned v ∧ w'.ownsRow w.heap.size 9 1 v (linesL s.data.toList).length ((linesL s.data.toList).map strV) ∧ Below w.heap.size w w' := by
  have h1 : 1 ≤ n := by omega
  have hll := lines_len s.data.toList
  rw [len_list] at hll
  obtain ⟨i0, hi, hz0, hz1, hz2⟩ := info_parts infoStr
  refine callsIn_of_wp_marks Tryz.func59 rfl trivial ?_ rfl
  simp only [Tryz.ntmps59, List.size_toArray, List.length_cons, List.length_nil, Nat.reduceAdd, Nat.reduceSub, Array.replicate_succ, Array.replicate_zero, List.push_toArray, List.append_toArray, List.nil_append, List.cons_append]
  gi_wp2
  have bO := Boxed.new w 34 (.slice none 0 0)
  have hB0 : Below w.heap.size w (w.alloc (.cells #[.slice none 0 0] 34)) := (Below.refl _ w).alloc (Nat.le_refl _) _
  refine wpIn_rangeFunc_ownG rfl h1 (gf := 52) (lb := #[.pointer (some ⟨Bn, 0, none⟩)]) rfl trivial (enters_of Tryz.func52 (by kernel_rfl) rfl)
    (tell_stops (n - 1) (by omega) Bn s hs (w.alloc (.cells #[.slice none 0 0] 34)) (by simp; omega) ((hB0.cell (p := ⟨Bn, 0, none⟩) hBn).trans hc)) (fun _ _ => trivial) (fun _ _ _ _ _ _ _ _ => trivial) (Below.refl _ _) (fun _ => rfl)
    (fun pre W => (∃ v, Boxed W w.heap.size 34 v ∧ W.ownsRow w.heap.size 9 1 v pre.length (pre.map strV) ∧ True) ∧ Below w.heap.size w W)
    (fun _ _ _ => False)
    (OwnFrom.and (Own.from (holdsRow_own w.heap.size w.heap.size 34 9 1 (fun pre : List (List UInt8) => pre.length) (fun pre => pre.map strV) (fun _ _ => True)) _) (ownFrom_below (Nat.le_refl _) (by simp)))
    (fun _ _ _ _ _ hs _ _ => hs)
    ⟨⟨_, bO, World.ownsRow_nil _ _ _ _, trivial⟩, hB0⟩
    (fun x => { tmps := #[.slice none 0 0, .func (.func 52) #[] #[.pointer (some ⟨Bn, 0, none⟩)], .pointer (some ⟨w.heap.size, 0, none⟩), undef, .slice none 0 0, .string ⟨x.toArray⟩, .func (.func 52) #[] #[.pointer (some ⟨Bn, 0, none⟩)], .string ⟨x.toArray⟩, undef, undef, undef, undef, undef], defers := [] }) ?assign ?body ?done ?stop
  case assign =>
    intro l x W K hK
    gi_wp2_with (rw [Oper.semAt_eq _ _ _ (fun c h => by cases h)]; go_simp; try go_bits)
    exact hK
  case body =>
    rintro l pre x W ⟨⟨v, hv, hrow, _⟩, hB⟩ hlt
    have hc := hv.cell
    have hpl : (pre.map strV).length = pre.length := List.length_map _
    gi_wp2_with (first
      | (gi_at_builtin; refine wpListIn_append_own _ rfl _ _ 34 rfl w.heap.size 9 i0 (.string ⟨#[]⟩) 1 16 Tryz.underlying34 hi hz0 hz1 hz2 rfl (by decide) _ _ _ rfl (hrow.alloc _) ⟨W.heap.size, 0, none⟩ 1 1 [.string ⟨x.toArray⟩] rfl rfl (cell_one_new _ _ _) (by simp [Value.oneCell']) (by unfold maxLen; omega) (by omega) (by have := hB.size; simp; omega) ?_; intro v' w1 hown' hgrow _; obtain ⟨g', cap', rfl⟩ := ownsRow_succ hown'; obtain ⟨hv1, hv2, hr2, hk2, hb2⟩ := hv.appended (by decide) hrow hB.size (Nat.le_refl _) hown' hgrow; have hc1 := hv1.cell; have hf1 := hv1.frozen)
      | (rw [Oper.semAt_eq _ _ _ (fun c h => by cases h)]; go_simp; try go_bits))
    exact ⟨hk2.from _, trivial, ⟨_, hv2, by simpa [strV] using hr2, trivial⟩, hB.trans hb2⟩
  case done =>
    rintro D ys W hD rfl ⟨⟨v, hv, hrow, _⟩, hB⟩ hK
    have hc := hv.cell
    gi_wp2
    refine ⟨by simp, .inl ⟨_, _, rfl, run_takeDeferred hK, ?_⟩⟩
    exact ⟨_, results_tmp rfl _ _ _, v, rfl, ownsRow_putObj hrow _ hK rfl, hB.trans (belowK_b (w := w) (Nat.le_refl _) W D _ _ (by simp at hD; omega) hK rfl rfl)⟩
  case stop =>
    rintro D c pre W _ _ h _
    exact h.elim

set_option maxRecDepth 100000 in
set_option maxHeartbeats 800000 in
theorem collect_any (s : ByteArray) (hs : s.size ≤ 2097152) (Bn : Nat) (w : World) (hBn : Bn < w.heap.size) (hc : w.cell? ⟨Bn, 0, none⟩ = some (.string s)) :
    Calls Tryz.prog 32 #[.func (.func 52) #[] #[.pointer (some ⟨Bn, 0, none⟩)]] w fun e w' => ∃ v, e = .returned v ∧ w'.ownsRow w.heap.size 9 1 v (linesL s.data.toList).length ((linesL s.data.toList).map strV) ∧ Below w.heap.size w w' := by
  have HA := Lib.hid (callsIn_wide.1 (append_in 3 (by omega) s hs Bn w hBn hc))
  clear hc
  go_enter Tryz.func32, Tryz.ntmps32
  go_wp2_with (go_at_call 59; refine HA.out.mono ?_; rintro e w' ⟨v, rfl, ho, hb⟩)
  obtain ⟨a1, cap1, rfl⟩ := own_form ho
  go_ret
  exact ⟨_, rfl, ho, hb⟩

set_option maxRecDepth 100000 in
set_option maxHeartbeats 800000 in
theorem implLines_any (s : ByteArray) (w : World) (hs : s.size ≤ 2097152) :
    Calls Tryz.prog 13 #[.string s] w fun e w' => ∃ v, e = .returned (.tuple #[v, .string ⟨(restL s.data.toList).toArray⟩]) ∧ w'.ownsRow w.heap.size 9 1 v (linesL s.data.toList).length ((linesL s.data.toList).map strV) ∧ Below w.heap.size w w' := by
  go_enter Tryz.func13, Tryz.ntmps13
  go_wp2_with (first
    | (go_at_call 27; refine (linesOf_any _ _).mono ?_; rintro e w' ⟨rfl, rfl⟩)
    | (go_at_call 32; refine (collect_any s hs w.heap.size _ (by simp) (by simp)).mono ?_; rintro e w1 ⟨v, rfl, ho, hb⟩; obtain ⟨a1, cap1, rfl⟩ := own_form ho)
    | (go_at_call 33; refine (rest_any _ _ (by omega)).mono ?_; rintro e w2 ⟨rfl, rfl⟩))
  go_ret2
  exact ⟨_, rfl, own_base ho (by simp), below_box hb⟩

end Go.Proofs.YtbmdlmckdekibaaGreatDoor

/- What a list of texts reads as, in a world. No condition. -/
namespace Go.Proofs.YtbmdlmckdekibaaGreatDoor
open Go.RowKit

/-- The cells of a row, none of them frozen. -/
def RowAt (w : World) (g : Nat) (xs : List Value) : Prop := ∀ i (hi : i < xs.length), w.cell? ⟨g, i, none⟩ = some xs[i] ∧ w.frozen? ⟨g, i, none⟩ = false
theorem RowAt.below {w w' : World} {B g : Nat} {xs : List Value} (h : RowAt w g xs) (hb : Below B w w') (hg : g < B) : RowAt w' g xs :=
  fun i hi => ⟨(hb.cell (p := ⟨g, i, none⟩) hg).trans (h i hi).1, (hb.frozen (p := ⟨g, i, none⟩) hg).trans (h i hi).2⟩
theorem RowAt.lt {w : World} {g : Nat} {xs : List Value} (h : RowAt w g xs) (hn : 0 < xs.length) : g < w.heap.size := World.block_lt_of_cell? w _ (h 0 hn).1
theorem addr_ne {g i j : Nat} (h : i ≠ j) : (⟨g, i, none⟩ : Addr) ≠ ⟨g, j, none⟩ := by intro e; injection e with _ e2; exact h e2
theorem RowAt.set {w : World} {g i : Nat} {xs : List Value} (h : RowAt w g xs) (hi : i < xs.length) (u : Value) : RowAt (w.setCell ⟨g, i, none⟩ u) g (xs.set i u) := by
  intro j hj
  have hj' : j < xs.length := by simpa using hj
  refine ⟨?_, by rw [World.frozen?_setCell]; exact (h j hj').2⟩
  by_cases e : i = j
  · subst e
    rw [World.cell?_setCell_same _ _ _ (h i hi).1]; simp
  · rw [World.cell?_setCell_other _ _ _ u (addr_ne e), (h j hj').1]
    simp [e]
/-- A slice reads as these cells. -/
def RdV (w : World) (v : Value) (xs : List Value) : Prop := ∃ a cap, v = .slice a xs.length cap ∧ (0 < xs.length → ∃ g, a = some ⟨g, 0, none⟩ ∧ RowAt w g xs)
theorem RdV.below {w w' : World} {v : Value} {xs : List Value} (h : RdV w v xs) (hb : Below w.heap.size w w') : RdV w' v xs := by
  obtain ⟨a, cap, rfl, hr⟩ := h
  refine ⟨a, cap, rfl, fun hn => ?_⟩
  obtain ⟨g, rfl, hrow⟩ := hr hn
  exact ⟨g, rfl, hrow.below hb (hrow.lt hn)⟩
theorem RdV.of_own {w : World} {B n : Nat} {e : TypeId} {v : Value} {xs : List Value} (h : w.ownsRow B e 1 v n xs) : RdV w v xs ∧ xs.length = n := by
  have hl : xs.length = n := by rw [h.1]; omega
  obtain ⟨a, cap, e⟩ := own_form h
  refine ⟨⟨a, cap, by rw [e, hl], fun hn => ?_⟩, hl⟩
  obtain ⟨g, cap', e', _, _, _, hc⟩ := own_cells h (by omega)
  rw [e] at e'
  simp at e'
  exact ⟨g, e'.1, hc⟩
theorem eq_cell {w : World} {g i : Nat} {xs : List Value} (h : RowAt w g xs) (hi : i < xs.length) : w.cell? ⟨g, i, none⟩ = some xs[i] := (h i hi).1

end Go.Proofs.YtbmdlmckdekibaaGreatDoor

/- Blocks that hold structs of one type: a table's row lies in none of them. No condition. -/
namespace Go.Proofs.YtbmdlmckdekibaaGreatDoor
open Go.RowKit

/-- A block of cells of this type. -/
def TagT (w : World) (b : Nat) (t : TypeId) : Prop := ∃ cs fz, w.heap[b]? = some (.cells cs t fz)
theorem TagT.later {w w' : World} {b : Nat} {t : TypeId} (h : TagT w b t) (hb : Below w.heap.size w w') : TagT w' b t := by
  obtain ⟨cs, fz, h⟩ := h
  exact ⟨cs, fz, (hb.block b (Array.getElem?_eq_some_iff.1 h).1).trans h⟩
theorem TagT.new (w : World) (cs : Array Value) (t : TypeId) : TagT (w.alloc (.cells cs t)) w.heap.size t := ⟨cs, _, heap_alloc_new w (.cells cs t)⟩
theorem OwnTab.setTagT {w : World} {B : Nat} {v : Value} {es : List (Int × Int)} {t : TypeId} (h : OwnTab w B v es) {a : Addr} (ht : TagT w a.block t) (hne : t ≠ 38) (u : Value) : OwnTab (w.setCell a u) B v es := by
  refine ⟨h.1, ?_⟩
  rcases h.2 with h2 | ⟨g, cap, cur, hv, hB, hg, r⟩
  · exact .inl h2
  · refine .inr ⟨g, cap, cur, hv, hB, ?_, r⟩
    rw [Below.heap_setCell _ _ _ _ fun e => ?_]
    · exact hg
    · obtain ⟨cs, fz, h1⟩ := ht
      rw [← e, hg] at h1
      injection h1 with h1
      injection h1 with _ h2 _
      exact hne h2.symm
theorem tabT_ne : (25 : TypeId) ≠ 38 := by decide
theorem TagT.setCell {w : World} {b : Nat} {t : TypeId} (h : TagT w b t) (a : Addr) (u : Value) : TagT (w.setCell a u) b t := by
  obtain ⟨cs, fz, h⟩ := h
  by_cases e : b = a.block
  · subst e
    refine ⟨if a.spot.isSome then cs else cs.setIfInBounds a.off u, fz, ?_⟩
    show (w.heap.modify a.block _)[a.block]? = _
    rw [Array.getElem?_modify]
    simp [h]
  · exact ⟨cs, fz, (Below.heap_setCell _ _ _ _ e).trans h⟩

end Go.Proofs.YtbmdlmckdekibaaGreatDoor

/- The law that what goes outside once goes so again: at every two codes. Conditions: the codes lie in memory; the variables that are read hold what they are laid with. -/
namespace Go.Proofs.YtbmdlmckdekibaaGreatDoor
open Go.RowKit Go.Sort

theorem boxD {w w' : World} {b i : Nat} {v : Value} (h : w.cell? ⟨b, i, none⟩ = some v) (hb : Below w.heap.size w w') : w'.cell? ⟨b, i, none⟩ = some v := by
  rw [hb.cell (p := ⟨b, i, none⟩) (World.block_lt_of_cell? w _ h)]; exact h
theorem boxF {w w' : World} {b i : Nat} {v : Value} (h : w.cell? ⟨b, i, none⟩ = some v) (hf : w.frozen? ⟨b, i, none⟩ = false) (hb : Below w.heap.size w w') : w'.frozen? ⟨b, i, none⟩ = false := by
  rw [hb.frozen (p := ⟨b, i, none⟩) (World.block_lt_of_cell? w _ h)]; exact hf
theorem SmE.wfE {us : List (Int × Int)} (h : SmE us) : wfE us := fun x hx => (h x hx).wf
theorem fzAt {w : World} {cs : Array Value} {t : TypeId} {b : Nat} (h : b = w.heap.size) : (w.alloc (.cells cs t)).frozen? ⟨b, 0, none⟩ = false := by subst h; exact (cell_new _ _ _ 0).2
theorem tagAt {w : World} {cs : Array Value} {t : TypeId} {b : Nat} (h : b = w.heap.size) : TagT (w.alloc (.cells cs t)) b t := by subst h; exact TagT.new _ _ _
/-- RwrStream of the program answers a table in memory of its own. -/
theorem implStrO (v : Value) (es : List (Int × Int)) (s : ByteArray) (w : World) (hn : es.length ≤ 4194304) (hs : s.size ≤ 2097152) (ht : TabAt w v es) (hm : mapB es = true) (hi : strB s.data.toList = true) (hv : VarsOk w) :
    Calls Tryz.prog 10 #[.agg #[v], .string s] w fun e w' => ∃ g c, e = .returned (.tuple #[.agg #[.slice g (streamE es (linesL s.data.toList)).1.length c], .string ⟨(streamE es (linesL s.data.toList)).2.toArray⟩]) ∧ OwnTab w' 0 (.slice g (streamE es (linesL s.data.toList)).1.length c) (streamE es (linesL s.data.toList)).1 ∧ Below w.heap.size w w' := by
  refine (implStream_ok v es s w hn hs ht hm hi hv).mono ?_
  rintro e w' ⟨g, c, rfl, ho, hb⟩
  exact ⟨_, _, rfl, ho.mono (Nat.zero_le _), hb⟩

set_option maxRecDepth 100000 in
set_option maxHeartbeats 12800000 in
theorem lwRwrStays_of (ao : Option Addr) (n cap : Nat) (ao2 : Option Addr) (n2 cap2 : Nat) (w : World) (h : BytesIn w ao n) (hn : n ≤ cap) (h2 : BytesIn w ao2 n2) (hn2 : n2 ≤ cap2) (hv : VarsOk w) (hb1 : ¬ 1048576 < n) (hb2 : ¬ 1048576 < n2) :
    Calls Tryz.prog 3 #[.slice ao n cap, .slice ao2 n2 cap2] w fun e w' => e = .returned (.bool true) ∧ Below w.heap.size w w' := by
  have H := Lib.hid h
  have HB2 : Hid (∀ w', Below w.heap.size w w' → BytesIn w' ao2 n2) := fun w' hb => h2.below hb
  have HV : Hid (∀ w', Below w.heap.size w w' → VarsOk w') := fun w' h => hv.below h
  clear h h2 hv
  go_enter Tryz.func3, Tryz.ntmps3
  go_wp2_with fail
  (go_at_call 6; refine (drawRwrStream_any ao n cap _ H.out hn).mono ?_; rintro e w1 ⟨g1, k1, us, s, rfl, o1, ⟨u8, sm1⟩, hss, b1⟩)
  have BW := Lib.hid b1
  have Tt := Lib.hid (o1.mono (Nat.zero_le _))
  clear b1 o1 H sm1
  obtain ⟨mb, hmb⟩ : ∃ mb, mb = mapB us := ⟨_, rfl⟩
  obtain ⟨sa, hsa⟩ : ∃ sa, sa = strB s.data.toList := ⟨_, rfl⟩
  have HMO : Hid (∀ w, TabAt w (.slice g1 us.length k1) us → Calls Tryz.prog 7 #[.agg #[.slice g1 us.length k1]] w fun e w' => e = .returned (.bool mb) ∧ Below w.heap.size w w') := fun w ht => by rw [hmb]; exact specMapOk_any _ us w (by omega) ht
  have HOA : Hid (∀ w, Calls Tryz.prog 8 #[.string s] w fun e w' => e = .returned (.bool sa) ∧ Below w.heap.size w w') := fun w => by rw [hsa]; exact specStr_any s w (by omega)
  have HMB := Lib.hid hmb
  have HSAQ := Lib.hid hsa
  clear hmb hsa
  go_wp2_with fail
  obtain ⟨W1, hW1⟩ : ∃ W, W = (w1.alloc (.cells #[.slice g1 us.length k1] 25)) := ⟨_, rfl⟩
  have qW1 : Below w1.heap.size w1 W1 := by rw [hW1]; exact (Below.refl _ _).alloc (Nat.le_refl _) _
  have zW1 : w1.heap.size + 1 ≤ W1.heap.size := by rw [hW1]; simp
  have ct0 : W1.cell? ⟨w1.heap.size, 0, none⟩ = some (.slice g1 us.length k1) := by rw [hW1]; simp
  replace Tt := Lib.hid (Tt.out.below qW1)
  have BWz := BW.out.size
  replace BW := Lib.hid (BW.out.trans (qW1.mono BW.out.size))
  rw [← hW1]
  obtain ⟨bt, hbt⟩ : ∃ b, b = w1.heap.size := ⟨_, rfl⟩
  have lt : bt < W1.heap.size := by omega
  rw [← hbt] at ct0 ⊢
  have mt : w.heap.size ≤ bt := by have := BWz; omega
  clear hbt hW1
  clear qW1 zW1 BWz
  (go_at_call 7; refine (HMO.out _ Tt.out.tab).mono ?_; rintro e w2x ⟨rfl, qb⟩)
  have zb := qb.size
  replace ct0 := boxD ct0 qb
  replace lt : bt < w2x.heap.size := by omega
  replace Tt := Lib.hid (Tt.out.below qb)
  replace BW := Lib.hid (BW.out.trans (qb.mono BW.out.size))
  clear qb zb
  cases mb
  · go_wp2_with fail
    (go_at_call 9; refine (haOk_any _).mono ?_; rintro e wl ⟨rfl, rfl⟩)
    go_wp2_with fail
    go_ret
    exact ⟨rfl, BW.out⟩
  · go_wp2_with fail
    (go_at_call 8; refine (HOA.out _).mono ?_; rintro e w3x ⟨rfl, qb⟩)
    have zb := qb.size
    replace ct0 := boxD ct0 qb
    replace lt : bt < w3x.heap.size := by omega
    replace Tt := Lib.hid (Tt.out.below qb)
    replace BW := Lib.hid (BW.out.trans (qb.mono BW.out.size))
    clear qb zb
    cases sa
    · go_wp2_with fail
      (go_at_call 9; refine (haOk_any _).mono ?_; rintro e wl ⟨rfl, rfl⟩)
      go_wp2_with fail
      go_ret
      exact ⟨rfl, BW.out⟩
    · have hm : mapB us = true := HMB.out.symm
      have hs : strB s.data.toList = true := HSAQ.out.symm
      have hmx : mapB (streamE us (linesL s.data.toList)).1 = true := streamE_ok hm _
      have hu6 := mapB_le hm
      have hx6 := mapB_le hmx
      obtain ⟨hy1, hrest, hy2⟩ := stream_again us us s.data.toList
      obtain ⟨outs, hoz, houts, hsay⟩ := streamE_outs (linesL s.data.toList) (fun l hl => line_noSemi hl) (us, [])
      have hq1 := strA_len us s.data.toList
      rw [show strA us s.data.toList = streamE us (linesL s.data.toList) from strA_yes (by rw [hm, hs]; rfl)] at hq1
      have hlin : linesL (streamE us (linesL s.data.toList)).2 = outs := by
        have e1 : (streamE us (linesL s.data.toList)).2 = (outs.map (· ++ [59])).flatten := by
          unfold streamE; rw [houts]; rfl
        rw [e1]
        exact (lines_flat outs (fun o ho => (hsay o ho).1)).1
      have HST : Hid (∀ t, mapB ((streamE us (linesL s.data.toList)).1 ++ t) = true → ∀ k, streamE ((streamE us (linesL s.data.toList)).1 ++ t) (linesL (s.data.toList.take k)) = ((streamE us (linesL s.data.toList)).1 ++ t, (streamE us (linesL (s.data.toList.take k))).2) ∧ ∃ q, (streamE us (linesL s.data.toList)).2 = (streamE us (linesL (s.data.toList.take k))).2 ++ q) := fun t ht k => by
        obtain ⟨q, h1, h2⟩ := stream_stays (t := t) hu6 (mapB_le ht) k
        exact ⟨h1, q, h2⟩
      obtain ⟨xs, hxs⟩ : ∃ xs, xs = (streamE us (linesL s.data.toList)).1 := ⟨_, rfl⟩
      obtain ⟨Q1, hQ1⟩ : ∃ Q1 : ByteArray, Q1 = ⟨(streamE us (linesL s.data.toList)).2.toArray⟩ := ⟨_, rfl⟩
      have hQl : (streamE us (linesL s.data.toList)).2 = Q1.data.toList := by rw [hQ1]
      have HIA : Hid (∀ w, TabAt w (.slice g1 us.length k1) us → VarsOk w → Calls Tryz.prog 10 #[.agg #[.slice g1 us.length k1], .string s] w fun e w' => ∃ g c, e = .returned (.tuple #[.agg #[.slice g xs.length c], .string Q1]) ∧ OwnTab w' 0 (.slice g xs.length c) xs ∧ Below w.heap.size w w') := fun w ht hv => by rw [hxs, hQ1]; exact implStrO _ us s w (by omega) (by omega) ht hm hs hv
      rw [hQl] at hrest hlin hq1 HST
      rw [← hxs] at hmx hx6 HST
      have hQ1s : Q1.size ≤ 2097152 := by rw [← len_list]; exact hq1
      have HK : Hid (∀ t, mapB (xs ++ t) = true → ∀ k, ∃ P : ByteArray, (∃ q, Q1.data.toList = P.data.toList ++ q) ∧ ∀ v w, TabAt w v (xs ++ t) → VarsOk w → Calls Tryz.prog 10 #[.agg #[v], .string (s.extract 0 k)] w fun e w' => ∃ g c, e = .returned (.tuple #[.agg #[.slice g (xs ++ t).length c], .string P]) ∧ OwnTab w' 0 (.slice g (xs ++ t).length c) (xs ++ t) ∧ Below w.heap.size w w') := fun t ht k => by
        obtain ⟨h1, q, h2⟩ := HST.out t ht k
        have hd : (s.extract 0 k).data.toList = s.data.toList.take k := by rw [ext_list]; simp
        have hsk : strB (s.extract 0 k).data.toList = true := by rw [hd]; exact str_take hs k
        refine ⟨⟨(streamE us (linesL (s.data.toList.take k))).2.toArray⟩, ⟨q, by rw [h2]⟩, fun v w htv hv => ?_⟩
        have hl := mapB_le ht
        have hez : (s.extract 0 k).size ≤ 2097152 := by rw [ByteArray.size_extract]; omega
        have := implStrO v (xs ++ t) (s.extract 0 k) w (by omega) hez htv ht hsk hv
        rw [hd, h1] at this
        exact this
      have HZ : Hid (∀ t, mapB (xs ++ t) = true → ∀ v w, TabAt w v (xs ++ t) → VarsOk w → Calls Tryz.prog 10 #[.agg #[v], .string s] w fun e w' => ∃ g c, e = .returned (.tuple #[.agg #[.slice g (xs ++ t).length c], .string Q1]) ∧ OwnTab w' 0 (.slice g (xs ++ t).length c) (xs ++ t) ∧ Below w.heap.size w w') := fun t ht v w htv hv => by
        obtain ⟨h1, q, h2⟩ := HST.out t ht s.data.toList.length
        rw [List.take_length] at h1 h2
        have hl := mapB_le ht
        have := implStrO v (xs ++ t) s w (by omega) (by omega) htv ht hs hv
        rw [h1, hQl] at this
        exact this
      have hli := lines_len Q1.data.toList
      rw [len_list, hlin] at hli
      have hol : outs.length ≤ 2097152 := by omega
      have HLF : Hid (∀ w, Calls Tryz.prog 13 #[.string Q1] w fun e w' => ∃ v, e = .returned (.tuple #[v, .string ⟨#[]⟩]) ∧ w'.ownsRow w.heap.size 9 1 v outs.length (outs.map strV) ∧ Below w.heap.size w w') := fun w => by
        have := implLines_any Q1 w hQ1s
        rw [hrest, hlin] at this
        exact this
      have HSAY := Lib.hid hsay
      have HOL : Hid (∀ o ∈ outs, o.length ≤ 2097152) := fun o ho => by
        have := line_len (l := Q1.data.toList) (x := o) (by rw [hlin]; exact ho)
        rw [len_list] at this
        omega
      have HMX := Lib.hid hmx
      clear hy1 hy2 hoz hm hs hmx hrest houts hsay hq1 hlin hxs hQ1 hQl HST hli
      go_wp2_with fail
      (go_at_call 10; refine (HIA.out _ Tt.out.tab (HV.out _ BW.out)).mono ?_; rintro e w4x ⟨g3, k3, rfl, f3, qb⟩)
      have zb := qb.size
      replace ct0 := boxD ct0 qb
      replace lt : bt < w4x.heap.size := by omega
      replace Tt := Lib.hid (Tt.out.below qb)
      replace BW := Lib.hid (BW.out.trans (qb.mono BW.out.size))
      clear qb zb
      have Tx := Lib.hid f3
      clear f3
      have at0 : ∀ o, (w4x.alloc o).cell? ⟨bt, 0, none⟩ = some (.slice g1 us.length k1) := fun o => by rw [cell_alloc_lt lt]; exact ct0
      go_wp2_with fail
      obtain ⟨W5, hW5⟩ : ∃ W, W = (w4x.alloc (.cells #[.slice g3 xs.length k3] 25)) := ⟨_, rfl⟩
      have qW5 : Below w4x.heap.size w4x W5 := by rw [hW5]; exact (Below.refl _ _).alloc (Nat.le_refl _) _
      have zW5 : w4x.heap.size + 1 ≤ W5.heap.size := by rw [hW5]; simp
      have ntx : bt < w4x.heap.size := lt
      replace ct0 := boxD ct0 qW5
      replace lt : bt < W5.heap.size := by omega
      have cx0 : W5.cell? ⟨w4x.heap.size, 0, none⟩ = some (.slice g3 xs.length k3) := by rw [hW5]; simp
      replace Tt := Lib.hid (Tt.out.below qW5)
      replace Tx := Lib.hid (Tx.out.below qW5)
      have BWz := BW.out.size
      replace BW := Lib.hid (BW.out.trans (qW5.mono BW.out.size))
      rw [← hW5]
      obtain ⟨bx, hbx⟩ : ∃ b, b = w4x.heap.size := ⟨_, rfl⟩
      have lx : bx < W5.heap.size := by omega
      rw [← hbx] at cx0 ⊢
      replace ntx : bt < bx := by omega
      have mx : w.heap.size ≤ bx := by have := BWz; omega
      clear hbx hW5
      clear at0
      clear qW5 zW5 BWz
      (go_at_call 6; refine (drawRwrStream_any ao2 n2 cap2 _ (HB2.out _ BW.out) hn2).mono ?_; rintro e w6x ⟨g2, k2, vs, u, rfl, _, _, hus, qb⟩)
      have zb := qb.size
      replace ct0 := boxD ct0 qb
      replace lt : bt < w6x.heap.size := by omega
      replace cx0 := boxD cx0 qb
      replace lx : bx < w6x.heap.size := by omega
      replace Tt := Lib.hid (Tt.out.below qb)
      replace Tx := Lib.hid (Tx.out.below qb)
      replace BW := Lib.hid (BW.out.trans (qb.mono BW.out.size))
      clear qb zb
      obtain ⟨su, hsu⟩ : ∃ su, su = strB u.data.toList := ⟨_, rfl⟩
      have HOU : Hid (∀ w, Calls Tryz.prog 8 #[.string u] w fun e w' => e = .returned (.bool su) ∧ Below w.heap.size w w') := fun w => by rw [hsu]; exact specStr_any u w (by omega)
      have HY : Hid (su = true → ∃ t, mapB (xs ++ t) = true ∧ ∀ v w, TabAt w v xs → VarsOk w → Calls Tryz.prog 10 #[.agg #[v], .string u] w fun e w' => ∃ g c q, e = .returned (.tuple #[.agg #[.slice g (xs ++ t).length c], .string q]) ∧ OwnTab w' 0 (.slice g (xs ++ t).length c) (xs ++ t) ∧ Below w.heap.size w w') := fun e1 => by
        rw [hsu] at e1
        obtain ⟨t, ht⟩ := fold_pre (linesL u.data.toList) xs []
        have hmu : mapB (streamE xs (linesL u.data.toList)).1 = true := streamE_ok HMX.out _
        have ht' : (streamE xs (linesL u.data.toList)).1 = xs ++ t := ht
        rw [ht'] at hmu
        refine ⟨t, hmu, fun v w htv hv => ?_⟩
        have := implStrO v xs u w (by omega) (by omega) htv HMX.out e1 hv
        rw [ht'] at this
        refine this.mono ?_
        rintro e w' ⟨g, c, rfl, ho, hb⟩
        exact ⟨g, c, _, rfl, ho, hb⟩
      clear hsu
      have at0 : ∀ o oo, ((w6x.alloc o).alloc oo).cell? ⟨bt, 0, none⟩ = some (.slice g1 us.length k1) := fun o oo => by rw [cell_alloc_lt (by simp; omega), cell_alloc_lt lt]; exact ct0
      have ax0 : ∀ o oo, ((w6x.alloc o).alloc oo).cell? ⟨bx, 0, none⟩ = some (.slice g3 xs.length k3) := fun o oo => by rw [cell_alloc_lt (by simp; omega), cell_alloc_lt lx]; exact cx0
      have et0 : ∀ o, (w6x.alloc o).cell? ⟨bt, 0, none⟩ = some (.slice g1 us.length k1) := fun o => by rw [cell_alloc_lt lt]; exact ct0
      have ex0 : ∀ o, (w6x.alloc o).cell? ⟨bx, 0, none⟩ = some (.slice g3 xs.length k3) := fun o => by rw [cell_alloc_lt lx]; exact cx0
      go_wp2_with fail
      clear et0 ex0
      obtain ⟨W7, hW7⟩ : ∃ W, W = ((w6x.alloc (.cells #[.slice g2 vs.length k2] 25)).alloc (.cells #[.slice g3 xs.length k3] 25)) := ⟨_, rfl⟩
      have qW7 : Below w6x.heap.size w6x W7 := by rw [hW7]; exact ((Below.refl _ _).alloc (Nat.le_refl _) _).alloc (by simp) _
      have zW7 : w6x.heap.size + 2 ≤ W7.heap.size := by rw [hW7]; simp
      have ntc : bt < w6x.heap.size := lt
      have ntq : bt < w6x.heap.size := lt
      have nxc : bx < w6x.heap.size := lx
      have nxq : bx < w6x.heap.size := lx
      replace ct0 := boxD ct0 qW7
      replace lt : bt < W7.heap.size := by omega
      replace cx0 := boxD cx0 qW7
      replace lx : bx < W7.heap.size := by omega
      have cc0 : W7.cell? ⟨w6x.heap.size, 0, none⟩ = some (.slice g2 vs.length k2) := by rw [hW7, cell_alloc_lt (by simp)]; exact (cell_new _ _ _ 0).1
      have cq0 : W7.cell? ⟨w6x.heap.size + 1, 0, none⟩ = some (.slice g3 xs.length k3) := by rw [hW7]; simp
      have fq : W7.frozen? ⟨w6x.heap.size + 1, 0, none⟩ = false := by rw [hW7]; exact fzAt (by simp)
      have Gq : Hid (TagT W7 (w6x.heap.size + 1) 25) := by rw [hW7]; exact Lib.hid (tagAt (by simp))
      replace Tt := Lib.hid (Tt.out.below qW7)
      replace Tx := Lib.hid (Tx.out.below qW7)
      have BWz := BW.out.size
      replace BW := Lib.hid (BW.out.trans (qW7.mono BW.out.size))
      rw [← hW7]
      obtain ⟨bq, hbq⟩ : ∃ b, b = w6x.heap.size + 1 := ⟨_, rfl⟩
      have lq : bq < W7.heap.size := by omega
      rw [← hbq] at cq0 fq Gq ⊢
      replace ntq : bt < bq := by omega
      replace nxq : bx < bq := by omega
      have mq : w.heap.size ≤ bq := by have := BWz; omega
      obtain ⟨bc, hbc⟩ : ∃ b, b = w6x.heap.size := ⟨_, rfl⟩
      have lc : bc < W7.heap.size := by omega
      rw [← hbc] at cc0 ⊢
      replace ntc : bt < bc := by omega
      replace nxc : bx < bc := by omega
      have mc : w.heap.size ≤ bc := by have := BWz; omega
      have ncq : bc < bq := by omega
      clear hbc hbq hW7
      clear at0 ax0
      clear qW7 zW7 BWz
      (go_at_call 8; refine (HOU.out _).mono ?_; rintro e w8x ⟨rfl, qb⟩)
      have zb := qb.size
      replace fq := boxF cq0 fq qb
      replace Gq := Lib.hid (Gq.out.later qb)
      replace ct0 := boxD ct0 qb
      replace lt : bt < w8x.heap.size := by omega
      replace cx0 := boxD cx0 qb
      replace lx : bx < w8x.heap.size := by omega
      replace cc0 := boxD cc0 qb
      replace lc : bc < w8x.heap.size := by omega
      replace cq0 := boxD cq0 qb
      replace lq : bq < w8x.heap.size := by omega
      replace Tt := Lib.hid (Tt.out.below qb)
      replace Tx := Lib.hid (Tx.out.below qb)
      replace BW := Lib.hid (BW.out.trans (qb.mono BW.out.size))
      clear qb zb
      cases su
      · have HZY : Hid (∀ v w, TabAt w v xs → VarsOk w → Calls Tryz.prog 10 #[.agg #[v], .string s] w fun e w' => ∃ g c, e = .returned (.tuple #[.agg #[.slice g xs.length c], .string Q1]) ∧ OwnTab w' 0 (.slice g xs.length c) xs ∧ Below w.heap.size w w') := by have := HZ.out [] (by rw [List.append_nil]; exact HMX.out); rw [List.append_nil] at this; exact this
        have HKY : Hid (∀ k, ∃ P : ByteArray, (∃ q, Q1.data.toList = P.data.toList ++ q) ∧ ∀ v w, TabAt w v xs → VarsOk w → Calls Tryz.prog 10 #[.agg #[v], .string (s.extract 0 k)] w fun e w' => ∃ g c, e = .returned (.tuple #[.agg #[.slice g xs.length c], .string P]) ∧ OwnTab w' 0 (.slice g xs.length c) xs ∧ Below w.heap.size w w') := by have := HK.out [] (by rw [List.append_nil]; exact HMX.out); rw [List.append_nil] at this; exact this
        have HHE : Hid (∀ v1 v2 w, TabAt w v1 xs → TabAt w v2 xs → Calls Tryz.prog 11 #[v1, v2] w fun e w' => e = .returned (.bool true) ∧ Below w.heap.size w w') := fun v1 v2 w h1 h2 => haEnds_same xs v1 v2 w (by omega) h1 h2
        have Ty := Tx
        clear HY HZ HK
        go_wp2_with fail
        (go_at_call 10; refine (HZY.out _ _ Ty.out.tab (HV.out _ BW.out)).mono ?_; rintro e w9x ⟨g7, k7, rfl, f7, qb⟩)
        have zb := qb.size
        replace fq := boxF cq0 fq qb
        replace Gq := Lib.hid (Gq.out.later qb)
        replace ct0 := boxD ct0 qb
        replace lt : bt < w9x.heap.size := by omega
        replace cx0 := boxD cx0 qb
        replace lx : bx < w9x.heap.size := by omega
        replace cc0 := boxD cc0 qb
        replace lc : bc < w9x.heap.size := by omega
        replace cq0 := boxD cq0 qb
        replace lq : bq < w9x.heap.size := by omega
        replace Tt := Lib.hid (Tt.out.below qb)
        replace Tx := Lib.hid (Tx.out.below qb)
        replace Ty := Lib.hid (Ty.out.below qb)
        replace BW := Lib.hid (BW.out.trans (qb.mono BW.out.size))
        clear qb zb
        have Tz := Lib.hid f7
        clear f7
        have at0 : ∀ o, (w9x.alloc o).cell? ⟨bt, 0, none⟩ = some (.slice g1 us.length k1) := fun o => by rw [cell_alloc_lt lt]; exact ct0
        have ax0 : ∀ o, (w9x.alloc o).cell? ⟨bx, 0, none⟩ = some (.slice g3 xs.length k3) := fun o => by rw [cell_alloc_lt lx]; exact cx0
        have ac0 : ∀ o, (w9x.alloc o).cell? ⟨bc, 0, none⟩ = some (.slice g2 vs.length k2) := fun o => by rw [cell_alloc_lt lc]; exact cc0
        have aq0 : ∀ o, (w9x.alloc o).cell? ⟨bq, 0, none⟩ = some (.slice g3 xs.length k3) := fun o => by rw [cell_alloc_lt lq]; exact cq0
        go_wp2_with fail
        obtain ⟨W10, hW10⟩ : ∃ W, W = (w9x.alloc (.cells #[.slice g7 xs.length k7] 25)) := ⟨_, rfl⟩
        have qW10 : Below w9x.heap.size w9x W10 := by rw [hW10]; exact (Below.refl _ _).alloc (Nat.le_refl _) _
        have zW10 : w9x.heap.size + 1 ≤ W10.heap.size := by rw [hW10]; simp
        have ntz : bt < w9x.heap.size := lt
        have nxz : bx < w9x.heap.size := lx
        have ncz : bc < w9x.heap.size := lc
        have nqz : bq < w9x.heap.size := lq
        replace fq := boxF cq0 fq qW10
        replace Gq := Lib.hid (Gq.out.later qW10)
        replace ct0 := boxD ct0 qW10
        replace lt : bt < W10.heap.size := by omega
        replace cx0 := boxD cx0 qW10
        replace lx : bx < W10.heap.size := by omega
        replace cc0 := boxD cc0 qW10
        replace lc : bc < W10.heap.size := by omega
        replace cq0 := boxD cq0 qW10
        replace lq : bq < W10.heap.size := by omega
        have cz0 : W10.cell? ⟨w9x.heap.size, 0, none⟩ = some (.slice g7 xs.length k7) := by rw [hW10]; simp
        replace Tt := Lib.hid (Tt.out.below qW10)
        replace Tx := Lib.hid (Tx.out.below qW10)
        replace Ty := Lib.hid (Ty.out.below qW10)
        replace Tz := Lib.hid (Tz.out.below qW10)
        have BWz := BW.out.size
        replace BW := Lib.hid (BW.out.trans (qW10.mono BW.out.size))
        rw [← hW10]
        obtain ⟨bz, hbz⟩ : ∃ b, b = w9x.heap.size := ⟨_, rfl⟩
        have lz : bz < W10.heap.size := by omega
        rw [← hbz] at cz0 ⊢
        replace ntz : bt < bz := by omega
        replace nxz : bx < bz := by omega
        replace ncz : bc < bz := by omega
        replace nqz : bq < bz := by omega
        have mz : w.heap.size ≤ bz := by have := BWz; omega
        clear hbz hW10
        clear at0 ax0 ac0 aq0
        clear qW10 zW10 BWz
        (go_at_call 11; refine (HHE.out _ _ _ Tz.out.tab Ty.out.tab).mono ?_; rintro e w11x ⟨rfl, qb⟩)
        have zb := qb.size
        replace fq := boxF cq0 fq qb
        replace Gq := Lib.hid (Gq.out.later qb)
        replace ct0 := boxD ct0 qb
        replace lt : bt < w11x.heap.size := by omega
        replace cx0 := boxD cx0 qb
        replace lx : bx < w11x.heap.size := by omega
        replace cc0 := boxD cc0 qb
        replace lc : bc < w11x.heap.size := by omega
        replace cq0 := boxD cq0 qb
        replace lq : bq < w11x.heap.size := by omega
        replace cz0 := boxD cz0 qb
        replace lz : bz < w11x.heap.size := by omega
        replace Tt := Lib.hid (Tt.out.below qb)
        replace Tx := Lib.hid (Tx.out.below qb)
        replace Ty := Lib.hid (Ty.out.below qb)
        replace Tz := Lib.hid (Tz.out.below qb)
        replace BW := Lib.hid (BW.out.trans (qb.mono BW.out.size))
        clear qb zb
        go_wp2_with fail
        go_loopw [14] (fun i wr => ∃ j : Nat, j ≤ s.size ∧ i = .int .i64 j ∧ Below w11x.heap.size w11x wr) (fun i _ => s.size - (intOf i).toNat)
        case atStart => exact ⟨0, Nat.zero_le _, rfl, Below.refl _ _⟩
        case round =>
          obtain ⟨j, hj, rfl, hb⟩ := hrel
          have ry := boxD cq0 hb
          have RY := Lib.hid (Ty.out.below hb)
          have HB := Lib.hid hb
          have hbz := hb.size
          have hWz := BW.out.size
          have VR : Hid (∀ w', Below wr.heap.size wr w' → VarsOk w') := fun w' h => HV.out _ (BW.out.trans ((HB.out.trans (h.mono hbz)).mono hWz))
          clear hb
          by_cases hlt : j < s.size
          · obtain ⟨P, ⟨q, hPq⟩, HPc⟩ := HKY.out j
            have HPC := Lib.hid HPc
            have HPQ := Lib.hid hPq
            clear HPc hPq
            have hjs : (j : Int) ≤ (s.size : Int) := by omega
            have mk9 : Hid (∀ w', Below wr.heap.size wr w' → w'.cell? ⟨bq, 0, none⟩ = some (.slice g3 xs.length k3) ∧ Below wr.heap.size wr w') := fun w' hb => ⟨boxD ry hb, hb⟩
            go_upto_region 17 with fail
            go_cut [16] (fun t wx => t = .string P ∧ Below wr.heap.size wr wx)
            case first =>
              go_region_held3 (fun w' => w'.cell? ⟨bq, 0, none⟩ = some (.slice g3 xs.length k3) ∧ Below wr.heap.size wr w')
                (first
                  | exact mk9.out _ (Below.refl _ _).drew
                  | exact mk9.out _ cc
                  | exact mk9.out _ (cc.alloc cc.size _)
                  | exact mk9.out _ (cc.setCell (by first | (simp; done) | (simp; omega)) _)
                  | exact mk9.out _ (((Below.refl _ _).drew).alloc (Nat.le_refl _) _)
                  | (trace_state; fail))
                (first
                  | (go_at_call 10; have hS := (by assumption : _ ∧ Below wr.heap.size wr _); refine (HPC.out _ _ (RY.out.below hS.2).tab (VR.out _ hS.2)).mono ?_; rintro e wN ⟨gN, cN, rfl, oN, bN⟩; have cc : Below wr.heap.size wr wN := hS.2.trans (bN.mono hS.2.size); (first | (have hk := fresh1 bN; obtain ⟨k0, kf⟩ := hk) | (have hk := fresh1d bN; obtain ⟨k0, kf⟩ := hk) | skip)))
              all_goals (go_wp2_with fail; go_meet)
              all_goals (first | exact ⟨rfl, cc.alloc cc.size _⟩ | exact ⟨rfl, cc.setCell (by first | (simp; done) | (simp; omega)) _⟩ | exact ⟨rfl, cc⟩ | (trace_state; fail))
            case rest =>
              obtain ⟨rfl, c11⟩ := hcut
              go_wp2_with fail
              (go_at_call 12; refine (haStarts_pre Q1 P q _ HPQ.out).mono ?_; rintro e wl ⟨rfl, rfl⟩)
              go_wp2_with fail
              go_roundw
              case rel => exact ⟨j + 1, by omega, by go_num, HB.out.trans (c11.mono hbz)⟩
              case measure => simp [intOf]; omega
          · have BR : Hid (Below w.heap.size w wr) := BW.out.trans (HB.out.mono hWz)
            go_wp2_with fail
            ((first | go_at_call 13 | skip); refine (HLF.out _).mono ?_; rintro e w20 ⟨vl, rfl, ol, bl⟩; obtain ⟨al, cl, rfl⟩ := own_form ol; have RL := Lib.hid (RdV.of_own ol).1; have B20 : Hid (Below w.heap.size w w20) := BR.out.trans (bl.mono BR.out.size); clear ol bl)
            go_wp2_with fail
            go_loopw [19] (fun i wr => ∃ j : Nat, j ≤ outs.length ∧ i = .int .i64 j ∧ Below w20.heap.size w20 wr) (fun i _ => outs.length - (intOf i).toNat)
            case atStart => exact ⟨0, Nat.zero_le _, rfl, Below.refl _ _⟩
            case round =>
              obtain ⟨i, hi, rfl, hb2⟩ := hrel
              have HB20 := Lib.hid hb2
              have hz20 := hb2.size
              have hW20 := B20.out.size
              by_cases hli : i < outs.length
              · obtain ⟨ax, cx', ex, hrx⟩ := RL.out.below hb2
                rw [List.length_map] at hrx
                simp at ex
                obtain ⟨ex1, ex2⟩ := ex
                subst ex1
                subst ex2
                obtain ⟨gx, hgx, rowx⟩ := hrx (by omega)
                subst hgx
                obtain ⟨x, hx⟩ : ∃ x, x = outs[i] := ⟨_, rfl⟩
                have cX := (rowx i (by simpa using hli)).1
                simp only [List.getElem_map, ← hx, strV] at cX
                have hxs := HSAY.out x (by rw [hx]; exact List.getElem_mem _)
                have hxl := HOL.out x (by rw [hx]; exact List.getElem_mem _)
                have HSX : Hid (∀ w, VarsOk w → Calls Tryz.prog 14 #[.string ⟨x.toArray⟩] w fun e w' => e = .returned (.tuple #[.agg #[.int .i64 0, .int .i64 0], .bool false]) ∧ Below w.heap.size w w') := fun w hv => by
                  have := implSays_any ⟨x.toArray⟩ w (by simpa [ByteArray.size] using hxl) hv
                  rw [show saysE (⟨x.toArray⟩ : ByteArray).data.toList = none from hxs.2] at this
                  exact this
                have VX := Lib.hid (HV.out _ (B20.out.trans (hb2.mono hW20)))
                clear rowx hrx hx hxs hxl hb2
                go_wp2_with fail
                (go_at_call 14; refine (HSX.out _ VX.out).mono ?_; rintro e w21 ⟨rfl, b21⟩; have B21 : Hid (∀ o, Below w20.heap.size w20 (w21.alloc o)) := (fun o => (HB20.out.trans (b21.mono hz20)).alloc (Nat.le_trans hz20 b21.size) o); clear b21)
                go_wp2_with fail
                go_roundw
                case rel => exact ⟨i + 1, by omega, by go_num, B21.out _⟩
                case measure => simp [intOf]; omega
              · have BF : Hid (Below w.heap.size w wr) := B20.out.trans (HB20.out.mono hW20)
                go_wp2_with fail
                go_ret
                exact ⟨by simp, BF.out⟩
      · obtain ⟨t, hmt, hyc⟩ := HY.out (by simp)
        have hl6 := mapB_le hmt
        have HZ0 := Lib.hid (HZ.out t hmt)
        have HK0 := Lib.hid (HK.out t hmt)
        obtain ⟨ys, hys⟩ : ∃ ys, ys = xs ++ t := ⟨_, rfl⟩
        rw [← hys] at hyc hl6 HZ0 HK0
        have HYC := Lib.hid hyc
        have HZY := HZ0
        have HKY := HK0
        have HHE : Hid (∀ v1 v2 w, TabAt w v1 ys → TabAt w v2 ys → Calls Tryz.prog 11 #[v1, v2] w fun e w' => e = .returned (.bool true) ∧ Below w.heap.size w w') := fun v1 v2 w h1 h2 => haEnds_same ys v1 v2 w (by omega) h1 h2
        clear HY HZ HK HZ0 HK0 hyc hmt hys
        go_wp2_with fail
        (go_at_call 10; refine (HYC.out _ _ Tx.out.tab (HV.out _ BW.out)).mono ?_; rintro e w9x ⟨g5, k5, q5, rfl, f5, qb⟩)
        have zb := qb.size
        replace fq := boxF cq0 fq qb
        replace Gq := Lib.hid (Gq.out.later qb)
        replace ct0 := boxD ct0 qb
        replace lt : bt < w9x.heap.size := by omega
        replace cx0 := boxD cx0 qb
        replace lx : bx < w9x.heap.size := by omega
        replace cc0 := boxD cc0 qb
        replace lc : bc < w9x.heap.size := by omega
        replace cq0 := boxD cq0 qb
        replace lq : bq < w9x.heap.size := by omega
        replace Tt := Lib.hid (Tt.out.below qb)
        replace Tx := Lib.hid (Tx.out.below qb)
        replace BW := Lib.hid (BW.out.trans (qb.mono BW.out.size))
        clear qb zb
        have Ty := Lib.hid f5
        clear f5
        have at0 : (w9x.setCell ⟨bq, 0, none⟩ (.slice g5 ys.length k5)).cell? ⟨bt, 0, none⟩ = some (.slice g1 us.length k1) := by rw [World.cell?_setCell_far _ ⟨bq, 0, none⟩ ⟨bt, 0, none⟩ _ (by show bq ≠ bt; omega)]; exact ct0
        have ax0 : (w9x.setCell ⟨bq, 0, none⟩ (.slice g5 ys.length k5)).cell? ⟨bx, 0, none⟩ = some (.slice g3 xs.length k3) := by rw [World.cell?_setCell_far _ ⟨bq, 0, none⟩ ⟨bx, 0, none⟩ _ (by show bq ≠ bx; omega)]; exact cx0
        have ac0 : (w9x.setCell ⟨bq, 0, none⟩ (.slice g5 ys.length k5)).cell? ⟨bc, 0, none⟩ = some (.slice g2 vs.length k2) := by rw [World.cell?_setCell_far _ ⟨bq, 0, none⟩ ⟨bc, 0, none⟩ _ (by show bq ≠ bc; omega)]; exact cc0
        have aq0 : (w9x.setCell ⟨bq, 0, none⟩ (.slice g5 ys.length k5)).cell? ⟨bq, 0, none⟩ = some (.slice g5 ys.length k5) := World.cell?_setCell_same _ _ _ cq0
        go_wp2_with fail
        obtain ⟨W10, hW10⟩ : ∃ W, W = (w9x.setCell ⟨bq, 0, none⟩ (.slice g5 ys.length k5)) := ⟨_, rfl⟩
        rw [← hW10] at at0 ax0 ac0 aq0 ⊢
        have zW10 : W10.heap.size = w9x.heap.size := by rw [hW10]; simp
        clear ct0
        have ct0 := at0
        clear at0
        replace lt : bt < W10.heap.size := by omega
        clear cx0
        have cx0 := ax0
        clear ax0
        replace lx : bx < W10.heap.size := by omega
        clear cc0
        have cc0 := ac0
        clear ac0
        replace lc : bc < W10.heap.size := by omega
        clear cq0
        have cq0 := aq0
        clear aq0
        replace lq : bq < W10.heap.size := by omega
        replace Tt := Lib.hid (Tt.out.setTagT (a := ⟨bq, 0, none⟩) Gq.out tabT_ne (.slice g5 ys.length k5))
        rw [← hW10] at Tt
        replace Tx := Lib.hid (Tx.out.setTagT (a := ⟨bq, 0, none⟩) Gq.out tabT_ne (.slice g5 ys.length k5))
        rw [← hW10] at Tx
        replace Ty := Lib.hid (Ty.out.setTagT (a := ⟨bq, 0, none⟩) Gq.out tabT_ne (.slice g5 ys.length k5))
        rw [← hW10] at Ty
        replace fq : W10.frozen? ⟨bq, 0, none⟩ = false := by rw [hW10, World.frozen?_setCell]; exact fq
        replace Gq := Lib.hid (Gq.out.setCell ⟨bq, 0, none⟩ (.slice g5 ys.length k5))
        rw [← hW10] at Gq
        replace BW := Lib.hid (BW.out.setCell (p := ⟨bq, 0, none⟩) mq (.slice g5 ys.length k5))
        rw [← hW10] at BW
        clear hW10 zW10
        (go_at_call 10; refine (HZY.out _ _ Ty.out.tab (HV.out _ BW.out)).mono ?_; rintro e w11x ⟨g7, k7, rfl, f7, qb⟩)
        have zb := qb.size
        replace fq := boxF cq0 fq qb
        replace Gq := Lib.hid (Gq.out.later qb)
        replace ct0 := boxD ct0 qb
        replace lt : bt < w11x.heap.size := by omega
        replace cx0 := boxD cx0 qb
        replace lx : bx < w11x.heap.size := by omega
        replace cc0 := boxD cc0 qb
        replace lc : bc < w11x.heap.size := by omega
        replace cq0 := boxD cq0 qb
        replace lq : bq < w11x.heap.size := by omega
        replace Tt := Lib.hid (Tt.out.below qb)
        replace Tx := Lib.hid (Tx.out.below qb)
        replace Ty := Lib.hid (Ty.out.below qb)
        replace BW := Lib.hid (BW.out.trans (qb.mono BW.out.size))
        clear qb zb
        have Tz := Lib.hid f7
        clear f7
        have at0 : ∀ o, (w11x.alloc o).cell? ⟨bt, 0, none⟩ = some (.slice g1 us.length k1) := fun o => by rw [cell_alloc_lt lt]; exact ct0
        have ax0 : ∀ o, (w11x.alloc o).cell? ⟨bx, 0, none⟩ = some (.slice g3 xs.length k3) := fun o => by rw [cell_alloc_lt lx]; exact cx0
        have ac0 : ∀ o, (w11x.alloc o).cell? ⟨bc, 0, none⟩ = some (.slice g2 vs.length k2) := fun o => by rw [cell_alloc_lt lc]; exact cc0
        have aq0 : ∀ o, (w11x.alloc o).cell? ⟨bq, 0, none⟩ = some (.slice g5 ys.length k5) := fun o => by rw [cell_alloc_lt lq]; exact cq0
        go_wp2_with fail
        obtain ⟨W12, hW12⟩ : ∃ W, W = (w11x.alloc (.cells #[.slice g7 ys.length k7] 25)) := ⟨_, rfl⟩
        have qW12 : Below w11x.heap.size w11x W12 := by rw [hW12]; exact (Below.refl _ _).alloc (Nat.le_refl _) _
        have zW12 : w11x.heap.size + 1 ≤ W12.heap.size := by rw [hW12]; simp
        have ntz : bt < w11x.heap.size := lt
        have nxz : bx < w11x.heap.size := lx
        have ncz : bc < w11x.heap.size := lc
        have nqz : bq < w11x.heap.size := lq
        replace fq := boxF cq0 fq qW12
        replace Gq := Lib.hid (Gq.out.later qW12)
        replace ct0 := boxD ct0 qW12
        replace lt : bt < W12.heap.size := by omega
        replace cx0 := boxD cx0 qW12
        replace lx : bx < W12.heap.size := by omega
        replace cc0 := boxD cc0 qW12
        replace lc : bc < W12.heap.size := by omega
        replace cq0 := boxD cq0 qW12
        replace lq : bq < W12.heap.size := by omega
        have cz0 : W12.cell? ⟨w11x.heap.size, 0, none⟩ = some (.slice g7 ys.length k7) := by rw [hW12]; simp
        replace Tt := Lib.hid (Tt.out.below qW12)
        replace Tx := Lib.hid (Tx.out.below qW12)
        replace Ty := Lib.hid (Ty.out.below qW12)
        replace Tz := Lib.hid (Tz.out.below qW12)
        have BWz := BW.out.size
        replace BW := Lib.hid (BW.out.trans (qW12.mono BW.out.size))
        rw [← hW12]
        obtain ⟨bz, hbz⟩ : ∃ b, b = w11x.heap.size := ⟨_, rfl⟩
        have lz : bz < W12.heap.size := by omega
        rw [← hbz] at cz0 ⊢
        replace ntz : bt < bz := by omega
        replace nxz : bx < bz := by omega
        replace ncz : bc < bz := by omega
        replace nqz : bq < bz := by omega
        have mz : w.heap.size ≤ bz := by have := BWz; omega
        clear hbz hW12
        clear at0 ax0 ac0 aq0
        clear qW12 zW12 BWz
        (go_at_call 11; refine (HHE.out _ _ _ Tz.out.tab Ty.out.tab).mono ?_; rintro e w13x ⟨rfl, qb⟩)
        have zb := qb.size
        replace fq := boxF cq0 fq qb
        replace Gq := Lib.hid (Gq.out.later qb)
        replace ct0 := boxD ct0 qb
        replace lt : bt < w13x.heap.size := by omega
        replace cx0 := boxD cx0 qb
        replace lx : bx < w13x.heap.size := by omega
        replace cc0 := boxD cc0 qb
        replace lc : bc < w13x.heap.size := by omega
        replace cq0 := boxD cq0 qb
        replace lq : bq < w13x.heap.size := by omega
        replace cz0 := boxD cz0 qb
        replace lz : bz < w13x.heap.size := by omega
        replace Tt := Lib.hid (Tt.out.below qb)
        replace Tx := Lib.hid (Tx.out.below qb)
        replace Ty := Lib.hid (Ty.out.below qb)
        replace Tz := Lib.hid (Tz.out.below qb)
        replace BW := Lib.hid (BW.out.trans (qb.mono BW.out.size))
        clear qb zb
        go_wp2_with fail
        go_loopw [14] (fun i wr => ∃ j : Nat, j ≤ s.size ∧ i = .int .i64 j ∧ Below w13x.heap.size w13x wr) (fun i _ => s.size - (intOf i).toNat)
        case atStart => exact ⟨0, Nat.zero_le _, rfl, Below.refl _ _⟩
        case round =>
          obtain ⟨j, hj, rfl, hb⟩ := hrel
          have ry := boxD cq0 hb
          have RY := Lib.hid (Ty.out.below hb)
          have HB := Lib.hid hb
          have hbz := hb.size
          have hWz := BW.out.size
          have VR : Hid (∀ w', Below wr.heap.size wr w' → VarsOk w') := fun w' h => HV.out _ (BW.out.trans ((HB.out.trans (h.mono hbz)).mono hWz))
          clear hb
          by_cases hlt : j < s.size
          · obtain ⟨P, ⟨q, hPq⟩, HPc⟩ := HKY.out j
            have HPC := Lib.hid HPc
            have HPQ := Lib.hid hPq
            clear HPc hPq
            have hjs : (j : Int) ≤ (s.size : Int) := by omega
            have mk9 : Hid (∀ w', Below wr.heap.size wr w' → w'.cell? ⟨bq, 0, none⟩ = some (.slice g5 ys.length k5) ∧ Below wr.heap.size wr w') := fun w' hb => ⟨boxD ry hb, hb⟩
            go_upto_region 17 with fail
            go_cut [16] (fun t wx => t = .string P ∧ Below wr.heap.size wr wx)
            case first =>
              go_region_held3 (fun w' => w'.cell? ⟨bq, 0, none⟩ = some (.slice g5 ys.length k5) ∧ Below wr.heap.size wr w')
                (first
                  | exact mk9.out _ (Below.refl _ _).drew
                  | exact mk9.out _ cc
                  | exact mk9.out _ (cc.alloc cc.size _)
                  | exact mk9.out _ (cc.setCell (by first | (simp; done) | (simp; omega)) _)
                  | exact mk9.out _ (((Below.refl _ _).drew).alloc (Nat.le_refl _) _)
                  | (trace_state; fail))
                (first
                  | (go_at_call 10; have hS := (by assumption : _ ∧ Below wr.heap.size wr _); refine (HPC.out _ _ (RY.out.below hS.2).tab (VR.out _ hS.2)).mono ?_; rintro e wN ⟨gN, cN, rfl, oN, bN⟩; have cc : Below wr.heap.size wr wN := hS.2.trans (bN.mono hS.2.size); (first | (have hk := fresh1 bN; obtain ⟨k0, kf⟩ := hk) | (have hk := fresh1d bN; obtain ⟨k0, kf⟩ := hk) | skip)))
              all_goals (go_wp2_with fail; go_meet)
              all_goals (first | exact ⟨rfl, cc.alloc cc.size _⟩ | exact ⟨rfl, cc.setCell (by first | (simp; done) | (simp; omega)) _⟩ | exact ⟨rfl, cc⟩ | (trace_state; fail))
            case rest =>
              obtain ⟨rfl, c11⟩ := hcut
              go_wp2_with fail
              (go_at_call 12; refine (haStarts_pre Q1 P q _ HPQ.out).mono ?_; rintro e wl ⟨rfl, rfl⟩)
              go_wp2_with fail
              go_roundw
              case rel => exact ⟨j + 1, by omega, by go_num, HB.out.trans (c11.mono hbz)⟩
              case measure => simp [intOf]; omega
          · have BR : Hid (Below w.heap.size w wr) := BW.out.trans (HB.out.mono hWz)
            go_wp2_with fail
            ((first | go_at_call 13 | skip); refine (HLF.out _).mono ?_; rintro e w20 ⟨vl, rfl, ol, bl⟩; obtain ⟨al, cl, rfl⟩ := own_form ol; have RL := Lib.hid (RdV.of_own ol).1; have B20 : Hid (Below w.heap.size w w20) := BR.out.trans (bl.mono BR.out.size); clear ol bl)
            go_wp2_with fail
            go_loopw [19] (fun i wr => ∃ j : Nat, j ≤ outs.length ∧ i = .int .i64 j ∧ Below w20.heap.size w20 wr) (fun i _ => outs.length - (intOf i).toNat)
            case atStart => exact ⟨0, Nat.zero_le _, rfl, Below.refl _ _⟩
            case round =>
              obtain ⟨i, hi, rfl, hb2⟩ := hrel
              have HB20 := Lib.hid hb2
              have hz20 := hb2.size
              have hW20 := B20.out.size
              by_cases hli : i < outs.length
              · obtain ⟨ax, cx', ex, hrx⟩ := RL.out.below hb2
                rw [List.length_map] at hrx
                simp at ex
                obtain ⟨ex1, ex2⟩ := ex
                subst ex1
                subst ex2
                obtain ⟨gx, hgx, rowx⟩ := hrx (by omega)
                subst hgx
                obtain ⟨x, hx⟩ : ∃ x, x = outs[i] := ⟨_, rfl⟩
                have cX := (rowx i (by simpa using hli)).1
                simp only [List.getElem_map, ← hx, strV] at cX
                have hxs := HSAY.out x (by rw [hx]; exact List.getElem_mem _)
                have hxl := HOL.out x (by rw [hx]; exact List.getElem_mem _)
                have HSX : Hid (∀ w, VarsOk w → Calls Tryz.prog 14 #[.string ⟨x.toArray⟩] w fun e w' => e = .returned (.tuple #[.agg #[.int .i64 0, .int .i64 0], .bool false]) ∧ Below w.heap.size w w') := fun w hv => by
                  have := implSays_any ⟨x.toArray⟩ w (by simpa [ByteArray.size] using hxl) hv
                  rw [show saysE (⟨x.toArray⟩ : ByteArray).data.toList = none from hxs.2] at this
                  exact this
                have VX := Lib.hid (HV.out _ (B20.out.trans (hb2.mono hW20)))
                clear rowx hrx hx hxs hxl hb2
                go_wp2_with fail
                (go_at_call 14; refine (HSX.out _ VX.out).mono ?_; rintro e w21 ⟨rfl, b21⟩; have B21 : Hid (∀ o, Below w20.heap.size w20 (w21.alloc o)) := (fun o => (HB20.out.trans (b21.mono hz20)).alloc (Nat.le_trans hz20 b21.size) o); clear b21)
                go_wp2_with fail
                go_roundw
                case rel => exact ⟨i + 1, by omega, by go_num, B21.out _⟩
                case measure => simp [intOf]; omega
              · have BF : Hid (Below w.heap.size w wr) := B20.out.trans (HB20.out.mono hW20)
                go_wp2_with fail
                go_ret
                exact ⟨by simp, BF.out⟩

set_option maxRecDepth 100000 in
set_option maxHeartbeats 800000 in
theorem lwRwrStays_any (ao : Option Addr) (n cap : Nat) (ao2 : Option Addr) (n2 cap2 : Nat) (w : World) (h : BytesIn w ao n) (hn : n ≤ cap) (h2 : BytesIn w ao2 n2) (hn2 : n2 ≤ cap2) (hv : VarsOk w) :
    Calls Tryz.prog 3 #[.slice ao n cap, .slice ao2 n2 cap2] w fun e w' => e = .returned (.bool true) ∧ Below w.heap.size w w' := by
  by_cases hb1 : 1048576 < n
  · clear h h2 hv
    go_enter Tryz.func3, Tryz.ntmps3
    go_wp2_with fail
    go_ret
    exact ⟨rfl, Below.refl _ _⟩
  · by_cases hb2 : 1048576 < n2
    · clear h h2 hv
      go_enter Tryz.func3, Tryz.ntmps3
      go_wp2_with fail
      go_ret
      exact ⟨rfl, Below.refl _ _⟩
    · exact lwRwrStays_of ao n cap ao2 n2 cap2 w h hn h2 hn2 hv hb1 hb2

end Go.Proofs.YtbmdlmckdekibaaGreatDoor
