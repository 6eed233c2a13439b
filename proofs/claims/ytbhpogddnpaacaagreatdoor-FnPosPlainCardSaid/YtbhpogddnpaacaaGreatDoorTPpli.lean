/- The law that where all is the same places are the same: at every code. Conditions: the code lies in memory; the variables that are read hold what they are laid with. (Several texts, joined: PutP, Stays, RwrP, RoomP, PosQ, LwPosPlain.) -/
import Derived.Test.YtbhpogddnpaacaaGreatDoorTPplh
import Derived.Test.YtbhpogddnpaacaaGreatDoorTPpla
import Derived.Test.YtbhpogddnpaacaaGreatDoorTPple
import Derived.Test.YtbhpogddnpaacaaGreatDoorTPplf
import Derived.Test.YtbhpogddnpaacaaGreatDoorDrawPosBack
import Derived.Test.YtbhpogddnpaacaaGreatDoorHaOk
import Derived.Test.YtbhpogddnpaacaaGreatDoorTPplg
import Derived.Test.YtbhpogddnpaacaaGreatDoorTPplc
import Derived.Deep.RegionHeld3
import Derived.Deep.DeepCutAuto

/- An end more in a table, as data: who has which port then. No condition. -/
namespace Go.Proofs.YtbhpogddnpaacaaGreatDoor
open Go.RowKit

theorem findI_app {us vs : List (Int × Int)} {x : Int × Int} (h : x ∈ us) : findI (us ++ vs) x = findI us x := by
  obtain ⟨k, hk, he, hn, hf⟩ := findI_mem h
  rw [hf]
  refine findI_hit (by rw [List.length_append]; omega) (by rw [List.getElem_append_left hk]; exact he) (fun j hj hje => hn ?_)
  rw [List.getElem_append_left (by omega)] at hje
  exact List.mem_take_iff_getElem.2 ⟨j, by omega, hje⟩
theorem portI_app {us vs : List (Int × Int)} {x : Int × Int} (h : x ∈ us) : portI (us ++ vs) x = portI us x := by
  unfold portI; rw [findI_app h]
theorem portI_pos' {es : List (Int × Int)} {e : Int × Int} : 0 < portI es e ↔ e ∈ es := by
  constructor
  · intro h
    refine Classical.byContradiction fun hn => ?_
    unfold portI at h
    rw [if_pos (findI_neg.2 hn)] at h
    omega
  · intro h
    unfold portI
    rw [if_neg (fun h2 => findI_neg.1 h2 h)]
    have := findI_bounds es e
    have h3 : ¬ findI es e < 0 := fun h2 => findI_neg.1 h2 h
    omega
theorem putE_fst (us : List (Int × Int)) (e : Int × Int) : (putE us e).1 = if e ∈ us ∨ us.length = 6 then us else us ++ [e] := by
  by_cases h : e ∈ us
  · rw [putE_has h, if_pos (.inl h)]
  · by_cases h6 : us.length = 6
    · rw [putE_full h h6, if_pos (.inr h6)]
    · rw [putE_new h h6, if_neg (by rintro (h1 | h1); exact h h1; exact h6 h1)]
theorem putE_pre (us : List (Int × Int)) (e : Int × Int) : ∃ t, (putE us e).1 = us ++ t ∧ t.length ≤ 1 := by
  rw [putE_fst]
  split
  · exact ⟨[], by simp, by simp⟩
  · exact ⟨[e], rfl, by simp⟩
theorem putE_port {us : List (Int × Int)} {e : Int × Int} (h : (putE us e).2 ≠ 0) : portI (putE us e).1 e = (putE us e).2 := by
  by_cases hm : e ∈ us
  · rw [putE_has hm]
  · by_cases h6 : us.length = 6
    · rw [putE_full hm h6] at h; exact absurd rfl h
    · rw [putE_new hm h6]
      show portI (us ++ [e]) e = _
      unfold portI
      have : findI (us ++ [e]) e = (us.length : Int) := by
        refine findI_hit (k := us.length) (by simp) (by simp) (fun j hj hje => hm ?_)
        rw [List.getElem_append_left hj] at hje
        rw [← hje]; exact List.getElem_mem _
      rw [this, if_neg (by omega)]
theorem putE_zero {us : List (Int × Int)} {e : Int × Int} (h : (putE us e).2 = 0) : portI us e = 0 ∧ us.length = 6 ∧ (putE us e).1 = us := by
  by_cases hm : e ∈ us
  · have := portI_pos'.2 hm
    rw [putE_has hm] at h
    simp only at h
    omega
  · by_cases h6 : us.length = 6
    · refine ⟨?_, h6, by rw [putE_full hm h6]⟩
      have : ¬ 0 < portI us e := fun h2 => hm (portI_pos'.1 h2)
      unfold portI at this ⊢
      rw [if_pos (findI_neg.2 hm)]
    · rw [putE_new hm h6] at h
      simp only at h
      omega
theorem putE_had {us : List (Int × Int)} {e : Int × Int} (h : portI us e ≠ 0) : portI us e = (putE us e).2 := by
  have hm : e ∈ us := by
    refine Classical.byContradiction fun hn => ?_
    unfold portI at h
    rw [if_pos (findI_neg.2 hn)] at h
    exact h rfl
  rw [putE_has hm]
theorem putE_snd_bound (us : List (Int × Int)) (e : Int × Int) (h6 : us.length ≤ 6) : 0 ≤ (putE us e).2 ∧ (putE us e).2 ≤ 506 := by
  have hb := findI_bounds us e
  unfold putE
  split
  · unfold portI; simp only; split <;> omega
  · split
    · simp
    · simp only; omega
theorem put_two_len (us : List (Int × Int)) (a b : Int × Int) : (putE (putE us a).1 b).1.length = (putE (putE us b).1 a).1.length := by
  simp only [putE_fst]
  by_cases ha : a ∈ us <;> by_cases hb : b ∈ us <;> by_cases h6 : us.length = 6 <;> by_cases h5 : us.length = 5 <;> by_cases hab : a = b <;> first
    | (subst hab; rfl)
    | (have hba : ¬ b = a := fun h => hab h.symm
       simp [ha, hb, h6, h5, hab, hba])
theorem put_two_has {us : List (Int × Int)} {a b : Int × Int} (hno : ¬ (a ∈ (putE (putE us a).1 b).1 ∧ b ∈ (putE (putE us a).1 b).1)) : 5 ≤ us.length ∧ (us.length = 6 ∨ a ∈ (putE (putE us a).1 b).1) := by
  simp only [putE_fst] at hno ⊢
  by_cases ha : a ∈ us <;> by_cases hb : b ∈ us <;> by_cases h6 : us.length = 6 <;> by_cases h5 : us.length = 5 <;> by_cases hab : a = b <;> first
    | (subst hab; simp [ha, h6, h5] at hno ⊢ <;> omega)
    | (have hba : ¬ b = a := fun h => hab h.symm
       simp [ha, hb, h6, h5, hab, hba] at hno ⊢ <;> omega)

end Go.Proofs.YtbhpogddnpaacaaGreatDoor

/- What goes outside once goes so again: with the table behind it, and with any that has more ends behind these; and so does each beginning. No condition. -/
namespace Go.Proofs.YtbhpogddnpaacaaGreatDoor
open Go.RowKit

theorem putE_six' {T : List (Int × Int)} {e : Int × Int} (h : T.length ≤ 6) : (putE T e).1.length ≤ 6 := by
  rw [putE_fst]
  split
  · exact h
  · rename_i hn
    have : T.length ≠ 6 := fun h6 => hn (.inr h6)
    simp; omega
theorem putE_again {T t : List (Int × Int)} {e : Int × Int} (h : T.length ≤ 6) (h2 : ((putE T e).1 ++ t).length ≤ 6) : putE ((putE T e).1 ++ t) e = ((putE T e).1 ++ t, (putE T e).2) := by
  by_cases hm : e ∈ T
  · rw [putE_has hm]
    rw [putE_has (List.mem_append_left _ hm)]
    rw [portI_app hm]
  · by_cases h6 : T.length = 6
    · rw [putE_full hm h6] at h2 ⊢
      have ht : t = [] := by
        rcases t with _ | ⟨x, r⟩
        · rfl
        · simp at h2; omega
      subst ht
      simp only [List.append_nil]
      rw [putE_full hm h6]
    · have hp : (putE T e).2 ≠ 0 := by rw [putE_new hm h6]; simp only; omega
      have hq := putE_port hp
      rw [putE_new hm h6] at hq ⊢
      have hm2 : e ∈ T ++ [e] := by simp
      rw [putE_has (List.mem_append_left _ hm2), portI_app hm2]
      simp only at hq ⊢
      rw [hq]
theorem lineE_pre (T : List (Int × Int)) (l : List UInt8) : ∃ t, (lineE T l).1 = T ++ t := by
  rcases h : saysE l with _ | e
  · exact ⟨[], by rw [lineE_none h]; simp⟩
  · obtain ⟨t, ht, _⟩ := putE_pre T e
    exact ⟨t, by rw [lineE_some h]; exact ht⟩
theorem lineE_six {T : List (Int × Int)} {l : List UInt8} (h : T.length ≤ 6) : (lineE T l).1.length ≤ 6 := by
  rcases hs : saysE l with _ | e
  · rw [lineE_none hs]; exact h
  · rw [lineE_some hs]; exact putE_six' h
theorem lineE_again {T t : List (Int × Int)} {l : List UInt8} (h : T.length ≤ 6) (h2 : ((lineE T l).1 ++ t).length ≤ 6) : lineE ((lineE T l).1 ++ t) l = ((lineE T l).1 ++ t, (lineE T l).2) := by
  rcases hs : saysE l with _ | e
  · rw [lineE_none hs, lineE_none hs]
  · rw [lineE_some hs] at h2 ⊢
    simp only at h2 ⊢
    rw [lineE_some hs, putE_again h h2]
theorem fold_pre (ls : List (List UInt8)) (T : List (Int × Int)) (p : List UInt8) : ∃ t, (ls.foldl strF (T, p)).1 = T ++ t := by
  induction ls generalizing T p with
  | nil => exact ⟨[], by simp⟩
  | cons l r ih =>
    obtain ⟨t1, h1⟩ := lineE_pre T l
    obtain ⟨t2, h2⟩ := ih (lineE T l).1 (p ++ (lineE T l).2 ++ [59])
    refine ⟨t1 ++ t2, ?_⟩
    rw [List.foldl_cons, show strF (T, p) l = ((lineE T l).1, p ++ (lineE T l).2 ++ [59]) from rfl, h2, h1, List.append_assoc]
theorem fold_again (ls : List (List UInt8)) (T t : List (Int × Int)) (p : List UInt8) (h : T.length ≤ 6) (h2 : ((ls.foldl strF (T, p)).1 ++ t).length ≤ 6) :
    ls.foldl strF ((ls.foldl strF (T, p)).1 ++ t, p) = ((ls.foldl strF (T, p)).1 ++ t, (ls.foldl strF (T, p)).2) := by
  induction ls generalizing T p with
  | nil => rfl
  | cons l r ih =>
    have e1 : strF (T, p) l = ((lineE T l).1, p ++ (lineE T l).2 ++ [59]) := rfl
    simp only [List.foldl_cons, e1] at h2 ⊢
    obtain ⟨t1, ht1⟩ := fold_pre r (lineE T l).1 (p ++ (lineE T l).2 ++ [59])
    have hE : (r.foldl strF ((lineE T l).1, p ++ (lineE T l).2 ++ [59])).1 ++ t = (lineE T l).1 ++ (t1 ++ t) := by rw [ht1, List.append_assoc]
    have hl := lineE_again (t := t1 ++ t) h (by rw [← hE]; exact h2)
    have e2 : strF ((r.foldl strF ((lineE T l).1, p ++ (lineE T l).2 ++ [59])).1 ++ t, p) l = ((r.foldl strF ((lineE T l).1, p ++ (lineE T l).2 ++ [59])).1 ++ t, p ++ (lineE T l).2 ++ [59]) := by
      rw [hE]
      show ((lineE ((lineE T l).1 ++ (t1 ++ t)) l).1, p ++ (lineE ((lineE T l).1 ++ (t1 ++ t)) l).2 ++ [59]) = _
      rw [hl]
    rw [e2]
    exact ih (lineE T l).1 (p ++ (lineE T l).2 ++ [59]) (lineE_six h) h2
theorem shift_two (ls : List (List UInt8)) (es : List (Int × Int)) (p : List UInt8) : ∃ q, (ls.foldl strF (es, p)).2 = p ++ q := by
  induction ls generalizing es p with
  | nil => exact ⟨[], by simp⟩
  | cons l r ih =>
    obtain ⟨q, hq⟩ := ih (lineE es l).1 (p ++ (lineE es l).2 ++ [59])
    refine ⟨(lineE es l).2 ++ [59] ++ q, ?_⟩
    rw [List.foldl_cons, show strF (es, p) l = ((lineE es l).1, p ++ (lineE es l).2 ++ [59]) from rfl, hq]
    simp
/-- The promise, as data. -/
theorem stream_stays {us t : List (Int × Int)} {s : List UInt8} (h : us.length ≤ 6) (h2 : ((streamE us (linesL s)).1 ++ t).length ≤ 6) (k : Nat) :
    ∃ q, streamE ((streamE us (linesL s)).1 ++ t) (linesL (s.take k)) = ((streamE us (linesL s)).1 ++ t, (streamE us (linesL (s.take k))).2) ∧ (streamE us (linesL s)).2 = (streamE us (linesL (s.take k))).2 ++ q := by
  obtain ⟨r, hr⟩ := lines_take s k
  have e : streamE us (linesL s) = r.foldl strF (streamE us (linesL (s.take k))) := by
    unfold streamE
    rw [← hr, List.foldl_append]
  obtain ⟨⟨T1, T2⟩, hT⟩ : ∃ T, T = streamE us (linesL (s.take k)) := ⟨_, rfl⟩
  rw [← hT] at e ⊢
  obtain ⟨t1, ht1⟩ := fold_pre r T1 T2
  obtain ⟨q, hq⟩ := shift_two r T1 T2
  refine ⟨q, ?_, by rw [e]; exact hq⟩
  have hs : (streamE us (linesL s)).1 ++ t = T1 ++ (t1 ++ t) := by rw [e, ht1, List.append_assoc]
  have hT1 : T1 = ((linesL (s.take k)).foldl strF (us, [])).1 := by
    have := congrArg (·.1) hT
    exact this
  have hT2 : T2 = ((linesL (s.take k)).foldl strF (us, [])).2 := by
    have := congrArg (·.2) hT
    exact this
  rw [hs] at h2 ⊢
  rw [hT1] at h2 ⊢
  rw [hT2]
  exact fold_again (linesL (s.take k)) us (t1 ++ t) [] h h2

end Go.Proofs.YtbhpogddnpaacaaGreatDoor

/- What a line is as it goes outside, as data: its port, its length, and that it is a line. No condition. -/
namespace Go.Proofs.YtbhpogddnpaacaaGreatDoor
open Go.RowKit

theorem data_inj {a b : ByteArray} (h : a.data.toList = b.data.toList) : a = b := by
  rw [← Lib.mk_data a, ← Lib.mk_data b, h]
theorem putE_low {us : List (Int × Int)} {e : Int × Int} (h : (putE us e).2 ≠ 0) : 500 ≤ (putE us e).2 := by
  have hb := findI_bounds us e
  unfold putE at h ⊢
  split at h
  · rename_i h1
    rw [if_pos h1]
    unfold portI at h1 ⊢
    split at h1
    · omega
    · rename_i h2
      simp only
      rw [if_neg h2]; omega
  · rename_i h1
    rw [if_neg h1]
    split at h
    · exact absurd rfl h
    · rename_i h2
      rw [if_neg h2]
      simp only; omega
theorem box_end {q : Int} (h0 : 500 ≤ q) (h1 : q ≤ 506) : endB 50 q = true := by
  unfold endB boxB inB
  simp
  right; omega
theorem lin_line {es : List (Int × Int)} {l : List UInt8} (hm : mapB es = true) (hl : linB l = true) : linB (lineE es l).2 = true := by
  rcases h : saysE l with _ | e
  · rw [lineE_none h]; exact hl
  · rw [lineE_some h]
    simp only
    have hb := putE_snd_bound es e (mapB_le hm)
    by_cases h0 : (putE es e).2 = 0
    · rw [if_pos h0]; decide
    · rw [if_neg h0]
      exact lpL_lin (box_end (putE_low h0) hb.2)
theorem rwrA_len (es : List (Int × Int)) (l : List UInt8) : (rwrA es l).2.length ≤ l.length + 20 := by
  unfold rwrA
  split
  · exact lineE_len es l
  · simp
theorem findI_snoc {us : List (Int × Int)} {e : Int × Int} (h : e ∉ us) : findI (us ++ [e]) e = us.length := by
  refine findI_hit (k := us.length) (by simp) (by simp) ?_
  intro j hj he
  rw [List.getElem_append_left hj] at he
  exact h (he ▸ List.getElem_mem _)
/-- The port that an end has behind it is the one that is told. -/
theorem rwr_port (us : List (Int × Int)) (e : Int × Int) (_ : us.length ≤ 6) : portI (putE us e).1 e = (putE us e).2 := by
  by_cases h0 : (putE us e).2 = 0
  · obtain ⟨h1, _, h3⟩ := putE_zero h0
    rw [h3, h1, h0]
  · exact putE_port h0

end Go.Proofs.YtbhpogddnpaacaaGreatDoor

/- Whose port a line outside names, as data: that of the end that was named, or there is no room. No condition. -/
namespace Go.Proofs.YtbhpogddnpaacaaGreatDoor
open Go.RowKit

/-- The lines as they go outside. -/
def outsE (T : List (Int × Int)) : List (List UInt8) → List (List UInt8)
  | [] => []
  | l :: r => (lineE T l).2 :: outsE (lineE T l).1 r
theorem outsE_len (T : List (Int × Int)) (ls : List (List UInt8)) : (outsE T ls).length = ls.length := by
  induction ls generalizing T with
  | nil => rfl
  | cons l r ih => simp [outsE, ih]
theorem outsE_flat (T : List (Int × Int)) (ls : List (List UInt8)) (p : List UInt8) : (ls.foldl strF (T, p)).2 = p ++ ((outsE T ls).map (· ++ [59])).flatten := by
  induction ls generalizing T p with
  | nil => simp [outsE]
  | cons l r ih =>
    show (r.foldl strF ((lineE T l).1, p ++ (lineE T l).2 ++ [59])).2 = _
    rw [ih]
    simp [outsE]
theorem outsE_semi (T : List (Int × Int)) (ls : List (List UInt8)) (h : ∀ l ∈ ls, ∀ c ∈ l, c ≠ 59) : ∀ o ∈ outsE T ls, ∀ c ∈ o, c ≠ 59 := by
  induction ls generalizing T with
  | nil => intro o ho; simp [outsE] at ho
  | cons l r ih =>
    intro o ho
    simp only [outsE, List.mem_cons] at ho
    rcases ho with rfl | ho
    · exact lineE_semi (h l (by simp))
    · exact ih _ (fun x hx => h x (by simp [hx])) o ho
/-- The lines outside of what goes there. -/
theorem outsE_lines (T : List (Int × Int)) (s : List UInt8) : linesL (streamE T (linesL s)).2 = outsE T (linesL s) := by
  unfold streamE
  rw [outsE_flat, List.nil_append]
  exact (lines_flat _ (outsE_semi T _ (fun l hl => line_noSemi hl))).1
theorem room_at (ls : List (List UInt8)) (T : List (Int × Int)) (p : List UInt8) (h6 : T.length ≤ 6) (hf : (ls.foldl strF (T, p)).1.length ≤ 6) (j : Nat) (hj : j < ls.length) (hj2 : j < (outsE T ls).length) {e : Int × Int} (hs : saysE ls[j] = some e) :
    (∃ q : Int, 500 ≤ q ∧ q ≤ 506 ∧ (outsE T ls)[j] = lpL 50 q ∧ portI (ls.foldl strF (T, p)).1 e = q) ∨ ((outsE T ls)[j] = noneL ∧ (ls.foldl strF (T, p)).1.length = 6 ∧ portI (ls.foldl strF (T, p)).1 e = 0) := by
  induction ls generalizing T p j with
  | nil => simp at hj
  | cons l r ih =>
    have hst : (l :: r).foldl strF (T, p) = r.foldl strF ((lineE T l).1, p ++ (lineE T l).2 ++ [59]) := rfl
    rw [hst] at hf ⊢
    rcases j with _ | j
    · simp only [List.getElem_cons_zero] at hs
      have hl := lineE_some (es := T) hs
      obtain ⟨t, ht⟩ := fold_pre r (lineE T l).1 (p ++ (lineE T l).2 ++ [59])
      simp only [outsE, List.getElem_cons_zero]
      rw [ht] at hf ⊢
      rw [hl] at hf ⊢
      simp only at hf ⊢
      have hb := putE_snd_bound T e h6
      by_cases h0 : (putE T e).2 = 0
      · right
        obtain ⟨h1, h2, h3⟩ := putE_zero h0
        rw [if_pos h0]
        rw [h3] at hf ⊢
        rw [List.length_append] at hf
        have ht0 : t = [] := List.eq_nil_of_length_eq_zero (by omega)
        rw [ht0, List.append_nil]
        exact ⟨rfl, h2, h1⟩
      · left
        rw [if_neg h0]
        have hp := putE_port h0
        have hmem : e ∈ (putE T e).1 := by
          have := putE_low h0
          exact portI_pos'.1 (by rw [hp]; omega)
        exact ⟨(putE T e).2, putE_low h0, hb.2, rfl, by rw [portI_app hmem, hp]⟩
    · simp only [List.length_cons] at hj
      simp only [List.getElem_cons_succ] at hs
      simp only [outsE, List.getElem_cons_succ]
      exact ih (lineE T l).1 _ (lineE_six h6) hf j (by omega) (by simp only [outsE, List.length_cons] at hj2; omega) hs

end Go.Proofs.YtbhpogddnpaacaaGreatDoor

/- The lines of a stream, and what they are outside, side by side: where they lie in both texts. No condition. -/
namespace Go.Proofs.YtbhpogddnpaacaaGreatDoor
open Go.RowKit

/-- Where the k-th line lies in lines that are ended by signs. -/
def atL (xs : List (List UInt8)) (k : Nat) : Nat := ((xs.take k).map fun x => x.length + 1).sum
theorem atL_zero (xs : List (List UInt8)) : atL xs 0 = 0 := by simp [atL]
theorem atL_cons (x : List UInt8) (t : List (List UInt8)) (k : Nat) : atL (x :: t) (k + 1) = (x ++ [59]).length + atL t k := by simp [atL]
theorem flat_at (xs : List (List UInt8)) (r : List UInt8) (k : Nat) (h : k < xs.length) : ((((xs.map (· ++ [59])).flatten ++ r).drop (atL xs k)).take (xs[k].length + 1)) = xs[k] ++ [59] := by
  induction xs generalizing k with
  | nil => simp at h
  | cons x t ih =>
    have hc : ((x :: t).map (· ++ [59])).flatten ++ r = (x ++ [59]) ++ ((t.map (· ++ [59])).flatten ++ r) := by simp
    rw [hc]
    cases k with
    | zero =>
      rw [atL_zero, List.drop_zero]
      exact List.take_left' (by simp)
    | succ k =>
      rw [atL_cons, List.drop_append, List.drop_eq_nil_of_le (by omega), List.nil_append, Nat.add_sub_cancel_left]
      exact ih k (by simpa using h)
theorem atL_succ {xs : List (List UInt8)} {k : Nat} (h : k < xs.length) : atL xs (k + 1) = atL xs k + (xs[k].length + 1) := by
  unfold atL
  rw [List.take_succ_eq_append_getElem h, List.map_append, List.sum_append]
  rfl
theorem atL_all (xs : List (List UInt8)) : atL xs xs.length = ((xs.map (· ++ [59])).flatten).length := by
  unfold atL
  rw [List.take_length, sum_flat]
theorem zip_insL (xs ys : List (List UInt8)) (h : xs.length = ys.length) (k : Nat) : insL ((xs.zip ys).take k) = atL xs k ∧ outsL ((xs.zip ys).take k) = atL ys k := by
  induction xs generalizing ys k with
  | nil =>
    cases ys with
    | nil => simp [insL, outsL, atL]
    | cons y t => simp at h
  | cons x r ih =>
    cases ys with
    | nil => simp at h
    | cons y t =>
      cases k with
      | zero => simp [insL, outsL, atL]
      | succ k =>
        have := ih t (by simpa using h) k
        rw [atL_cons, atL_cons, ← this.1, ← this.2]
        simp [insL, outsL]

end Go.Proofs.YtbhpogddnpaacaaGreatDoor

/- The law that where all is the same places are the same: at every code. Conditions: the code lies in memory; the variables that are read hold what they are laid with. -/
namespace Go.Proofs.YtbhpogddnpaacaaGreatDoor
open Go.RowKit Go.Sort

theorem boxD {w w' : World} {b i : Nat} {v : Value} (h : w.cell? ⟨b, i, none⟩ = some v) (hb : Below w.heap.size w w') : w'.cell? ⟨b, i, none⟩ = some v := by
  rw [hb.cell (p := ⟨b, i, none⟩) (World.block_lt_of_cell? w _ h)]; exact h
theorem SmE.wfE {us : List (Int × Int)} (h : SmE us) : wfE us := fun x hx => (h x hx).wf
/-- Of the first j lines none says an end. -/
def QuietL (ls : List (List UInt8)) (j : Nat) : Prop := ∀ x ∈ ls.take j, saysE x = none
theorem QuietL.zero (ls : List (List UInt8)) : QuietL ls 0 := fun x hx => by simp at hx
theorem QuietL.succ {ls : List (List UInt8)} {j : Nat} (h : QuietL ls j) (hj : j < ls.length) (hs : saysE ls[j] = none) : QuietL ls (j + 1) := fun x hx => by
  rw [List.take_succ_eq_append_getElem hj, List.mem_append, List.mem_singleton] at hx
  rcases hx with hx | rfl
  · exact h x hx
  · exact hs
theorem outsE_plain (T : List (Int × Int)) (ls : List (List UInt8)) (h : ∀ x ∈ ls, saysE x = none) : outsE T ls = ls := by
  induction ls with
  | nil => rfl
  | cons l r ih =>
    simp only [outsE]
    rw [lineE_none (h l (List.mem_cons_self ..))]
    simp only
    rw [ih (fun x hx => h x (List.mem_cons_of_mem _ hx))]
theorem backI_same {ls : List (List UInt8)} {a : Int} (h0 : 0 ≤ a) (h1 : a ≤ ((outsL (ls.zip ls) : Nat) : Int)) : backI (ls.zip ls) a = a := by
  obtain ⟨h2, h3⟩ := kOut_spec (ls.zip ls) h0
  have hle := kOut_le (ls.zip ls) a
  have hz := zip_insL ls ls rfl (kOut (ls.zip ls) a)
  unfold backI
  split
  · rw [hz.1, hz.2]; omega
  · rename_i hn
    by_cases hk : kOut (ls.zip ls) a < (ls.zip ls).length
    · have hs : (spAt (ls.zip ls) (kOut (ls.zip ls) a)).2.2.2.2 = true := by
        simp only [spAt, decide_eq_true_eq, List.getElem?_eq_getElem hk, Option.getD_some]
        rw [List.getElem_zip]
      have : ¬ ((outsL ((ls.zip ls).take (kOut (ls.zip ls) a)) : Nat) : Int) < a := fun h => hn ⟨hk, hs, h⟩
      rw [hz.1, ← hz.2]; omega
    · have hk2 : kOut (ls.zip ls) a = (ls.zip ls).length := by omega
      rw [hz.1, ← hz.2, hk2, List.take_length]
      rw [hk2, List.take_length] at h2
      omega
theorem plain_all {us : List (Int × Int)} {s : List UInt8} (hm : mapB us = true) (hs : strB s = true) (hq : ∀ x ∈ linesL s, saysE x = none) : (strA us s).2 ++ restL s = s ∧ ∀ a : Int, 0 ≤ a → a ≤ (((strA us s).2.length : Nat) : Int) → backI (posL us s) a = a := by
  have e1 : posL us s = (linesL s).zip (outsE us (linesL s)) := by
    rw [posL_ok hm hs]
    unfold pairsL
    rw [outsE_lines]
  have e2 : (strA us s).2 = ((outsE us (linesL s)).map (· ++ [59])).flatten := by
    rw [strA_yes (by rw [hm, hs]; rfl)]
    unfold streamE
    rw [outsE_flat, List.nil_append]
  rw [outsE_plain _ _ hq] at e1 e2
  refine ⟨by rw [e2]; exact flatL_lines s, fun a h0 h1 => ?_⟩
  rw [e1]
  refine backI_same h0 ?_
  have hz := (zip_insL (linesL s) (linesL s) rfl (linesL s).length).2
  rw [List.take_of_length_le (by simp), atL_all, ← e2] at hz
  rw [hz]
  exact h1

set_option maxRecDepth 100000 in
set_option maxHeartbeats 12800000 in
theorem lwPosPlain_of (ao : Option Addr) (n cap : Nat) (w : World) (h : BytesIn w ao n) (hn : n ≤ cap) (hv : VarsOk w) (hb1 : ¬ 1048576 < n) :
    Calls Tryz.prog 3 #[.slice ao n cap] w fun e w' => e = .returned (.bool true) ∧ Below w.heap.size w w' := by
  have H := Lib.hid h
  have HV : Hid (∀ w', Below w.heap.size w w' → VarsOk w') := fun w' h => hv.below h
  clear h hv
  go_enter Tryz.func3, Tryz.ntmps3
  go_wp2_with fail
  (go_at_call 4; refine (drawPosBack_any ao n cap _ H.out hn).mono ?_; rintro e w1 ⟨g1, k1, us, s, q, rfl, o1, ⟨u8, sm1⟩, hss, hqw, b1⟩)
  have BW := Lib.hid b1
  have Tt := Lib.hid (o1.mono (Nat.zero_le _))
  have WU := Lib.hid sm1.wfE
  have hq : -9223372036854775808 ≤ q ∧ q ≤ 9223372036854775807 := by
    simp [Lit.wf, IntKind.min, IntKind.max, IntKind.signed, IntKind.bits] at hqw
    omega
  clear b1 o1 H sm1 hqw
  have h4 := strA_len us s.data.toList
  obtain ⟨Q1, hQ1⟩ : ∃ Q1 : ByteArray, Q1 = ⟨(strA us s.data.toList).2.toArray⟩ := ⟨_, rfl⟩
  have hQ1s : Q1.size ≤ 2097152 := by rw [hQ1]; simpa [ByteArray.size] using h4
  have hQ1l : Q1.size = (strA us s.data.toList).2.length := by rw [hQ1]; simp [ByteArray.size]
  obtain ⟨BK, hBK⟩ : ∃ O : Int → Int, O = backI (posL us s.data.toList) := ⟨_, rfl⟩
  obtain ⟨mb, hmb⟩ : ∃ mb, mb = mapB us := ⟨_, rfl⟩
  obtain ⟨sb, hsb⟩ : ∃ sb, sb = strB s.data.toList := ⟨_, rfl⟩
  have HMO : Hid (∀ w, TabAt w (.slice g1 us.length k1) us → Calls Tryz.prog 7 #[.agg #[.slice g1 us.length k1]] w fun e w' => e = .returned (.bool mb) ∧ Below w.heap.size w w') := fun w ht => by rw [hmb]; exact specMapOk_any _ us w (by omega) ht
  have HSO : Hid (∀ w, Calls Tryz.prog 8 #[.string s] w fun e w' => e = .returned (.bool sb) ∧ Below w.heap.size w w') := fun w => by rw [hsb]; exact specStr_any s w (by omega)
  have HPK : Hid (∀ w, TabAt w (.slice g1 us.length k1) us → VarsOk w → Calls Tryz.prog 5 #[.agg #[.slice g1 us.length k1], .string s, .int .i64 q] w fun e w' => e = .returned (.int .i64 (BK q)) ∧ Below w.heap.size w w') := fun w ht hv => by rw [hBK]; exact implPosBack_any _ us s q w (by omega) (by omega) WU.out hq ht hv
  have HPS : Hid (∀ w, OwnTab w 0 (.slice g1 us.length k1) us → Calls Tryz.prog 6 #[.agg #[.slice g1 us.length k1], .string s, .int .i64 q] w fun e w' => e = .returned (.int .i64 (BK q)) ∧ Below w.heap.size w w') := fun w ht => by rw [hBK]; exact specPosBack_anyG 0 g1 k1 us s q w (by omega) (by omega) hq (Nat.zero_le _) ht
  have HIA : Hid (∀ w, TabAt w (.slice g1 us.length k1) us → VarsOk w → Calls Tryz.prog 12 #[.agg #[.slice g1 us.length k1], .string s] w fun e w' => ∃ (g : Option Addr) (n c : Nat), e = .returned (.tuple #[.agg #[.slice g n c], .string Q1]) ∧ Below w.heap.size w w') := fun w ht hv => by
    refine (implStrA _ us s w (by omega) (by omega) WU.out ht hv).mono ?_
    rintro e w' ⟨g, c, rfl, _, hb⟩
    rw [← hQ1]
    exact ⟨g, _, c, rfl, hb⟩
  obtain ⟨ls, hls⟩ : ∃ ls, ls = linesL s.data.toList := ⟨_, rfl⟩
  obtain ⟨RS, hRS⟩ : ∃ r : ByteArray, r = ⟨(restL s.data.toList).toArray⟩ := ⟨_, rfl⟩
  have HYES : Hid (mb = true → sb = true → QuietL ls ls.length → Q1.data.toList ++ RS.data.toList = s.data.toList ∧ (0 ≤ q → q ≤ (Q1.size : Int) → BK q = q)) := fun e1 e2 e3 => by
    rw [hmb] at e1
    rw [hsb] at e2
    unfold QuietL at e3
    rw [List.take_length, hls] at e3
    obtain ⟨p1, p2⟩ := plain_all e1 e2 e3
    refine ⟨by rw [hQ1, hRS]; simpa using p1, fun h0 h1 => ?_⟩
    rw [hBK]
    exact p2 q h0 (by rw [← hQ1l]; exact h1)
  have HL : Hid (∀ w, Calls Tryz.prog 10 #[.string s] w fun e w' => ∃ v, e = .returned (.tuple #[v, .string RS]) ∧ w'.ownsRow w.heap.size 9 1 v ls.length (ls.map strV) ∧ Below w.heap.size w w') := fun w => by rw [hls, hRS]; exact implLines_any s w (by omega)
  have hll := lines_len s.data.toList
  have hlz : ∀ x ∈ ls, x.length ≤ 200 := fun x hx => by rw [hls] at hx; have := line_len hx; rw [len_list] at this; omega
  have hRSs : RS.size ≤ 200 := by
    have h6 : s.data.toList = ((linesL s.data.toList).map (· ++ [59])).flatten ++ restL s.data.toList := (flatL_lines s.data.toList).symm
    have h5 := congrArg List.length h6
    rw [List.length_append, len_list] at h5
    rw [hRS]
    show (restL s.data.toList).toArray.size ≤ 200
    rw [List.size_toArray]
    omega
  rw [← hls, len_list] at hll
  have hln : ls.length ≤ 200 := by omega
  have HLZ := Lib.hid hlz
  clear hBK hRS hls h4 hQ1 hQ1l hmb hsb hlz hll
  go_wp2_with fail
  obtain ⟨W1, hW1⟩ : ∃ W, W = (w1.alloc (.cells #[.slice g1 us.length k1] 25)) := ⟨_, rfl⟩
  have qW1 : Below w1.heap.size w1 W1 := by rw [hW1]; exact (Below.refl _ _).alloc (Nat.le_refl _) _
  have zW1 : w1.heap.size + 1 ≤ W1.heap.size := by rw [hW1]; simp
  have ct0 : W1.cell? ⟨w1.heap.size, 0, none⟩ = some (.slice g1 us.length k1) := by rw [hW1]; simp
  replace Tt := Lib.hid (Tt.out.below qW1)
  replace BW := Lib.hid (BW.out.trans (qW1.mono BW.out.size))
  rw [← hW1]
  obtain ⟨bt, hbt⟩ : ∃ b, b = w1.heap.size := ⟨_, rfl⟩
  have lt : bt < W1.heap.size := by omega
  rw [← hbt] at ct0 ⊢
  clear hbt hW1
  clear qW1 zW1
  (go_at_call 5; refine (HPK.out _ Tt.out.tab (HV.out _ BW.out)).mono ?_; rintro e w2x ⟨rfl, qb⟩)
  have zb := qb.size
  replace ct0 := boxD ct0 qb
  replace lt : bt < w2x.heap.size := by omega
  replace Tt := Lib.hid (Tt.out.below qb)
  replace BW := Lib.hid (BW.out.trans (qb.mono BW.out.size))
  clear qb zb
  go_wp2_with fail
  (go_at_call 6; refine (HPS.out _ Tt.out).mono ?_; rintro e w3x ⟨rfl, qb⟩)
  have zb := qb.size
  replace ct0 := boxD ct0 qb
  replace lt : bt < w3x.heap.size := by omega
  replace Tt := Lib.hid (Tt.out.below qb)
  replace BW := Lib.hid (BW.out.trans (qb.mono BW.out.size))
  clear qb zb
  go_wp2_with fail
  (go_at_call 7; refine (HMO.out _ Tt.out.tab).mono ?_; rintro e w4x ⟨rfl, qb⟩)
  have zb := qb.size
  replace ct0 := boxD ct0 qb
  replace lt : bt < w4x.heap.size := by omega
  replace Tt := Lib.hid (Tt.out.below qb)
  replace BW := Lib.hid (BW.out.trans (qb.mono BW.out.size))
  clear qb zb
  cases mb
  · clear HYES
    go_wp2_with fail
    (go_at_call 9; refine (haOk_any _).mono ?_; rintro e wl ⟨rfl, rfl⟩)
    go_wp2_with fail
    go_ret
    exact ⟨by simp, BW.out⟩
  · go_wp2_with fail
    (go_at_call 8; refine (HSO.out _).mono ?_; rintro e w5x ⟨rfl, qb⟩)
    have zb := qb.size
    replace ct0 := boxD ct0 qb
    replace lt : bt < w5x.heap.size := by omega
    replace Tt := Lib.hid (Tt.out.below qb)
    replace BW := Lib.hid (BW.out.trans (qb.mono BW.out.size))
    clear qb zb
    cases sb
    · clear HYES
      go_wp2_with fail
      (go_at_call 9; refine (haOk_any _).mono ?_; rintro e wl ⟨rfl, rfl⟩)
      go_wp2_with fail
      go_ret
      exact ⟨by simp, BW.out⟩
    · have HYE := Lib.hid (HYES.out (by simp) (by simp))
      clear HYES HMO HSO HPK HPS
      go_wp2_with fail
      (go_at_call 10; refine (HL.out _).mono ?_; rintro e w6x ⟨vl, rfl, ol, qb⟩)
      have zb := qb.size
      replace ct0 := boxD ct0 qb
      replace lt : bt < w6x.heap.size := by omega
      replace Tt := Lib.hid (Tt.out.below qb)
      replace BW := Lib.hid (BW.out.trans (qb.mono BW.out.size))
      clear qb zb
      obtain ⟨al, cl, rfl⟩ := own_form ol
      have RL := Lib.hid (RdV.of_own ol).1
      clear ol HL
      go_wp2_with fail
      go_loopw [9] (fun i wr => ∃ j : Nat, j ≤ ls.length ∧ i = .int .i64 j ∧ QuietL ls j ∧ Below w6x.heap.size w6x wr) (fun i _ => ls.length - (intOf i).toNat)
      case atStart => exact ⟨0, Nat.zero_le _, rfl, QuietL.zero _, Below.refl _ _⟩
      case round =>
        obtain ⟨j, hj, rfl, hql, hb⟩ := hrel
        have HB := Lib.hid hb
        have HQL := Lib.hid hql
        have tt := boxD ct0 hb
        have lt' : bt < wr.heap.size := Nat.lt_of_lt_of_le lt hb.size
        have TX := Lib.hid (Tt.out.below hb)
        have hWz := BW.out.size
        have BX := Lib.hid (BW.out.trans (hb.mono hWz))
        have rl := RL.out.below hb
        clear hb hql
        by_cases hlt : j < ls.length
        · obtain ⟨ax, cx', ex, hrx⟩ := rl
          rw [List.length_map] at hrx
          simp at ex
          obtain ⟨ex1, ex2⟩ := ex
          subst ex1
          subst ex2
          obtain ⟨gx, hgx, rowx⟩ := hrx (by omega)
          subst hgx
          have cX := (rowx j (by simpa using hlt)).1
          simp only [List.getElem_map] at cX
          have hyl := HLZ.out ls[j] (List.getElem_mem hlt)
          have hqs : saysE ls[j] = none → QuietL ls (j + 1) := fun h => HQL.out.succ hlt h
          obtain ⟨y, hy⟩ : ∃ y, y = ls[j] := ⟨_, rfl⟩
          rw [← hy] at cX hyl hqs
          obtain ⟨ea, ep, eb, hsv, hsc⟩ : ∃ (ea ep : Int) (eb : Bool), saysV (saysE y) = .tuple #[.agg #[.int .i64 ea, .int .i64 ep], .bool eb] ∧ (eb = false → saysE y = none) := by
            rcases saysE y with _ | ⟨a, p⟩
            · exact ⟨0, 0, false, rfl, fun _ => rfl⟩
            · exact ⟨a, p, true, rfl, fun e => by cases e⟩
          have HQS : Hid (eb = false → QuietL ls (j + 1)) := fun h => hqs (hsc h)
          have HSY : Hid (∀ w, VarsOk w → Calls Tryz.prog 11 #[strV y] w fun e w' => e = .returned (.tuple #[.agg #[.int .i64 ea, .int .i64 ep], .bool eb]) ∧ Below w.heap.size w w') := fun w hv => by
            rw [← hsv]
            exact implSays_any ⟨y.toArray⟩ w (by show y.toArray.size ≤ _; simp; omega) hv
          have hj2 : (j : Int) ≤ 200 := by omega
          clear rowx hrx hy hsv hsc hqs hyl
          simp only [strV] at cX HSY
          go_wp2_with fail
          (go_at_call 11; refine (HSY.out _ (HV.out _ BX.out)).mono ?_; rintro e w21 ⟨rfl, b21⟩)
          have B21 : Hid (Below w6x.heap.size w6x w21) := HB.out.trans (b21.mono HB.out.size)
          have BX2 := Lib.hid (BX.out.trans (b21.mono BX.out.size))
          clear b21 cX tt
          have BA : Hid (∀ o, Below w6x.heap.size w6x (w21.alloc o)) := fun o => B21.out.alloc B21.out.size o
          have BB : Hid (∀ o, Below w.heap.size w (w21.alloc o)) := fun o => BX2.out.alloc BX2.out.size o
          cases eb
          · go_wp2_with fail
            go_roundw
            case rel => exact ⟨j + 1, by omega, by go_num, HQS.out (by simp), BA.out _⟩
            case measure => simp [intOf]; omega
          · go_wp2_with fail
            (go_at_call 9; refine (haOk_any _).mono ?_; rintro e wl ⟨rfl, rfl⟩)
            go_wp2_with fail
            go_ret
            exact ⟨by simp, BB.out _⟩
        · have hje : j = ls.length := by omega
          subst hje
          obtain ⟨y1, y2⟩ := HYE.out HQL.out
          have Y2 := Lib.hid y2
          have hqs : ((Q1 ++ RS).toList == s.toList) = true := by
            have e : Q1 ++ RS = s := by
              apply ByteArray.ext
              rw [ByteArray.data_append]
              apply Array.ext'
              simpa using y1
            rw [e]; simp
          clear HYE y1 y2
          go_wp2_with fail
          (go_at_call 12; refine (HIA.out _ TX.out.tab (HV.out _ BX.out)).mono ?_; rintro e w5 ⟨g5, n5, c5, rfl, b5⟩)
          have BS := Lib.hid (BX.out.trans (b5.mono BX.out.size))
          clear b5
          have BA : Hid (∀ o, Below w.heap.size w (w5.alloc o)) := fun o => BS.out.alloc BS.out.size o
          by_cases c1 : q < 0
          · go_wp2_with fail
            (go_at_call 9; refine (haOk_any _).mono ?_; rintro e wl ⟨rfl, rfl⟩)
            go_wp2_with fail
            go_ret
            exact ⟨by simp, BA.out _⟩
          · by_cases c2 : q > (Q1.size : Int)
            · go_wp2_with fail
              (go_at_call 9; refine (haOk_any _).mono ?_; rintro e wl ⟨rfl, rfl⟩)
              go_wp2_with fail
              go_ret
              exact ⟨by simp, BA.out _⟩
            · have c3 := Y2.out (by omega) (by omega)
              go_wp2_with fail
              (go_at_call 9; refine (haOk_any _).mono ?_; rintro e wl ⟨rfl, rfl⟩)
              go_wp2_with fail
              go_ret
              exact ⟨by simp, BA.out _⟩

set_option maxRecDepth 100000 in
set_option maxHeartbeats 800000 in
theorem lwPosPlain_any (ao : Option Addr) (n cap : Nat) (w : World) (h : BytesIn w ao n) (hn : n ≤ cap) (hv : VarsOk w) :
    Calls Tryz.prog 3 #[.slice ao n cap] w fun e w' => e = .returned (.bool true) ∧ Below w.heap.size w w' := by
  by_cases hb1 : 1048576 < n
  · clear h hv
    go_enter Tryz.func3, Tryz.ntmps3
    go_wp2_with fail
    go_ret
    exact ⟨rfl, Below.refl _ _⟩
  · exact lwPosPlain_of ao n cap w h hn hv hb1

end Go.Proofs.YtbhpogddnpaacaaGreatDoor
