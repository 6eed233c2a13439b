/- The law that there is no room just where there is none: at every code. Conditions: the code lies in memory; the variables that are read hold what they are laid with. (Several texts, joined: MapP, PutP, Stays, RwrP, RoomP, IMapE, LwRwrRoom.) -/
import Derived.Test.YtoidmmedpefjfaaGreatDoorVals
import Derived.Test.YtoidmmedpefjfaaGreatDoorPutE
import Derived.Test.YtoidmmedpefjfaaGreatDoorTRwme
import Derived.Test.YtoidmmedpefjfaaGreatDoorTRwmd
import Derived.Test.YtoidmmedpefjfaaGreatDoorIPorts
import Derived.Deep.RegionWith
import Derived.Test.YtoidmmedpefjfaaGreatDoorDrawRS
import Derived.Test.YtoidmmedpefjfaaGreatDoorHaOk
import Derived.Test.YtoidmmedpefjfaaGreatDoorTRwmc

/- Ports and ends of a table are each other's, as data. No condition. -/
namespace Go.Proofs.YtoidmmedpefjfaaGreatDoor
open Go.RowKit

theorem mapB_take {es : List (Int × Int)} (hm : mapB es = true) {k : Nat} (hk : k < es.length) : es[k] ∉ es.take k := by
  unfold mapB at hm
  simp only [Bool.and_eq_true, decide_eq_true_eq, List.all_eq_true, List.mem_range] at hm
  have := hm.2 k hk
  unfold mapP at this
  simp only [Bool.and_eq_true, decide_eq_true_eq] at this
  rw [List.getD_eq_getElem?_getD, List.getElem?_eq_getElem hk] at this
  exact findI_neg.1 this.2
theorem findI_at {es : List (Int × Int)} (hm : mapB es = true) {k : Nat} (hk : k < es.length) : findI es es[k] = k := by
  obtain ⟨j, hj, he, hn, hf⟩ := findI_mem (List.getElem_mem hk)
  rw [hf]
  rcases Nat.lt_trichotomy j k with h | h | h
  · exfalso
    refine mapB_take hm hk ?_
    rw [← he]
    exact List.mem_take_iff_getElem.2 ⟨j, by omega, rfl⟩
  · rw [h]
  · exfalso
    exact hn (List.mem_take_iff_getElem.2 ⟨k, by omega, rfl⟩)
/-- An end that a port names has that port. -/
theorem port_of_end {es : List (Int × Int)} {q : Int} {e : Int × Int} (hm : mapB es = true) (h : endI es q = some e) : portI es e = q := by
  unfold endI at h
  split at h
  · rename_i hq
    obtain ⟨hk, he⟩ := List.getElem?_eq_some_iff.1 h
    have hf := findI_at hm hk
    rw [he] at hf
    unfold portI
    rw [hf, if_neg (by omega)]
    omega
  · cases h
/-- A port that an end has names that end. -/
theorem end_of_port {es : List (Int × Int)} {e : Int × Int} (h : portI es e ≠ 0) : endI es (portI es e) = some e := by
  unfold portI at h ⊢
  split
  · rename_i hf
    rw [if_pos hf] at h
    exact absurd rfl h
  · rename_i hf
    have hmem : e ∈ es := by
      refine Classical.byContradiction fun hn => ?_
      exact hf (findI_neg.2 hn)
    obtain ⟨k, hk, he, _, hfk⟩ := findI_mem hmem
    rw [hfk]
    unfold endI
    rw [if_pos (by omega), show (500 + (k : Int) - 500).toNat = k by omega, List.getElem?_eq_getElem hk, he]

end Go.Proofs.YtoidmmedpefjfaaGreatDoor

/- An end more in a table, as data: who has which port then. No condition. -/
namespace Go.Proofs.YtoidmmedpefjfaaGreatDoor
open Go.RowKit

theorem findI_app {us vs : List (Int × Int)} {x : Int × Int} (h : x ∈ us) : findI (us ++ vs) x = findI us x := by
  obtain ⟨k, hk, he, hn, hf⟩ := findI_mem h
  rw [hf]
  refine findI_hit (by rw [List.length_append]; omega) (by rw [List.getElem_append_left hk]; exact he) (fun j hj hje => hn ?_)
  rw [List.getElem_append_left (by omega)] at hje
  exact List.mem_take_iff_getElem.2 ⟨j, by omega, hje⟩
theorem portI_app {us vs : List (Int × Int)} {x : Int × Int} (h : x ∈ us) : portI (us ++ vs) x = portI us x := by
  unfold portI; rw [findI_app h]
theorem portI_pos' {es : List (Int × Int)} {e : Int × Int} : 0 < portI es e ↔ e ∈ es := by
  constructor
  · intro h
    refine Classical.byContradiction fun hn => ?_
    unfold portI at h
    rw [if_pos (findI_neg.2 hn)] at h
    omega
  · intro h
    unfold portI
    rw [if_neg (fun h2 => findI_neg.1 h2 h)]
    have := findI_bounds es e
    have h3 : ¬ findI es e < 0 := fun h2 => findI_neg.1 h2 h
    omega
theorem putE_fst (us : List (Int × Int)) (e : Int × Int) : (putE us e).1 = if e ∈ us ∨ us.length = 6 then us else us ++ [e] := by
  by_cases h : e ∈ us
  · rw [putE_has h, if_pos (.inl h)]
  · by_cases h6 : us.length = 6
    · rw [putE_full h h6, if_pos (.inr h6)]
    · rw [putE_new h h6, if_neg (by rintro (h1 | h1); exact h h1; exact h6 h1)]
theorem putE_pre (us : List (Int × Int)) (e : Int × Int) : ∃ t, (putE us e).1 = us ++ t ∧ t.length ≤ 1 := by
  rw [putE_fst]
  split
  · exact ⟨[], by simp, by simp⟩
  · exact ⟨[e], rfl, by simp⟩
theorem putE_port {us : List (Int × Int)} {e : Int × Int} (h : (putE us e).2 ≠ 0) : portI (putE us e).1 e = (putE us e).2 := by
  by_cases hm : e ∈ us
  · rw [putE_has hm]
  · by_cases h6 : us.length = 6
    · rw [putE_full hm h6] at h; exact absurd rfl h
    · rw [putE_new hm h6]
      show portI (us ++ [e]) e = _
      unfold portI
      have : findI (us ++ [e]) e = (us.length : Int) := by
        refine findI_hit (k := us.length) (by simp) (by simp) (fun j hj hje => hm ?_)
        rw [List.getElem_append_left hj] at hje
        rw [← hje]; exact List.getElem_mem _
      rw [this, if_neg (by omega)]
theorem putE_zero {us : List (Int × Int)} {e : Int × Int} (h : (putE us e).2 = 0) : portI us e = 0 ∧ us.length = 6 ∧ (putE us e).1 = us := by
  by_cases hm : e ∈ us
  · have := portI_pos'.2 hm
    rw [putE_has hm] at h
    simp only at h
    omega
  · by_cases h6 : us.length = 6
    · refine ⟨?_, h6, by rw [putE_full hm h6]⟩
      have : ¬ 0 < portI us e := fun h2 => hm (portI_pos'.1 h2)
      unfold portI at this ⊢
      rw [if_pos (findI_neg.2 hm)]
    · rw [putE_new hm h6] at h
      simp only at h
      omega
theorem putE_had {us : List (Int × Int)} {e : Int × Int} (h : portI us e ≠ 0) : portI us e = (putE us e).2 := by
  have hm : e ∈ us := by
    refine Classical.byContradiction fun hn => ?_
    unfold portI at h
    rw [if_pos (findI_neg.2 hn)] at h
    exact h rfl
  rw [putE_has hm]
theorem putE_snd_bound (us : List (Int × Int)) (e : Int × Int) (h6 : us.length ≤ 6) : 0 ≤ (putE us e).2 ∧ (putE us e).2 ≤ 506 := by
  have hb := findI_bounds us e
  unfold putE
  split
  · unfold portI; simp only; split <;> omega
  · split
    · simp
    · simp only; omega
theorem put_two_len (us : List (Int × Int)) (a b : Int × Int) : (putE (putE us a).1 b).1.length = (putE (putE us b).1 a).1.length := by
  simp only [putE_fst]
  by_cases ha : a ∈ us <;> by_cases hb : b ∈ us <;> by_cases h6 : us.length = 6 <;> by_cases h5 : us.length = 5 <;> by_cases hab : a = b <;> first
    | (subst hab; rfl)
    | (have hba : ¬ b = a := fun h => hab h.symm
       simp [ha, hb, h6, h5, hab, hba])
theorem put_two_has {us : List (Int × Int)} {a b : Int × Int} (hno : ¬ (a ∈ (putE (putE us a).1 b).1 ∧ b ∈ (putE (putE us a).1 b).1)) : 5 ≤ us.length ∧ (us.length = 6 ∨ a ∈ (putE (putE us a).1 b).1) := by
  simp only [putE_fst] at hno ⊢
  by_cases ha : a ∈ us <;> by_cases hb : b ∈ us <;> by_cases h6 : us.length = 6 <;> by_cases h5 : us.length = 5 <;> by_cases hab : a = b <;> first
    | (subst hab; simp [ha, h6, h5] at hno ⊢ <;> omega)
    | (have hba : ¬ b = a := fun h => hab h.symm
       simp [ha, hb, h6, h5, hab, hba] at hno ⊢ <;> omega)

end Go.Proofs.YtoidmmedpefjfaaGreatDoor

/- What goes outside once goes so again: with the table behind it, and with any that has more ends behind these; and so does each beginning. No condition. -/
namespace Go.Proofs.YtoidmmedpefjfaaGreatDoor
open Go.RowKit

theorem putE_six' {T : List (Int × Int)} {e : Int × Int} (h : T.length ≤ 6) : (putE T e).1.length ≤ 6 := by
  rw [putE_fst]
  split
  · exact h
  · rename_i hn
    have : T.length ≠ 6 := fun h6 => hn (.inr h6)
    simp; omega
theorem putE_again {T t : List (Int × Int)} {e : Int × Int} (h : T.length ≤ 6) (h2 : ((putE T e).1 ++ t).length ≤ 6) : putE ((putE T e).1 ++ t) e = ((putE T e).1 ++ t, (putE T e).2) := by
  by_cases hm : e ∈ T
  · rw [putE_has hm]
    rw [putE_has (List.mem_append_left _ hm)]
    rw [portI_app hm]
  · by_cases h6 : T.length = 6
    · rw [putE_full hm h6] at h2 ⊢
      have ht : t = [] := by
        rcases t with _ | ⟨x, r⟩
        · rfl
        · simp at h2; omega
      subst ht
      simp only [List.append_nil]
      rw [putE_full hm h6]
    · have hp : (putE T e).2 ≠ 0 := by rw [putE_new hm h6]; simp only; omega
      have hq := putE_port hp
      rw [putE_new hm h6] at hq ⊢
      have hm2 : e ∈ T ++ [e] := by simp
      rw [putE_has (List.mem_append_left _ hm2), portI_app hm2]
      simp only at hq ⊢
      rw [hq]
theorem lineE_pre (T : List (Int × Int)) (l : List UInt8) : ∃ t, (lineE T l).1 = T ++ t := by
  rcases h : saysE l with _ | e
  · exact ⟨[], by rw [lineE_none h]; simp⟩
  · obtain ⟨t, ht, _⟩ := putE_pre T e
    exact ⟨t, by rw [lineE_some h]; exact ht⟩
theorem lineE_six {T : List (Int × Int)} {l : List UInt8} (h : T.length ≤ 6) : (lineE T l).1.length ≤ 6 := by
  rcases hs : saysE l with _ | e
  · rw [lineE_none hs]; exact h
  · rw [lineE_some hs]; exact putE_six' h
theorem lineE_again {T t : List (Int × Int)} {l : List UInt8} (h : T.length ≤ 6) (h2 : ((lineE T l).1 ++ t).length ≤ 6) : lineE ((lineE T l).1 ++ t) l = ((lineE T l).1 ++ t, (lineE T l).2) := by
  rcases hs : saysE l with _ | e
  · rw [lineE_none hs, lineE_none hs]
  · rw [lineE_some hs] at h2 ⊢
    simp only at h2 ⊢
    rw [lineE_some hs, putE_again h h2]
theorem fold_pre (ls : List (List UInt8)) (T : List (Int × Int)) (p : List UInt8) : ∃ t, (ls.foldl strF (T, p)).1 = T ++ t := by
  induction ls generalizing T p with
  | nil => exact ⟨[], by simp⟩
  | cons l r ih =>
    obtain ⟨t1, h1⟩ := lineE_pre T l
    obtain ⟨t2, h2⟩ := ih (lineE T l).1 (p ++ (lineE T l).2 ++ [59])
    refine ⟨t1 ++ t2, ?_⟩
    rw [List.foldl_cons, show strF (T, p) l = ((lineE T l).1, p ++ (lineE T l).2 ++ [59]) from rfl, h2, h1, List.append_assoc]
theorem fold_again (ls : List (List UInt8)) (T t : List (Int × Int)) (p : List UInt8) (h : T.length ≤ 6) (h2 : ((ls.foldl strF (T, p)).1 ++ t).length ≤ 6) :
    ls.foldl strF ((ls.foldl strF (T, p)).1 ++ t, p) = ((ls.foldl strF (T, p)).1 ++ t, (ls.foldl strF (T, p)).2) := by
  induction ls generalizing T p with
  | nil => rfl
  | cons l r ih =>
    have e1 : strF (T, p) l = ((lineE T l).1, p ++ (lineE T l).2 ++ [59]) := rfl
    simp only [List.foldl_cons, e1] at h2 ⊢
    obtain ⟨t1, ht1⟩ := fold_pre r (lineE T l).1 (p ++ (lineE T l).2 ++ [59])
    have hE : (r.foldl strF ((lineE T l).1, p ++ (lineE T l).2 ++ [59])).1 ++ t = (lineE T l).1 ++ (t1 ++ t) := by rw [ht1, List.append_assoc]
    have hl := lineE_again (t := t1 ++ t) h (by rw [← hE]; exact h2)
    have e2 : strF ((r.foldl strF ((lineE T l).1, p ++ (lineE T l).2 ++ [59])).1 ++ t, p) l = ((r.foldl strF ((lineE T l).1, p ++ (lineE T l).2 ++ [59])).1 ++ t, p ++ (lineE T l).2 ++ [59]) := by
      rw [hE]
      show ((lineE ((lineE T l).1 ++ (t1 ++ t)) l).1, p ++ (lineE ((lineE T l).1 ++ (t1 ++ t)) l).2 ++ [59]) = _
      rw [hl]
    rw [e2]
    exact ih (lineE T l).1 (p ++ (lineE T l).2 ++ [59]) (lineE_six h) h2
theorem shift_two (ls : List (List UInt8)) (es : List (Int × Int)) (p : List UInt8) : ∃ q, (ls.foldl strF (es, p)).2 = p ++ q := by
  induction ls generalizing es p with
  | nil => exact ⟨[], by simp⟩
  | cons l r ih =>
    obtain ⟨q, hq⟩ := ih (lineE es l).1 (p ++ (lineE es l).2 ++ [59])
    refine ⟨(lineE es l).2 ++ [59] ++ q, ?_⟩
    rw [List.foldl_cons, show strF (es, p) l = ((lineE es l).1, p ++ (lineE es l).2 ++ [59]) from rfl, hq]
    simp
/-- The promise, as data. -/
theorem stream_stays {us t : List (Int × Int)} {s : List UInt8} (h : us.length ≤ 6) (h2 : ((streamE us (linesL s)).1 ++ t).length ≤ 6) (k : Nat) :
    ∃ q, streamE ((streamE us (linesL s)).1 ++ t) (linesL (s.take k)) = ((streamE us (linesL s)).1 ++ t, (streamE us (linesL (s.take k))).2) ∧ (streamE us (linesL s)).2 = (streamE us (linesL (s.take k))).2 ++ q := by
  obtain ⟨r, hr⟩ := lines_take s k
  have e : streamE us (linesL s) = r.foldl strF (streamE us (linesL (s.take k))) := by
    unfold streamE
    rw [← hr, List.foldl_append]
  obtain ⟨⟨T1, T2⟩, hT⟩ : ∃ T, T = streamE us (linesL (s.take k)) := ⟨_, rfl⟩
  rw [← hT] at e ⊢
  obtain ⟨t1, ht1⟩ := fold_pre r T1 T2
  obtain ⟨q, hq⟩ := shift_two r T1 T2
  refine ⟨q, ?_, by rw [e]; exact hq⟩
  have hs : (streamE us (linesL s)).1 ++ t = T1 ++ (t1 ++ t) := by rw [e, ht1, List.append_assoc]
  have hT1 : T1 = ((linesL (s.take k)).foldl strF (us, [])).1 := by
    have := congrArg (·.1) hT
    exact this
  have hT2 : T2 = ((linesL (s.take k)).foldl strF (us, [])).2 := by
    have := congrArg (·.2) hT
    exact this
  rw [hs] at h2 ⊢
  rw [hT1] at h2 ⊢
  rw [hT2]
  exact fold_again (linesL (s.take k)) us (t1 ++ t) [] h h2

end Go.Proofs.YtoidmmedpefjfaaGreatDoor

/- What a line is as it goes outside, as data: its port, its length, and that it is a line. No condition. -/
namespace Go.Proofs.YtoidmmedpefjfaaGreatDoor
open Go.RowKit

theorem data_inj {a b : ByteArray} (h : a.data.toList = b.data.toList) : a = b := by
  rw [← Lib.mk_data a, ← Lib.mk_data b, h]
theorem putE_low {us : List (Int × Int)} {e : Int × Int} (h : (putE us e).2 ≠ 0) : 500 ≤ (putE us e).2 := by
  have hb := findI_bounds us e
  unfold putE at h ⊢
  split at h
  · rename_i h1
    rw [if_pos h1]
    unfold portI at h1 ⊢
    split at h1
    · omega
    · rename_i h2
      simp only
      rw [if_neg h2]; omega
  · rename_i h1
    rw [if_neg h1]
    split at h
    · exact absurd rfl h
    · rename_i h2
      rw [if_neg h2]
      simp only; omega
theorem box_end {q : Int} (h0 : 500 ≤ q) (h1 : q ≤ 506) : endB 50 q = true := by
  unfold endB boxB inB
  simp
  right; omega
theorem lin_line {es : List (Int × Int)} {l : List UInt8} (hm : mapB es = true) (hl : linB l = true) : linB (lineE es l).2 = true := by
  rcases h : saysE l with _ | e
  · rw [lineE_none h]; exact hl
  · rw [lineE_some h]
    simp only
    have hb := putE_snd_bound es e (mapB_le hm)
    by_cases h0 : (putE es e).2 = 0
    · rw [if_pos h0]; decide
    · rw [if_neg h0]
      exact lpL_lin (box_end (putE_low h0) hb.2)
theorem rwrA_len (es : List (Int × Int)) (l : List UInt8) : (rwrA es l).2.length ≤ l.length + 20 := by
  unfold rwrA
  split
  · exact lineE_len es l
  · simp
theorem findI_snoc {us : List (Int × Int)} {e : Int × Int} (h : e ∉ us) : findI (us ++ [e]) e = us.length := by
  refine findI_hit (k := us.length) (by simp) (by simp) ?_
  intro j hj he
  rw [List.getElem_append_left hj] at he
  exact h (he ▸ List.getElem_mem _)
/-- The port that an end has behind it is the one that is told. -/
theorem rwr_port (us : List (Int × Int)) (e : Int × Int) (_ : us.length ≤ 6) : portI (putE us e).1 e = (putE us e).2 := by
  by_cases h0 : (putE us e).2 = 0
  · obtain ⟨h1, _, h3⟩ := putE_zero h0
    rw [h3, h1, h0]
  · exact putE_port h0

end Go.Proofs.YtoidmmedpefjfaaGreatDoor

/- Whose port a line outside names, as data: that of the end that was named, or there is no room. No condition. -/
namespace Go.Proofs.YtoidmmedpefjfaaGreatDoor
open Go.RowKit

/-- The lines as they go outside. -/
def outsE (T : List (Int × Int)) : List (List UInt8) → List (List UInt8)
  | [] => []
  | l :: r => (lineE T l).2 :: outsE (lineE T l).1 r
theorem outsE_len (T : List (Int × Int)) (ls : List (List UInt8)) : (outsE T ls).length = ls.length := by
  induction ls generalizing T with
  | nil => rfl
  | cons l r ih => simp [outsE, ih]
theorem outsE_flat (T : List (Int × Int)) (ls : List (List UInt8)) (p : List UInt8) : (ls.foldl strF (T, p)).2 = p ++ ((outsE T ls).map (· ++ [59])).flatten := by
  induction ls generalizing T p with
  | nil => simp [outsE]
  | cons l r ih =>
    show (r.foldl strF ((lineE T l).1, p ++ (lineE T l).2 ++ [59])).2 = _
    rw [ih]
    simp [outsE]
theorem outsE_semi (T : List (Int × Int)) (ls : List (List UInt8)) (h : ∀ l ∈ ls, ∀ c ∈ l, c ≠ 59) : ∀ o ∈ outsE T ls, ∀ c ∈ o, c ≠ 59 := by
  induction ls generalizing T with
  | nil => intro o ho; simp [outsE] at ho
  | cons l r ih =>
    intro o ho
    simp only [outsE, List.mem_cons] at ho
    rcases ho with rfl | ho
    · exact lineE_semi (h l (by simp))
    · exact ih _ (fun x hx => h x (by simp [hx])) o ho
/-- The lines outside of what goes there. -/
theorem outsE_lines (T : List (Int × Int)) (s : List UInt8) : linesL (streamE T (linesL s)).2 = outsE T (linesL s) := by
  unfold streamE
  rw [outsE_flat, List.nil_append]
  exact (lines_flat _ (outsE_semi T _ (fun l hl => line_noSemi hl))).1
theorem room_at (ls : List (List UInt8)) (T : List (Int × Int)) (p : List UInt8) (h6 : T.length ≤ 6) (hf : (ls.foldl strF (T, p)).1.length ≤ 6) (j : Nat) (hj : j < ls.length) (hj2 : j < (outsE T ls).length) {e : Int × Int} (hs : saysE ls[j] = some e) :
    (∃ q : Int, 500 ≤ q ∧ q ≤ 506 ∧ (outsE T ls)[j] = lpL 50 q ∧ portI (ls.foldl strF (T, p)).1 e = q) ∨ ((outsE T ls)[j] = noneL ∧ (ls.foldl strF (T, p)).1.length = 6 ∧ portI (ls.foldl strF (T, p)).1 e = 0) := by
  induction ls generalizing T p j with
  | nil => simp at hj
  | cons l r ih =>
    have hst : (l :: r).foldl strF (T, p) = r.foldl strF ((lineE T l).1, p ++ (lineE T l).2 ++ [59]) := rfl
    rw [hst] at hf ⊢
    rcases j with _ | j
    · simp only [List.getElem_cons_zero] at hs
      have hl := lineE_some (es := T) hs
      obtain ⟨t, ht⟩ := fold_pre r (lineE T l).1 (p ++ (lineE T l).2 ++ [59])
      simp only [outsE, List.getElem_cons_zero]
      rw [ht] at hf ⊢
      rw [hl] at hf ⊢
      simp only at hf ⊢
      have hb := putE_snd_bound T e h6
      by_cases h0 : (putE T e).2 = 0
      · right
        obtain ⟨h1, h2, h3⟩ := putE_zero h0
        rw [if_pos h0]
        rw [h3] at hf ⊢
        rw [List.length_append] at hf
        have ht0 : t = [] := List.eq_nil_of_length_eq_zero (by omega)
        rw [ht0, List.append_nil]
        exact ⟨rfl, h2, h1⟩
      · left
        rw [if_neg h0]
        have hp := putE_port h0
        have hmem : e ∈ (putE T e).1 := by
          have := putE_low h0
          exact portI_pos'.1 (by rw [hp]; omega)
        exact ⟨(putE T e).2, putE_low h0, hb.2, rfl, by rw [portI_app hmem, hp]⟩
    · simp only [List.length_cons] at hj
      simp only [List.getElem_cons_succ] at hs
      simp only [outsE, List.getElem_cons_succ]
      exact ih (lineE T l).1 _ (lineE_six h6) hf j (by omega) (by simp only [outsE, List.length_cons] at hj2; omega) hs

end Go.Proofs.YtoidmmedpefjfaaGreatDoor

/- The program's MapEnd and MapPort answer as the document says. Conditions: at most 2^22 ends; all numbers are ints. -/
namespace Go.Proofs.YtoidmmedpefjfaaGreatDoor
open Go.RowKit Go.Sort

theorem endV_form' (x : Option (Int × Int)) : ∃ (a p : Int) (b : Bool), endV x = .tuple #[.agg #[.int .i64 a, .int .i64 p], .bool b] := by
  rcases x with _ | ⟨a, p⟩
  · exact ⟨0, 0, false, rfl⟩
  · exact ⟨a, p, true, rfl⟩

set_option maxRecDepth 100000 in
set_option maxHeartbeats 1600000 in
theorem implMapEnd_any (v : Value) (es : List (Int × Int)) (port : Int) (w : World) (hn : es.length ≤ 4194304) (hwf : wfE es) (wn : (Lit.int .i64 port).wf = true) (ht : TabAt w v es) :
    Calls Tryz.prog 45 #[.agg #[v], .int .i64 port] w fun e w' => e = .returned (endV (endI es port)) ∧ Below w.heap.size w w' := by
  have HT := Lib.hid ht
  obtain ⟨ad, cap, rfl, _, _⟩ := ht
  have HP : Hid (∀ w, TabAt w (.slice ad es.length cap) es → Calls Tryz.prog 51 #[.agg #[.slice ad es.length cap]] w fun e w' => ∃ g1 g2, e = .returned (.agg #[.map (some g1), .map (some g2)]) ∧ w.heap.size ≤ g1 ∧ w.heap.size ≤ g2 ∧ Both w' g1 g2 es ∧ Below w.heap.size w w') := fun w h => portsOf_any _ es w hn hwf h
  obtain ⟨a, p, b, hv⟩ := endV_form' (endI es port)
  have HK : Hid (∀ g1 g2 w, Both w g1 g2 es → Calls Tryz.prog 88 #[.agg #[.map (some g1), .map (some g2)], .int .i64 port] w fun e w' => e = .returned (.tuple #[.agg #[.int .i64 a, .int .i64 p], .bool b]) ∧ Below w.heap.size w w') := fun g1 g2 w h => by rw [← hv]; exact key_any g1 g2 es port w h wn
  rw [hv]
  clear hwf wn hv hn
  go_enter Tryz.func45, Tryz.ntmps45
  go_wp2_with fail
  (go_at_call 51; refine (HP.out _ (HT.out.below (((Below.refl _ _).alloc (Nat.le_refl _) _).alloc (by simp) _))).mono ?_; rintro e w1 ⟨g1, g2, rfl, _, _, hb, b1⟩; have HB := Lib.hid hb; obtain ⟨_, cB, b01, z1⟩ := cell_two b1; have r0 := (cB 0).1; have r1 := (cB 1).1; have f0 := (cB 0).2; have f1 := (cB 1).2; simp at r0 r1; clear cB b1 hb)
  go_wp2_with fail
  (go_at_call 88; refine (HK.out g1 g2 _ HB.out).mono ?_; rintro e w2 ⟨rfl, b2⟩; have r20 : w2.cell? ⟨w.heap.size + 1, 0, none⟩ = some (.int .i64 0) := (by rw [b2.cell (by simp; omega)]; exact r0); have r21 : w2.cell? ⟨w.heap.size + 1, 1, none⟩ = some (.int .i64 0) := (by rw [b2.cell (by simp; omega)]; exact r1); have f20 : w2.frozen? ⟨w.heap.size + 1, 0, none⟩ = false := (by rw [b2.frozen (by simp; omega)]; exact f0); have f21 : w2.frozen? ⟨w.heap.size + 1, 1, none⟩ = false := (by rw [b2.frozen (by simp; omega)]; exact f1); have BW : Hid (Below w.heap.size w w2) := b01.trans (b2.mono (by omega)); obtain ⟨e0, e1, e2⟩ := set_two (.int .i64 a) (.int .i64 p) r20 r21; have E1 := Lib.hid e1; have E2 := Lib.hid e2; clear e1 e2 b2)
  go_wp2_with fail
  refine bodyPost_ret (v := .tuple #[.agg #[.int .i64 a, .int .i64 p], .bool b]) (by simp [results, Tryz.results45, go_sem, E1.out, E2.out]) rfl ⟨rfl, (BW.out.setCell (by simp) _).setCell (by simp) _⟩

set_option maxRecDepth 100000 in
set_option maxHeartbeats 1600000 in
theorem implMapPort_any (v : Value) (es : List (Int × Int)) (a p : Int) (w : World) (hn : es.length ≤ 4194304) (hwf : wfE es) (wa : (Lit.int .i64 a).wf = true) (wp : (Lit.int .i64 p).wf = true) (ht : TabAt w v es) :
    Calls Tryz.prog 24 #[.agg #[v], .agg #[.int .i64 a, .int .i64 p]] w fun e w' => e = .returned (.int .i64 (portI es (a, p))) ∧ Below w.heap.size w w' := by
  have HT := Lib.hid ht
  obtain ⟨ad, cap, rfl, _, _⟩ := ht
  have HP : Hid (∀ w, TabAt w (.slice ad es.length cap) es → Calls Tryz.prog 51 #[.agg #[.slice ad es.length cap]] w fun e w' => ∃ g1 g2, e = .returned (.agg #[.map (some g1), .map (some g2)]) ∧ w.heap.size ≤ g1 ∧ w.heap.size ≤ g2 ∧ Both w' g1 g2 es ∧ Below w.heap.size w w') := fun w h => portsOf_any _ es w hn hwf h
  obtain ⟨q, hq⟩ : ∃ q, q = portI es (a, p) := ⟨_, rfl⟩
  obtain ⟨b, hbb⟩ : ∃ b, b = decide ((a, p) ∈ es) := ⟨_, rfl⟩
  have HV : Hid (∀ g1 g2 w, Both w g1 g2 es → Calls Tryz.prog 64 #[.agg #[.map (some g1), .map (some g2)], .agg #[.int .i64 a, .int .i64 p]] w fun e w' => e = .returned (.tuple #[.int .i64 q, .bool b]) ∧ Below w.heap.size w w') := fun g1 g2 w h => by rw [hq, hbb]; exact value_any g1 g2 es a p w h wa wp
  rw [← hq]
  clear hwf wa wp hq hn hbb
  go_enter Tryz.func24, Tryz.ntmps24
  go_wp2_with fail
  obtain ⟨W0, hW0⟩ : ∃ W0, W0 = (w.alloc (.cells #[.slice ad es.length cap] 25)).alloc (.cells #[.int .i64 a, .int .i64 p] 34) := ⟨_, rfl⟩
  have t0 : W0.cell? ⟨w.heap.size, 0, none⟩ = some (.slice ad es.length cap) := by rw [hW0, cell_alloc_lt (by simp)]; exact (cell_new w _ _ 0).1
  have e0 : W0.cell? ⟨w.heap.size + 1, 0, none⟩ = some (.int .i64 a) := by rw [hW0]; simp
  have e1 : W0.cell? ⟨w.heap.size + 1, 1, none⟩ = some (.int .i64 p) := by rw [hW0]; simp
  have B0 : Hid (Below w.heap.size w W0) := by rw [hW0]; exact ((Below.refl _ _).alloc (Nat.le_refl _) _).alloc (by simp) _
  have z0 : W0.heap.size = w.heap.size + 2 := by rw [hW0]; simp
  rw [← hW0]
  clear hW0
  have HT0 := Lib.hid (HT.out.below B0.out)
  go_region_with (first
    | (go_at_call 51; refine (HP.out _ (HT0.out.below ((Below.refl _ _).drew))).mono ?_; rintro e w1 ⟨g1, g2, rfl, _, _, hb, b1⟩; have HB := Lib.hid hb; have b1 : Below W0.heap.size W0 w1 := ((Below.refl _ _).drew).trans b1; have e0 : w1.cell? ⟨w.heap.size + 1, 0, none⟩ = some (.int .i64 a) := (by rw [b1.cell (by simp; omega)]; exact e0); have e1 : w1.cell? ⟨w.heap.size + 1, 1, none⟩ = some (.int .i64 p) := (by rw [b1.cell (by simp; omega)]; exact e1); clear hb)
    | (go_at_call 64; refine (HV.out _ _ _ HB.out).mono ?_; rintro e w2 ⟨rfl, b2⟩; have BW : Hid (Below w.heap.size w w2) := B0.out.trans ((b1.trans (b2.mono b1.size)).mono (by omega))))
  all_goals
    go_wp2_with fail
    go_ret
    exact ⟨rfl, BW.out⟩

end Go.Proofs.YtoidmmedpefjfaaGreatDoor

/- The law that there is no room just where there is none: at every code. Conditions: the code lies in memory; the variables that are read hold what they are laid with. -/
namespace Go.Proofs.YtoidmmedpefjfaaGreatDoor
open Go.RowKit Go.Sort

theorem boxD {w w' : World} {b i : Nat} {v : Value} (h : w.cell? ⟨b, i, none⟩ = some v) (hb : Below w.heap.size w w') : w'.cell? ⟨b, i, none⟩ = some v := by
  rw [hb.cell (p := ⟨b, i, none⟩) (World.block_lt_of_cell? w _ h)]; exact h
theorem SmE.wfE {us : List (Int × Int)} (h : SmE us) : wfE us := fun x hx => (h x hx).wf

set_option maxRecDepth 100000 in
set_option maxHeartbeats 12800000 in
theorem lwRwrRoom_of (ao : Option Addr) (n cap : Nat) (w : World) (h : BytesIn w ao n) (hn : n ≤ cap) (hv : VarsOk w) (hb1 : ¬ 1048576 < n) :
    Calls Tryz.prog 11 #[.slice ao n cap] w fun e w' => e = .returned (.bool true) ∧ Below w.heap.size w w' := by
  have H := Lib.hid h
  have HV : Hid (∀ w', Below w.heap.size w w' → VarsOk w') := fun w' h => hv.below h
  clear h hv
  go_enter Tryz.func11, Tryz.ntmps11
  go_wp2_with fail
  (go_at_call 26; refine (drawRwrStream_any ao n cap _ H.out hn).mono ?_; rintro e w1 ⟨g1, k1, us, s, rfl, o1, ⟨u8, sm1⟩, hss, b1⟩)
  have BW := Lib.hid b1
  have Tt := Lib.hid o1.tab
  have WU := Lib.hid sm1.wfE
  clear b1 o1 H sm1
  have hxl := strA_le us s.data.toList
  have hq1 := strA_len us s.data.toList
  obtain ⟨xs, hxs⟩ : ∃ xs, xs = (strA us s.data.toList).1 := ⟨_, rfl⟩
  obtain ⟨Q1, hQ1⟩ : ∃ Q1 : ByteArray, Q1 = ⟨(strA us s.data.toList).2.toArray⟩ := ⟨_, rfl⟩
  have hQ1s : Q1.size ≤ 2097152 := by rw [hQ1]; simpa [ByteArray.size] using hq1
  rw [← hxs] at hxl
  obtain ⟨mb, hmb⟩ : ∃ mb, mb = mapB us := ⟨_, rfl⟩
  obtain ⟨sb, hsb⟩ : ∃ sb, sb = strB s.data.toList := ⟨_, rfl⟩
  have HIA : Hid (∀ w, TabAt w (.slice g1 us.length k1) us → VarsOk w → Calls Tryz.prog 27 #[.agg #[.slice g1 us.length k1], .string s] w fun e w' => ∃ g c, e = .returned (.tuple #[.agg #[.slice g xs.length c], .string (Q1)]) ∧ FreshTab w' w.heap.size (.slice g xs.length c) xs ∧ Below w.heap.size w w') := fun w ht hv => by rw [hxs, hQ1]; exact implStrA _ us s w (by omega) (by omega) WU.out ht hv
  have HSA : Hid (∀ w, TabAt w (.slice g1 us.length k1) us → Calls Tryz.prog 28 #[.agg #[.slice g1 us.length k1], .string s] w fun e w' => ∃ g c, e = .returned (.tuple #[.agg #[.slice g xs.length c], .string (Q1)]) ∧ FreshTab w' w.heap.size (.slice g xs.length c) xs ∧ Below w.heap.size w w') := fun w ht => by rw [hxs, hQ1]; exact specStrA _ us s w (by omega) (by omega) ht
  have HMO : Hid (∀ w, TabAt w (.slice g1 us.length k1) us → Calls Tryz.prog 17 #[.agg #[.slice g1 us.length k1]] w fun e w' => e = .returned (.bool mb) ∧ Below w.heap.size w w') := fun w ht => by rw [hmb]; exact specMapOk_any _ us w (by omega) ht
  have HSO : Hid (∀ w, Calls Tryz.prog 29 #[.string s] w fun e w' => e = .returned (.bool sb) ∧ Below w.heap.size w w') := fun w => by rw [hsb]; exact specStr_any s w (by omega)
  have HYES : Hid (mb = true → sb = true → mapB us = true ∧ strB s.data.toList = true ∧ xs = (streamE us (linesL s.data.toList)).1 ∧ Q1.data.toList = (streamE us (linesL s.data.toList)).2) := fun e1 e2 => by
    rw [hmb] at e1
    rw [hsb] at e2
    have e3 := strA_yes (es := us) (l := s.data.toList) (by rw [e1, e2]; rfl)
    exact ⟨e1, e2, by rw [hxs, e3], by rw [hQ1, e3]⟩
  clear hxs hQ1 hmb hsb hq1
  go_wp2_with fail
  obtain ⟨W1, hW1⟩ : ∃ W, W = (w1.alloc (.cells #[.slice g1 us.length k1] 25)) := ⟨_, rfl⟩
  have qW1 : Below w1.heap.size w1 W1 := by rw [hW1]; exact (Below.refl _ _).alloc (Nat.le_refl _) _
  have zW1 : w1.heap.size + 1 ≤ W1.heap.size := by rw [hW1]; simp
  have ct0 : W1.cell? ⟨w1.heap.size, 0, none⟩ = some (.slice g1 us.length k1) := by rw [hW1]; simp
  replace Tt := Lib.hid (Tt.out.below qW1)
  replace BW := Lib.hid (BW.out.trans (qW1.mono BW.out.size))
  rw [← hW1]
  obtain ⟨bt, hbt⟩ : ∃ b, b = w1.heap.size := ⟨_, rfl⟩
  have lt : bt < W1.heap.size := by omega
  rw [← hbt] at ct0 ⊢
  clear hbt hW1
  clear qW1 zW1
  (go_at_call 27; refine (HIA.out _ Tt.out (HV.out _ BW.out)).mono ?_; rintro e w2x ⟨g3, k3, rfl, f3, qb⟩)
  have zb := qb.size
  replace ct0 := boxD ct0 qb
  replace lt : bt < w2x.heap.size := by omega
  replace Tt := Lib.hid (Tt.out.below qb)
  replace BW := Lib.hid (BW.out.trans (qb.mono BW.out.size))
  clear qb zb
  have Tx := Lib.hid f3.tab
  clear f3
  have at0 : ∀ o, (w2x.alloc o).cell? ⟨bt, 0, none⟩ = some (.slice g1 us.length k1) := fun o => by rw [cell_alloc_lt lt]; exact ct0
  go_wp2_with fail
  obtain ⟨W3, hW3⟩ : ∃ W, W = (w2x.alloc (.cells #[.slice g3 xs.length k3] 25)) := ⟨_, rfl⟩
  have qW3 : Below w2x.heap.size w2x W3 := by rw [hW3]; exact (Below.refl _ _).alloc (Nat.le_refl _) _
  have zW3 : w2x.heap.size + 1 ≤ W3.heap.size := by rw [hW3]; simp
  replace ct0 := boxD ct0 qW3
  replace lt : bt < W3.heap.size := by omega
  have cx0 : W3.cell? ⟨w2x.heap.size, 0, none⟩ = some (.slice g3 xs.length k3) := by rw [hW3]; simp
  replace Tt := Lib.hid (Tt.out.below qW3)
  replace Tx := Lib.hid (Tx.out.below qW3)
  replace BW := Lib.hid (BW.out.trans (qW3.mono BW.out.size))
  rw [← hW3]
  obtain ⟨bx, hbx⟩ : ∃ b, b = w2x.heap.size := ⟨_, rfl⟩
  have lx : bx < W3.heap.size := by omega
  rw [← hbx] at cx0 ⊢
  clear hbx hW3
  clear at0
  clear qW3 zW3
  (go_at_call 28; refine (HSA.out _ Tt.out).mono ?_; rintro e w4x ⟨g4, k4, rfl, f4, qb⟩)
  have zb := qb.size
  replace ct0 := boxD ct0 qb
  replace lt : bt < w4x.heap.size := by omega
  replace cx0 := boxD cx0 qb
  replace lx : bx < w4x.heap.size := by omega
  replace Tt := Lib.hid (Tt.out.below qb)
  replace Tx := Lib.hid (Tx.out.below qb)
  replace BW := Lib.hid (BW.out.trans (qb.mono BW.out.size))
  clear qb zb
  clear f4
  have at0 : ∀ o, (w4x.alloc o).cell? ⟨bt, 0, none⟩ = some (.slice g1 us.length k1) := fun o => by rw [cell_alloc_lt lt]; exact ct0
  have ax0 : ∀ o, (w4x.alloc o).cell? ⟨bx, 0, none⟩ = some (.slice g3 xs.length k3) := fun o => by rw [cell_alloc_lt lx]; exact cx0
  go_wp2_with fail
  obtain ⟨W5, hW5⟩ : ∃ W, W = (w4x.alloc (.cells #[.slice g4 xs.length k4] 25)) := ⟨_, rfl⟩
  have qW5 : Below w4x.heap.size w4x W5 := by rw [hW5]; exact (Below.refl _ _).alloc (Nat.le_refl _) _
  have zW5 : w4x.heap.size + 1 ≤ W5.heap.size := by rw [hW5]; simp
  replace ct0 := boxD ct0 qW5
  replace lt : bt < W5.heap.size := by omega
  replace cx0 := boxD cx0 qW5
  replace lx : bx < W5.heap.size := by omega
  have cc0 : W5.cell? ⟨w4x.heap.size, 0, none⟩ = some (.slice g4 xs.length k4) := by rw [hW5]; simp
  replace Tt := Lib.hid (Tt.out.below qW5)
  replace Tx := Lib.hid (Tx.out.below qW5)
  replace BW := Lib.hid (BW.out.trans (qW5.mono BW.out.size))
  rw [← hW5]
  obtain ⟨bc, hbc⟩ : ∃ b, b = w4x.heap.size := ⟨_, rfl⟩
  have lc : bc < W5.heap.size := by omega
  rw [← hbc] at cc0 ⊢
  clear hbc hW5
  clear at0 ax0
  clear qW5 zW5
  (go_at_call 17; refine (HMO.out _ Tt.out).mono ?_; rintro e w6x ⟨rfl, qb⟩)
  have zb := qb.size
  replace ct0 := boxD ct0 qb
  replace lt : bt < w6x.heap.size := by omega
  replace cx0 := boxD cx0 qb
  replace lx : bx < w6x.heap.size := by omega
  replace cc0 := boxD cc0 qb
  replace lc : bc < w6x.heap.size := by omega
  replace Tt := Lib.hid (Tt.out.below qb)
  replace Tx := Lib.hid (Tx.out.below qb)
  replace BW := Lib.hid (BW.out.trans (qb.mono BW.out.size))
  clear qb zb
  cases mb
  · go_wp2_with fail
    (go_at_call 19; refine (haOk_any _).mono ?_; rintro e wl ⟨rfl, rfl⟩)
    go_wp2_with fail
    go_ret
    exact ⟨rfl, BW.out⟩
  · go_wp2_with fail
    (go_at_call 29; refine (HSO.out _).mono ?_; rintro e w7x ⟨rfl, qb⟩)
    have zb := qb.size
    replace ct0 := boxD ct0 qb
    replace lt : bt < w7x.heap.size := by omega
    replace cx0 := boxD cx0 qb
    replace lx : bx < w7x.heap.size := by omega
    replace cc0 := boxD cc0 qb
    replace lc : bc < w7x.heap.size := by omega
    replace Tt := Lib.hid (Tt.out.below qb)
    replace Tx := Lib.hid (Tx.out.below qb)
    replace BW := Lib.hid (BW.out.trans (qb.mono BW.out.size))
    clear qb zb
    cases sb
    · go_wp2_with fail
      (go_at_call 19; refine (haOk_any _).mono ?_; rintro e wl ⟨rfl, rfl⟩)
      go_wp2_with fail
      go_ret
      exact ⟨rfl, BW.out⟩
    · obtain ⟨hm, hs, hx1, hq1⟩ := HYES.out (by simp) (by simp)
      clear HYES
      have HL : Hid (∀ w, Calls Tryz.prog 30 #[.string s] w fun e w' => ∃ v, e = .returned (.tuple #[v, .string ⟨(restL s.data.toList).toArray⟩]) ∧ w'.ownsRow w.heap.size 9 1 v (linesL s.data.toList).length ((linesL s.data.toList).map strV) ∧ Below w.heap.size w w') := fun w => implLines_any s w (by omega)
      have HF : Hid (∀ w, Calls Tryz.prog 30 #[.string Q1] w fun e w' => ∃ v, e = .returned (.tuple #[v, .string ⟨(restL Q1.data.toList).toArray⟩]) ∧ w'.ownsRow w.heap.size 9 1 v (outsE us (linesL s.data.toList)).length ((outsE us (linesL s.data.toList)).map strV) ∧ Below w.heap.size w w') := fun w => by
        have := implLines_any Q1 w hQ1s
        rw [show linesL Q1.data.toList = outsE us (linesL s.data.toList) by rw [hq1]; exact outsE_lines us _] at this
        exact this
      have hrm := fun j hj hj2 a p => room_at (linesL s.data.toList) us [] (mapB_le hm) (mapB_le (streamE_ok hm (linesL s.data.toList))) j hj hj2 (e := (a, p))
      have hrm2 : ∀ (j : Nat) (hj : j < (linesL s.data.toList).length) (hj2 : j < (outsE us (linesL s.data.toList)).length) (a p : Int), saysE (linesL s.data.toList)[j] = some (a, p) → (∃ q : Int, 500 ≤ q ∧ q ≤ 506 ∧ (outsE us (linesL s.data.toList))[j] = lpL 50 q ∧ portI xs (a, p) = q) ∨ ((outsE us (linesL s.data.toList))[j] = noneL ∧ xs.length = 6 ∧ portI xs (a, p) = 0) := by
        intro j hj hj2 a p h
        have := hrm j hj hj2 a p h
        rw [hx1]
        exact this
      have hol := outsE_len us (linesL s.data.toList)
      have hll := lines_len s.data.toList
      have hlz : ∀ x ∈ linesL s.data.toList, x.length ≤ 200 := fun x hx => by have := line_len hx; rw [len_list] at this; omega
      have hwx : wfE xs := by rw [hx1]; exact mapB_wf (streamE_ok hm _)
      have hoz : ∀ x ∈ outsE us (linesL s.data.toList), x.length ≤ 2097152 := fun x hx => by
        rw [← outsE_lines us, ← hq1] at hx
        have := line_len hx
        rw [len_list] at this
        omega
      obtain ⟨ls, hls⟩ : ∃ ls, ls = linesL s.data.toList := ⟨_, rfl⟩
      obtain ⟨os, hos⟩ : ∃ os, os = outsE us ls := ⟨_, rfl⟩
      obtain ⟨rs, hrs⟩ : ∃ rs, rs = (restL s.data.toList).toArray := ⟨_, rfl⟩
      obtain ⟨rq, hrq⟩ : ∃ rq, rq = (restL Q1.data.toList).toArray := ⟨_, rfl⟩
      rw [← hls] at HL HF hol hll hlz hrm2 hoz
      rw [← hos] at HF hol hrm2 hoz
      rw [← hrs] at HL
      rw [← hrq] at HF
      rw [len_list] at hll
      have hln : ls.length ≤ 200 := by omega
      have hon : os.length = ls.length := hol
      have HRM := Lib.hid hrm2
      have HOZ : Hid (∀ x ∈ os, x.length ≤ 2097152) := hoz
      have HLZ := Lib.hid hlz
      have HWX := Lib.hid hwx
      have HON := Lib.hid hon
      have hon2 : os.length ≤ 200 := by omega
      clear hls hos hrs hrq hm hs hx1 hq1 hrm hrm2 hol hon hll hlz hwx hoz HIA HSA HMO HSO
      go_wp2_with fail
      (go_at_call 30; refine (HL.out _).mono ?_; rintro e w8x ⟨vl, rfl, ol, qb⟩)
      have zb := qb.size
      replace ct0 := boxD ct0 qb
      replace lt : bt < w8x.heap.size := by omega
      replace cx0 := boxD cx0 qb
      replace lx : bx < w8x.heap.size := by omega
      replace cc0 := boxD cc0 qb
      replace lc : bc < w8x.heap.size := by omega
      replace Tt := Lib.hid (Tt.out.below qb)
      replace Tx := Lib.hid (Tx.out.below qb)
      replace BW := Lib.hid (BW.out.trans (qb.mono BW.out.size))
      clear qb zb
      obtain ⟨al, cl, rfl⟩ := own_form ol
      have RL := Lib.hid (RdV.of_own ol).1
      clear ol
      go_wp2_with fail
      (go_at_call 30; refine (HF.out _).mono ?_; rintro e w9x ⟨vo, rfl, oo, qb⟩)
      have zb := qb.size
      replace ct0 := boxD ct0 qb
      replace lt : bt < w9x.heap.size := by omega
      replace cx0 := boxD cx0 qb
      replace lx : bx < w9x.heap.size := by omega
      replace cc0 := boxD cc0 qb
      replace lc : bc < w9x.heap.size := by omega
      replace Tt := Lib.hid (Tt.out.below qb)
      replace Tx := Lib.hid (Tx.out.below qb)
      replace RL := Lib.hid (RL.out.below qb)
      replace BW := Lib.hid (BW.out.trans (qb.mono BW.out.size))
      clear qb zb
      obtain ⟨aq, cq, rfl⟩ := own_form oo
      have RO := Lib.hid (RdV.of_own oo).1
      clear oo
      clear ct0 lt cc0 lc Tt
      go_wp2_with fail
      go_loopw [13] (fun i wr => ∃ j : Nat, j ≤ ls.length ∧ i = .int .i64 j ∧ Below w9x.heap.size w9x wr) (fun i _ => ls.length - (intOf i).toNat)
      case atStart => exact ⟨0, Nat.zero_le _, rfl, Below.refl _ _⟩
      case round =>
        obtain ⟨j, hj, rfl, hb⟩ := hrel
        have HB := Lib.hid hb
        have ry := boxD cx0 hb
        have lx' : bx < wr.heap.size := Nat.lt_of_lt_of_le lx hb.size
        have TX := Lib.hid (Tx.out.below hb)
        have hWz := BW.out.size
        have BX := Lib.hid (BW.out.trans (hb.mono hWz))
        have rl := RL.out.below hb
        have ro := RO.out.below hb
        clear hb
        by_cases hlt : j < ls.length
        · have hlo : j < os.length := by have := HON.out; omega
          obtain ⟨ax, cx', ex, hrx⟩ := rl
          rw [List.length_map] at hrx
          simp at ex
          obtain ⟨ex1, ex2⟩ := ex
          subst ex1
          subst ex2
          obtain ⟨gx, hgx, rowx⟩ := hrx (by omega)
          subst hgx
          obtain ⟨ao', co', eo, hro⟩ := ro
          rw [List.length_map] at hro
          simp at eo
          obtain ⟨eo1, eo2⟩ := eo
          subst eo1
          subst eo2
          obtain ⟨go, hgo, rowo⟩ := hro (by omega)
          subst hgo
          have cX := (rowx j (by simpa using hlt)).1
          have cO := (rowo j (by simpa using hlo)).1
          simp only [List.getElem_map] at cX cO
          have hyl := HLZ.out ls[j] (List.getElem_mem hlt)
          have hroom := HRM.out j hlt hlo
          have hol := HOZ.out os[j] (List.getElem_mem hlo)
          obtain ⟨y, hy⟩ : ∃ y, y = ls[j] := ⟨_, rfl⟩
          obtain ⟨o, ho⟩ : ∃ o, o = os[j] := ⟨_, rfl⟩
          rw [← hy] at cX hyl hroom
          rw [← ho] at cO hroom hol
          have HROOM := Lib.hid hroom
          obtain ⟨ea, ep, eb, hsv, hsc⟩ : ∃ (ea ep : Int) (eb : Bool), saysV (saysE y) = .tuple #[.agg #[.int .i64 ea, .int .i64 ep], .bool eb] ∧ (eb = true → saysE y = some (ea, ep)) := by
            rcases saysE y with _ | ⟨a, p⟩
            · exact ⟨0, 0, false, rfl, fun e => by cases e⟩
            · exact ⟨a, p, true, rfl, fun _ => rfl⟩
          have HSC := Lib.hid hsc
          have HSY : Hid (∀ w, VarsOk w → Calls Tryz.prog 20 #[strV y] w fun e w' => e = .returned (.tuple #[.agg #[.int .i64 ea, .int .i64 ep], .bool eb]) ∧ Below w.heap.size w w') := fun w hv => by
            rw [← hsv]
            exact implSays_any ⟨y.toArray⟩ w (by show y.toArray.size ≤ _; simp; omega) hv
          have hj2 : (j : Int) ≤ 200 := by omega
          have lo' : go < wr.heap.size := World.block_lt_of_cell? wr _ cO
          clear rowx rowo hrx hro hy ho hroom hsv hsc hyl
          simp only [strV] at cX cO HSY
          go_wp2_with fail
          (go_at_call 20; refine (HSY.out _ (HV.out _ BX.out)).mono ?_; rintro e w21 ⟨rfl, b21⟩)
          have z21 := b21.size
          have hXz := BX.out.size
          have B21 : Hid (Below w9x.heap.size w9x w21) := HB.out.trans (b21.mono HB.out.size)
          have r21 := boxD ry b21
          have o21 := boxD cO b21
          have T21 := Lib.hid (TX.out.below b21)
          clear b21 cX
          have lx2 : bx < w21.heap.size := by omega
          have lo2 : go < w21.heap.size := by omega
          cases eb
          · have BA : Hid (∀ o, Below w9x.heap.size w9x (w21.alloc o)) := fun o => B21.out.alloc B21.out.size o
            go_wp2_with fail
            go_roundw
            case rel => exact ⟨j + 1, by omega, by go_num, BA.out _⟩
            case measure => simp [intOf]; omega
          · have hsy := HSC.out (by simp)
            have ao0 : ∀ oo, (w21.alloc oo).cell? ⟨go, j, none⟩ = some (.string ⟨o.toArray⟩) := fun oo => by rw [cell_alloc_lt lo2]; exact o21
            obtain ⟨bp, bb, hbv, hbb⟩ : ∃ (bp : Int) (bb : Bool), boxV (boxE o) = .tuple #[.int .i64 bp, .bool bb] ∧ ((bb = true ∧ 500 ≤ bp ∧ portI xs (ea, ep) = bp) ∨ (bb = false ∧ (⟨o.toArray⟩ : ByteArray) = ⟨#[110, 111, 110, 101]⟩ ∧ xs.length = 6 ∧ portI xs (ea, ep) = 0)) := by
              rcases HROOM.out ea ep hsy with ⟨q, h5, h6, h1, h2⟩ | ⟨h1, h2, h3⟩
              · refine ⟨q, true, ?_, .inl ⟨rfl, h5, h2⟩⟩
                rw [h1, box_lpL (box_end h5 h6)]; rfl
              · refine ⟨0, false, ?_, .inr ⟨rfl, by rw [h1]; rfl, h2, h3⟩⟩
                rw [h1]; rfl
            have HBX : Hid (∀ w, VarsOk w → Calls Tryz.prog 44 #[.string ⟨o.toArray⟩] w fun e w' => e = .returned (.tuple #[.int .i64 bp, .bool bb]) ∧ Below w.heap.size w w') := fun w hv => by
              rw [← hbv]
              exact implBox_any ⟨o.toArray⟩ w (by show o.toArray.size ≤ _; simp; omega) hv
            have hins := ins_wf (says_ins hsy)
            obtain ⟨r, hr⟩ : ∃ r, r = portI xs (ea, ep) := ⟨_, rfl⟩
            have HPO : Hid (∀ w, TabAt w (.slice g3 xs.length k3) xs → Calls Tryz.prog 24 #[.agg #[.slice g3 xs.length k3], .agg #[.int .i64 ea, .int .i64 ep]] w fun e w' => e = .returned (.int .i64 r) ∧ Below w.heap.size w w') := fun w ht => by rw [hr]; exact implMapPort_any _ xs ea ep w (by omega) HWX.out hins.1 hins.2 ht
            rw [← hr] at hbb
            clear hbv hins hr hsy HROOM HSC HSY cO ry
            go_wp2_with fail
            obtain ⟨W22, hW22⟩ : ∃ W, W = w21.alloc (.cells #[.int .i64 ea, .int .i64 ep] 34) := ⟨_, rfl⟩
            have q22 : Below w21.heap.size w21 W22 := by rw [hW22]; exact (Below.refl _ _).alloc (Nat.le_refl _) _
            have r22 := boxD r21 q22
            have o22 := boxD o21 q22
            have T22 := Lib.hid (T21.out.below q22)
            have B22 := Lib.hid (B21.out.trans (q22.mono B21.out.size))
            have e0 : W22.cell? ⟨w21.heap.size, 0, none⟩ = some (.int .i64 ea) := by rw [hW22]; simp
            have e1 : W22.cell? ⟨w21.heap.size, 1, none⟩ = some (.int .i64 ep) := by rw [hW22]; simp
            rw [← hW22]
            obtain ⟨be, hbe⟩ : ∃ b, b = w21.heap.size := ⟨_, rfl⟩
            rw [← hbe] at e0 e1 ⊢
            clear hbe hW22 q22 ao0 r21 o21 T21 B21 z21 lx2 lo2
            have V22 := Lib.hid (HV.out _ (BW.out.trans (B22.out.mono BW.out.size)))
            (go_at_call 44; refine (HBX.out _ V22.out).mono ?_; rintro e w23 ⟨rfl, b23⟩)
            have r23 := boxD r22 b23
            have o23 := boxD o22 b23
            have e2 := boxD e0 b23
            have e3 := boxD e1 b23
            have T23 := Lib.hid (T22.out.below b23)
            have B23 := Lib.hid (B22.out.trans (b23.mono B22.out.size))
            clear r22 o22 e0 e1 T22 B22 b23 V22 HBX
            rcases hbb with ⟨rfl, h5, rfl⟩ | ⟨rfl, hno, h6, rfl⟩
            · have h5n : ¬ r < 500 := by omega
              go_wp2_with fail
              (go_at_call 24; refine (HPO.out _ T23.out).mono ?_; rintro e w24 ⟨rfl, b24⟩)
              have B24 := Lib.hid (B23.out.trans (b24.mono B23.out.size))
              clear b24
              go_wp2_with fail
              go_roundw
              case rel => exact ⟨j + 1, by omega, by go_num, B24.out⟩
              case measure => simp [intOf]; omega
            · rw [hno] at o23
              have h6i : (xs.length : Int) = 6 := by omega
              clear hno h6
              go_wp2_with fail
              (go_at_call 24; refine (HPO.out _ T23.out).mono ?_; rintro e w24 ⟨rfl, b24⟩)
              have B24 := Lib.hid (B23.out.trans (b24.mono B23.out.size))
              clear b24
              go_wp2_with fail
              go_roundw
              case rel => exact ⟨j + 1, by omega, by go_num, B24.out⟩
              case measure => simp [intOf]; omega
        · have BR := BX
          go_wp2_with fail
          (go_at_call 19; refine (haOk_any _).mono ?_; rintro e wl ⟨rfl, rfl⟩)
          go_wp2_with fail
          go_ret
          exact ⟨rfl, BR.out⟩

set_option maxRecDepth 100000 in
set_option maxHeartbeats 800000 in
theorem lwRwrRoom_any (ao : Option Addr) (n cap : Nat) (w : World) (h : BytesIn w ao n) (hn : n ≤ cap) (hv : VarsOk w) :
    Calls Tryz.prog 11 #[.slice ao n cap] w fun e w' => e = .returned (.bool true) ∧ Below w.heap.size w w' := by
  by_cases hb1 : 1048576 < n
  · clear h hv
    go_enter Tryz.func11, Tryz.ntmps11
    go_wp2_with fail
    go_ret
    exact ⟨rfl, Below.refl _ _⟩
  · exact lwRwrRoom_of ao n cap w h hn hv hb1

end Go.Proofs.YtoidmmedpefjfaaGreatDoor
