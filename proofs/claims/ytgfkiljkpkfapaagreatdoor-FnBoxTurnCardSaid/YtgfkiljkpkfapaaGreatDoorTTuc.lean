/- How the laws compare two boxes: of the same they say that they are the same. Condition: at most 2^22 rules, ends and streams each. (Several texts, joined: MapP, PutP, Stays, BoxPut, GTurn, HaNew, HaBox.) -/
import Derived.Test.YtgfkiljkpkfapaaGreatDoorTPlb
import Derived.Test.YtgfkiljkpkfapaaGreatDoorTTub
import Derived.Test.YtgfkiljkpkfapaaGreatDoorTPld
import Derived.Test.YtgfkiljkpkfapaaGreatDoorTPlh
import Derived.Test.YtgfkiljkpkfapaaGreatDoorTTua
import Derived.Test.YtgfkiljkpkfapaaGreatDoorRulLaw
import Derived.Test.YtgfkiljkpkfapaaGreatDoorHaEnds
import Derived.Test.YtgfkiljkpkfapaaGreatDoorTPlg
import Derived.Test.YtgfkiljkpkfapaaGreatDoorTPle
import Derived.BigQuiet

/- Ports and ends of a table are each other's, as data. No condition. -/
namespace Go.Proofs.YtgfkiljkpkfapaaGreatDoor
open Go.RowKit

theorem mapB_take {es : List (Int × Int)} (hm : mapB es = true) {k : Nat} (hk : k < es.length) : es[k] ∉ es.take k := by
  unfold mapB at hm
  simp only [Bool.and_eq_true, decide_eq_true_eq, List.all_eq_true, List.mem_range] at hm
  have := hm.2 k hk
  unfold mapP at this
  simp only [Bool.and_eq_true, decide_eq_true_eq] at this
  rw [List.getD_eq_getElem?_getD, List.getElem?_eq_getElem hk] at this
  exact findI_neg.1 this.2
theorem findI_at {es : List (Int × Int)} (hm : mapB es = true) {k : Nat} (hk : k < es.length) : findI es es[k] = k := by
  obtain ⟨j, hj, he, hn, hf⟩ := findI_mem (List.getElem_mem hk)
  rw [hf]
  rcases Nat.lt_trichotomy j k with h | h | h
  · exfalso
    refine mapB_take hm hk ?_
    rw [← he]
    exact List.mem_take_iff_getElem.2 ⟨j, by omega, rfl⟩
  · rw [h]
  · exfalso
    exact hn (List.mem_take_iff_getElem.2 ⟨k, by omega, rfl⟩)
end Go.Proofs.YtgfkiljkpkfapaaGreatDoor

/- An end more in a table, as data: who has which port then. No condition. -/
namespace Go.Proofs.YtgfkiljkpkfapaaGreatDoor
open Go.RowKit

theorem findI_app {us vs : List (Int × Int)} {x : Int × Int} (h : x ∈ us) : findI (us ++ vs) x = findI us x := by
  obtain ⟨k, hk, he, hn, hf⟩ := findI_mem h
  rw [hf]
  refine findI_hit (by rw [List.length_append]; omega) (by rw [List.getElem_append_left hk]; exact he) (fun j hj hje => hn ?_)
  rw [List.getElem_append_left (by omega)] at hje
  exact List.mem_take_iff_getElem.2 ⟨j, by omega, hje⟩
theorem portI_app {us vs : List (Int × Int)} {x : Int × Int} (h : x ∈ us) : portI (us ++ vs) x = portI us x := by
  unfold portI; rw [findI_app h]
theorem portI_pos' {es : List (Int × Int)} {e : Int × Int} : 0 < portI es e ↔ e ∈ es := by
  constructor
  · intro h
    refine Classical.byContradiction fun hn => ?_
    unfold portI at h
    rw [if_pos (findI_neg.2 hn)] at h
    omega
  · intro h
    unfold portI
    rw [if_neg (fun h2 => findI_neg.1 h2 h)]
    have := findI_bounds es e
    have h3 : ¬ findI es e < 0 := fun h2 => findI_neg.1 h2 h
    omega
theorem putE_fst (us : List (Int × Int)) (e : Int × Int) : (putE us e).1 = if e ∈ us ∨ us.length = 6 then us else us ++ [e] := by
  by_cases h : e ∈ us
  · rw [putE_has h, if_pos (.inl h)]
  · by_cases h6 : us.length = 6
    · rw [putE_full h h6, if_pos (.inr h6)]
    · rw [putE_new h h6, if_neg (by rintro (h1 | h1); exact h h1; exact h6 h1)]
theorem putE_pre (us : List (Int × Int)) (e : Int × Int) : ∃ t, (putE us e).1 = us ++ t ∧ t.length ≤ 1 := by
  rw [putE_fst]
  split
  · exact ⟨[], by simp, by simp⟩
  · exact ⟨[e], rfl, by simp⟩
theorem putE_port {us : List (Int × Int)} {e : Int × Int} (h : (putE us e).2 ≠ 0) : portI (putE us e).1 e = (putE us e).2 := by
  by_cases hm : e ∈ us
  · rw [putE_has hm]
  · by_cases h6 : us.length = 6
    · rw [putE_full hm h6] at h; exact absurd rfl h
    · rw [putE_new hm h6]
      show portI (us ++ [e]) e = _
      unfold portI
      have : findI (us ++ [e]) e = (us.length : Int) := by
        refine findI_hit (k := us.length) (by simp) (by simp) (fun j hj hje => hm ?_)
        rw [List.getElem_append_left hj] at hje
        rw [← hje]; exact List.getElem_mem _
      rw [this, if_neg (by omega)]
theorem putE_zero {us : List (Int × Int)} {e : Int × Int} (h : (putE us e).2 = 0) : portI us e = 0 ∧ us.length = 6 ∧ (putE us e).1 = us := by
  by_cases hm : e ∈ us
  · have := portI_pos'.2 hm
    rw [putE_has hm] at h
    simp only at h
    omega
  · by_cases h6 : us.length = 6
    · refine ⟨?_, h6, by rw [putE_full hm h6]⟩
      have : ¬ 0 < portI us e := fun h2 => hm (portI_pos'.1 h2)
      unfold portI at this ⊢
      rw [if_pos (findI_neg.2 hm)]
    · rw [putE_new hm h6] at h
      simp only at h
      omega
theorem putE_snd_bound (us : List (Int × Int)) (e : Int × Int) (h6 : us.length ≤ 6) : 0 ≤ (putE us e).2 ∧ (putE us e).2 ≤ 506 := by
  have hb := findI_bounds us e
  unfold putE
  split
  · unfold portI; simp only; split <;> omega
  · split
    · simp
    · simp only; omega
end Go.Proofs.YtgfkiljkpkfapaaGreatDoor

/- What goes outside once goes so again: with the table behind it, and with any that has more ends behind these; and so does each beginning. No condition. -/
namespace Go.Proofs.YtgfkiljkpkfapaaGreatDoor
open Go.RowKit

theorem putE_six' {T : List (Int × Int)} {e : Int × Int} (h : T.length ≤ 6) : (putE T e).1.length ≤ 6 := by
  rw [putE_fst]
  split
  · exact h
  · rename_i hn
    have : T.length ≠ 6 := fun h6 => hn (.inr h6)
    simp; omega
theorem putE_again {T t : List (Int × Int)} {e : Int × Int} (h : T.length ≤ 6) (h2 : ((putE T e).1 ++ t).length ≤ 6) : putE ((putE T e).1 ++ t) e = ((putE T e).1 ++ t, (putE T e).2) := by
  by_cases hm : e ∈ T
  · rw [putE_has hm]
    rw [putE_has (List.mem_append_left _ hm)]
    rw [portI_app hm]
  · by_cases h6 : T.length = 6
    · rw [putE_full hm h6] at h2 ⊢
      have ht : t = [] := by
        rcases t with _ | ⟨x, r⟩
        · rfl
        · simp at h2; omega
      subst ht
      simp only [List.append_nil]
      rw [putE_full hm h6]
    · have hp : (putE T e).2 ≠ 0 := by rw [putE_new hm h6]; simp only; omega
      have hq := putE_port hp
      rw [putE_new hm h6] at hq ⊢
      have hm2 : e ∈ T ++ [e] := by simp
      rw [putE_has (List.mem_append_left _ hm2), portI_app hm2]
      simp only at hq ⊢
      rw [hq]
theorem lineE_pre (T : List (Int × Int)) (l : List UInt8) : ∃ t, (lineE T l).1 = T ++ t := by
  rcases h : saysE l with _ | e
  · exact ⟨[], by rw [lineE_none h]; simp⟩
  · obtain ⟨t, ht, _⟩ := putE_pre T e
    exact ⟨t, by rw [lineE_some h]; exact ht⟩
theorem lineE_six {T : List (Int × Int)} {l : List UInt8} (h : T.length ≤ 6) : (lineE T l).1.length ≤ 6 := by
  rcases hs : saysE l with _ | e
  · rw [lineE_none hs]; exact h
  · rw [lineE_some hs]; exact putE_six' h
theorem lineE_again {T t : List (Int × Int)} {l : List UInt8} (h : T.length ≤ 6) (h2 : ((lineE T l).1 ++ t).length ≤ 6) : lineE ((lineE T l).1 ++ t) l = ((lineE T l).1 ++ t, (lineE T l).2) := by
  rcases hs : saysE l with _ | e
  · rw [lineE_none hs, lineE_none hs]
  · rw [lineE_some hs] at h2 ⊢
    simp only at h2 ⊢
    rw [lineE_some hs, putE_again h h2]
theorem fold_pre (ls : List (List UInt8)) (T : List (Int × Int)) (p : List UInt8) : ∃ t, (ls.foldl strF (T, p)).1 = T ++ t := by
  induction ls generalizing T p with
  | nil => exact ⟨[], by simp⟩
  | cons l r ih =>
    obtain ⟨t1, h1⟩ := lineE_pre T l
    obtain ⟨t2, h2⟩ := ih (lineE T l).1 (p ++ (lineE T l).2 ++ [59])
    refine ⟨t1 ++ t2, ?_⟩
    rw [List.foldl_cons, show strF (T, p) l = ((lineE T l).1, p ++ (lineE T l).2 ++ [59]) from rfl, h2, h1, List.append_assoc]
theorem fold_again (ls : List (List UInt8)) (T t : List (Int × Int)) (p : List UInt8) (h : T.length ≤ 6) (h2 : ((ls.foldl strF (T, p)).1 ++ t).length ≤ 6) :
    ls.foldl strF ((ls.foldl strF (T, p)).1 ++ t, p) = ((ls.foldl strF (T, p)).1 ++ t, (ls.foldl strF (T, p)).2) := by
  induction ls generalizing T p with
  | nil => rfl
  | cons l r ih =>
    have e1 : strF (T, p) l = ((lineE T l).1, p ++ (lineE T l).2 ++ [59]) := rfl
    simp only [List.foldl_cons, e1] at h2 ⊢
    obtain ⟨t1, ht1⟩ := fold_pre r (lineE T l).1 (p ++ (lineE T l).2 ++ [59])
    have hE : (r.foldl strF ((lineE T l).1, p ++ (lineE T l).2 ++ [59])).1 ++ t = (lineE T l).1 ++ (t1 ++ t) := by rw [ht1, List.append_assoc]
    have hl := lineE_again (t := t1 ++ t) h (by rw [← hE]; exact h2)
    have e2 : strF ((r.foldl strF ((lineE T l).1, p ++ (lineE T l).2 ++ [59])).1 ++ t, p) l = ((r.foldl strF ((lineE T l).1, p ++ (lineE T l).2 ++ [59])).1 ++ t, p ++ (lineE T l).2 ++ [59]) := by
      rw [hE]
      show ((lineE ((lineE T l).1 ++ (t1 ++ t)) l).1, p ++ (lineE ((lineE T l).1 ++ (t1 ++ t)) l).2 ++ [59]) = _
      rw [hl]
    rw [e2]
    exact ih (lineE T l).1 (p ++ (lineE T l).2 ++ [59]) (lineE_six h) h2
end Go.Proofs.YtgfkiljkpkfapaaGreatDoor

/- A box in which one more end has a port is ok; where ends and ports are; as data. No condition. -/
namespace Go.Proofs.YtgfkiljkpkfapaaGreatDoor
open Go.RowKit Go.Sort

theorem know_more {es t : List (Int × Int)} {l : List UInt8} (hl : (es ++ t).length ≤ 6) (h : knowB es l = true) : knowB (es ++ t) l = true := by
  unfold knowB at h ⊢
  simp only [decide_eq_true_eq] at h ⊢
  obtain ⟨t1, ht⟩ := fold_pre (linesL l) es []
  have e0 : (streamE es (linesL l)).1 = es ++ t1 := ht
  have h0 : t1 = [] := by
    rw [e0, List.length_append] at h
    exact List.eq_nil_of_length_eq_zero (by omega)
  rw [h0, List.append_nil] at ht
  have h6 := fold_again (linesL l) es t [] (by rw [List.length_append] at hl; omega) (by rw [ht]; exact hl)
  rw [ht] at h6
  unfold streamE
  rw [h6]
theorem endI_more {es t : List (Int × Int)} {p : Int} {e : Int × Int} (h : endI es p = some e) : endI (es ++ t) p = some e := by
  unfold endI at h ⊢
  split at h
  · rename_i hp
    rw [if_pos (by rw [List.length_append]; omega), List.getElem?_append_left (by omega)]
    exact h
  · cases h
theorem near_more {es t : List (Int × Int)} {he ne : List UInt8} (h : nearB es he ne = true) : nearB (es ++ t) he ne = true := by
  unfold nearB at h ⊢
  simp only [Bool.and_eq_true, List.all_eq_true] at h ⊢
  refine ⟨h.1, fun k hk => ?_⟩
  have h1 := h.2 k hk
  unfold nearAt at h1 ⊢
  simp only [Bool.or_eq_true, decide_eq_true_eq] at h1 ⊢
  rcases h1 with h1 | h1
  · exact .inl h1
  · cases hb : boxE ((linesL he).getD k []) with
    | none =>
      left
      rw [h1]
      unfold backE
      rw [hb]
    | some p =>
      cases hx : endI es p with
      | none =>
        left
        rw [h1]
        unfold backE
        rw [hb]
        simp only [hx]
      | some e =>
        right
        rw [h1]
        unfold backE
        rw [hb]
        simp only [hx, endI_more hx]
theorem con_more {es t : List (Int × Int)} {c : Cn} (hl : (es ++ t).length ≤ 6) (h : conB es c = true) : conB (es ++ t) c = true := by
  unfold conB at h ⊢
  simp only [Bool.and_eq_true, decide_eq_true_eq] at h ⊢
  obtain ⟨⟨⟨⟨⟨⟨h1, h2⟩, h3⟩, h4⟩, h5⟩, h6⟩, h7, h8⟩ := h
  refine ⟨⟨⟨⟨⟨⟨h1, h2⟩, h3⟩, ?_⟩, h5⟩, h6⟩, know_more hl h7, near_more h8⟩
  have hm : (c.ia, c.ip) ∈ es := by
    rw [← portI_pos']
    by_cases hp : 0 < portI es (c.ia, c.ip)
    · exact hp
    · rw [portI_zero_iff] at hp
      exact absurd (portI_not hp) h4
  rw [portI_app hm]
  exact h4
/-- One more end with a port. -/
theorem box_put {b : Bx} {e : Int × Int} (h : boxOkB b = true) (hi : insB e.1 e.2 = true) : boxOkB ⟨b.rs, (putE b.es e).1, b.cs⟩ = true := by
  obtain ⟨h1, h2, h3, h4⟩ := boxOk_parts h
  have hm := putE_ok h1 hi
  refine boxOk_of hm h2 h3 fun k hk => ?_
  have hl := mapB_le hm
  obtain ⟨t, ht, -⟩ := putE_pre b.es e
  show connB (putE b.es e).1 b.cs k = true
  rw [ht] at hl ⊢
  have h5 := h4 k hk
  unfold connB at h5 ⊢
  simp only [Bool.and_eq_true] at h5 ⊢
  exact ⟨con_more hl h5.1, h5.2⟩
/-- The end of a port has that port. -/
theorem end_port {es : List (Int × Int)} {p : Int} {e : Int × Int} (hm : mapB es = true) (h : endI es p = some e) : portI es e = p ∧ e ∈ es := by
  by_cases hp : 500 ≤ p ∧ p ≤ 500 + (es.length : Int) - 1
  · obtain ⟨k, hk, e1, e2⟩ := endI_hit hp
    rw [h] at e2
    injection e2 with e2
    subst e2
    refine ⟨?_, List.getElem_mem _⟩
    unfold portI
    rw [findI_at hm hk, if_neg (by omega)]
    omega
  · rw [endI_miss hp] at h; cases h
/-- The port of an end is of that end. -/
theorem port_end {es : List (Int × Int)} {e : Int × Int} (h : portI es e ≠ 0) : endI es (portI es e) = some e := by
  have hm : e ∈ es := by
    by_cases hp : 0 < portI es e
    · exact portI_pos'.1 hp
    · rw [portI_zero_iff] at hp
      exact absurd (portI_not hp) h
  obtain ⟨k, hk, e1, -, e2⟩ := findI_mem hm
  have e3 : portI es e = 500 + (k : Int) := by unfold portI; rw [e2, if_neg (by omega)]
  rw [e3]
  unfold endI
  rw [if_pos (by omega), show (500 + (k : Int) - 500).toNat = k from by omega, List.getElem?_eq_getElem hk, e1]
/-- What goes back to a port of the box's. -/
theorem back_seg {ta tp p : Int} (h : insB ta tp = true) (h1 : 1 ≤ p) (h2 : p ≤ 999) : segOkB ⟨ta, tp, 50, p, 0, 0, []⟩ = true := by
  have e1 : boxB 50 p = true := by simp [boxB, inB]; omega
  unfold segOkB
  simp only [endB, h, e1]
  rfl

end Go.Proofs.YtgfkiljkpkfapaaGreatDoor

/- BoxTurn of both sides in one form, and what it is, at a box whose lists lie at any address. Conditions: as BoxOk. -/
namespace Go.Proofs.YtgfkiljkpkfapaaGreatDoor
open Go.RowKit Go.Sort

/-- What BoxTurn answers: nothing of a box that is not ok; the box itself and nothing, where nobody is to hear; else the box with a port for who sent, and the segment from there. -/
def TurnF (b : Bx) (sa sp da dp sq ak : Int) (d : ByteArray) (ub : Bx) (a0 a1 a2 a3 a4 a5 : Int) (s : ByteArray) (bb : Bool) : Prop :=
  (boxOkB b = false ∧ ub = ⟨[], [], []⟩ ∧ bb = false ∧ a0 = 0 ∧ a1 = 0 ∧ a2 = 0 ∧ a3 = 0 ∧ a4 = 0 ∧ a5 = 0 ∧ s = ByteArray.empty) ∨
  (boxOkB b = true ∧ ub = b ∧ (bb = false ∧ a0 = 0 ∧ a1 = 0 ∧ a2 = 0 ∧ a3 = 0 ∧ a4 = 0 ∧ a5 = 0 ∧ s = ByteArray.empty) ∧ (endI b.es dp = none ∨ segOkB ⟨sa, sp, da, dp, sq, ak, d.data.toList⟩ = false ∨ insB sa sp = false ∨ da ≠ 50 ∨ ((putE b.es (sa, sp)).2 = 0 ∧ b.es.length = 6))) ∨
  (boxOkB b = true ∧ segOkB ⟨sa, sp, da, dp, sq, ak, d.data.toList⟩ = true ∧ insB sa sp = true ∧ da = 50 ∧ (putE b.es (sa, sp)).2 ≠ 0 ∧ ub = ⟨b.rs, (putE b.es (sa, sp)).1, b.cs⟩ ∧ ∃ ta tp, endI b.es dp = some (ta, tp) ∧ bb = true ∧ a0 = 50 ∧ a1 = (putE b.es (sa, sp)).2 ∧ a2 = ta ∧ a3 = tp ∧ a4 = sq ∧ a5 = ak ∧ s = d)
theorem turn_why {b : Bx} {sa sp da dp sq ak : Int} {d : List UInt8} (hg : (segOkB ⟨sa, sp, da, dp, sq, ak, d⟩ && insB sa sp && boxB da dp && (endI b.es dp).isSome) = false) : endI b.es dp = none ∨ segOkB ⟨sa, sp, da, dp, sq, ak, d⟩ = false ∨ insB sa sp = false ∨ da ≠ 50 ∨ ((putE b.es (sa, sp)).2 = 0 ∧ b.es.length = 6) := by
  cases h1 : segOkB ⟨sa, sp, da, dp, sq, ak, d⟩ with
  | false => exact .inr (.inl rfl)
  | true =>
    cases h2 : insB sa sp with
    | false => exact .inr (.inr (.inl rfl))
    | true =>
      by_cases h3 : da = 50
      · have h4 := seg_box h1 h3
        rw [h1, h2, h4] at hg
        cases hx : endI b.es dp with
        | none => exact .inl rfl
        | some y => rw [hx] at hg; simp at hg
      · exact .inr (.inr (.inr (.inl h3)))

set_option maxHeartbeats 1600000 in
theorem turn_bothG (b : Bx) (sa sp da dp sq ak : Int) (d : ByteArray) (hs : bxSz b) (hwf : wfE b.es) (hcw : cnWf b.cs) (hd : d.size ≤ 2097152) (wd : (Lit.int .i64 dp).wf = true) :
    ∃ (ub : Bx) (a0 a1 a2 a3 a4 a5 : Int) (s : ByteArray) (bb : Bool), (ub.rs.length ≤ 1048577 ∧ ub.es.length ≤ 1048577 ∧ ub.cs.length ≤ 1048577) ∧ TurnF b sa sp da dp sq ak d ub a0 a1 a2 a3 a4 a5 s bb ∧
      (∀ B v w, B ≤ w.heap.size → GBx w B v b → Calls Tryz.prog 8 #[v, .agg #[.int .i64 sa, .int .i64 sp, .int .i64 da, .int .i64 dp, .int .i64 sq, .int .i64 ak, .string d]] w (TurnR w ub a0 a1 a2 a3 a4 a5 s bb)) ∧
      (∀ B v w, GBx w B v b → OwF w B v b → VarsOk w → TabOk w → Calls Tryz.prog 7 #[v, .agg #[.int .i64 sa, .int .i64 sp, .int .i64 da, .int .i64 dp, .int .i64 sq, .int .i64 ak, .string d]] w (TurnR w ub a0 a1 a2 a3 a4 a5 s bb)) := by
  have hr := hs.1
  have he := hs.2.1
  have hc := hs.2.2.1
  cases hok : boxOkB b
  · refine ⟨⟨[], [], []⟩, 0, 0, 0, 0, 0, 0, ByteArray.empty, false, by simp, .inl ⟨hok, rfl, rfl, rfl, rfl, rfl, rfl, rfl, rfl, rfl⟩, fun B v w hB ho => ?_, fun B v w ho hf hv ht => ?_⟩
    · refine (specTurn_notG B v b sa sp da dp sq ak d w hs hB ho hok).mono ?_
      rintro e w' ⟨rfl, hb⟩
      exact ⟨_, rfl, FrBx.zero _ _, hb⟩
    · refine (implTurn_notG B v b sa sp da dp sq ak d w hs hwf hcw ho hf hv ht hok).mono ?_
      rintro e w' ⟨rfl, hb⟩
      exact ⟨_, rfl, FrBx.zero _ _, hb⟩
  · cases hg : (segOkB ⟨sa, sp, da, dp, sq, ak, d.data.toList⟩ && insB sa sp && boxB da dp && (endI b.es dp).isSome)
    · refine ⟨b, 0, 0, 0, 0, 0, 0, ByteArray.empty, false, by omega, .inr (.inl ⟨hok, rfl, ⟨rfl, rfl, rfl, rfl, rfl, rfl, rfl, rfl⟩, turn_why hg⟩), fun B v w hB ho => ?_, fun B v w ho hf hv ht => ?_⟩
      · cases hg2 : (segOkB ⟨sa, sp, da, dp, sq, ak, d.data.toList⟩ && insB sa sp && decide (da = 50))
        · refine (specTurn_stayG B v b sa sp da dp sq ak d w hs hB ho hok hd hg2).mono ?_
          rintro e w' ⟨u, rfl, hu, hb⟩
          exact ⟨_, rfl, hu.fr, hb⟩
        · simp only [Bool.and_eq_true, decide_eq_true_eq] at hg2
          obtain ⟨⟨gS, gI⟩, gD⟩ := hg2
          have gB := seg_box gS gD
          rw [gS, gI, gB] at hg
          have hE : endV (endI b.es dp) = .tuple #[.agg #[.int .i64 0, .int .i64 0], .bool false] := by
            cases hx : endI b.es dp with
            | none => rfl
            | some y => rw [hx] at hg; simp at hg
          refine (specTurn_goG B v b sa sp da dp sq ak d w hs hB ho hok hd 0 0 false gS gI gD hE).mono ?_
          rintro e w' ⟨u, rfl, hu, hb⟩
          exact ⟨u, by simp [zeroSg], by simpa using hu.fr, hb⟩
      · refine (implTurn_noG B v b sa sp da dp sq ak d w hs hcw ho hf hv ht hok hd wd hwf hg).mono ?_
        rintro e w' ⟨u, rfl, hu, hb⟩
        exact ⟨_, rfl, hu.fr, hb⟩
    · simp only [Bool.and_eq_true] at hg
      obtain ⟨⟨⟨gS, gI⟩, gB⟩, gE⟩ := hg
      obtain ⟨⟨ta, tp⟩, hE⟩ := Option.isSome_iff_exists.1 gE
      have gD := box_fifty gB
      have hgo : (segOkB ⟨sa, sp, da, dp, sq, ak, d.data.toList⟩ && insB sa sp && boxB da dp) = true := by rw [gS, gI, gB]; rfl
      have hE2 : endV (endI b.es dp) = .tuple #[.agg #[.int .i64 ta, .int .i64 tp], .bool true] := by rw [hE]; rfl
      have hp := putE_len b.es (sa, sp)
      by_cases h0 : (putE b.es (sa, sp)).2 = 0
      · refine ⟨⟨b.rs, (putE b.es (sa, sp)).1, b.cs⟩, 0, 0, 0, 0, 0, 0, ByteArray.empty, false, ⟨by show b.rs.length ≤ _; omega, by show (putE b.es (sa, sp)).1.length ≤ _; omega, by show b.cs.length ≤ _; omega⟩, .inr (.inl ⟨hok, by rw [(putE_zero h0).2.2], ⟨rfl, rfl, rfl, rfl, rfl, rfl, rfl, rfl⟩, .inr (.inr (.inr (.inr ⟨h0, (putE_zero h0).2.1⟩)))⟩), fun B v w hB ho => ?_, fun B v w ho hf hv ht => ?_⟩
        · refine (specTurn_goG B v b sa sp da dp sq ak d w hs hB ho hok hd ta tp true gS gI gD hE2).mono ?_
          rintro e w' ⟨u, rfl, hu, hb⟩
          exact ⟨u, by simp [zeroSg, h0], by simpa using hu.fr, hb⟩
        · refine (implTurn_yesG B v b sa sp da dp sq ak d w hs hcw ho hf hv ht hok hd wd hwf ta tp hgo hE).mono ?_
          rintro e w' ⟨u, rfl, hu, hb⟩
          exact ⟨u, by simp [zeroSg, h0], hu.fr, hb⟩
      · refine ⟨⟨b.rs, (putE b.es (sa, sp)).1, b.cs⟩, 50, (putE b.es (sa, sp)).2, ta, tp, sq, ak, d, true, ⟨by show b.rs.length ≤ _; omega, by show (putE b.es (sa, sp)).1.length ≤ _; omega, by show b.cs.length ≤ _; omega⟩, .inr (.inr ⟨hok, gS, gI, gD, h0, rfl, ta, tp, hE, rfl, rfl, rfl, rfl, rfl, rfl, rfl, rfl⟩), fun B v w hB ho => ?_, fun B v w ho hf hv ht => ?_⟩
        · refine (specTurn_goG B v b sa sp da dp sq ak d w hs hB ho hok hd ta tp true gS gI gD hE2).mono ?_
          rintro e w' ⟨u, rfl, hu, hb⟩
          exact ⟨u, by simp [h0], by simpa using hu.fr, hb⟩
        · refine (implTurn_yesG B v b sa sp da dp sq ak d w hs hcw ho hf hv ht hok hd wd hwf ta tp hgo hE).mono ?_
          rintro e w' ⟨u, rfl, hu, hb⟩
          exact ⟨u, by simp [h0], hu.fr, hb⟩

/-- What comes back of a segment that went. -/
theorem turn_back {b : Bx} {sa sp dp ta tp : Int} (hok : boxOkB b = true) (hI : insB sa sp = true) (hE : endI b.es dp = some (ta, tp)) (h0 : (putE b.es (sa, sp)).2 ≠ 0) :
    boxOkB ⟨b.rs, (putE b.es (sa, sp)).1, b.cs⟩ = true ∧ insB ta tp = true ∧ segOkB ⟨ta, tp, 50, (putE b.es (sa, sp)).2, 0, 0, []⟩ = true ∧ endI (putE b.es (sa, sp)).1 (putE b.es (sa, sp)).2 = some (sa, sp) ∧ putE (putE b.es (sa, sp)).1 (ta, tp) = ((putE b.es (sa, sp)).1, dp) ∧ dp ≠ 0 ∧ portI (putE b.es (sa, sp)).1 (sa, sp) = (putE b.es (sa, sp)).2 ∧ (1 ≤ (putE b.es (sa, sp)).2 ∧ (putE b.es (sa, sp)).2 ≤ 506) := by
  have hm := (boxOk_parts hok).1
  obtain ⟨h1, h2⟩ := end_port hm hE
  have hi : insB ta tp = true := mapB_ins hm (ta, tp) h2
  have hb := putE_snd_bound b.es (sa, sp) (mapB_le hm)
  have hp := putE_port h0
  obtain ⟨t, ht, -⟩ := putE_pre b.es (sa, sp)
  refine ⟨box_put hok hI, hi, back_seg hi (by omega) (by omega), ?_, ?_, ?_, hp, by omega⟩
  · have h3 := port_end (es := (putE b.es (sa, sp)).1) (e := (sa, sp)) (by rw [hp]; exact h0)
    rwa [hp] at h3
  · rw [putE_has (by rw [ht]; exact List.mem_append_left _ h2), ht, portI_app h2, h1]
  · have h4 := portI_pos h2
    rw [h1] at h4
    omega

end Go.Proofs.YtgfkiljkpkfapaaGreatDoor

/- How the laws compare two lists of rules, and two boxes that know nothing yet: of the same rules they say that they are the same. That BoxOk takes such a box. Condition: at most 2^22 rules. -/
namespace Go.Proofs.YtgfkiljkpkfapaaGreatDoor
open Go.RowKit

set_option maxRecDepth 100000 in
set_option maxHeartbeats 1600000 in
theorem haRules_same (l : List Rl) (v1 v2 : Value) (w : World) (hn : l.length ≤ 4194304) (h1 : RdRl w v1 l) (h2 : RdRl w v2 l) :
    Calls Tryz.prog 41 #[v1, v2] w fun e w' => e = .returned (.bool true) ∧ Below w.heap.size w w' := by
  obtain ⟨av, cv, rfl, hcv, hrv⟩ := h1
  obtain ⟨au, cu, rfl, hcu, hru⟩ := h2
  have HV := Lib.hid hrv
  have HU := Lib.hid hru
  clear hrv hru
  go_enter Tryz.func41, Tryz.ntmps41
  go_wp2
  go_loopw [5] (fun i wr => ∃ k : Nat, k ≤ l.length ∧ i = .int .i64 k ∧ Below w.heap.size w wr) (fun i _ => l.length - (intOf i).toNat)
  case atStart => exact ⟨0, Nat.zero_le _, rfl, Below.refl _ _⟩
  case round =>
    obtain ⟨k, hk, rfl, hb⟩ := hrel
    by_cases hlt : k < l.length
    · obtain ⟨g1, o1, rfl, hg1, hr1⟩ := HV.out (by omega)
      obtain ⟨g2, o2, rfl, hg2, hr2⟩ := HU.out (by omega)
      obtain ⟨⟨al, a, b, c, d, e, f⟩, hap⟩ : ∃ x, x = l[k] := ⟨_, rfl⟩
      obtain ⟨p0, p1, p2, p3, p4, p5, p6⟩ := rl_seven hr1 k hlt al a b c d e f hap
      obtain ⟨s0, s1, s2, s3, s4, s5, s6⟩ := rl_seven hr2 k hlt al a b c d e f hap
      rw [← hb.cell (by exact hg1)] at p0 p1 p2 p3 p4 p5 p6
      rw [← hb.cell (by exact hg2)] at s0 s1 s2 s3 s4 s5 s6
      have hk1 : (k : Int) ≤ (cv : Int) := by omega
      have hk2 : (k : Int) ≤ (cu : Int) := by omega
      have hk3 : (k : Int) < (l.length : Int) := by omega
      have HB := Lib.hid hb
      clear hr1 hr2 hap HV HU hb
      go_wp2_with fail
      go_quiet (fail)
      go_wp2
      go_roundw
      case rel => exact ⟨k + 1, by omega, by go_num, HB.out.trans ⟨rfl, rfl, rfl, Nat.le_refl _, fun _ _ => rfl⟩⟩
      case measure => simp [intOf]; omega
    · go_wp2
      go_ret
      exact ⟨rfl, hb⟩

end Go.Proofs.YtgfkiljkpkfapaaGreatDoor

/- How the laws compare two boxes: of the same they say that they are the same. Condition: at most 2^22 rules, ends and streams each. -/
namespace Go.Proofs.YtgfkiljkpkfapaaGreatDoor
open Go.RowKit Go.Sort

theorem new_boxes3 (w : World) (p0 p1 p2 q0 q1 q2 : Value) (t : TypeId) :
    let W := (w.alloc (.cells #[p0, p1, p2] t)).alloc (.cells #[q0, q1, q2] t)
    ∀ w', Below W.heap.size W w' → w'.cell? ⟨w.heap.size, 0, none⟩ = some p0 ∧ w'.cell? ⟨w.heap.size, 1, none⟩ = some p1 ∧ w'.cell? ⟨w.heap.size, 2, none⟩ = some p2 ∧ w'.cell? ⟨w.heap.size + 1, 0, none⟩ = some q0 ∧ w'.cell? ⟨w.heap.size + 1, 1, none⟩ = some q1 ∧ w'.cell? ⟨w.heap.size + 1, 2, none⟩ = some q2 := by
  intro W w' hb
  have hz : W.heap.size = w.heap.size + 2 := by simp [W]
  refine ⟨?_, ?_, ?_, ?_, ?_, ?_⟩ <;> rw [hb.cell (by simp [hz])] <;> simp [W]

set_option maxRecDepth 100000 in
set_option maxHeartbeats 1600000 in
theorem haBox_same (b : Bx) (v1 v2 : Value) (w : World) (n1 : b.rs.length ≤ 4194304) (n2 : b.es.length ≤ 4194304) (n3 : b.cs.length ≤ 4194304) (h1 : RdBx w v1 b) (h2 : RdBx w v2 b) :
    Calls Tryz.prog 9 #[v1, v2] w fun e w' => e = .returned (.bool true) ∧ Below w.heap.size w w' := by
  obtain ⟨p0, p1, p2, rfl, r1, t1, c1⟩ := h1
  obtain ⟨q0, q1, q2, rfl, r2, t2, c2⟩ := h2
  have hA : Below w.heap.size w ((w.alloc (.cells #[p0, p1, p2] 29)).alloc (.cells #[q0, q1, q2] 29)) := ((Below.refl _ _).alloc (Nat.le_refl _) _).alloc (by simp) _
  have C1 : Hid (∀ w', Below w.heap.size w w' → RdCn w' p2 b.cs) := fun w' h => c1.below h
  have C2 : Hid (∀ w', Below w.heap.size w w' → RdCn w' q2 b.cs) := fun w' h => c2.below h
  obtain ⟨x1, k1, rfl, -, -⟩ := c1
  obtain ⟨x2, k2, rfl, -, -⟩ := c2
  have HK := Lib.hid (new_boxes3 w p0 p1 (.slice x1 b.cs.length k1) q0 q1 (.slice x2 b.cs.length k2) 29)
  obtain ⟨W0, hW0⟩ : ∃ W, W = (w.alloc (.cells #[p0, p1, .slice x1 b.cs.length k1] 29)).alloc (.cells #[q0, q1, .slice x2 b.cs.length k2] 29) := ⟨_, rfl⟩
  rw [← hW0] at hA
  simp only [← hW0] at HK
  have HE : Hid (∀ w', Below W0.heap.size W0 w' → Calls Tryz.prog 40 #[p1, q1] w' fun e w'' => e = .returned (.bool true) ∧ Below w'.heap.size w' w'') := fun w' hb => by
    have := hA.trans (hb.mono hA.size)
    exact haEnds_same b.es p1 q1 w' n2 (t1.below this) (t2.below this)
  have HR : Hid (∀ w', Below W0.heap.size W0 w' → Calls Tryz.prog 41 #[p0, q0] w' fun e w'' => e = .returned (.bool true) ∧ Below w'.heap.size w' w'') := fun w' hb => by
    have := hA.trans (hb.mono hA.size)
    exact haRules_same b.rs p0 q0 w' n1 (r1.below this) (r2.below this)
  have HA := Lib.hid hA
  obtain ⟨nc, hnc⟩ : ∃ n, n = b.cs.length := ⟨_, rfl⟩
  have HN := Lib.hid hnc
  obtain ⟨x0, x1', x2', y0, y1, y2⟩ := HK.out _ (Below.refl _ _)
  rw [← hnc] at n3 hW0 HK x2' y2 ⊢
  clear hA r1 r2 t1 t2 n1 n2 hnc
  subst hW0
  go_enter Tryz.func9, Tryz.ntmps9
  go_wp2_with fail
  (go_at_call 40; refine (HE.out _ (Below.refl _ _)).mono ?_; rintro e w1 ⟨rfl, b1⟩)
  have D1 := Lib.hid b1
  clear x0 x1' x2' y0 y1 y2
  obtain ⟨x0, x1', x2', y0, y1, y2⟩ := HK.out _ b1
  clear b1
  go_wp2_with fail
  (go_at_call 41; refine (HR.out _ D1.out).mono ?_; rintro e w2 ⟨rfl, b2⟩)
  have D2 := Lib.hid (D1.out.trans (b2.mono D1.out.size))
  clear x0 x1' x2' y0 y1 y2 b2
  go_wp2_with fail
  go_loopw [5] (fun i wr => ∃ k : Nat, k ≤ nc ∧ i = .int .i64 k ∧ Below w2.heap.size w2 wr) (fun i _ => nc - (intOf i).toNat)
  case atStart => exact ⟨0, Nat.zero_le _, rfl, Below.refl _ _⟩
  case round =>
    obtain ⟨k, hk, rfl, hb⟩ := hrel
    have D3 := Lib.hid (D2.out.trans (hb.mono D2.out.size))
    have E3 := Lib.hid (HA.out.trans (D3.out.mono HA.out.size))
    have HB := Lib.hid hb
    clear hb
    obtain ⟨x0, x1', x2', y0, y1, y2⟩ := HK.out _ D3.out
    by_cases hlt : k < nc
    · have hlt2 : k < b.cs.length := by rw [← HN.out]; exact hlt
      obtain ⟨⟨ia, ip, oa, op, kn, he, ne⟩, hc⟩ : ∃ c, c = b.cs[k] := ⟨_, rfl⟩
      obtain ⟨a1, cp1, e1, hcp1, hr1⟩ := C1.out _ E3.out
      obtain ⟨a2, cp2, e2, hcp2, hr2⟩ := C2.out _ E3.out
      rw [← HN.out] at e1 e2 hcp1 hcp2
      simp only [Value.slice.injEq, true_and] at e1 e2
      obtain ⟨rfl, rfl⟩ := e1
      obtain ⟨rfl, rfl⟩ := e2
      obtain ⟨g1, rfl, w1r⟩ := hr1 (by omega)
      obtain ⟨g2, rfl, w2r⟩ := hr2 (by omega)
      obtain ⟨⟨s0, s1, s2, s3, s4, s5, s6⟩, -⟩ := RowAt.conn w1r k hlt2 _ hc
      obtain ⟨⟨z0, z1, z2, z3, z4, z5, z6⟩, -⟩ := RowAt.conn w2r k hlt2 _ hc
      simp only at s0 s1 s2 s3 s4 s5 s6 z0 z1 z2 z3 z4 z5 z6
      have hi1 : (k : Int) < (nc : Int) := by omega
      have hi2 : (k : Int) < (k1 : Int) := by omega
      have hi3 : (k : Int) < (k2 : Int) := by omega
      clear hr1 hr2 w1r w2r hc hlt2
      go_wp2_with fail
      go_quiet (fail)
      go_wp2
      go_roundw
      case rel => exact ⟨k + 1, by omega, by go_num, HB.out.trans ⟨rfl, rfl, rfl, Nat.le_refl _, fun _ _ => rfl⟩⟩
      case measure => simp [intOf]; omega
    · have hkn : k = nc := by omega
      subst hkn
      go_wp2_with fail
      go_ret
      exact ⟨rfl, E3.out⟩

end Go.Proofs.YtgfkiljkpkfapaaGreatDoor
