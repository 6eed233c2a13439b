/- The law that a stream that names nobody goes as it is: at every code. Conditions: the code lies in memory; the variables that are read hold what they are laid with. (Several texts, joined: MapP, PutP, Stays, RwrP, RoomP, PlainP, HaOk, LwBoxPlain.) -/
import Derived.Test.YtgfkiljkpkfapaaGreatDoorTPlb
import Derived.Test.YtgfkiljkpkfapaaGreatDoorTPlt
import Derived.Test.YtgfkiljkpkfapaaGreatDoorTPlk
import Derived.Test.YtgfkiljkpkfapaaGreatDoorTPla
import Derived.Test.YtgfkiljkpkfapaaGreatDoorTPld
import Derived.Test.YtgfkiljkpkfapaaGreatDoorTPlf
import Derived.Test.YtgfkiljkpkfapaaGreatDoorRdV
import Derived.Deep.RegionHeld3
import Derived.Deep.DeepCutAuto

/- Ports and ends of a table are each other's, as data. No condition. -/
namespace Go.Proofs.YtgfkiljkpkfapaaGreatDoor
open Go.RowKit

theorem mapB_take {es : List (Int × Int)} (hm : mapB es = true) {k : Nat} (hk : k < es.length) : es[k] ∉ es.take k := by
  unfold mapB at hm
  simp only [Bool.and_eq_true, decide_eq_true_eq, List.all_eq_true, List.mem_range] at hm
  have := hm.2 k hk
  unfold mapP at this
  simp only [Bool.and_eq_true, decide_eq_true_eq] at this
  rw [List.getD_eq_getElem?_getD, List.getElem?_eq_getElem hk] at this
  exact findI_neg.1 this.2
theorem findI_at {es : List (Int × Int)} (hm : mapB es = true) {k : Nat} (hk : k < es.length) : findI es es[k] = k := by
  obtain ⟨j, hj, he, hn, hf⟩ := findI_mem (List.getElem_mem hk)
  rw [hf]
  rcases Nat.lt_trichotomy j k with h | h | h
  · exfalso
    refine mapB_take hm hk ?_
    rw [← he]
    exact List.mem_take_iff_getElem.2 ⟨j, by omega, rfl⟩
  · rw [h]
  · exfalso
    exact hn (List.mem_take_iff_getElem.2 ⟨k, by omega, rfl⟩)
end Go.Proofs.YtgfkiljkpkfapaaGreatDoor

/- An end more in a table, as data: who has which port then. No condition. -/
namespace Go.Proofs.YtgfkiljkpkfapaaGreatDoor
open Go.RowKit

theorem findI_app {us vs : List (Int × Int)} {x : Int × Int} (h : x ∈ us) : findI (us ++ vs) x = findI us x := by
  obtain ⟨k, hk, he, hn, hf⟩ := findI_mem h
  rw [hf]
  refine findI_hit (by rw [List.length_append]; omega) (by rw [List.getElem_append_left hk]; exact he) (fun j hj hje => hn ?_)
  rw [List.getElem_append_left (by omega)] at hje
  exact List.mem_take_iff_getElem.2 ⟨j, by omega, hje⟩
theorem portI_app {us vs : List (Int × Int)} {x : Int × Int} (h : x ∈ us) : portI (us ++ vs) x = portI us x := by
  unfold portI; rw [findI_app h]
theorem portI_pos' {es : List (Int × Int)} {e : Int × Int} : 0 < portI es e ↔ e ∈ es := by
  constructor
  · intro h
    refine Classical.byContradiction fun hn => ?_
    unfold portI at h
    rw [if_pos (findI_neg.2 hn)] at h
    omega
  · intro h
    unfold portI
    rw [if_neg (fun h2 => findI_neg.1 h2 h)]
    have := findI_bounds es e
    have h3 : ¬ findI es e < 0 := fun h2 => findI_neg.1 h2 h
    omega
theorem putE_fst (us : List (Int × Int)) (e : Int × Int) : (putE us e).1 = if e ∈ us ∨ us.length = 6 then us else us ++ [e] := by
  by_cases h : e ∈ us
  · rw [putE_has h, if_pos (.inl h)]
  · by_cases h6 : us.length = 6
    · rw [putE_full h h6, if_pos (.inr h6)]
    · rw [putE_new h h6, if_neg (by rintro (h1 | h1); exact h h1; exact h6 h1)]
theorem putE_pre (us : List (Int × Int)) (e : Int × Int) : ∃ t, (putE us e).1 = us ++ t ∧ t.length ≤ 1 := by
  rw [putE_fst]
  split
  · exact ⟨[], by simp, by simp⟩
  · exact ⟨[e], rfl, by simp⟩
theorem putE_port {us : List (Int × Int)} {e : Int × Int} (h : (putE us e).2 ≠ 0) : portI (putE us e).1 e = (putE us e).2 := by
  by_cases hm : e ∈ us
  · rw [putE_has hm]
  · by_cases h6 : us.length = 6
    · rw [putE_full hm h6] at h; exact absurd rfl h
    · rw [putE_new hm h6]
      show portI (us ++ [e]) e = _
      unfold portI
      have : findI (us ++ [e]) e = (us.length : Int) := by
        refine findI_hit (k := us.length) (by simp) (by simp) (fun j hj hje => hm ?_)
        rw [List.getElem_append_left hj] at hje
        rw [← hje]; exact List.getElem_mem _
      rw [this, if_neg (by omega)]
theorem putE_zero {us : List (Int × Int)} {e : Int × Int} (h : (putE us e).2 = 0) : portI us e = 0 ∧ us.length = 6 ∧ (putE us e).1 = us := by
  by_cases hm : e ∈ us
  · have := portI_pos'.2 hm
    rw [putE_has hm] at h
    simp only at h
    omega
  · by_cases h6 : us.length = 6
    · refine ⟨?_, h6, by rw [putE_full hm h6]⟩
      have : ¬ 0 < portI us e := fun h2 => hm (portI_pos'.1 h2)
      unfold portI at this ⊢
      rw [if_pos (findI_neg.2 hm)]
    · rw [putE_new hm h6] at h
      simp only at h
      omega
theorem putE_snd_bound (us : List (Int × Int)) (e : Int × Int) (h6 : us.length ≤ 6) : 0 ≤ (putE us e).2 ∧ (putE us e).2 ≤ 506 := by
  have hb := findI_bounds us e
  unfold putE
  split
  · unfold portI; simp only; split <;> omega
  · split
    · simp
    · simp only; omega
end Go.Proofs.YtgfkiljkpkfapaaGreatDoor

/- What goes outside once goes so again: with the table behind it, and with any that has more ends behind these; and so does each beginning. No condition. -/
namespace Go.Proofs.YtgfkiljkpkfapaaGreatDoor
open Go.RowKit

theorem putE_six' {T : List (Int × Int)} {e : Int × Int} (h : T.length ≤ 6) : (putE T e).1.length ≤ 6 := by
  rw [putE_fst]
  split
  · exact h
  · rename_i hn
    have : T.length ≠ 6 := fun h6 => hn (.inr h6)
    simp; omega
theorem putE_again {T t : List (Int × Int)} {e : Int × Int} (h : T.length ≤ 6) (h2 : ((putE T e).1 ++ t).length ≤ 6) : putE ((putE T e).1 ++ t) e = ((putE T e).1 ++ t, (putE T e).2) := by
  by_cases hm : e ∈ T
  · rw [putE_has hm]
    rw [putE_has (List.mem_append_left _ hm)]
    rw [portI_app hm]
  · by_cases h6 : T.length = 6
    · rw [putE_full hm h6] at h2 ⊢
      have ht : t = [] := by
        rcases t with _ | ⟨x, r⟩
        · rfl
        · simp at h2; omega
      subst ht
      simp only [List.append_nil]
      rw [putE_full hm h6]
    · have hp : (putE T e).2 ≠ 0 := by rw [putE_new hm h6]; simp only; omega
      have hq := putE_port hp
      rw [putE_new hm h6] at hq ⊢
      have hm2 : e ∈ T ++ [e] := by simp
      rw [putE_has (List.mem_append_left _ hm2), portI_app hm2]
      simp only at hq ⊢
      rw [hq]
theorem lineE_pre (T : List (Int × Int)) (l : List UInt8) : ∃ t, (lineE T l).1 = T ++ t := by
  rcases h : saysE l with _ | e
  · exact ⟨[], by rw [lineE_none h]; simp⟩
  · obtain ⟨t, ht, _⟩ := putE_pre T e
    exact ⟨t, by rw [lineE_some h]; exact ht⟩
theorem lineE_six {T : List (Int × Int)} {l : List UInt8} (h : T.length ≤ 6) : (lineE T l).1.length ≤ 6 := by
  rcases hs : saysE l with _ | e
  · rw [lineE_none hs]; exact h
  · rw [lineE_some hs]; exact putE_six' h
theorem lineE_again {T t : List (Int × Int)} {l : List UInt8} (h : T.length ≤ 6) (h2 : ((lineE T l).1 ++ t).length ≤ 6) : lineE ((lineE T l).1 ++ t) l = ((lineE T l).1 ++ t, (lineE T l).2) := by
  rcases hs : saysE l with _ | e
  · rw [lineE_none hs, lineE_none hs]
  · rw [lineE_some hs] at h2 ⊢
    simp only at h2 ⊢
    rw [lineE_some hs, putE_again h h2]
theorem fold_pre (ls : List (List UInt8)) (T : List (Int × Int)) (p : List UInt8) : ∃ t, (ls.foldl strF (T, p)).1 = T ++ t := by
  induction ls generalizing T p with
  | nil => exact ⟨[], by simp⟩
  | cons l r ih =>
    obtain ⟨t1, h1⟩ := lineE_pre T l
    obtain ⟨t2, h2⟩ := ih (lineE T l).1 (p ++ (lineE T l).2 ++ [59])
    refine ⟨t1 ++ t2, ?_⟩
    rw [List.foldl_cons, show strF (T, p) l = ((lineE T l).1, p ++ (lineE T l).2 ++ [59]) from rfl, h2, h1, List.append_assoc]
theorem fold_again (ls : List (List UInt8)) (T t : List (Int × Int)) (p : List UInt8) (h : T.length ≤ 6) (h2 : ((ls.foldl strF (T, p)).1 ++ t).length ≤ 6) :
    ls.foldl strF ((ls.foldl strF (T, p)).1 ++ t, p) = ((ls.foldl strF (T, p)).1 ++ t, (ls.foldl strF (T, p)).2) := by
  induction ls generalizing T p with
  | nil => rfl
  | cons l r ih =>
    have e1 : strF (T, p) l = ((lineE T l).1, p ++ (lineE T l).2 ++ [59]) := rfl
    simp only [List.foldl_cons, e1] at h2 ⊢
    obtain ⟨t1, ht1⟩ := fold_pre r (lineE T l).1 (p ++ (lineE T l).2 ++ [59])
    have hE : (r.foldl strF ((lineE T l).1, p ++ (lineE T l).2 ++ [59])).1 ++ t = (lineE T l).1 ++ (t1 ++ t) := by rw [ht1, List.append_assoc]
    have hl := lineE_again (t := t1 ++ t) h (by rw [← hE]; exact h2)
    have e2 : strF ((r.foldl strF ((lineE T l).1, p ++ (lineE T l).2 ++ [59])).1 ++ t, p) l = ((r.foldl strF ((lineE T l).1, p ++ (lineE T l).2 ++ [59])).1 ++ t, p ++ (lineE T l).2 ++ [59]) := by
      rw [hE]
      show ((lineE ((lineE T l).1 ++ (t1 ++ t)) l).1, p ++ (lineE ((lineE T l).1 ++ (t1 ++ t)) l).2 ++ [59]) = _
      rw [hl]
    rw [e2]
    exact ih (lineE T l).1 (p ++ (lineE T l).2 ++ [59]) (lineE_six h) h2
end Go.Proofs.YtgfkiljkpkfapaaGreatDoor

/- What a line is as it goes outside, as data: its port, its length, and that it is a line. No condition. -/
namespace Go.Proofs.YtgfkiljkpkfapaaGreatDoor
open Go.RowKit

end Go.Proofs.YtgfkiljkpkfapaaGreatDoor

/- Whose port a line outside names, as data: that of the end that was named, or there is no room. No condition. -/
namespace Go.Proofs.YtgfkiljkpkfapaaGreatDoor
open Go.RowKit

/-- The lines as they go outside. -/
def outsE (T : List (Int × Int)) : List (List UInt8) → List (List UInt8)
  | [] => []
  | l :: r => (lineE T l).2 :: outsE (lineE T l).1 r
theorem outsE_flat (T : List (Int × Int)) (ls : List (List UInt8)) (p : List UInt8) : (ls.foldl strF (T, p)).2 = p ++ ((outsE T ls).map (· ++ [59])).flatten := by
  induction ls generalizing T p with
  | nil => simp [outsE]
  | cons l r ih =>
    show (r.foldl strF ((lineE T l).1, p ++ (lineE T l).2 ++ [59])).2 = _
    rw [ih]
    simp [outsE]
end Go.Proofs.YtgfkiljkpkfapaaGreatDoor

/- A text whose lines name no end goes outside as it is. No condition. -/
namespace Go.Proofs.YtgfkiljkpkfapaaGreatDoor
open Go.RowKit Go.Sort

/-- Of the first j lines none says an end. -/
def QuietL (ls : List (List UInt8)) (j : Nat) : Prop := ∀ x ∈ ls.take j, saysE x = none
theorem QuietL.zero (ls : List (List UInt8)) : QuietL ls 0 := fun x hx => by simp at hx
theorem QuietL.succ {ls : List (List UInt8)} {j : Nat} (h : QuietL ls j) (hj : j < ls.length) (hs : saysE ls[j] = none) : QuietL ls (j + 1) := fun x hx => by
  rw [List.take_succ_eq_append_getElem hj, List.mem_append, List.mem_singleton] at hx
  rcases hx with hx | rfl
  · exact h x hx
  · exact hs
theorem outsE_plain (T : List (Int × Int)) (ls : List (List UInt8)) (h : ∀ x ∈ ls, saysE x = none) : outsE T ls = ls := by
  induction ls with
  | nil => rfl
  | cons l r ih =>
    simp only [outsE]
    rw [lineE_none (h l (List.mem_cons_self ..))]
    simp only
    rw [ih (fun x hx => h x (List.mem_cons_of_mem _ hx))]
theorem plain_far {us : List (Int × Int)} {s : List UInt8} (hq : ∀ x ∈ linesL s, saysE x = none) : (streamE us (linesL s)).2 ++ restL s = s := by
  unfold streamE
  rw [outsE_flat, List.nil_append, outsE_plain _ _ hq]
  exact flatL_lines s

end Go.Proofs.YtgfkiljkpkfapaaGreatDoor

/- That a line of one letter is a line, which each law asks. No condition. -/
namespace Go.Proofs.YtgfkiljkpkfapaaGreatDoor
open Go.RowKit

theorem haOk_any (w : World) :
    Calls Tryz.prog 11 #[] w fun e w' => e = .returned (.bool true) ∧ w = w' := by
  have hl : linB (⟨#[97]⟩ : ByteArray).data.toList = true := by decide
  have HL : Hid (∀ w, Calls Tryz.prog 45 #[.string ⟨#[97]⟩] w fun e w' => e = .returned (.bool true) ∧ w = w') := fun w => by
    have := implLin_all ⟨#[97]⟩ w; rw [hl] at this; exact this
  go_enter Tryz.func11, Tryz.ntmps11
  go_wp2_with (go_at_call 45; refine (HL.out _).mono ?_; rintro e w' ⟨rfl, rfl⟩)
  go_ret
  exact ⟨rfl, rfl⟩

end Go.Proofs.YtgfkiljkpkfapaaGreatDoor

/- The law that a stream that names nobody goes as it is: at every code. Conditions: the code lies in memory; the variables that are read hold what they are laid with. -/
namespace Go.Proofs.YtgfkiljkpkfapaaGreatDoor
open Go.RowKit Go.Sort

theorem boxAtP {w w' : World} {b i : Nat} {v : Value} (h : w.cell? ⟨b, i, none⟩ = some v) (hb : Below w.heap.size w w') : w'.cell? ⟨b, i, none⟩ = some v := by
  rw [hb.cell (p := ⟨b, i, none⟩) (World.block_lt_of_cell? w _ h)]; exact h

set_option maxRecDepth 100000 in
set_option maxHeartbeats 12800000 in
theorem lwBoxPlain_of (ao : Option Addr) (n cap : Nat) (w : World) (h : BytesIn w ao n) (hn : n ≤ cap) (hv : VarsOk w) (htb : TabOk w) (hb1 : ¬ 1048576 < n) :
    Calls Tryz.prog 5 #[.slice ao n cap] w fun e w' => e = .returned (.bool true) ∧ Below w.heap.size w w' := by
  have H := Lib.hid h
  have HV : Hid (∀ w', Below w.heap.size w w' → VarsOk w' ∧ TabOk w') := fun w' h => ⟨hv.below h, htb.below h (Nat.le_refl _)⟩
  clear h hv htb
  go_enter Tryz.func5, Tryz.ntmps5
  go_wp2_with fail
  (go_at_call 19; refine (drawBoxFar_any ao n cap _ H.out hn).mono ?_; rintro e w1 ⟨y1, y2, y3, b, k, rfl, ⟨hk1, hk2⟩, oh, ⟨hs, hwf, hcw⟩, b1⟩)
  obtain ⟨a1, c1, a2, c2, a3, c3, rfl, rfl, rfl⟩ := oh.form
  have BW := Lib.hid b1
  have OG := Lib.hid oh.gen
  have HV1 : Hid (∀ w', Below w1.heap.size w1 w' → VarsOk w' ∧ TabOk w') := fun w' h => HV.out w' (b1.trans (h.mono b1.size))
  have hbw := b1.size
  obtain ⟨_, _, _, _, _, _, ev, o1, o2, o3⟩ := id oh.gen
  simp only [Value.agg.injEq, Array.mk.injEq, List.cons.injEq, Value.slice.injEq, and_true, true_and] at ev
  obtain ⟨⟨rfl, rfl⟩, ⟨rfl, rfl⟩, rfl, rfl⟩ := ev
  obtain ⟨bO, hbO⟩ : ∃ x, x = boxOkB b := ⟨_, rfl⟩
  obtain ⟨F, hF⟩ : ∃ F : ByteArray, F = ⟨(farB b k).toArray⟩ := ⟨_, rfl⟩
  have HIf : Hid (∀ w', Below w1.heap.size w1 w' → Calls Tryz.prog 20 #[.agg #[.slice a1 b.rs.length c1, .slice a2 b.es.length c2, .slice a3 b.cs.length c3], .int .i64 k] w' fun e w'' => e = .returned (.string F) ∧ Below w'.heap.size w' w'') := fun w' h => by
    rw [hF]; exact implFar_anyG w.heap.size _ b k w' hs hwf hcw (OG.out.later h) (HV1.out w' h).1 (HV1.out w' h).2
  have HSf : Hid (∀ w', Below w1.heap.size w1 w' → Calls Tryz.prog 21 #[.agg #[.slice a1 b.rs.length c1, .slice a2 b.es.length c2, .slice a3 b.cs.length c3], .int .i64 k] w' fun e w'' => e = .returned (.string F) ∧ Below w'.heap.size w' w'') := fun w' h => by
    rw [hF]; exact specFar_anyG w.heap.size _ b k w' hs (Nat.le_trans hbw h.size) (OG.out.later h)
  have HSo : Hid (∀ w', Below w1.heap.size w1 w' → Calls Tryz.prog 10 #[.agg #[.slice a1 b.rs.length c1, .slice a2 b.es.length c2, .slice a3 b.cs.length c3]] w' fun e w'' => e = .returned (.bool bO) ∧ Below w'.heap.size w' w'') := fun w' h => by
    rw [hbO]; exact specBoxOk_anyG w.heap.size _ b w' hs (Nat.le_trans hbw h.size) (OG.out.later h)
  have HNO : Hid (¬ (bO = true ∧ 0 ≤ k ∧ k ≤ (b.cs.length : Int) - 1) → F = ⟨#[]⟩) := fun h => by
    rw [hF]
    unfold farB
    rw [if_neg (by rw [← hbO]; exact h)]
  have HYE : Hid (bO = true → ∀ m : Nat, k = (m : Int) → m < b.cs.length → ∃ x : Cn, x.kn.size ≤ 120 ∧ F = ⟨(streamE b.es (linesL x.kn.data.toList)).2.toArray⟩ ∧ ∃ g, a3 = some ⟨g, 0, none⟩ ∧ b.cs.length ≤ c3 ∧ ∀ w', Below w1.heap.size w1 w' → w'.cell? ⟨g, m * 7 + 4, none⟩ = some (.string x.kn)) := fun hT m hm hlt => by
    obtain ⟨-, -, -, -, h4⟩ := boxOk_small (b := b) (by rw [← hbO]; exact hT)
    refine ⟨b.cs[m], (h4 _ (List.getElem_mem _)).1, ?_, ?_⟩
    · rw [hF]
      unfold farB
      rw [if_pos ⟨by rw [← hbO]; exact hT, by omega, by omega⟩]
      unfold farE
      rw [hm]
      simp only [Int.toNat_natCast]
      rw [getD_at hlt]
    · obtain ⟨ax, cx, e, hcx, hr⟩ := o3
      simp only [Value.slice.injEq, true_and] at e
      obtain ⟨rfl, rfl⟩ := e
      obtain ⟨g, rfl, hrow⟩ := hr (by omega)
      exact ⟨g, rfl, hcx, fun w' h => boxAtP (RowAt.conn hrow m hlt _ rfl).1.2.2.2.2.1 h⟩
  obtain ⟨n1, hn1⟩ : ∃ n, n = b.rs.length := ⟨_, rfl⟩
  obtain ⟨n2, hn2⟩ : ∃ n, n = b.es.length := ⟨_, rfl⟩
  obtain ⟨n3, hnc⟩ : ∃ n, n = b.cs.length := ⟨_, rfl⟩
  rw [← hn1, ← hn2, ← hnc] at HIf HSf HSo
  rw [← hnc] at HYE HNO
  rw [← hn1, ← hn2, ← hnc]
  clear hn1 hn2 hnc hbO hF OG o1 o2 o3 oh hs hwf hcw b1 hbw HV H
  go_upto_region 4 with fail
  obtain ⟨W1, hW1⟩ : ∃ W, W = w1.alloc (.cells #[.slice a1 n1 c1, .slice a2 n2 c2, .slice a3 n3 c3] 29) := ⟨_, rfl⟩
  have q1 : Below w1.heap.size w1 W1 := by rw [hW1]; exact (Below.refl _ _).alloc (Nat.le_refl _) _
  have K1 : Blk W1 w1.heap.size 29 [.slice a1 n1 c1, .slice a2 n2 c2, .slice a3 n3 c3] := by rw [hW1]; exact three_new w1 _ _ _ _
  rw [← hW1]
  obtain ⟨bb, hbb⟩ : ∃ b, b = w1.heap.size := ⟨_, rfl⟩
  rw [← hbb] at K1 ⊢
  have MK : Hid (∀ w', Below W1.heap.size W1 w' → Below w1.heap.size w1 w' ∧ (w'.cell? ⟨bb, 0, none⟩ = some (.slice a1 n1 c1) ∧ w'.cell? ⟨bb, 1, none⟩ = some (.slice a2 n2 c2) ∧ w'.cell? ⟨bb, 2, none⟩ = some (.slice a3 n3 c3))) := fun w' h => ⟨q1.trans (h.mono q1.size), (three_all (K1.below h)).1⟩
  have BW1 : Hid (∀ w', Below W1.heap.size W1 w' → Below w.heap.size w w') := fun w' h => BW.out.trans ((q1.trans (h.mono q1.size)).mono BW.out.size)
  clear hbb hW1 q1 K1 BW
  obtain ⟨d1, x0, x1, x2⟩ := MK.out _ (Below.refl _ _)
  go_wp2_with fail
  (go_at_call 20; refine (HIf.out _ d1).mono ?_; rintro e w2 ⟨rfl, b2⟩)
  have D2 := Lib.hid b2
  clear b2 d1 x0 x1 x2
  obtain ⟨d1, x0, x1, x2⟩ := MK.out _ D2.out
  go_wp2_with fail
  (go_at_call 21; refine (HSf.out _ d1).mono ?_; rintro e w3 ⟨rfl, b3⟩)
  have D3 := Lib.hid (D2.out.trans (b3.mono D2.out.size))
  clear b3 d1 x0 x1 x2 D2 HSf HIf
  obtain ⟨d1, x0, x1, x2⟩ := MK.out _ D3.out
  go_wp2_with fail
  (go_at_call 10; refine (HSo.out _ d1).mono ?_; rintro e w4 ⟨rfl, b4⟩)
  have D4 := Lib.hid (D3.out.trans (b4.mono D3.out.size))
  clear b4 d1 x0 x1 x2 D3 HSo
  obtain ⟨d1, x0, x1, x2⟩ := MK.out _ D4.out
  cases bO
  · have hf := HNO.out (fun h => by cases h.1)
    subst hf
    clear HNO HYE
    go_wp2_with fail
    (go_at_call 11; refine (haOk_any _).mono ?_; rintro e wl ⟨rfl, rfl⟩)
    go_wp2_with fail
    go_ret
    exact ⟨by simp, BW1.out _ D4.out⟩
  by_cases hk0 : k < 0
  · have hf := HNO.out (fun h => by omega)
    subst hf
    clear HNO HYE
    go_wp2_with fail
    (go_at_call 11; refine (haOk_any _).mono ?_; rintro e wl ⟨rfl, rfl⟩)
    go_wp2_with fail
    go_ret
    exact ⟨by simp, BW1.out _ D4.out⟩
  by_cases hkn : k ≥ (n3 : Int)
  · have hf := HNO.out (fun h => by omega)
    subst hf
    clear HNO HYE
    go_wp2_with fail
    (go_at_call 11; refine (haOk_any _).mono ?_; rintro e wl ⟨rfl, rfl⟩)
    go_wp2_with fail
    go_ret
    exact ⟨by simp, BW1.out _ D4.out⟩
  obtain ⟨m, rfl⟩ : ∃ m : Nat, k = (m : Int) := ⟨k.toNat, by omega⟩
  have hm3 : m < n3 := by omega
  obtain ⟨x, hxs, hF, g, rfl, hcap, HR⟩ := HYE.out rfl m rfl hm3
  have HRX := Lib.hid HR
  clear HR HYE HNO
  obtain ⟨ls, hls⟩ : ∃ ls, ls = linesL x.kn.data.toList := ⟨_, rfl⟩
  obtain ⟨RS, hRS⟩ : ∃ r : ByteArray, r = ⟨(restL x.kn.data.toList).toArray⟩ := ⟨_, rfl⟩
  obtain ⟨s, hsk⟩ : ∃ s, s = x.kn := ⟨_, rfl⟩
  have HYES : Hid (QuietL ls ls.length → F.data.toList ++ RS.data.toList = s.data.toList) := fun e3 => by
    unfold QuietL at e3
    rw [List.take_length, hls] at e3
    rw [hF, hRS, hsk]
    simpa using plain_far (us := b.es) e3
  have HL : Hid (∀ w, Calls Tryz.prog 22 #[.string s] w fun e w' => ∃ v, e = .returned (.tuple #[v, .string RS]) ∧ w'.ownsRow w.heap.size 9 1 v ls.length (ls.map strV) ∧ Below w.heap.size w w') := fun w => by rw [hls, hRS, hsk]; exact implLines_any x.kn w (by omega)
  have hll := lines_len x.kn.data.toList
  have hlz : ∀ y ∈ ls, y.length ≤ 200 := fun y hy => by rw [hls] at hy; have := line_len hy; rw [len_list] at this; omega
  have hRSs : RS.size ≤ 200 := by
    have h6 : x.kn.data.toList = ((linesL x.kn.data.toList).map (· ++ [59])).flatten ++ restL x.kn.data.toList := (flatL_lines x.kn.data.toList).symm
    have h5 := congrArg List.length h6
    rw [List.length_append, len_list] at h5
    rw [hRS]
    show (restL x.kn.data.toList).toArray.size ≤ 200
    rw [List.size_toArray]
    omega
  have hFs : F.size ≤ 17000 := by
    have h1 := strE_len (linesL x.kn.data.toList) 120 (fun y hy => by have := line_len hy; rw [len_list] at this; omega) (b.es, [])
    have h2 := lines_len x.kn.data.toList
    rw [len_list] at h2
    have h3 : (linesL x.kn.data.toList).length * (120 + 21) ≤ 120 * 141 := Nat.mul_le_mul (by omega) (by omega)
    rw [hF]
    show (streamE b.es (linesL x.kn.data.toList)).2.toArray.size ≤ _
    simp only [List.size_toArray]
    unfold streamE
    simp only [List.length_nil] at h1
    omega
  rw [← hls, len_list] at hll
  have hln : ls.length ≤ 200 := by omega
  have HLZ := Lib.hid hlz
  rw [← hsk] at HRX
  clear hRS hls hlz hll hF hsk
  have hmi : (m : Int) < (n3 : Int) := by omega
  have hmc : (m : Int) < (c3 : Int) := by omega
  have s4 := HRX.out _ d1
  go_wp2_with fail
  (go_at_call 22; refine (HL.out _).mono ?_; rintro e w6x ⟨vl, rfl, ol, qb⟩)
  have D6 := Lib.hid (D4.out.trans (qb.mono D4.out.size))
  clear qb D4 d1 x0 x1 x2 s4
  obtain ⟨al, cl, rfl⟩ := own_form ol
  have RL := Lib.hid (RdV.of_own ol).1
  clear ol HL
  go_wp2_with fail
  go_loopw [8] (fun i wr => ∃ j : Nat, j ≤ ls.length ∧ i = .int .i64 j ∧ QuietL ls j ∧ Below w6x.heap.size w6x wr) (fun i _ => ls.length - (intOf i).toNat)
  case atStart => exact ⟨0, Nat.zero_le _, rfl, QuietL.zero _, Below.refl _ _⟩
  case round =>
    obtain ⟨j, hj, rfl, hql, hb⟩ := hrel
    have HB := Lib.hid hb
    have HQL := Lib.hid hql
    have DX := Lib.hid (D6.out.trans (hb.mono D6.out.size))
    have rl := RL.out.below hb
    clear hb hql
    by_cases hlt : j < ls.length
    · obtain ⟨ax, cx', ex, hrx⟩ := rl
      rw [List.length_map] at hrx
      simp at ex
      obtain ⟨ex1, ex2⟩ := ex
      subst ex1
      subst ex2
      obtain ⟨gx, hgx, rowx⟩ := hrx (by omega)
      subst hgx
      have cX := (rowx j (by simpa using hlt)).1
      simp only [List.getElem_map] at cX
      have hyl := HLZ.out ls[j] (List.getElem_mem hlt)
      have hqs : saysE ls[j] = none → QuietL ls (j + 1) := fun h => HQL.out.succ hlt h
      obtain ⟨y, hy⟩ : ∃ y, y = ls[j] := ⟨_, rfl⟩
      rw [← hy] at cX hyl hqs
      obtain ⟨ea, ep, eb, hsv, hsc⟩ : ∃ (ea ep : Int) (eb : Bool), saysV (saysE y) = .tuple #[.agg #[.int .i64 ea, .int .i64 ep], .bool eb] ∧ (eb = false → saysE y = none) := by
        rcases saysE y with _ | ⟨a, p⟩
        · exact ⟨0, 0, false, rfl, fun _ => rfl⟩
        · exact ⟨a, p, true, rfl, fun e => by cases e⟩
      have HQS : Hid (eb = false → QuietL ls (j + 1)) := fun h => hqs (hsc h)
      have HSY : Hid (∀ w, VarsOk w → Calls Tryz.prog 23 #[strV y] w fun e w' => e = .returned (.tuple #[.agg #[.int .i64 ea, .int .i64 ep], .bool eb]) ∧ Below w.heap.size w w') := fun w hv => by
        rw [← hsv]
        exact implSays_any ⟨y.toArray⟩ w (by show y.toArray.size ≤ _; simp; omega) hv
      have hj2 : (j : Int) ≤ 200 := by omega
      have hvr := (HV1.out _ (MK.out _ DX.out).1).1
      clear rowx hrx hy hsv hsc hqs hyl
      simp only [strV] at cX HSY
      go_wp2_with fail
      (go_at_call 23; refine (HSY.out _ hvr).mono ?_; rintro e w21 ⟨rfl, b21⟩)
      have B21 : Hid (Below w6x.heap.size w6x w21) := HB.out.trans (b21.mono HB.out.size)
      have DX2 := Lib.hid (DX.out.trans (b21.mono DX.out.size))
      clear b21 cX hvr
      have BA : Hid (∀ o, Below w6x.heap.size w6x (w21.alloc o)) := fun o => B21.out.alloc B21.out.size o
      have BB : Hid (∀ o, Below w.heap.size w (w21.alloc o)) := fun o => BW1.out _ (DX2.out.alloc DX2.out.size o)
      cases eb
      · go_wp2_with fail
        go_roundw
        case rel => exact ⟨j + 1, by omega, by go_num, HQS.out (by simp), BA.out _⟩
        case measure => simp [intOf]; omega
      · go_wp2_with fail
        go_ret
        exact ⟨by simp, BB.out _⟩
    · have hje : j = ls.length := by omega
      subst hje
      have y1 := HYES.out HQL.out
      have hqs : ((F ++ RS).toList == s.toList) = true := by
        have e : F ++ RS = s := by
          apply ByteArray.ext
          rw [ByteArray.data_append]
          apply Array.ext'
          simpa using y1
        rw [e]; simp
      clear HYES y1
      obtain ⟨d1, x0, x1, x2⟩ := MK.out _ DX.out
      have s4 := HRX.out _ d1
      go_wp2_with fail
      go_ret
      exact ⟨by simp, BW1.out _ DX.out⟩

set_option maxRecDepth 100000 in
set_option maxHeartbeats 800000 in
theorem lwBoxPlain_any (ao : Option Addr) (n cap : Nat) (w : World) (h : BytesIn w ao n) (hn : n ≤ cap) (hv : VarsOk w) (htb : TabOk w) :
    Calls Tryz.prog 5 #[.slice ao n cap] w fun e w' => e = .returned (.bool true) ∧ Below w.heap.size w w' := by
  by_cases hb1 : 1048576 < n
  · clear h
    go_enter Tryz.func5, Tryz.ntmps5
    go_wp2_with fail
    go_ret
    exact ⟨rfl, Below.refl _ _⟩
  · exact lwBoxPlain_of ao n cap w h hn hv htb hb1

end Go.Proofs.YtgfkiljkpkfapaaGreatDoor
