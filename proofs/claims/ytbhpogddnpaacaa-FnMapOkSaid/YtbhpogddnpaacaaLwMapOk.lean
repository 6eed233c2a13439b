/- The law that a part of a table is a table: at every code. Condition: the code lies in memory. -/
import Derived.Test.YtbhpogddnpaacaaDrawMaps
import Derived.Test.YtbhpogddnpaacaaHaOk
import Derived.Test.YtbhpogddnpaacaaIMapO
import Derived.Test.YtbhpogddnpaacaaIMapE
import Derived.Test.YtbhpogddnpaacaaMapP
import Derived.Test.YtbhpogddnpaacaaAppW
import Derived.Deep.RegionHeld3
import Derived.Deep.DeepCutAuto
namespace Go.Proofs.Ytbhpogddnpaacaa
open Go.RowKit Go.Sort

theorem boxD {w w' : World} {b i : Nat} {v : Value} (h : w.cell? ⟨b, i, none⟩ = some v) (hb : Below w.heap.size w w') : w'.cell? ⟨b, i, none⟩ = some v := by
  rw [hb.cell (p := ⟨b, i, none⟩) (World.block_lt_of_cell? w _ h)]; exact h
theorem SmE.wfE {us : List (Int × Int)} (h : SmE us) : wfE us := fun x hx => (h x hx).wf
theorem mapB_pre {es : List (Int × Int)} (hm : mapB es = true) (k : Nat) : mapB (es.take k) = true := by
  unfold mapB at hm ⊢
  simp only [Bool.and_eq_true, decide_eq_true_eq, List.all_eq_true, List.mem_range] at hm ⊢
  refine ⟨by have := hm.1; simp; omega, fun i hi => ?_⟩
  simp only [List.length_take] at hi
  have h1 := hm.2 i (by omega)
  unfold mapP at h1 ⊢
  have e1 : (es.take k).getD i (0, 0) = es.getD i (0, 0) := by
    rw [List.getD_eq_getElem?_getD, List.getD_eq_getElem?_getD, List.getElem?_take, if_pos (by omega)]
  have e2 : (es.take k).take i = es.take i := by rw [List.take_take, Nat.min_eq_left (by omega)]
  rw [e1, e2]
  exact h1
theorem port_at {es : List (Int × Int)} (hm : mapB es = true) {k : Nat} (hk : k < es.length) : portI es es[k] = 500 + (k : Int) := by
  unfold portI
  rw [findI_at hm hk, if_neg (by omega)]
theorem mapB_dup {es : List (Int × Int)} {k : Nat} (hk : k < es.length) : mapB (es ++ [es[k]]) = false := by
  cases h : mapB (es ++ [es[k]])
  · rfl
  · exfalso
    have := mapB_take h (k := es.length) (by simp)
    rw [List.getElem_append_right (Nat.le_refl _), List.take_left'  rfl] at this
    exact this (by simp)
theorem TabAt.pre {w : World} {a : Option Addr} {c k : Nat} {us : List (Int × Int)} (h : TabAt w (.slice a us.length c) us) (hk : k ≤ us.length) : TabAt w (.slice a k c) (us.take k) := by
  obtain ⟨a', c', e, hc, hr⟩ := h
  simp only [Value.slice.injEq] at e
  obtain ⟨rfl, _, rfl⟩ := e
  refine ⟨a, c, by rw [List.length_take, Nat.min_eq_left hk], ⟨by rw [List.length_take]; omega, hc.2⟩, fun h0 => ?_⟩
  rw [List.length_take] at h0
  obtain ⟨g, rfl, hat⟩ := hr (by omega)
  refine ⟨g, rfl, fun i hi => ?_⟩
  rw [List.length_take] at hi
  have := hat i (by omega)
  rw [List.getElem_take]
  exact this
theorem own_noneP (w : World) (B : Nat) (hB : B ≤ w.heap.size) : (w.alloc (.cells #[] 39)).ownsRow B 39 2 (.slice (some ⟨w.heap.size, 0, none⟩) 0 0) 0 [] :=
  ⟨by simp, .inr ⟨w.heap.size, 0, #[], rfl, hB, by show (w.heap.push _)[w.heap.size]? = _; simp, Nat.le_refl _, by unfold maxLen; omega, by simp, by simp⟩⟩
theorem own_nonePE (w : World) (B : Nat) (hB : B ≤ w.heap.size) {b : Nat} (hb : b = w.heap.size) : (w.alloc (.cells #[] 39)).ownsRow B 39 2 (.slice (some ⟨b, 0, none⟩) 0 0) 0 [] := by
  subst hb
  exact own_noneP w B hB
theorem own_formP {w : World} {B n : Nat} {v : Value} {xs : List Value} (h : w.ownsRow B 39 2 v (n + 1) xs) : ∃ g cap, v = .slice (some ⟨g, 0, none⟩) (n + 1) cap := by
  rcases h.2 with ⟨_, h0⟩ | ⟨g, cap, _, rfl, _⟩
  · omega
  · exact ⟨g, cap, rfl⟩
theorem add_blkP (b j : Nat) : (⟨b, 0, none⟩ : Addr).add j = ⟨b, j, none⟩ := by unfold Addr.add; split <;> simp_all
/-- The cells of one end. -/
def endC (a p : Int) : List Value := [.int .i64 a, .int .i64 p]
theorem lit_newsP (w : World) (a p : Int) (t : TypeId) {b : Nat} (hb : b = w.heap.size) : ∀ j u, (endC a p)[j]? = some u → (w.alloc (.cells #[.int .i64 a, .int .i64 p] t)).cell? ((⟨b, 0, none⟩ : Addr).add j) = some u := by
  subst hb
  intro j u hu
  rw [add_blkP, (cell_new w _ t j).1]
  simpa [endC] using hu
theorem kept_newsP {W w' : World} {blk b : Nat} {a p : Int} (hg : W.grownBy w' (some blk)) (hne : b ≠ blk) (h : ∀ j u, (endC a p)[j]? = some u → W.cell? ((⟨b, 0, none⟩ : Addr).add j) = some u) : ∀ j u, (endC a p)[j]? = some u → w'.cell? ((⟨b, 0, none⟩ : Addr).add j) = some u := by
  intro j u hu
  have hc := h j u hu
  rw [add_blkP] at hc ⊢
  rw [(gcell hg (World.block_lt_of_cell? W _ hc) hne j).1]
  exact hc
theorem later_newsP {W : World} {b : Nat} {a p : Int} (ob : Obj) (h : ∀ j u, (endC a p)[j]? = some u → W.cell? ((⟨b, 0, none⟩ : Addr).add j) = some u) : ∀ j u, (endC a p)[j]? = some u → (W.alloc ob).cell? ((⟨b, 0, none⟩ : Addr).add j) = some u := by
  intro j u hu
  have hc := h j u hu
  rw [add_blkP] at hc ⊢
  rw [((Below.refl _ W).alloc (Nat.le_refl _) ob).cell (World.block_lt_of_cell? W _ hc)]
  exact hc
theorem EndsAt.news {w : World} {g : Nat} {es : List (Int × Int)} (h : EndsAt w g es) : ∀ j u, (flatE es)[j]? = some u → w.cell? ((⟨g, 0, none⟩ : Addr).add j) = some u := by
  intro j u hu
  rw [add_blkP]
  have hj := (List.getElem?_eq_some_iff.1 hu).1
  rw [flatE_len] at hj
  obtain ⟨i, hi, e⟩ : ∃ i, i < es.length ∧ (j = i * 2 ∨ j = i * 2 + 1) := ⟨j / 2, by omega, by omega⟩
  have := h i hi
  rcases e with rfl | rfl
  · rw [(flatE_at es i hi).1] at hu
    rw [← Option.some.inj hu]; exact this.1
  · rw [(flatE_at es i hi).2] at hu
    rw [← Option.some.inj hu]; exact this.2

set_option maxRecDepth 100000 in
set_option maxHeartbeats 12800000 in
theorem lwMapOk_of (ao : Option Addr) (n cap : Nat) (w : World) (h : BytesIn w ao n) (hn : n ≤ cap) (hb1 : ¬ 1048576 < n) :
    Calls Try.prog 4 #[.slice ao n cap] w fun e w' => e = .returned (.bool true) ∧ Below w.heap.size w w' := by
  have H := Lib.hid h
  clear h
  go_enter Try.func4, Try.ntmps4
  go_wp2_with fail
  (go_at_call 10; refine (drawMapOk_any ao n cap _ H.out hn).mono ?_; rintro e w1 ⟨g1, k1, us, rfl, o1, ⟨u8, sm1⟩, b1⟩)
  have BW := Lib.hid b1
  have Tt := Lib.hid o1.tab
  have WU := Lib.hid sm1.wfE
  clear b1 o1 H sm1
  obtain ⟨mb, hmb⟩ : ∃ mb, mb = mapB us := ⟨_, rfl⟩
  have HMI : Hid (∀ w, TabAt w (.slice g1 us.length k1) us → Calls Try.prog 11 #[.agg #[.slice g1 us.length k1]] w fun e w' => e = .returned (.bool mb) ∧ Below w.heap.size w w') := fun w ht => by rw [hmb]; exact implMapOk_any _ us w (by omega) WU.out ht
  have HMO : Hid (∀ w, TabAt w (.slice g1 us.length k1) us → Calls Try.prog 12 #[.agg #[.slice g1 us.length k1]] w fun e w' => e = .returned (.bool mb) ∧ Below w.heap.size w w') := fun w ht => by rw [hmb]; exact specMapOk_any _ us w (by omega) ht
  have HMB := Lib.hid hmb
  clear hmb
  go_wp2_with fail
  obtain ⟨W1, hW1⟩ : ∃ W, W = (w1.alloc (.cells #[.slice g1 us.length k1] 34)) := ⟨_, rfl⟩
  have qW1 : Below w1.heap.size w1 W1 := by rw [hW1]; exact (Below.refl _ _).alloc (Nat.le_refl _) _
  have zW1 : w1.heap.size + 1 ≤ W1.heap.size := by rw [hW1]; simp
  have ct0 : W1.cell? ⟨w1.heap.size, 0, none⟩ = some (.slice g1 us.length k1) := by rw [hW1]; simp
  replace Tt := Lib.hid (Tt.out.below qW1)
  replace BW := Lib.hid (BW.out.trans (qW1.mono BW.out.size))
  rw [← hW1]
  obtain ⟨bt, hbt⟩ : ∃ b, b = w1.heap.size := ⟨_, rfl⟩
  have lt : bt < W1.heap.size := by omega
  rw [← hbt] at ct0 ⊢
  clear hbt hW1
  clear qW1 zW1
  (go_at_call 11; refine (HMI.out _ Tt.out).mono ?_; rintro e w2x ⟨rfl, qb⟩)
  have zb := qb.size
  replace ct0 := boxD ct0 qb
  replace lt : bt < w2x.heap.size := by omega
  replace Tt := Lib.hid (Tt.out.below qb)
  replace BW := Lib.hid (BW.out.trans (qb.mono BW.out.size))
  clear qb zb
  go_wp2_with fail
  (go_at_call 12; refine (HMO.out _ Tt.out).mono ?_; rintro e w3x ⟨rfl, qb⟩)
  have zb := qb.size
  replace ct0 := boxD ct0 qb
  replace lt : bt < w3x.heap.size := by omega
  replace Tt := Lib.hid (Tt.out.below qb)
  replace BW := Lib.hid (BW.out.trans (qb.mono BW.out.size))
  clear qb zb
  clear HMI HMO
  cases mb
  · go_wp2_with fail
    (go_at_call 9; refine (haOk_any _).mono ?_; rintro e wl ⟨rfl, rfl⟩)
    go_wp2_with fail
    go_ret
    exact ⟨by simp, BW.out⟩
  · have hm := HMB.out.symm
    have u6 := mapB_six hm
    have HM := Lib.hid hm
    clear hm HMB
    go_wp2_with fail
    go_loopw [5] (fun i wr => ∃ j : Nat, j ≤ us.length ∧ i = .int .i64 j ∧ Below w3x.heap.size w3x wr) (fun i _ => us.length - (intOf i).toNat)
    case atStart => exact ⟨0, Nat.zero_le _, rfl, Below.refl _ _⟩
    case round =>
      obtain ⟨k, hj, rfl, hb⟩ := hrel
      have HB := Lib.hid hb
      have hWz := BW.out.size
      have BX := Lib.hid (BW.out.trans (hb.mono hWz))
      have tt := boxD ct0 hb
      have lt' : bt < wr.heap.size := Nat.lt_of_lt_of_le lt hb.size
      have TX := Lib.hid (Tt.out.below hb)
      clear ct0 lt hb
      by_cases hlt : k < us.length
      · obtain ⟨g0, rfl, hca, hat⟩ : ∃ g0, g1 = some ⟨g0, 0, none⟩ ∧ us.length ≤ k1 ∧ EndsAt wr g0 us := by
          obtain ⟨x, cap', e1, ⟨hcc, _⟩, hrow⟩ := TX.out
          simp only [Value.slice.injEq] at e1
          obtain ⟨rfl, _, rfl⟩ := e1
          obtain ⟨g', e2, hat⟩ := hrow (by omega)
          exact ⟨g', e2, hcc, hat⟩
        have hg0 := hat.lt (by omega)
        obtain ⟨ca, cp⟩ := hat k hlt
        obtain ⟨⟨a, p⟩, hap⟩ : ∃ x, x = us[k] := ⟨_, rfl⟩
        rw [← hap] at ca cp
        have hwf := WU.out (a, p) (by rw [hap]; exact List.getElem_mem hlt)
        have hki : (k : Int) < (us.length : Int) := by omega
        have hkc : (k : Int) ≤ (k1 : Int) := by omega
        have hkn : (k : Int) ≤ 6 := by omega
        have hwk : IntKind.wrap .i64 (500 + (k : Int)) = 500 + (k : Int) := IntWalk.i64_in _ (by omega)
        have hwk1 : IntKind.wrap .i64 ((k : Int) + 1) = (k : Int) + 1 := IntWalk.i64_in _ (by omega)
        have HPRE : Hid (∀ w', Below wr.heap.size wr w' → Calls Try.prog 11 #[.agg #[.slice (some ⟨g0, 0, none⟩) k k1]] w' fun e w'' => e = .returned (.bool true) ∧ Below w'.heap.size w' w'') := fun w' hb => by
          have := implMapOk_any (.slice (some ⟨g0, 0, none⟩) k k1) (us.take k) w' (by simp; omega) (fun x hx => WU.out x (List.mem_of_mem_take hx)) ((TX.out.below hb).pre (by omega))
          rwa [mapB_pre HM.out] at this
        have HPORT : Hid (∀ w', Below wr.heap.size wr w' → Calls Try.prog 13 #[.agg #[.slice (some ⟨g0, 0, none⟩) us.length k1], .agg #[.int .i64 a, .int .i64 p]] w' fun e w'' => e = .returned (.int .i64 (500 + (k : Int))) ∧ Below w'.heap.size w' w'') := fun w' hb => by
          have := implMapPort_any (.slice (some ⟨g0, 0, none⟩) us.length k1) us a p w' (by omega) WU.out hwf.1 hwf.2 (TX.out.below hb)
          rwa [hap, port_at HM.out hlt] at this
        have HN : Hid (∀ w', Below wr.heap.size wr w' → ∀ j u, (flatE us)[j]? = some u → w'.cell? ((⟨g0, 0, none⟩ : Addr).add j) = some u) := fun w' hb => (hat.below hb hg0).news
        have HDUP : Hid (mapB (us ++ [(a, p)]) = false) := by rw [hap]; exact mapB_dup hlt
        have HWD : Hid (wfE (us ++ [(a, p)])) := fun x hx => by
          rcases List.mem_append.1 hx with h | h
          · exact WU.out x h
          · rw [List.mem_singleton] at h; subst h; exact hwf
        have mk : Hid (∀ w', Below wr.heap.size wr w' → Below wr.heap.size wr w' ∧ w'.cell? ⟨bt, 0, none⟩ = some (.slice (some ⟨g0, 0, none⟩) us.length k1) ∧ w'.cell? ⟨g0, k * 2, none⟩ = some (.int .i64 a) ∧ w'.cell? ⟨g0, k * 2 + 1, none⟩ = some (.int .i64 p)) := fun w' h => ⟨h, boxD tt h, boxD ca h, boxD cp h⟩
        have zc : wr.heap.size ≤ wr.heap.size := Nat.le_refl _
        obtain ⟨i0, hi, hz0, hz1, hz2⟩ := info_parts infoEnd
        clear hat hap ca cp hwf TX
        go_upto_region 12 with fail
        clear tt
        go_cut [60] (fun s60 wx => s60 = .bool false ∧ Below wr.heap.size wr wx)
        case first =>
          go_region_held3 (fun w' => Below wr.heap.size wr w' ∧ w'.cell? ⟨bt, 0, none⟩ = some (.slice (some ⟨g0, 0, none⟩) us.length k1) ∧ w'.cell? ⟨g0, k * 2, none⟩ = some (.int .i64 a) ∧ w'.cell? ⟨g0, k * 2 + 1, none⟩ = some (.int .i64 p))
            (first
              | exact mk.out _ (Below.refl _ _).drew
              | exact mk.out _ cc
              | exact mk.out _ (((Below.refl _ _).drew).alloc (Nat.le_refl _) _)
              | exact mk.out _ ((Below.refl _ _).alloc (Nat.le_refl _) _)
              | exact mk.out _ (cc.alloc cc.size _)
              | exact mk.out _ ((by assumption : Below wr.heap.size wr _ ∧ _).1.alloc (by assumption : Below wr.heap.size wr _ ∧ _).1.size _)
              | (trace_state; fail))
            (first
              | (have gd := KC; clear gd; go_at_call 11; have hS := (by assumption : Below wr.heap.size wr _ ∧ _); refine (KC.out _ (by first | exact Below.refl _ _ | exact (Below.refl _ _).drew | (trace_state; fail))).mono ?_; rintro e wM ⟨rfl, bM⟩; have cc : Below wr.heap.size wr wM := hS.1.trans (bM.mono hS.1.size); have zc := cc.size; clear bM)
              | (have gd := RL; clear gd; have hS := (by assumption : Below wr.heap.size wr _ ∧ _); refine step_append_w _ (by rfl) (.tmp 50) (.tmp 56) 32 rfl wr.heap.size 39 i0 (.agg #[.int .i64 0, .int .i64 0]) 2 16 Try.underlying32 hi hz0 hz1 hz2 rfl (by decide) vL us.length (flatE us) (by rfl) (by first | exact RL.out | exact RL.out.below ((Below.refl _ _).alloc (Nat.le_refl _) _)) ⟨_, 0, none⟩ 1 1 (endC a p) (by rfl) rfl (by first | exact lit_newsP _ a p _ rfl | exact NY.out | (trace_state; fail)) (fun u hu => by simp [endC] at hu; rcases hu with rfl | rfl <;> rfl) (by unfold maxLen; omega) (by omega) (by first | exact hS.1.size | (simp; omega)) ?_; intro vN wN hown hgrow; have cc : Below wr.heap.size wr wN := hS.1.grown hgrow hS.1.size (fun k e => RL.out.ge k e); have zc := cc.size; have hfm := own_formP hown; obtain ⟨gx, cx, hvx⟩ := hfm; subst hvx; have RO : Hid (TabAt wN (.slice (some ⟨gx, 0, none⟩) (us.length + 1) cx) (us ++ [(a, p)])) := OwnTab.tab (B := wr.heap.size) (by show World.ownsRow _ _ _ _ _ _ _; rw [flatE_app, List.length_append]; simpa [flatE, endC] using hown); have KC : Hid (∀ W, Below wN.heap.size wN W → Calls Try.prog 11 #[.agg #[.slice (some ⟨gx, 0, none⟩) (us.length + 1) cx]] W fun e w' => e = .returned (.bool false) ∧ Below W.heap.size W w') := (fun W hb => by have := implMapOk_any (.slice (some ⟨gx, 0, none⟩) (us.length + 1) cx) (us ++ [(a, p)]) W (by simp; omega) HWD.out (RO.out.below hb); rwa [HDUP.out] at this); clear hown hgrow)
              | (have gd := PD; clear gd; have hS := (by assumption : Below wr.heap.size wr _ ∧ _); refine step_append_w _ (by rfl) (.tmp 47) (.tmp 49) 32 rfl wr.heap.size 39 i0 (.agg #[.int .i64 0, .int .i64 0]) 2 16 Try.underlying32 hi hz0 hz1 hz2 rfl (by decide) (.slice (some ⟨_, 0, none⟩) 0 0) 0 ([]) (by rfl) (by first | exact own_noneP _ _ zc | exact own_nonePE (wP.alloc _) _ (by simp; omega) (by simp) | exact OwnTab.below (es := []) (own_noneP wP _ zc) ((Below.refl _ _).alloc (Nat.le_refl _) _)) ⟨g0, 0, none⟩ us.length k1 (flatE us) (by rfl) (flatE_len us) (HN.out _ hS.1) (flatE_one us) (by unfold maxLen; omega) (by omega) (by first | exact hS.1.size | (simp; omega)) ?_; intro vL wL hown hgrow; have cc : Below wr.heap.size wr wL := hS.1.grown hgrow hS.1.size (fun k e => by simp [Value.ownBlock] at e; omega); have zc := cc.size; have hg2 := (show World.grownBy _ wL (some _) from hgrow); (first | (have NY := Lib.hid (kept_newsP (b := wP.heap.size + 1) (W := (wP.alloc (.cells #[] 39)).alloc (.cells #[.int .i64 a, .int .i64 p] 39)) (blk := wP.heap.size) hg2 (by simp) (lit_newsP (wP.alloc (.cells #[] 39)) a p 39 (by simp)))) | (have NY := Lib.hid (kept_newsP (b := wP.heap.size) (W := (wP.alloc (.cells #[.int .i64 a, .int .i64 p] 39)).alloc (.cells #[] 39)) (blk := wP.heap.size + 1) hg2 (by simp) (later_newsP _ (lit_newsP wP a p 39 rfl)))) | skip); have RL : Hid (OwnTab wL wr.heap.size vL us) := (by show World.ownsRow _ _ _ _ _ _ _; simpa using hown); clear hown hgrow hg2)
              | (go_at_call 13; have hS := (by assumption : Below wr.heap.size wr _ ∧ _); refine (HPORT.out _ hS.1).mono ?_; rintro e wP ⟨rfl, bP⟩; have cc : Below wr.heap.size wr wP := hS.1.trans (bP.mono hS.1.size); have zc := cc.size; have PD : Hid True := trivial; clear bP)
              | (go_at_call 11; have hS := (by assumption : Below wr.heap.size wr _ ∧ _); refine (HPRE.out _ hS.1).mono ?_; rintro e wQ ⟨rfl, bQ⟩; have cc : Below wr.heap.size wr wQ := hS.1.trans (bQ.mono hS.1.size); have zc := cc.size; clear bQ))
          all_goals (go_wp2_with fail; go_meet)
          all_goals (first | exact ⟨rfl, cc⟩ | exact ⟨by simp; omega, cc⟩ | (trace_state; fail))
        case rest =>
          obtain ⟨rfl, c7⟩ := hcut
          have B9 := HB.out.trans (c7.mono HB.out.size)
          clear mk HN HPRE HPORT HDUP HWD
          go_wp2_with fail
          go_roundw
          case rel => exact ⟨k + 1, by omega, by go_num, B9⟩
          case measure => simp [intOf]; omega
      · have hje : k = us.length := by omega
        subst hje
        go_wp2_with fail
        (go_at_call 9; refine (haOk_any _).mono ?_; rintro e wl ⟨rfl, rfl⟩)
        go_wp2_with fail
        go_ret
        exact ⟨by simp, BX.out⟩

set_option maxRecDepth 100000 in
set_option maxHeartbeats 800000 in
theorem lwMapOk_any (ao : Option Addr) (n cap : Nat) (w : World) (h : BytesIn w ao n) (hn : n ≤ cap) :
    Calls Try.prog 4 #[.slice ao n cap] w fun e w' => e = .returned (.bool true) ∧ Below w.heap.size w w' := by
  by_cases hb1 : 1048576 < n
  · clear h
    go_enter Try.func4, Try.ntmps4
    go_wp2_with fail
    go_ret
    exact ⟨rfl, Below.refl _ _⟩
  · exact lwMapOk_of ao n cap w h hn hb1

end Go.Proofs.Ytbhpogddnpaacaa
