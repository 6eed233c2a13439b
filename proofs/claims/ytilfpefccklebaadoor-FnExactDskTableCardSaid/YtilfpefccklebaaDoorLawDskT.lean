/- The law of DskTable. Conditions: the argument's ends lie in the machine's memory, at any address; the library's table of powers of ten holds what it is laid with. -/
import Derived.Test.YtilfpefccklebaaDoorMarkTab
import Derived.Test.YtilfpefccklebaaDoorArgTab
import Derived.Test.YtilfpefccklebaaDoorSDskT
import Derived.Test.YtilfpefccklebaaDoorJoin4
import Derived.Test.YtilfpefccklebaaDoorMark
import Derived.Deep.RegionWith
namespace Go.Proofs.YtilfpefccklebaaDoor
open Go.RowKit Go.Sort

theorem own_gr {w w' : World} {B n : Nat} {t : TypeId} {v : Value} {l : List Value} {row : Option Nat} (h : w.ownsRow B t 1 v n l) (hg : w.grownBy w' row) (hne : ∀ g, v.ownBlock = some g → row ≠ some g) : w'.ownsRow B t 1 v n l := by
  refine ⟨h.1, ?_⟩
  rcases h.2 with h2 | ⟨g, cap, cur, hv, hB, hgg, h2, h3, hs, ht⟩
  · exact Or.inl h2
  · exact Or.inr ⟨g, cap, cur, hv, hB, (hg.block g (Array.getElem?_eq_some_iff.1 hgg).1 (fun e => hne g (by rw [hv]; rfl) e.symm)).trans hgg, h2, h3, hs, ht⟩
theorem own_bel {w w' : World} {B B' n : Nat} {t : TypeId} {v : Value} {l : List Value} (h : w.ownsRow B t 1 v n l) (hb : Below B' w w') (hlt : ∀ g, v.ownBlock = some g → g < B') : w'.ownsRow B t 1 v n l := by
  refine ⟨h.1, ?_⟩
  rcases h.2 with h2 | ⟨g, cap, cur, hv, hB, hgg, h2, h3, hs, ht⟩
  · exact Or.inl h2
  · exact Or.inr ⟨g, cap, cur, hv, hB, (hb.block g (hlt g (by rw [hv]; rfl))).trans hgg, h2, h3, hs, ht⟩
theorem dskL_le (es : List (Int × Int)) : (dskL es).length ≤ es.length := by
  unfold dskL
  split
  · rw [tabLs_len]; exact Nat.le_refl _
  · simp

set_option maxRecDepth 100000 in
set_option maxHeartbeats 3200000 in
theorem lawDskTable_any (v : Value) (es : List (Int × Int)) (w : World) (hL : es.length ≤ 9223372036854775807) (ht : ArgTab w v es) (hwf : wfE es) (hp : TabOk w) :
    Calls Tryd.prog 4 #[.agg #[v]] w fun e w' => e = .returned (.bool true) ∧ Below w.heap.size w w' := by
  have HT := Lib.hid ht
  obtain ⟨ad, cap, rfl, _, _⟩ := ht
  rcases Nat.lt_or_ge 1048576 es.length with h | h
  · have HS : Hid (∀ w, ArgTab w (.slice ad es.length cap) es → Calls Tryd.prog 11 #[.agg #[.slice ad es.length cap], .int .i64 1048576] w fun e w' => e = .returned (.int .i64 (-1)) ∧ Below w.heap.size w w') := fun w ht => by
      have := lawSzArg _ es 1048576 w hL (by decide) (by decide) ht
      rwa [if_pos (by omega)] at this
    go_enter Tryd.func4, Tryd.ntmps4
    go_wp2_with (go_at_call 11; refine (HS.out _ (HT.out.below ((Below.refl _ _).alloc (Nat.le_refl _) _))).mono ?_; rintro e w1 ⟨rfl, b1⟩)
    go_ret
    exact ⟨rfl, ((Below.refl _ _).alloc (Nat.le_refl _) _).trans (b1.mono (by simp))⟩
  · have hn : es.length ≤ 4194304 := by omega
    obtain ⟨q0, hq0⟩ : ∃ q0 : Int, q0 = 1048576 - es.length := ⟨_, rfl⟩
    have hq1 : 0 ≤ q0 := by omega
    have HS : Hid (∀ w, ArgTab w (.slice ad es.length cap) es → Calls Tryd.prog 11 #[.agg #[.slice ad es.length cap], .int .i64 1048576] w fun e w' => e = .returned (.int .i64 q0) ∧ Below w.heap.size w w') := fun w ht => by
      have := lawSzArg _ es 1048576 w hL (by decide) (by decide) ht
      rw [if_neg (by omega)] at this
      rwa [hq0]
    have HTo : Hid (∀ w, ArgTab w (.slice ad es.length cap) es → Calls Tryd.prog 13 #[.agg #[.slice ad es.length cap]] w fun e w' => ∃ g c, e = .returned (.agg #[.slice (some ⟨g, 0, none⟩) es.length c]) ∧ TabRoom w' w.heap.size (.slice (some ⟨g, 0, none⟩) es.length c) es ∧ Below w.heap.size w w') := fun w ht => by
      refine (toTabArg _ es w hn ht).mono ?_
      rintro e w' ⟨u, rfl, hu, hb⟩
      obtain ⟨g, c, rfl, _⟩ := id hu
      exact ⟨g, c, rfl, hu, hb⟩
    have hxl := dskL_le es
    obtain ⟨xs, hxs⟩ : ∃ xs, xs = dskL es := ⟨_, rfl⟩
    obtain ⟨n, hnx⟩ : ∃ n, n = (dskL es).length := ⟨_, rfl⟩
    have HM : Hid (∀ v w, TabAt w v es → Calls Tryd.prog 12 #[.agg #[v]] w fun e w' => ∃ v', e = .returned v' ∧ w'.ownsRow w.heap.size 9 1 v' n (xs.map strV) ∧ Below w.heap.size w w') := fun v w ht => by rw [hxs, hnx]; exact specDskT_any v es w hn ht
    have HI : Hid (∀ v w, TabAt w v es → TabOk w → Calls Tryd.prog 14 #[.agg #[v]] w fun e w' => ∃ v', e = .returned v' ∧ w'.ownsRow w.heap.size 9 1 v' n (xs.map strV) ∧ Below w.heap.size w w') := fun v w ht hp => by rw [hxs, hnx]; exact implDskT_any v es w hn hwf hp ht spaced_ok
    have hxm : xs.length ≤ 4194304 := by rw [hxs]; omega
    have hnm : n ≤ 1048576 := by omega
    have HQ : Hid (∀ u v w, RdV w u (xs.map strV) → RdV w v (xs.map strV) → Calls Tryd.prog 15 #[u, v] w fun e w' => e = .returned (.bool true) ∧ Below w.heap.size w w') := fun u v w h1 h2 => eqStr_same xs u v w hxm h1 h2
    have HE : Hid (∀ u v w, TabAt w u es → TabAt w v es → Calls Tryd.prog 16 #[.agg #[u], .agg #[v]] w fun e w' => e = .returned (.bool true) ∧ Below w.heap.size w w') := fun u v w h1 h2 => eqTab_same u v es w hn h1 h2
    have HTb : Hid (∀ w', Below w.heap.size w w' → TabOk w') := fun w' h => hp.below h (Nat.le_refl _)
    obtain ⟨mX, hmX⟩ : ∃ mX : Int, mX = ((1 + 2 * es.length : Nat) : Int) := ⟨_, rfl⟩
    have hmX0 : 0 ≤ mX := by omega
    have HKX : Hid (∀ B g c w, TabRoom w B (.slice (some ⟨g, 0, none⟩) es.length c) es → Calls Tryd.prog 17 #[.agg #[.slice (some ⟨g, 0, none⟩) es.length c], .int .i64 1] w fun e w' => e = .returned (.int .i64 mX) ∧ w.grownBy w' (some g)) := fun B g c w h => by
      refine (markTab_room 1 B _ es w (by omega) h).mono ?_
      rintro e w' ⟨rfl, _, hg⟩
      exact ⟨by rw [hmX], hg⟩
    obtain ⟨mG, hmG⟩ : ∃ mG : Int, mG = ((1 + n : Nat) : Int) := ⟨_, rfl⟩
    have hmG0 : 0 ≤ mG := by omega
    have HKG : Hid (∀ B v w, w.ownsRow B 9 1 v n (xs.map strV) → Calls Tryd.prog 18 #[v, .int .i64 1] w fun e w' => e = .returned (.int .i64 mG) ∧ RdV w' v (marksL 1 n) ∧ Below B w w') := fun B v w h => by rw [hmG]; exact markStr_own 1 n B v _ w (by omega) (by omega) h
    have HHG : Hid (∀ v w, RdV w v (marksL 1 n) → Calls Tryd.prog 19 #[v, .int .i64 1] w fun e w' => e = .returned (.int .i64 mG) ∧ Below w.heap.size w w') := fun v w h => by rw [hmG]; exact heldStr_own 1 n v w (by omega) (by omega) h
    clear hxs hnx hq0 hL hwf hp hmX hmG hxm hnm hxl
    have hAw : Hid (∀ w', Below w.heap.size w w' → ArgTab w' (.slice ad es.length cap) es) := fun w' hb => HT.out.below hb
    go_enter Tryd.func4, Tryd.ntmps4
    go_wp2_with fail
    (go_at_call 11; refine (HS.out _ (HT.out.below ((Below.refl _ _).alloc (Nat.le_refl _) _))).mono ?_; rintro e w1 ⟨rfl, b1⟩; have t1 : w1.cell? ⟨w.heap.size, 0, none⟩ = some (.slice ad es.length cap) := (by rw [b1.cell (by simp)]; simp); have B1 : Hid (Below w.heap.size w w1) := (((Below.refl _ _).alloc (Nat.le_refl _) _).trans (b1.mono (by simp))); have z1 : w.heap.size < w1.heap.size := (by have := b1.size; simp at this; omega); clear b1)
    have mk1 : Hid (∀ w', Below w1.heap.size w1 w' → w'.cell? ⟨w.heap.size, 0, none⟩ = some (.slice ad es.length cap) ∧ Below w.heap.size w w') := fun w' hb => ⟨by rw [hb.cell z1]; exact t1, B1.out.trans (hb.mono (by omega))⟩
    go_wp2_with fail
    (go_at_call 13; refine (HTo.out _ (hAw.out _ B1.out)).mono ?_; rintro e w2 ⟨ga, ca, rfl, ra, b2⟩; have RA := Lib.hid ra.tab; clear ra)
    go_wp2_with fail
    (go_at_call 12; refine (HM.out _ _ RA.out).mono ?_; rintro e w3 ⟨v0, rfl, own0, b3⟩; have C3 : Hid (Below w1.heap.size w1 w3) := b2.trans (b3.mono b2.size); have lt0 : ∀ g, v0.ownBlock = some g → g < w3.heap.size := (fun g e => (own0.lt _ e).2); have O3 := Lib.hid own0; clear own0 b2 b3; have t3 := (mk1.out _ C3.out).1; have z3 := C3.out.size)
    go_wp2_with fail
    (go_at_call 13; refine (HTo.out _ (hAw.out _ (mk1.out _ C3.out).2)).mono ?_; rintro e w4 ⟨gx, cx, rfl, rx, b4⟩; have B4 := Lib.hid b4; have RX4 := Lib.hid rx; have gxl : w3.heap.size ≤ gx ∧ gx < w4.heap.size := (by obtain ⟨g, c, e1, _, h1, h2, _⟩ := id rx; simp at e1; obtain ⟨rfl, rfl⟩ := e1; exact ⟨h1, h2⟩); clear rx b4)
    have HI4 : Hid (∀ o, Calls Tryd.prog 14 #[.agg #[.slice (some ⟨gx, 0, none⟩) es.length cx]] (w4.alloc o) fun e w' => ∃ v', e = .returned v' ∧ w'.ownsRow (w4.heap.size + 1) 9 1 v' n (xs.map strV) ∧ Below (w4.heap.size + 1) (w4.alloc o) w') := fun o => by
      have := HI.out _ _ (RX4.out.tab.below ((Below.refl _ _).alloc (Nat.le_refl _) o)) (HTb.out _ (mk1.out _ (C3.out.trans ((B4.out.alloc B4.out.size o).mono z3))).2)
      simpa using this
    go_wp2_with fail
    (go_at_call 14; refine (HI4.out _).mono ?_; rintro e w5 ⟨v1, rfl, own1, b5⟩)
    have z4 := B4.out.size
    have c35 : Below w3.heap.size w3 w5 := (B4.out.alloc z4 _).trans (b5.mono (by omega))
    have x5 : w5.cell? ⟨w4.heap.size, 0, none⟩ = some (.slice (some ⟨gx, 0, none⟩) es.length cx) := by rw [b5.cell (by simp)]; simp
    have RX5 : Hid (TabRoom w5 w3.heap.size (.slice (some ⟨gx, 0, none⟩) es.length cx) es) := (RX4.out.below ((Below.refl _ _).alloc (Nat.le_refl _) _)).below (by simpa using b5)
    have O5 : Hid (w5.ownsRow w2.heap.size 9 1 v0 n (xs.map strV)) := own_bel O3.out c35 lt0
    have ge1 : ∀ g, v1.ownBlock = some g → w4.heap.size + 1 ≤ g := fun g e => own_ge own1 g e
    have P5 := Lib.hid own1
    have z5 := b5.size
    have z45 : w4.heap.size + 1 ≤ w5.heap.size := by simpa using z5
    clear own1 b5 z5
    go_wp2_with fail
    (go_at_call 15; refine (HQ.out _ _ _ (RdV.of_own P5.out).1 (RdV.of_own O5.out).1).mono ?_; rintro e w6 ⟨rfl, b6⟩)
    have z56 := b6.size
    have C6 : Hid (Below w3.heap.size w3 w6) := c35.trans (b6.mono c35.size)
    have x6 : w6.cell? ⟨w4.heap.size, 0, none⟩ = some (.slice (some ⟨gx, 0, none⟩) es.length cx) := by rw [b6.cell (by simp; omega)]; exact x5
    have RX6 := Lib.hid (RX5.out.below b6)
    have O6 := Lib.hid (own_below O5.out b6)
    have P6 := Lib.hid (own_below P5.out b6)
    have hA3 : Hid (∀ w', Below w3.heap.size w3 w' → w'.cell? ⟨w.heap.size, 0, none⟩ = some (.slice ad es.length cap) ∧ Below w.heap.size w w') := fun w' hb => mk1.out _ (C3.out.trans (hb.mono z3))
    have t6 := (hA3.out _ C6.out).1
    clear c35 x5 RX5 O5 P5 b6 t1 t3
    go_wp2_with fail
    go_region_with (first
      | (go_at_call 13; refine (HTo.out _ (hAw.out _ (hA3.out _ C6.out.drew).2)).mono ?_; rintro e w7 ⟨gy, cy, rfl, ry, b7⟩; have RY := Lib.hid ry; have d7 : Below w6.heap.size w6 w7 := ((Below.refl _ _).drew).trans b7; have x7 : w7.cell? ⟨w4.heap.size, 0, none⟩ = some (.slice (some ⟨gx, 0, none⟩) es.length cx) := (by rw [d7.cell (by simp; omega)]; exact x6); clear ry b7)
      | (go_at_call 16; refine (HE.out _ _ _ (RX6.out.below d7).tab RY.out.tab).mono ?_; rintro e w8 ⟨rfl, b8⟩; have d8 := d7.trans (b8.mono d7.size)))
    all_goals
      have x8 : w8.cell? ⟨w4.heap.size, 0, none⟩ = some (.slice (some ⟨gx, 0, none⟩) es.length cx) := by rw [d8.cell (by simp; omega)]; exact x6
      have RX8 := Lib.hid (RX6.out.below d8)
      have O8 := Lib.hid (own_below O6.out d8)
      have P8 := Lib.hid (own_below P6.out d8)
      have C8 : Hid (Below w3.heap.size w3 w8) := C6.out.trans (d8.mono C6.out.size)
      go_wp2_with fail
      (go_at_call 17; refine (HKX.out _ _ _ _ RX8.out).mono ?_; rintro e w9 ⟨rfl, g9⟩)
      have C9 : Hid (Below w3.heap.size w3 w9) := C8.out.grown g9 C8.out.size (fun b e => by cases e; exact gxl.1)
      have O9 := Lib.hid (own_gr O8.out g9 (fun g e e2 => by cases e2; have := lt0 _ e; omega))
      have P9 := Lib.hid (own_gr P8.out g9 (fun g e e2 => by cases e2; have := ge1 _ e; omega))
      go_wp2_with fail
      (go_at_call 15; refine (HQ.out _ _ _ (RdV.of_own P9.out).1 (RdV.of_own O9.out).1).mono ?_; rintro e w10 ⟨rfl, b10⟩)
      have O10 := Lib.hid (own_below O9.out b10)
      have P10 := Lib.hid (own_below P9.out b10)
      have C10 : Hid (Below w3.heap.size w3 w10) := C9.out.trans (b10.mono C9.out.size)
      go_wp2_with fail
      (go_at_call 18; refine (HKG.out _ _ _ P10.out).mono ?_; rintro e w11 ⟨rfl, m11, b11⟩; have M11 := Lib.hid m11; clear m11)
      have O11 := Lib.hid (own_bel O10.out b11 (fun g e => by have := lt0 _ e; omega))
      have C11 : Hid (Below w3.heap.size w3 w11) := C10.out.trans (b11.mono (by omega))
      go_wp2_with fail
      (go_at_call 19; refine (HHG.out _ _ M11.out).mono ?_; rintro e w12 ⟨rfl, b12⟩)
      have O12 := Lib.hid (own_below O11.out b12)
      have M12 := Lib.hid (M11.out.below b12)
      have C12 : Hid (Below w3.heap.size w3 w12) := C11.out.trans (b12.mono C11.out.size)
      have t12 := (hA3.out _ C12.out).1
      go_wp2_with fail
      (go_at_call 13; refine (HTo.out _ (hAw.out _ (hA3.out _ C12.out).2)).mono ?_; rintro e w13 ⟨gz, cz, rfl, rz, b13⟩; have RZ := Lib.hid rz.tab; clear rz)
      have O13 := Lib.hid (own_below O12.out b13)
      have M13 := Lib.hid (M12.out.below b13)
      have C13 : Hid (Below w3.heap.size w3 w13) := C12.out.trans (b13.mono C12.out.size)
      go_wp2_with fail
      (go_at_call 14; refine (HI.out _ _ RZ.out (HTb.out _ (hA3.out _ C13.out).2)).mono ?_; rintro e w14 ⟨v2, rfl, own2, b14⟩; have S14 := Lib.hid (RdV.of_own own2).1; clear own2)
      have O14 := Lib.hid (own_below O13.out b14)
      have M14 := Lib.hid (M13.out.below b14)
      have C14 : Hid (Below w3.heap.size w3 w14) := C13.out.trans (b14.mono C13.out.size)
      go_wp2_with fail
      (go_at_call 15; refine (HQ.out _ _ _ S14.out (RdV.of_own O14.out).1).mono ?_; rintro e w15 ⟨rfl, b15⟩)
      have M15 := Lib.hid (M14.out.below b15)
      have C15 : Hid (Below w3.heap.size w3 w15) := C14.out.trans (b15.mono C14.out.size)
      go_wp2_with fail
      (go_at_call 19; refine (HHG.out _ _ M15.out).mono ?_; rintro e w16 ⟨rfl, b16⟩)
      go_wp2
      go_ret
      exact ⟨rfl, (hA3.out _ (C15.out.trans (b16.mono C15.out.size))).2⟩

end Go.Proofs.YtilfpefccklebaaDoor
