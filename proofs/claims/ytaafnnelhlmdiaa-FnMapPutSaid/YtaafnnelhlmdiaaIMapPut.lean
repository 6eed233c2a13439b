/- MapPut of the program and of the specification, in one form. Conditions: at most 2^22 ends; all numbers are ints. -/
import Derived.Test.YtaafnnelhlmdiaaIGive
import Derived.Test.YtaafnnelhlmdiaaIMapO
import Derived.Test.YtaafnnelhlmdiaaSPuts
import Derived.Test.YtaafnnelhlmdiaaBox
namespace Go.Proofs.Ytaafnnelhlmdiaa
open Go.RowKit Go.Sort

/-- What MapPut answers: a table, and a port. -/
def putA (es : List (Int × Int)) (e : Int × Int) : List (Int × Int) × Int := if (mapB es && insB e.1 e.2) = true then putE es e else ([], 0)
theorem putA_yes {es : List (Int × Int)} {e : Int × Int} (h : (mapB es && insB e.1 e.2) = true) : putA es e = putE es e := if_pos h
theorem putA_not {es : List (Int × Int)} {e : Int × Int} (h : (mapB es && insB e.1 e.2) = false) : putA es e = ([], 0) := if_neg (by rw [h]; decide)
theorem putE_le {es : List (Int × Int)} {e : Int × Int} (h : es.length ≤ 6) : (putE es e).1.length ≤ 6 := by
  unfold putE
  split
  · exact h
  · split
    · exact h
    · simp; omega
theorem putA_le (es : List (Int × Int)) (e : Int × Int) : (putA es e).1.length ≤ 6 := by
  by_cases h : (mapB es && insB e.1 e.2) = true
  · rw [putA_yes h]
    exact putE_le (mapB_le (by simp at h; exact h.1))
  · rw [putA_not (by simpa using h)]
    simp

theorem specPutA (v : Value) (es : List (Int × Int)) (a p : Int) (w : World) (hn : es.length ≤ 4194304) (ht : TabAt w v es) :
    Calls Try.prog 9 #[.agg #[v], .agg #[.int .i64 a, .int .i64 p]] w fun e w' => ∃ g c, e = .returned (.tuple #[.agg #[.slice g (putA es (a, p)).1.length c], .int .i64 (putA es (a, p)).2]) ∧ FreshTab w' w.heap.size (.slice g (putA es (a, p)).1.length c) (putA es (a, p)).1 ∧ Below w.heap.size w w' := by
  by_cases h : (mapB es && insB a p) = true
  · rw [putA_yes h]
    simp only [Bool.and_eq_true] at h
    refine (specMapPut_ok v es a p w hn ht h.1 h.2).mono ?_
    rintro e w' ⟨g, c, rfl, h1, h2⟩
    exact ⟨_, _, rfl, h1.fresh, h2⟩
  · have h' : (mapB es && insB a p) = false := by simpa using h
    rw [putA_not h']
    refine (specMapPut_not v es a p w hn ht h').mono ?_
    rintro e w' ⟨rfl, h2⟩
    exact ⟨_, _, rfl, FreshTab.nil _ _, h2⟩

set_option maxRecDepth 100000 in
set_option maxHeartbeats 1600000 in
theorem implMapPut_not (v : Value) (es : List (Int × Int)) (a p : Int) (w : World) (hn : es.length ≤ 4194304) (hwf : wfE es) (ht : TabAt w v es) (hno : (mapB es && insB a p) = false) :
    Calls Try.prog 8 #[.agg #[v], .agg #[.int .i64 a, .int .i64 p]] w fun e w' => e = .returned (.tuple #[.agg #[.slice none 0 0], .int .i64 0]) ∧ Below w.heap.size w w' := by
  have HT := Lib.hid ht
  obtain ⟨ad, cap, rfl, hcap, hr⟩ := ht
  have hM : Hid (∀ w, TabAt w (.slice ad es.length cap) es → Calls Try.prog 11 #[.agg #[.slice ad es.length cap]] w fun e w' => e = .returned (.bool (mapB es)) ∧ Below w.heap.size w w') := fun w h => implMapOk_any _ es w hn hwf h
  clear hr hwf
  by_cases hm : mapB es = true
  · have hi : insB a p = false := by rw [hm] at hno; simpa using hno
    rw [hm] at hM
    clear hno hm
    go_enter Try.func8, Try.ntmps8
    go_wp2_with (first
      | (go_at_call 11; refine (hM.out _ (HT.out.below ((((Below.refl _ _).alloc (Nat.le_refl _) _).alloc (by simp) _).alloc (by simp; omega) _))).mono ?_; rintro e w1 ⟨rfl, b1⟩; obtain ⟨cA, cB, cC, b01, z1⟩ := cell_three b1; have e0 := (cB 0).1; have e1 := (cB 1).1; have r0 := (cC 0).1; have g0 := (cC 0).2; simp at e0 e1 r0; clear cA cB cC)
      | (go_at_call 23; refine (implInside_any a p _).mono ?_; rintro e w2 ⟨rfl, b2⟩; have r2 : w2.cell? ⟨w.heap.size + 1 + 1, 0, none⟩ = some (.slice none 0 0) := (by rw [b2.cell (by simp; omega)]; exact r0); have g2 : w2.frozen? ⟨w.heap.size + 1 + 1, 0, none⟩ = false := (by rw [b2.frozen (by simp; omega)]; exact g0)))
    refine bodyPost_ret (v := .tuple #[.agg #[.slice none 0 0], .int .i64 0]) (by simp [results, Try.results8, go_sem, World.cell?_setCell_same _ _ _ r2]) rfl ⟨rfl, ?_⟩
    exact (b01.trans (b2.mono (by omega))).setCell (by simp; omega) _
  · have hm' : mapB es = false := by simpa using hm
    rw [hm'] at hM
    clear hno hm hm'
    go_enter Try.func8, Try.ntmps8
    go_wp2_with (go_at_call 11; refine (hM.out _ (HT.out.below ((((Below.refl _ _).alloc (Nat.le_refl _) _).alloc (by simp) _).alloc (by simp; omega) _))).mono ?_; rintro e w1 ⟨rfl, b1⟩; obtain ⟨cA, cB, cC, b01, z1⟩ := cell_three b1; have r0 := (cC 0).1; have g0 := (cC 0).2; simp at r0; clear cA cB cC)
    refine bodyPost_ret (v := .tuple #[.agg #[.slice none 0 0], .int .i64 0]) (by simp [results, Try.results8, go_sem, World.cell?_setCell_same _ _ _ r0]) rfl ⟨rfl, ?_⟩
    exact b01.setCell (by simp; omega) _

set_option maxRecDepth 100000 in
set_option maxHeartbeats 1600000 in
theorem implMapPut_ok (v : Value) (es : List (Int × Int)) (a p : Int) (w : World) (hn : es.length ≤ 4194304) (ht : TabAt w v es) (hm : mapB es = true) (hi : insB a p = true) :
    Calls Try.prog 8 #[.agg #[v], .agg #[.int .i64 a, .int .i64 p]] w fun e w' => ∃ g c, e = .returned (.tuple #[.agg #[.slice g (putE es (a, p)).1.length c], .int .i64 (putE es (a, p)).2]) ∧ OwnTab w' w.heap.size (.slice g (putE es (a, p)).1.length c) (putE es (a, p)).1 ∧ Below w.heap.size w w' := by
  have HT := Lib.hid ht
  have hwf := mapB_wf hm
  obtain ⟨ad, cap, rfl, hcap, hr⟩ := ht
  have hM : Hid (∀ w, TabAt w (.slice ad es.length cap) es → Calls Try.prog 11 #[.agg #[.slice ad es.length cap]] w fun e w' => e = .returned (.bool true) ∧ Below w.heap.size w w') := fun w h => by rw [← hm]; exact implMapOk_any _ es w hn hwf h
  have HP : Hid (∀ w, TabAt w (.slice ad es.length cap) es → Calls Try.prog 24 #[.agg #[.slice ad es.length cap]] w fun e w' => ∃ g1 g2, e = .returned (.agg #[.map (some g1), .map (some g2)]) ∧ w.heap.size ≤ g1 ∧ w.heap.size ≤ g2 ∧ Both w' g1 g2 es ∧ Below w.heap.size w w') := fun w h => portsOf_any _ es w hn hwf h
  obtain ⟨us, hus⟩ : ∃ us, us = (putE es (a, p)).1 := ⟨_, rfl⟩
  obtain ⟨q, hq⟩ : ∃ q, q = (putE es (a, p)).2 := ⟨_, rfl⟩
  have HG : Hid (∀ g1 g2 w, Both w g1 g2 es → Calls Try.prog 25 #[.agg #[.map (some g1), .map (some g2)], .agg #[.int .i64 a, .int .i64 p]] w fun e w' => e = .returned (.int .i64 q) ∧ Both w' g1 g2 us ∧ Two g1 g2 w w') := fun g1 g2 w h => by rw [hus, hq]; exact givePort_any g1 g2 es a p w h hm hi
  have hmu : mapB us = true := by rw [hus]; exact putE_ok hm hi
  have HO : Hid (∀ g1 g2 w, Both w g1 g2 us → Calls Try.prog 26 #[.agg #[.map (some g1), .map (some g2)]] w fun e w' => ∃ a c, e = .returned (.agg #[.slice a us.length c]) ∧ OwnTab w' w.heap.size (.slice a us.length c) us ∧ Below w.heap.size w w') := fun g1 g2 w h => tableOf_any g1 g2 us w h (valsL_ok hmu) (by have := mapB_le hmu; omega)
  rw [← hus, ← hq]
  clear hr hm hus hq hmu hwf hcap hn
  go_enter Try.func8, Try.ntmps8
  go_wp2_with fail
  (go_at_call 11; refine (hM.out _ (HT.out.below ((((Below.refl _ _).alloc (Nat.le_refl _) _).alloc (by simp) _).alloc (by simp; omega) _))).mono ?_; rintro e w1 ⟨rfl, b1⟩; obtain ⟨cA, cB, cC, b01, z1⟩ := cell_three b1; have t0 := (cA 0).1; have e0 := (cB 0).1; have e1 := (cB 1).1; have r0 := (cC 0).1; have g0 := (cC 0).2; simp at t0 e0 e1 r0; clear cA cB cC b1)
  go_wp2_with fail
  (go_at_call 23; refine (implInside_any a p _).mono ?_; rintro e w2 ⟨rfl, b2⟩; have t2 : w2.cell? ⟨w.heap.size, 0, none⟩ = some (.slice ad es.length cap) := (by rw [b2.cell (by simp; omega)]; exact t0); have e20 : w2.cell? ⟨w.heap.size + 1, 0, none⟩ = some (.int .i64 a) := (by rw [b2.cell (by simp; omega)]; exact e0); have e21 : w2.cell? ⟨w.heap.size + 1, 1, none⟩ = some (.int .i64 p) := (by rw [b2.cell (by simp; omega)]; exact e1); have r2 : w2.cell? ⟨w.heap.size + 1 + 1, 0, none⟩ = some (.slice none 0 0) := (by rw [b2.cell (by simp; omega)]; exact r0); have g02 : w2.frozen? ⟨w.heap.size + 1 + 1, 0, none⟩ = false := (by rw [b2.frozen (by simp; omega)]; exact g0))
  have b02 : Hid (Below w.heap.size w w2) := b01.trans (b2.mono (by omega))
  have z2 : w.heap.size + 3 ≤ w2.heap.size := Nat.le_trans z1 b2.size
  clear b2 b01 t0 e0 e1 r0 g0 z1
  go_wp2_with fail
  (go_at_call 24; refine (HP.out _ (HT.out.below b02.out)).mono ?_; rintro e w3 ⟨g1, g2, rfl, l1, l2, hb, b3⟩; have z3 := b3.size; have m1 := hb.lt.1; have m2 := hb.lt.2; have HB : Hid (∀ o, Both (w3.alloc o) g1 g2 es) := (fun o => hb.later ((Below.refl _ _).alloc (Nat.le_refl _) o)); have B3 : Hid (Below w.heap.size w w3) := b02.out.trans (b3.mono (by omega)); have e30 : ∀ o, (w3.alloc o).cell? ⟨w.heap.size + 1, 0, none⟩ = some (.int .i64 a) := (fun o => by rw [cell_alloc_lt (by omega), b3.cell (by simp; omega)]; exact e20); have e31 : ∀ o, (w3.alloc o).cell? ⟨w.heap.size + 1, 1, none⟩ = some (.int .i64 p) := (fun o => by rw [cell_alloc_lt (by omega), b3.cell (by simp; omega)]; exact e21); have r3 : ∀ o, (w3.alloc o).cell? ⟨w.heap.size + 1 + 1, 0, none⟩ = some (.slice none 0 0) := (fun o => by rw [cell_alloc_lt (by omega), b3.cell (by simp; omega)]; exact r2); have g03 : ∀ o, (w3.alloc o).frozen? ⟨w.heap.size + 1 + 1, 0, none⟩ = false := (fun o => by rw [frozen_alloc_lt (by omega), b3.frozen (by simp; omega)]; exact g02); clear hb b3)
  go_wp2_with fail
  (go_at_call 25; refine (HG.out g1 g2 _ (HB.out _)).mono ?_; rintro e w4 ⟨rfl, hb4, t4⟩; have HB4 := Lib.hid hb4; have z4 : w3.heap.size + 1 ≤ w4.heap.size := (by have := t4.size; simpa using this); have p0 : w4.cell? ⟨w3.heap.size, 0, none⟩ = some (.map (some g1)) := (by rw [t4.cell (by simp) (by omega) (by omega)]; simp); have p1 : w4.cell? ⟨w3.heap.size, 1, none⟩ = some (.map (some g2)) := (by rw [t4.cell (by simp) (by omega) (by omega)]; simp); have r4 : w4.cell? ⟨w.heap.size + 1 + 1, 0, none⟩ = some (.slice none 0 0) := (by rw [t4.cell (by simp; omega) (by omega) (by omega)]; exact r3 _); have g04 : w4.frozen? ⟨w.heap.size + 1 + 1, 0, none⟩ = false := (by rw [t4.frozen (by simp; omega) (by omega) (by omega)]; exact g03 _); have B4 : Hid (Below w.heap.size w w4) := (B3.out.alloc B3.out.size _).trans (t4.below (by simp; omega) (by omega) (by omega)); clear hb4 t4)
  go_wp2_with fail
  (go_at_call 26; refine (HO.out g1 g2 _ HB4.out).mono ?_; rintro e w5 ⟨g5, c5, rfl, o5, b5⟩; have O5 := Lib.hid o5; have r5 : w5.cell? ⟨w.heap.size + 1 + 1, 0, none⟩ = some (.slice none 0 0) := (by rw [b5.cell (by simp; omega)]; exact r4); have g05 : w5.frozen? ⟨w.heap.size + 1 + 1, 0, none⟩ = false := (by rw [b5.frozen (by simp; omega)]; exact g04); have B5 : Hid (Below w.heap.size w w5) := B4.out.trans (b5.mono (by omega)); clear o5 b5)
  go_wp2_with fail
  refine bodyPost_ret (v := .tuple #[.agg #[.slice g5 us.length c5], .int .i64 q]) (by simp [results, Try.results8, go_sem, World.cell?_setCell_same _ _ _ r5]) rfl ⟨_, _, rfl, ?_, B5.out.setCell (by simp; omega) _⟩
  exact OwnTab.mono (B := w4.heap.size) (ownsRow_setCell_below (a := ⟨w.heap.size + 1 + 1, 0, none⟩) O5.out (by simp; omega) _) (by omega)

theorem implPutA (v : Value) (es : List (Int × Int)) (a p : Int) (w : World) (hn : es.length ≤ 4194304) (hwf : wfE es) (ht : TabAt w v es) :
    Calls Try.prog 8 #[.agg #[v], .agg #[.int .i64 a, .int .i64 p]] w fun e w' => ∃ g c, e = .returned (.tuple #[.agg #[.slice g (putA es (a, p)).1.length c], .int .i64 (putA es (a, p)).2]) ∧ FreshTab w' w.heap.size (.slice g (putA es (a, p)).1.length c) (putA es (a, p)).1 ∧ Below w.heap.size w w' := by
  by_cases h : (mapB es && insB a p) = true
  · rw [putA_yes h]
    simp only [Bool.and_eq_true] at h
    refine (implMapPut_ok v es a p w hn ht h.1 h.2).mono ?_
    rintro e w' ⟨g, c, rfl, h1, h2⟩
    exact ⟨_, _, rfl, h1.fresh, h2⟩
  · have h' : (mapB es && insB a p) = false := by simpa using h
    rw [putA_not h']
    refine (implMapPut_not v es a p w hn hwf ht h').mono ?_
    rintro e w' ⟨rfl, h2⟩
    exact ⟨_, _, rfl, FreshTab.nil _ _, h2⟩

end Go.Proofs.Ytaafnnelhlmdiaa
