/- l3Put, MapEnd and MapPut of the specification. Condition: the table has at most 2^22 ends. -/
import Derived.Test.YtbhpogddnpaacaaSPutN
import Derived.Deep.RegionWith
namespace Go.Proofs.Ytbhpogddnpaacaa
open Go.RowKit Go.Sort

theorem portI_zero {es : List (Int × Int)} {e : Int × Int} (h : ¬ 0 < portI es e) : portI es e = 0 := by
  have := (findI_bounds es e).1
  unfold portI at *
  split <;> simp_all <;> omega

theorem specPut_any (B : Nat) (ad : Addr) (cap : Nat) (es : List (Int × Int)) (a p : Int) (w : World) (hn : es.length ≤ 4194304) (hB : B ≤ w.heap.size) (ho : OwnTab w B (.slice (some ad) es.length cap) es) :
    Calls Try.prog 59 #[.agg #[.slice (some ad) es.length cap], .agg #[.int .i64 a, .int .i64 p]] w fun e w' => ∃ g c, e = .returned (.tuple #[.agg #[.slice (some g) (putE es (a, p)).1.length c], .int .i64 (putE es (a, p)).2]) ∧ OwnTab w' B (.slice (some g) (putE es (a, p)).1.length c) (putE es (a, p)).1 ∧ Below w.heap.size w w' := by
  by_cases h : 0 < portI es (a, p)
  · rw [show putE es (a, p) = (es, portI es (a, p)) from if_pos h]
    refine (specPut_has ad cap es a p w hn ho.tab h).mono ?_
    rintro e w' ⟨rfl, hb⟩
    exact ⟨_, _, rfl, ho.below hb, hb⟩
  · have h0 := portI_zero h
    by_cases h6 : es.length = 6
    · rw [show putE es (a, p) = (es, 0) from by unfold putE; rw [if_neg h, if_pos h6]]
      refine (specPut_full ad cap es a p w hn ho.tab h0 h6).mono ?_
      rintro e w' ⟨rfl, hb⟩
      exact ⟨_, _, rfl, ho.below hb, hb⟩
    · rw [show putE es (a, p) = (es ++ [(a, p)], 500 + (es.length : Int)) from by unfold putE; rw [if_neg h, if_neg h6]]
      refine (specPut_new ad cap es a p w hn ho.tab h0 h6).mono ?_
      rintro e w' ⟨g, c, rfl, h1, hb⟩
      exact ⟨g, c, by simp, by simpa using h1.mono hB, hb⟩

set_option maxRecDepth 100000 in
set_option maxHeartbeats 800000 in
/-- MapPut of what is no table, or of no end inside: nothing. -/
theorem specMapPut_not (v : Value) (es : List (Int × Int)) (a p : Int) (w : World) (hn : es.length ≤ 4194304) (ht : TabAt w v es) (hno : (mapB es && insB a p) = false) :
    Calls Try.prog 42 #[.agg #[v], .agg #[.int .i64 a, .int .i64 p]] w fun e w' => e = .returned (.tuple #[.agg #[.slice none 0 0], .int .i64 0]) ∧ Below w.heap.size w w' := by
  have HT := Lib.hid ht
  obtain ⟨ad, cap, rfl, hcap, hr⟩ := ht
  have hM : Hid (∀ w, TabAt w (.slice ad es.length cap) es → Calls Try.prog 12 #[.agg #[.slice ad es.length cap]] w fun e w' => e = .returned (.bool (mapB es)) ∧ Below w.heap.size w w') := fun w h => specMapOk_any _ es w hn h
  clear hr
  by_cases hm : mapB es = true
  · have hi : insB a p = false := by rw [hm] at hno; simpa using hno
    rw [hm] at hM
    clear hno hm
    go_enter Try.func42, Try.ntmps42
    go_wp2_with (first
      | (go_at_call 12; refine (hM.out _ (HT.out.below ((((Below.refl _ _).alloc (Nat.le_refl _) _).alloc (by simp) _).alloc (by simp; omega) _))).mono ?_; rintro e w1 ⟨rfl, b1⟩; obtain ⟨cA, cB, cC, b01, z1⟩ := cell_three b1; have e0 := (cB 0).1; have e1 := (cB 1).1; have r0 := (cC 0).1; have g0 := (cC 0).2; simp at e0 e1 r0; clear cA cB cC)
      | (go_at_call 27; refine (specInside_any a p _).mono ?_; rintro e w2 ⟨rfl, b2⟩; have r2 : w2.cell? ⟨w.heap.size + 1 + 1, 0, none⟩ = some (.slice none 0 0) := (by rw [b2.cell (by simp; omega)]; exact r0); have g2 : w2.frozen? ⟨w.heap.size + 1 + 1, 0, none⟩ = false := (by rw [b2.frozen (by simp; omega)]; exact g0)))
    refine bodyPost_ret (v := .tuple #[.agg #[.slice none 0 0], .int .i64 0]) (by simp [results, Try.results42, go_sem, World.cell?_setCell_same _ _ _ r2]) rfl ⟨rfl, ?_⟩
    exact (b01.trans (b2.mono (by omega))).setCell (by simp; omega) _
  · have hm' : mapB es = false := by simpa using hm
    rw [hm'] at hM
    clear hno hm hm'
    go_enter Try.func42, Try.ntmps42
    go_wp2_with (go_at_call 12; refine (hM.out _ (HT.out.below ((((Below.refl _ _).alloc (Nat.le_refl _) _).alloc (by simp) _).alloc (by simp; omega) _))).mono ?_; rintro e w1 ⟨rfl, b1⟩; obtain ⟨cA, cB, cC, b01, z1⟩ := cell_three b1; have r0 := (cC 0).1; have g0 := (cC 0).2; simp at r0; clear cA cB cC)
    refine bodyPost_ret (v := .tuple #[.agg #[.slice none 0 0], .int .i64 0]) (by simp [results, Try.results42, go_sem, World.cell?_setCell_same _ _ _ r0]) rfl ⟨rfl, ?_⟩
    exact b01.setCell (by simp; omega) _

set_option maxRecDepth 100000 in
set_option maxHeartbeats 1600000 in
/-- MapPut of a table and an end inside: the table with the end, in memory of the call's own, and its port. -/
theorem specMapPut_ok (v : Value) (es : List (Int × Int)) (a p : Int) (w : World) (hn : es.length ≤ 4194304) (ht : TabAt w v es) (hm : mapB es = true) (hi : insB a p = true) :
    Calls Try.prog 42 #[.agg #[v], .agg #[.int .i64 a, .int .i64 p]] w fun e w' => ∃ g c, e = .returned (.tuple #[.agg #[.slice (some g) (putE es (a, p)).1.length c], .int .i64 (putE es (a, p)).2]) ∧ OwnTab w' w.heap.size (.slice (some g) (putE es (a, p)).1.length c) (putE es (a, p)).1 ∧ Below w.heap.size w w' := by
  have HT := Lib.hid ht
  obtain ⟨ad, cap, rfl, hcap, hr⟩ := ht
  have hM : Hid (∀ w, TabAt w (.slice ad es.length cap) es → Calls Try.prog 12 #[.agg #[.slice ad es.length cap]] w fun e w' => e = .returned (.bool true) ∧ Below w.heap.size w w') := fun w h => by rw [← hm]; exact specMapOk_any _ es w hn h
  obtain ⟨us, hus⟩ : ∃ us, us = (putE es (a, p)).1 := ⟨_, rfl⟩
  obtain ⟨q, hq⟩ : ∃ q, q = (putE es (a, p)).2 := ⟨_, rfl⟩
  have hP : Hid (∀ (B : Nat) (ad : Addr) (cap : Nat) (w : World), B ≤ w.heap.size → OwnTab w B (.slice (some ad) es.length cap) es → Calls Try.prog 59 #[.agg #[.slice (some ad) es.length cap], .agg #[.int .i64 a, .int .i64 p]] w fun e w' => ∃ g c, e = .returned (.tuple #[.agg #[.slice (some g) us.length c], .int .i64 q]) ∧ OwnTab w' B (.slice (some g) us.length c) us ∧ Below w.heap.size w w') := fun B ad cap w h1 h2 => by rw [hus, hq]; exact specPut_any B ad cap es a p w hn h1 h2
  rw [← hus, ← hq]
  clear hr hm hus hq
  go_enter Try.func42, Try.ntmps42
  go_upto_region 3 with (first
    | (go_at_call 12; refine (hM.out _ (HT.out.below ((((Below.refl _ _).alloc (Nat.le_refl _) _).alloc (by simp) _).alloc (by simp; omega) _))).mono ?_; rintro e w1 ⟨rfl, b1⟩; obtain ⟨cA, cB, cC, b01, z1⟩ := cell_three b1; have t0 := (cA 0).1; have e0 := (cB 0).1; have e1 := (cB 1).1; have r0 := (cC 0).1; have g0 := (cC 0).2; simp at t0 e0 e1 r0; clear cA cB cC b1)
    | (go_at_call 27; refine (specInside_any a p _).mono ?_; rintro e w2 ⟨rfl, b2⟩; have t2 : w2.cell? ⟨w.heap.size, 0, none⟩ = some (.slice ad es.length cap) := (by rw [b2.cell (by simp; omega)]; exact t0); have e20 : w2.cell? ⟨w.heap.size + 1, 0, none⟩ = some (.int .i64 a) := (by rw [b2.cell (by simp; omega)]; exact e0); have e21 : w2.cell? ⟨w.heap.size + 1, 1, none⟩ = some (.int .i64 p) := (by rw [b2.cell (by simp; omega)]; exact e1); have r2 : w2.cell? ⟨w.heap.size + 1 + 1, 0, none⟩ = some (.slice none 0 0) := (by rw [b2.cell (by simp; omega)]; exact r0); have g2 : w2.frozen? ⟨w.heap.size + 1 + 1, 0, none⟩ = false := (by rw [b2.frozen (by simp; omega)]; exact g0)))
  have b02 : Hid (Below w.heap.size w w2) := b01.trans (b2.mono (by omega))
  have z2 : w.heap.size + 3 ≤ w2.heap.size := Nat.le_trans z1 b2.size
  clear b2 b01 t0 e0 e1 r0 g0 z1
  have hC : Hid (∀ wx, TabAt wx (.slice ad es.length cap) es → Calls Try.prog 54 #[.agg #[.slice ad es.length cap]] wx fun e w' => ∃ g c, e = .returned (.agg #[.slice (some g) es.length c]) ∧ OwnTab w' wx.heap.size (.slice (some g) es.length c) es ∧ Below wx.heap.size wx w') := fun wx h => specCopy_any _ es wx hn h
  go_region_with (first
    | (go_at_call 54; refine (hC.out _ (HT.out.below b02.out.drew)).mono ?_; rintro e w3 ⟨g3, c3, rfl, o3, b3⟩; have O3 := Lib.hid o3; have B3 : Hid (Below w2.heap.size w2 w3) := ((Below.refl _ _).drew).trans b3; clear o3 b3; have e30 : w3.cell? ⟨w.heap.size + 1, 0, none⟩ = some (.int .i64 a) := (by rw [B3.out.cell (by simp; omega)]; exact e20); have e31 : w3.cell? ⟨w.heap.size + 1, 1, none⟩ = some (.int .i64 p) := (by rw [B3.out.cell (by simp; omega)]; exact e21); have r3 : w3.cell? ⟨w.heap.size + 1 + 1, 0, none⟩ = some (.slice none 0 0) := (by rw [B3.out.cell (by simp; omega)]; exact r2); have g03 : w3.frozen? ⟨w.heap.size + 1 + 1, 0, none⟩ = false := (by rw [B3.out.frozen (by simp; omega)]; exact g2))
    | (go_at_call 59; refine (hP.out (w.heap.size + 3) _ _ _ (by have := B3.out.size; omega) (O3.out.mono (by simp; omega))).mono ?_; rintro e w4 ⟨g4, c4, rfl, o4, b4⟩; have O4 := Lib.hid o4; have B4 : Hid (Below w3.heap.size w3 w4) := b4; clear o4 b4; have z3 := B3.out.size; have r4 : w4.cell? ⟨w.heap.size + 1 + 1, 0, none⟩ = some (.slice none 0 0) := (by rw [B4.out.cell (by simp; omega)]; exact r3); have g04 : w4.frozen? ⟨w.heap.size + 1 + 1, 0, none⟩ = false := (by rw [B4.out.frozen (by simp; omega)]; exact g03)))
  all_goals
    go_wp2_with fail
    refine bodyPost_ret (v := .tuple #[.agg #[.slice (some g4) us.length c4], .int .i64 q]) (by simp [results, Try.results42, go_sem, World.cell?_setCell_same _ _ _ r4]) rfl ⟨_, _, rfl, ?_, ?_⟩
    · have := ownsRow_setCell_below (a := ⟨w.heap.size + 1 + 1, 0, none⟩) O4.out (by simp) (.slice (some g4) us.length c4)
      exact OwnTab.mono (B := w.heap.size + 3) this (by omega)
    · exact ((b02.out.trans (B3.out.mono (by omega))).trans (B4.out.mono (by omega))).setCell (by simp; omega) _

end Go.Proofs.Ytbhpogddnpaacaa
