/- l3Line of the specification: a line as it goes outside, and the table then. Conditions: at most 2^22 ends; the text has at most 2^21 bytes. -/
import Derived.Test.YtbhpogddnpaacaaSBak
import Derived.Test.YtbhpogddnpaacaaCell2
namespace Go.Proofs.Ytbhpogddnpaacaa
open Go.RowKit Go.Sort

def noneL : List UInt8 := [110, 111, 110, 101]
/-- A line as it goes outside, and the table then. -/
def lineE (es : List (Int × Int)) (l : List UInt8) : List (Int × Int) × List UInt8 := match saysE l with | none => (es, l) | some e => if (putE es e).2 = 0 then ((putE es e).1, noneL) else ((putE es e).1, lpL 50 (putE es e).2)

theorem specPut_new_or (ad : Addr) (cap : Nat) (es : List (Int × Int)) (a p : Int) (w : World) (hn : es.length ≤ 4194304) (ht : TabAt w (.slice (some ad) es.length cap) es) :
    Calls Try.prog 59 #[.agg #[.slice (some ad) es.length cap], .agg #[.int .i64 a, .int .i64 p]] w fun e w' => ∃ g c, e = .returned (.tuple #[.agg #[.slice (some g) (putE es (a, p)).1.length c], .int .i64 (putE es (a, p)).2]) ∧ ((g = ad ∧ c = cap ∧ (putE es (a, p)).1 = es) ∨ OwnTab w' w.heap.size (.slice (some g) (putE es (a, p)).1.length c) (putE es (a, p)).1) ∧ Below w.heap.size w w' := by
  by_cases h : 0 < portI es (a, p)
  · rw [show putE es (a, p) = (es, portI es (a, p)) from if_pos h]
    refine (specPut_has ad cap es a p w hn ht h).mono ?_
    rintro e w' ⟨rfl, hb⟩
    exact ⟨_, _, rfl, .inl ⟨rfl, rfl, rfl⟩, hb⟩
  · have h0 := portI_zero h
    by_cases h6 : es.length = 6
    · rw [show putE es (a, p) = (es, 0) from by unfold putE; rw [if_neg h, if_pos h6]]
      refine (specPut_full ad cap es a p w hn ht h0 h6).mono ?_
      rintro e w' ⟨rfl, hb⟩
      exact ⟨_, _, rfl, .inl ⟨rfl, rfl, rfl⟩, hb⟩
    · rw [show putE es (a, p) = (es ++ [(a, p)], 500 + (es.length : Int)) from by unfold putE; rw [if_neg h, if_neg h6]]
      refine (specPut_new ad cap es a p w hn ht h0 h6).mono ?_
      rintro e w' ⟨g, c, rfl, h1, hb⟩
      exact ⟨g, c, by simp, .inr (by simpa using h1), hb⟩

set_option maxRecDepth 100000 in
set_option maxHeartbeats 1600000 in
theorem specLine_any (B : Nat) (ad : Addr) (cap : Nat) (es : List (Int × Int)) (s : ByteArray) (w : World) (hn : es.length ≤ 4194304) (hs : s.size ≤ 2097152) (hB : B ≤ w.heap.size) (ho : OwnTab w B (.slice (some ad) es.length cap) es) :
    Calls Try.prog 64 #[.agg #[.slice (some ad) es.length cap], .string s] w fun e w' => ∃ g c, e = .returned (.tuple #[.agg #[.slice (some g) (lineE es s.data.toList).1.length c], .string ⟨(lineE es s.data.toList).2.toArray⟩]) ∧ OwnTab w' B (.slice (some g) (lineE es s.data.toList).1.length c) (lineE es s.data.toList).1 ∧ Below w.heap.size w w' := by
  have HO := Lib.hid ho
  clear ho
  rcases hb : saysE s.data.toList with _ | ⟨a, p⟩
  · have HB : Hid (∀ w, Calls Try.prog 72 #[.string s] w fun e w' => e = .returned (.tuple #[.agg #[.int .i64 0, .int .i64 0], .bool false]) ∧ Below w.heap.size w w') := fun w => by have := specSays_any s w hs; rw [hb] at this; exact this
    have HE : Hid (lineE es s.data.toList = (es, s.data.toList)) := by show lineE _ _ = _; unfold lineE; rw [hb]
    clear hb
    rw [HE.out, str_same]
    go_enter Try.func64, Try.ntmps64
    go_wp2_with fail
    (go_at_call 72; refine (HB.out _).mono ?_; rintro e w1 ⟨rfl, b1⟩; obtain ⟨cA, cB, b01, z1⟩ := cell_two b1; have t0 := (cA 0).1; have r0 := (cB 0).1; have g0 := (cB 0).2; simp at t0 r0; have B1 := Lib.hid b01; clear cA cB b1 b01)
    have t1 : (w1.alloc (.cells #[.int .i64 0, .int .i64 0] 39)).cell? ⟨w.heap.size, 0, none⟩ = some (.slice (some ad) es.length cap) := (by rw [cell_alloc_lt (by omega)]; exact t0)
    have r1 : (w1.alloc (.cells #[.int .i64 0, .int .i64 0] 39)).cell? ⟨w.heap.size + 1, 0, none⟩ = some (.slice none 0 0) := (by rw [cell_alloc_lt (by omega)]; exact r0)
    have g1 : (w1.alloc (.cells #[.int .i64 0, .int .i64 0] 39)).frozen? ⟨w.heap.size + 1, 0, none⟩ = false := (by rw [frozen_alloc_lt (by omega)]; exact g0)
    go_wp2_with fail
    refine bodyPost_ret (v := .tuple #[.agg #[.slice (some ad) es.length cap], .string s]) (by simp [results, Try.results64, go_sem, World.cell?_setCell_same _ _ _ r1]) rfl ?_
    exact ⟨_, _, rfl, HO.out.below ((B1.out.alloc B1.out.size _).setCell (by simp) _), (B1.out.alloc B1.out.size _).setCell (by simp) _⟩
  · obtain ⟨us, hus⟩ : ∃ us, us = (putE es (a, p)).1 := ⟨_, rfl⟩
    obtain ⟨q, hq⟩ : ∃ q, q = (putE es (a, p)).2 := ⟨_, rfl⟩
    have hP : Hid (∀ (w : World), TabAt w (.slice (some ad) es.length cap) es → Calls Try.prog 59 #[.agg #[.slice (some ad) es.length cap], .agg #[.int .i64 a, .int .i64 p]] w fun e w' => ∃ g c, e = .returned (.tuple #[.agg #[.slice (some g) us.length c], .int .i64 q]) ∧ ((g = ad ∧ c = cap ∧ us = es) ∨ OwnTab w' w.heap.size (.slice (some g) us.length c) us) ∧ Below w.heap.size w w') := fun w h => by rw [hus, hq]; exact specPut_new_or ad cap es a p w hn h
    have HB : Hid (∀ w, Calls Try.prog 72 #[.string s] w fun e w' => e = .returned (.tuple #[.agg #[.int .i64 a, .int .i64 p], .bool true]) ∧ Below w.heap.size w w') := fun w => by have := specSays_any s w hs; rw [hb] at this; exact this
    by_cases h0 : q = 0
    · have HE : Hid (lineE es s.data.toList = (us, noneL)) := by show lineE _ _ = _; unfold lineE; rw [hb]; simp only; rw [← hq, if_pos h0, hus]
      clear hb hus hq
      subst h0
      rw [HE.out]
      go_enter Try.func64, Try.ntmps64
      go_wp2_with fail
      (go_at_call 72; refine (HB.out _).mono ?_; rintro e w1 ⟨rfl, b1⟩; obtain ⟨cA, cB, b01, z1⟩ := cell_two b1; have t0 := (cA 0).1; have r0 := (cB 0).1; have g0 := (cB 0).2; simp at t0 r0; have B1 := Lib.hid b01; clear cA cB b1 b01)
      have t1 : (w1.alloc (.cells #[.int .i64 a, .int .i64 p] 39)).cell? ⟨w.heap.size, 0, none⟩ = some (.slice (some ad) es.length cap) := (by rw [cell_alloc_lt (by omega)]; exact t0)
      have r1 : (w1.alloc (.cells #[.int .i64 a, .int .i64 p] 39)).cell? ⟨w.heap.size + 1, 0, none⟩ = some (.slice none 0 0) := (by rw [cell_alloc_lt (by omega)]; exact r0)
      have g1 : (w1.alloc (.cells #[.int .i64 a, .int .i64 p] 39)).frozen? ⟨w.heap.size + 1, 0, none⟩ = false := (by rw [frozen_alloc_lt (by omega)]; exact g0)
      go_wp2_with fail
      (go_at_call 59; refine (hP.out _ (HO.out.tab.below (B1.out.alloc B1.out.size _))).mono ?_; rintro e w2 ⟨g2, c2, rfl, o2, b2⟩; have O2 := Lib.hid o2; have B2 := Lib.hid b2; clear o2 b2)
      have r2 : w2.cell? ⟨w.heap.size + 1, 0, none⟩ = some (.slice none 0 0) := (by rw [B2.out.cell (by simp; omega)]; exact r1)
      have g02 : w2.frozen? ⟨w.heap.size + 1, 0, none⟩ = false := (by rw [B2.out.frozen (by simp; omega)]; exact g1)
      have z2 := B2.out.size
      have z2 : w1.heap.size + 1 ≤ w2.heap.size := by simpa using z2
      have r3 : (w2.alloc (.cells #[.slice (some g2) us.length c2] 34)).cell? ⟨w.heap.size + 1, 0, none⟩ = some (.slice none 0 0) := (by rw [cell_alloc_lt (by show _ < _; omega)]; exact r2)
      have g03 : (w2.alloc (.cells #[.slice (some g2) us.length c2] 34)).frozen? ⟨w.heap.size + 1, 0, none⟩ = false := (by rw [frozen_alloc_lt (by show _ < _; omega)]; exact g02)
      go_wp2_with fail
      refine bodyPost_ret (v := .tuple #[.agg #[.slice (some g2) us.length c2], .string ⟨noneL.toArray⟩]) (by simp [results, Try.results64, go_sem, World.cell?_setCell_same _ _ _ r3, noneL]) rfl ?_
      have BF : Below w.heap.size w ((w2.alloc (.cells #[.slice (some g2) us.length c2] 34)).setCell ⟨w.heap.size + 1, 0, none⟩ (.slice (some g2) us.length c2)) := (((B1.out.alloc B1.out.size _).trans (B2.out.mono (by simp; omega))).alloc (by omega) _).setCell (by simp) _
      refine ⟨_, _, rfl, ?_, BF⟩
      rcases O2.out with ⟨rfl, rfl, rfl⟩ | o2
      · exact HO.out.below BF
      · exact OwnTab.mono (B := w1.heap.size) (ownsRow_setCell_below (OwnTab.below (OwnTab.mono o2 (by simp)) ((Below.refl _ _).alloc (Nat.le_refl _) _)) (by simp; omega) _) (by omega)
    · have HE : Hid (lineE es s.data.toList = (us, lpL 50 q)) := by show lineE _ _ = _; unfold lineE; rw [hb]; simp only; rw [← hq, if_neg h0, hus]
      clear hb hus hq
      rw [HE.out]
      go_enter Try.func64, Try.ntmps64
      go_wp2_with fail
      (go_at_call 72; refine (HB.out _).mono ?_; rintro e w1 ⟨rfl, b1⟩; obtain ⟨cA, cB, b01, z1⟩ := cell_two b1; have t0 := (cA 0).1; have r0 := (cB 0).1; have g0 := (cB 0).2; simp at t0 r0; have B1 := Lib.hid b01; clear cA cB b1 b01)
      have t1 : (w1.alloc (.cells #[.int .i64 a, .int .i64 p] 39)).cell? ⟨w.heap.size, 0, none⟩ = some (.slice (some ad) es.length cap) := (by rw [cell_alloc_lt (by omega)]; exact t0)
      have r1 : (w1.alloc (.cells #[.int .i64 a, .int .i64 p] 39)).cell? ⟨w.heap.size + 1, 0, none⟩ = some (.slice none 0 0) := (by rw [cell_alloc_lt (by omega)]; exact r0)
      have g1 : (w1.alloc (.cells #[.int .i64 a, .int .i64 p] 39)).frozen? ⟨w.heap.size + 1, 0, none⟩ = false := (by rw [frozen_alloc_lt (by omega)]; exact g0)
      go_wp2_with fail
      (go_at_call 59; refine (hP.out _ (HO.out.tab.below (B1.out.alloc B1.out.size _))).mono ?_; rintro e w2 ⟨g2, c2, rfl, o2, b2⟩; have O2 := Lib.hid o2; have B2 := Lib.hid b2; clear o2 b2)
      have r2 : w2.cell? ⟨w.heap.size + 1, 0, none⟩ = some (.slice none 0 0) := (by rw [B2.out.cell (by simp; omega)]; exact r1)
      have g02 : w2.frozen? ⟨w.heap.size + 1, 0, none⟩ = false := (by rw [B2.out.frozen (by simp; omega)]; exact g1)
      have z2 := B2.out.size
      have z2 : w1.heap.size + 1 ≤ w2.heap.size := by simpa using z2
      have r3 : (w2.alloc (.cells #[.slice (some g2) us.length c2] 34)).cell? ⟨w.heap.size + 1, 0, none⟩ = some (.slice none 0 0) := (by rw [cell_alloc_lt (by show _ < _; omega)]; exact r2)
      have g03 : (w2.alloc (.cells #[.slice (some g2) us.length c2] 34)).frozen? ⟨w.heap.size + 1, 0, none⟩ = false := (by rw [frozen_alloc_lt (by show _ < _; omega)]; exact g02)
      go_wp2_with fail
      have BF : Hid (Below w.heap.size w (w2.alloc (.cells #[.slice (some g2) us.length c2] 34))) := (((B1.out.alloc B1.out.size _).trans (B2.out.mono (by simp; omega))).alloc (by omega) _)
      have x3 : (w2.alloc (.cells #[.slice (some g2) us.length c2] 34)).cell? ⟨w2.heap.size, 0, none⟩ = some (.slice (some g2) us.length c2) := (cell_new _ _ _ 0).1
      have z3 : w2.heap.size + 1 ≤ (w2.alloc (.cells #[.slice (some g2) us.length c2] 34)).heap.size := by simp
      have O3 : Hid ((g2 = ad ∧ c2 = cap ∧ us = es) ∨ OwnTab (w2.alloc (.cells #[.slice (some g2) us.length c2] 34)) (w1.heap.size + 1) (.slice (some g2) us.length c2) us) := O2.out.imp id (fun o2 => OwnTab.below (OwnTab.mono o2 (by simp)) ((Below.refl _ _).alloc (Nat.le_refl _) _))
      obtain ⟨w3, hw3⟩ : ∃ w3, w3 = w2.alloc (.cells #[.slice (some g2) us.length c2] 34) := ⟨_, rfl⟩
      obtain ⟨k2, hk2⟩ : ∃ k2, k2 = w2.heap.size := ⟨_, rfl⟩
      rw [← hw3] at BF x3 z3 O3 r3 g03
      rw [← hk2] at x3 z3 z2
      rw [← hw3, ← hk2]
      clear hw3 hk2 r2 g02 O2 B2 B1 r0 t0 g0 t1 r1 g1
      go_region_with (go_at_call 62; refine (specLinPort_any 50 q _).mono ?_; rintro e w4 ⟨rfl, b4⟩; have B4 : Hid (Below w3.heap.size w3 w4) := ((Below.refl _ _).drew).trans b4; have x4 : w4.cell? ⟨k2, 0, none⟩ = some (.slice (some g2) us.length c2) := (by rw [B4.out.cell (by simp; omega)]; exact x3); have r4 : w4.cell? ⟨w.heap.size + 1, 0, none⟩ = some (.slice none 0 0) := (by rw [B4.out.cell (by simp; omega)]; exact r3); have g04 : w4.frozen? ⟨w.heap.size + 1, 0, none⟩ = false := (by rw [B4.out.frozen (by simp; omega)]; exact g03))
      all_goals
        go_wp2_with fail
        refine bodyPost_ret (v := .tuple #[.agg #[.slice (some g2) us.length c2], .string ⟨(lpL 50 q).toArray⟩]) (by simp [results, Try.results64, go_sem, World.cell?_setCell_same _ _ _ r4]) rfl ?_
        have BG : Below w.heap.size w (w4.setCell ⟨w.heap.size + 1, 0, none⟩ (.slice (some g2) us.length c2)) := (BF.out.trans (B4.out.mono BF.out.size)).setCell (by simp) _
        refine ⟨_, _, rfl, ?_, BG⟩
        rcases O3.out with ⟨rfl, rfl, rfl⟩ | o3
        · exact HO.out.below BG
        · exact OwnTab.mono (B := w1.heap.size) (ownsRow_setCell_below (OwnTab.below (OwnTab.mono o3 (by simp)) B4.out) (by simp; omega) _) (by omega)

end Go.Proofs.Ytbhpogddnpaacaa
