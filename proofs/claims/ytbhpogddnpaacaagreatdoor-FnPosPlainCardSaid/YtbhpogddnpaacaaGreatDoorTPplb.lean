/- The program's MapOk answers as the document says. Conditions: at most 2^22 ends; all numbers are ints. (Several texts, joined: SLin, SBak, SRwr, LineE, BoxAt, IMapO1, IMapO2, IMapO3.) -/
import Derived.Test.YtbhpogddnpaacaaGreatDoorGen
import Derived.Test.YtbhpogddnpaacaaGreatDoorLines
import Derived.Test.YtbhpogddnpaacaaGreatDoorTPpla
import Derived.Test.YtbhpogddnpaacaaGreatDoorSPuts
import Derived.Test.YtbhpogddnpaacaaGreatDoorCell2
import Derived.Test.YtbhpogddnpaacaaGreatDoorEnd
import Derived.Test.YtbhpogddnpaacaaGreatDoorIPorts
import Derived.Deep.RegionWith
import Derived.Deep.RegionHeld3
import Derived.Lib.QuietBelow

/- LinOk of the specification, at every text. Condition: the text has at most 2^48 bytes. -/
namespace Go.Proofs.YtbhpogddnpaacaaGreatDoor
open Go.RowKit

set_option maxRecDepth 100000 in
set_option maxHeartbeats 800000 in
theorem specByte_any (c : UInt8) (w : World) :
    Calls Tryz.prog 44 #[.int .u8 (c.toNat : Int)] w fun e w' => e = .returned (.bool (byteB c)) ∧ w = w' := by
  by_cases h1 : 97 ≤ c.toNat <;> by_cases h2 : c.toNat ≤ 122 <;> by_cases h3 : 48 ≤ c.toNat <;> by_cases h4 : c.toNat ≤ 57 <;> by_cases h5 : c.toNat = 32 <;>
    first
    | (exfalso; omega)
    | (have h6 : ((c.toNat : Int) == 32) = decide (c.toNat = 32) := by (rw [Bool.eq_iff_iff]; simp; omega)
       simp only [h5, decide_true, decide_false] at h6
       go_enter Tryz.func44, Tryz.ntmps44
       go_wp2
       go_ret
       exact ⟨by (simp [byteB, h1, h2, h3, h4, h5] <;> omega), rfl⟩)

set_option maxRecDepth 100000 in
set_option maxHeartbeats 800000 in
theorem specLin_any (s : ByteArray) (w : World) (hs : s.size ≤ 281474976710656) :
    Calls Tryz.prog 21 #[.string s] w fun e w' => e = .returned (.bool (linB s.data.toList)) ∧ w = w' := by
  by_cases h16 : 16 < s.size
  · go_enter Tryz.func21, Tryz.ntmps21
    go_wp2_with fail
    go_ret
    exact ⟨ret_bool (by unfold linB; rw [len_list, decide_eq_false (by omega)]; rfl), rfl⟩
  · go_enter Tryz.func21, Tryz.ntmps21
    go_wp2_with fail
    go_loop [3] (fun i => ∃ k : Nat, k ≤ s.size ∧ i = .int .i64 k ∧ (∀ c ∈ s.data.toList.take k, byteB c = true)) (fun i => s.size - (intOf i).toNat)
    case atStart => exact ⟨0, Nat.zero_le _, rfl, by simp⟩
    case round =>
      obtain ⟨k, hk, rfl, hd⟩ := hrel
      have HD := Lib.hid hd
      clear hd
      by_cases hlt : k < s.size
      · have HT : Hid (s.data.toList.take (k + 1) = s.data.toList.take k ++ [s[k]]) := take_snoc s k hlt
        by_cases hb : byteB s[k] = true
        · have HB := Lib.hid hb
          go_wp2_with (go_at_call 44; refine (specByte_any _ _).mono ?_; rintro e w' ⟨rfl, rfl⟩)
          go_round
          case rel =>
            refine ⟨k + 1, by omega, by go_num, ?_⟩
            rw [HT.out]; intro c hc
            rcases List.mem_append.1 hc with hc | hc
            · exact HD.out c hc
            · simp at hc; subst hc; exact HB.out
          case measure => simp [intOf]; omega
        · have HB : Hid (linB s.data.toList = false) := by
            unfold linB
            have : s.data.toList.all byteB = false := by
              rw [List.all_eq_false]; exact ⟨s[k], mem_at s k hlt, hb⟩
            show (_ && _) = false
            rw [this]; simp
          go_wp2_with (go_at_call 44; refine (specByte_any _ _).mono ?_; rintro e w' ⟨rfl, rfl⟩)
          go_ret
          exact ⟨ret_bool HB.out.symm, rfl⟩
      · have HL : Hid (linB s.data.toList = true) := by
          have he : s.data.toList.take k = s.data.toList := List.take_of_length_le (by rw [len_list]; omega)
          show (_ && _) = true
          rw [len_list, decide_eq_true (by omega), ← he, List.all_eq_true.2 HD.out]; rfl
        go_wp2_with fail
        go_ret
        exact ⟨ret_bool HL.out.symm, rfl⟩

end Go.Proofs.YtbhpogddnpaacaaGreatDoor

/- BakLine of the specification: a line as it goes inside, by a table. Conditions: at most 2^22 ends; the text has at most 2^21 bytes. -/
namespace Go.Proofs.YtbhpogddnpaacaaGreatDoor
open Go.RowKit

/-- A line as it goes inside; nothing of what is no table or no line. -/
def backE (es : List (Int × Int)) (l : List UInt8) : List UInt8 := match boxE l with | none => l | some p => match endI es p with | none => l | some (a, q) => lpL a q
def bakE (es : List (Int × Int)) (l : List UInt8) : List UInt8 := if mapB es = true ∧ linB l = true then backE es l else []
theorem str_same (s : ByteArray) : (⟨s.data.toList.toArray⟩ : ByteArray) = s := Lib.mk_data s
theorem box1 {w w1 : World} {v : Value} {t : TypeId} (hb : Below (w.alloc (.cells #[v] t)).heap.size (w.alloc (.cells #[v] t)) w1) : w1.cell? ⟨w.heap.size, 0, none⟩ = some v := by
  rw [hb.cell (p := ⟨w.heap.size, 0, none⟩) (by simp), (cell_new w #[v] t 0).1]; rfl

end Go.Proofs.YtbhpogddnpaacaaGreatDoor

/- l3Line of the specification: a line as it goes outside, and the table then. Conditions: at most 2^22 ends; the text has at most 2^21 bytes. -/
namespace Go.Proofs.YtbhpogddnpaacaaGreatDoor
open Go.RowKit Go.Sort

def noneL : List UInt8 := [110, 111, 110, 101]
/-- A line as it goes outside, and the table then. -/
def lineE (es : List (Int × Int)) (l : List UInt8) : List (Int × Int) × List UInt8 := match saysE l with | none => (es, l) | some e => if (putE es e).2 = 0 then ((putE es e).1, noneL) else ((putE es e).1, lpL 50 (putE es e).2)

theorem specPut_new_or (ad : Addr) (cap : Nat) (es : List (Int × Int)) (a p : Int) (w : World) (hn : es.length ≤ 4194304) (ht : TabAt w (.slice (some ad) es.length cap) es) :
    Calls Tryz.prog 92 #[.agg #[.slice (some ad) es.length cap], .agg #[.int .i64 a, .int .i64 p]] w fun e w' => ∃ g c, e = .returned (.tuple #[.agg #[.slice (some g) (putE es (a, p)).1.length c], .int .i64 (putE es (a, p)).2]) ∧ ((g = ad ∧ c = cap ∧ (putE es (a, p)).1 = es) ∨ OwnTab w' w.heap.size (.slice (some g) (putE es (a, p)).1.length c) (putE es (a, p)).1) ∧ Below w.heap.size w w' := by
  by_cases h : 0 < portI es (a, p)
  · rw [show putE es (a, p) = (es, portI es (a, p)) from if_pos h]
    refine (specPut_has ad cap es a p w hn ht h).mono ?_
    rintro e w' ⟨rfl, hb⟩
    exact ⟨_, _, rfl, .inl ⟨rfl, rfl, rfl⟩, hb⟩
  · have h0 := portI_zero h
    by_cases h6 : es.length = 6
    · rw [show putE es (a, p) = (es, 0) from by unfold putE; rw [if_neg h, if_pos h6]]
      refine (specPut_full ad cap es a p w hn ht h0 h6).mono ?_
      rintro e w' ⟨rfl, hb⟩
      exact ⟨_, _, rfl, .inl ⟨rfl, rfl, rfl⟩, hb⟩
    · rw [show putE es (a, p) = (es ++ [(a, p)], 500 + (es.length : Int)) from by unfold putE; rw [if_neg h, if_neg h6]]
      refine (specPut_new ad cap es a p w hn ht h0 h6).mono ?_
      rintro e w' ⟨g, c, rfl, h1, hb⟩
      exact ⟨g, c, by simp, .inr (by simpa using h1), hb⟩

set_option maxRecDepth 100000 in
set_option maxHeartbeats 1600000 in
theorem specLine_any (B : Nat) (ad : Addr) (cap : Nat) (es : List (Int × Int)) (s : ByteArray) (w : World) (hn : es.length ≤ 4194304) (hs : s.size ≤ 2097152) (hB : B ≤ w.heap.size) (ho : OwnTab w B (.slice (some ad) es.length cap) es) :
    Calls Tryz.prog 83 #[.agg #[.slice (some ad) es.length cap], .string s] w fun e w' => ∃ g c, e = .returned (.tuple #[.agg #[.slice (some g) (lineE es s.data.toList).1.length c], .string ⟨(lineE es s.data.toList).2.toArray⟩]) ∧ OwnTab w' B (.slice (some g) (lineE es s.data.toList).1.length c) (lineE es s.data.toList).1 ∧ Below w.heap.size w w' := by
  have HO := Lib.hid ho
  clear ho
  rcases hb : saysE s.data.toList with _ | ⟨a, p⟩
  · have HB : Hid (∀ w, Calls Tryz.prog 95 #[.string s] w fun e w' => e = .returned (.tuple #[.agg #[.int .i64 0, .int .i64 0], .bool false]) ∧ Below w.heap.size w w') := fun w => by have := specSays_any s w hs; rw [hb] at this; exact this
    have HE : Hid (lineE es s.data.toList = (es, s.data.toList)) := by show lineE _ _ = _; unfold lineE; rw [hb]
    clear hb
    rw [HE.out, str_same]
    go_enter Tryz.func83, Tryz.ntmps83
    go_wp2_with fail
    (go_at_call 95; refine (HB.out _).mono ?_; rintro e w1 ⟨rfl, b1⟩; obtain ⟨cA, cB, b01, z1⟩ := cell_two b1; have t0 := (cA 0).1; have r0 := (cB 0).1; have g0 := (cB 0).2; simp at t0 r0; have B1 := Lib.hid b01; clear cA cB b1 b01)
    have t1 : (w1.alloc (.cells #[.int .i64 0, .int .i64 0] 36)).cell? ⟨w.heap.size, 0, none⟩ = some (.slice (some ad) es.length cap) := (by rw [cell_alloc_lt (by omega)]; exact t0)
    have r1 : (w1.alloc (.cells #[.int .i64 0, .int .i64 0] 36)).cell? ⟨w.heap.size + 1, 0, none⟩ = some (.slice none 0 0) := (by rw [cell_alloc_lt (by omega)]; exact r0)
    have g1 : (w1.alloc (.cells #[.int .i64 0, .int .i64 0] 36)).frozen? ⟨w.heap.size + 1, 0, none⟩ = false := (by rw [frozen_alloc_lt (by omega)]; exact g0)
    go_wp2_with fail
    refine bodyPost_ret (v := .tuple #[.agg #[.slice (some ad) es.length cap], .string s]) (by simp [results, Tryz.results83, go_sem, World.cell?_setCell_same _ _ _ r1]) rfl ?_
    exact ⟨_, _, rfl, HO.out.below ((B1.out.alloc B1.out.size _).setCell (by simp) _), (B1.out.alloc B1.out.size _).setCell (by simp) _⟩
  · obtain ⟨us, hus⟩ : ∃ us, us = (putE es (a, p)).1 := ⟨_, rfl⟩
    obtain ⟨q, hq⟩ : ∃ q, q = (putE es (a, p)).2 := ⟨_, rfl⟩
    have hP : Hid (∀ (w : World), TabAt w (.slice (some ad) es.length cap) es → Calls Tryz.prog 92 #[.agg #[.slice (some ad) es.length cap], .agg #[.int .i64 a, .int .i64 p]] w fun e w' => ∃ g c, e = .returned (.tuple #[.agg #[.slice (some g) us.length c], .int .i64 q]) ∧ ((g = ad ∧ c = cap ∧ us = es) ∨ OwnTab w' w.heap.size (.slice (some g) us.length c) us) ∧ Below w.heap.size w w') := fun w h => by rw [hus, hq]; exact specPut_new_or ad cap es a p w hn h
    have HB : Hid (∀ w, Calls Tryz.prog 95 #[.string s] w fun e w' => e = .returned (.tuple #[.agg #[.int .i64 a, .int .i64 p], .bool true]) ∧ Below w.heap.size w w') := fun w => by have := specSays_any s w hs; rw [hb] at this; exact this
    by_cases h0 : q = 0
    · have HE : Hid (lineE es s.data.toList = (us, noneL)) := by show lineE _ _ = _; unfold lineE; rw [hb]; simp only; rw [← hq, if_pos h0, hus]
      clear hb hus hq
      subst h0
      rw [HE.out]
      go_enter Tryz.func83, Tryz.ntmps83
      go_wp2_with fail
      (go_at_call 95; refine (HB.out _).mono ?_; rintro e w1 ⟨rfl, b1⟩; obtain ⟨cA, cB, b01, z1⟩ := cell_two b1; have t0 := (cA 0).1; have r0 := (cB 0).1; have g0 := (cB 0).2; simp at t0 r0; have B1 := Lib.hid b01; clear cA cB b1 b01)
      have t1 : (w1.alloc (.cells #[.int .i64 a, .int .i64 p] 36)).cell? ⟨w.heap.size, 0, none⟩ = some (.slice (some ad) es.length cap) := (by rw [cell_alloc_lt (by omega)]; exact t0)
      have r1 : (w1.alloc (.cells #[.int .i64 a, .int .i64 p] 36)).cell? ⟨w.heap.size + 1, 0, none⟩ = some (.slice none 0 0) := (by rw [cell_alloc_lt (by omega)]; exact r0)
      have g1 : (w1.alloc (.cells #[.int .i64 a, .int .i64 p] 36)).frozen? ⟨w.heap.size + 1, 0, none⟩ = false := (by rw [frozen_alloc_lt (by omega)]; exact g0)
      go_wp2_with fail
      (go_at_call 92; refine (hP.out _ (HO.out.tab.below (B1.out.alloc B1.out.size _))).mono ?_; rintro e w2 ⟨g2, c2, rfl, o2, b2⟩; have O2 := Lib.hid o2; have B2 := Lib.hid b2; clear o2 b2)
      have r2 : w2.cell? ⟨w.heap.size + 1, 0, none⟩ = some (.slice none 0 0) := (by rw [B2.out.cell (by simp; omega)]; exact r1)
      have g02 : w2.frozen? ⟨w.heap.size + 1, 0, none⟩ = false := (by rw [B2.out.frozen (by simp; omega)]; exact g1)
      have z2 := B2.out.size
      have z2 : w1.heap.size + 1 ≤ w2.heap.size := by simpa using z2
      have r3 : (w2.alloc (.cells #[.slice (some g2) us.length c2] 25)).cell? ⟨w.heap.size + 1, 0, none⟩ = some (.slice none 0 0) := (by rw [cell_alloc_lt (by show _ < _; omega)]; exact r2)
      have g03 : (w2.alloc (.cells #[.slice (some g2) us.length c2] 25)).frozen? ⟨w.heap.size + 1, 0, none⟩ = false := (by rw [frozen_alloc_lt (by show _ < _; omega)]; exact g02)
      go_wp2_with fail
      refine bodyPost_ret (v := .tuple #[.agg #[.slice (some g2) us.length c2], .string ⟨noneL.toArray⟩]) (by simp [results, Tryz.results83, go_sem, World.cell?_setCell_same _ _ _ r3, noneL]) rfl ?_
      have BF : Below w.heap.size w ((w2.alloc (.cells #[.slice (some g2) us.length c2] 25)).setCell ⟨w.heap.size + 1, 0, none⟩ (.slice (some g2) us.length c2)) := (((B1.out.alloc B1.out.size _).trans (B2.out.mono (by simp; omega))).alloc (by omega) _).setCell (by simp) _
      refine ⟨_, _, rfl, ?_, BF⟩
      rcases O2.out with ⟨rfl, rfl, rfl⟩ | o2
      · exact HO.out.below BF
      · exact OwnTab.mono (B := w1.heap.size) (ownsRow_setCell_below (OwnTab.below (OwnTab.mono o2 (by simp)) ((Below.refl _ _).alloc (Nat.le_refl _) _)) (by simp; omega) _) (by omega)
    · have HE : Hid (lineE es s.data.toList = (us, lpL 50 q)) := by show lineE _ _ = _; unfold lineE; rw [hb]; simp only; rw [← hq, if_neg h0, hus]
      clear hb hus hq
      rw [HE.out]
      go_enter Tryz.func83, Tryz.ntmps83
      go_wp2_with fail
      (go_at_call 95; refine (HB.out _).mono ?_; rintro e w1 ⟨rfl, b1⟩; obtain ⟨cA, cB, b01, z1⟩ := cell_two b1; have t0 := (cA 0).1; have r0 := (cB 0).1; have g0 := (cB 0).2; simp at t0 r0; have B1 := Lib.hid b01; clear cA cB b1 b01)
      have t1 : (w1.alloc (.cells #[.int .i64 a, .int .i64 p] 36)).cell? ⟨w.heap.size, 0, none⟩ = some (.slice (some ad) es.length cap) := (by rw [cell_alloc_lt (by omega)]; exact t0)
      have r1 : (w1.alloc (.cells #[.int .i64 a, .int .i64 p] 36)).cell? ⟨w.heap.size + 1, 0, none⟩ = some (.slice none 0 0) := (by rw [cell_alloc_lt (by omega)]; exact r0)
      have g1 : (w1.alloc (.cells #[.int .i64 a, .int .i64 p] 36)).frozen? ⟨w.heap.size + 1, 0, none⟩ = false := (by rw [frozen_alloc_lt (by omega)]; exact g0)
      go_wp2_with fail
      (go_at_call 92; refine (hP.out _ (HO.out.tab.below (B1.out.alloc B1.out.size _))).mono ?_; rintro e w2 ⟨g2, c2, rfl, o2, b2⟩; have O2 := Lib.hid o2; have B2 := Lib.hid b2; clear o2 b2)
      have r2 : w2.cell? ⟨w.heap.size + 1, 0, none⟩ = some (.slice none 0 0) := (by rw [B2.out.cell (by simp; omega)]; exact r1)
      have g02 : w2.frozen? ⟨w.heap.size + 1, 0, none⟩ = false := (by rw [B2.out.frozen (by simp; omega)]; exact g1)
      have z2 := B2.out.size
      have z2 : w1.heap.size + 1 ≤ w2.heap.size := by simpa using z2
      have r3 : (w2.alloc (.cells #[.slice (some g2) us.length c2] 25)).cell? ⟨w.heap.size + 1, 0, none⟩ = some (.slice none 0 0) := (by rw [cell_alloc_lt (by show _ < _; omega)]; exact r2)
      have g03 : (w2.alloc (.cells #[.slice (some g2) us.length c2] 25)).frozen? ⟨w.heap.size + 1, 0, none⟩ = false := (by rw [frozen_alloc_lt (by show _ < _; omega)]; exact g02)
      go_wp2_with fail
      have BF : Hid (Below w.heap.size w (w2.alloc (.cells #[.slice (some g2) us.length c2] 25))) := (((B1.out.alloc B1.out.size _).trans (B2.out.mono (by simp; omega))).alloc (by omega) _)
      have x3 : (w2.alloc (.cells #[.slice (some g2) us.length c2] 25)).cell? ⟨w2.heap.size, 0, none⟩ = some (.slice (some g2) us.length c2) := (cell_new _ _ _ 0).1
      have z3 : w2.heap.size + 1 ≤ (w2.alloc (.cells #[.slice (some g2) us.length c2] 25)).heap.size := by simp
      have O3 : Hid ((g2 = ad ∧ c2 = cap ∧ us = es) ∨ OwnTab (w2.alloc (.cells #[.slice (some g2) us.length c2] 25)) (w1.heap.size + 1) (.slice (some g2) us.length c2) us) := O2.out.imp id (fun o2 => OwnTab.below (OwnTab.mono o2 (by simp)) ((Below.refl _ _).alloc (Nat.le_refl _) _))
      obtain ⟨w3, hw3⟩ : ∃ w3, w3 = w2.alloc (.cells #[.slice (some g2) us.length c2] 25) := ⟨_, rfl⟩
      obtain ⟨k2, hk2⟩ : ∃ k2, k2 = w2.heap.size := ⟨_, rfl⟩
      rw [← hw3] at BF x3 z3 O3 r3 g03
      rw [← hk2] at x3 z3 z2
      rw [← hw3, ← hk2]
      clear hw3 hk2 r2 g02 O2 B2 B1 r0 t0 g0 t1 r1 g1
      go_region_with (go_at_call 96; refine (specLinPort_any 50 q _).mono ?_; rintro e w4 ⟨rfl, b4⟩; have B4 : Hid (Below w3.heap.size w3 w4) := ((Below.refl _ _).drew).trans b4; have x4 : w4.cell? ⟨k2, 0, none⟩ = some (.slice (some g2) us.length c2) := (by rw [B4.out.cell (by simp; omega)]; exact x3); have r4 : w4.cell? ⟨w.heap.size + 1, 0, none⟩ = some (.slice none 0 0) := (by rw [B4.out.cell (by simp; omega)]; exact r3); have g04 : w4.frozen? ⟨w.heap.size + 1, 0, none⟩ = false := (by rw [B4.out.frozen (by simp; omega)]; exact g03))
      all_goals
        go_wp2_with fail
        refine bodyPost_ret (v := .tuple #[.agg #[.slice (some g2) us.length c2], .string ⟨(lpL 50 q).toArray⟩]) (by simp [results, Tryz.results83, go_sem, World.cell?_setCell_same _ _ _ r4]) rfl ?_
        have BG : Below w.heap.size w (w4.setCell ⟨w.heap.size + 1, 0, none⟩ (.slice (some g2) us.length c2)) := (BF.out.trans (B4.out.mono BF.out.size)).setCell (by simp) _
        refine ⟨_, _, rfl, ?_, BG⟩
        rcases O3.out with ⟨rfl, rfl, rfl⟩ | o3
        · exact HO.out.below BG
        · exact OwnTab.mono (B := w1.heap.size) (ownsRow_setCell_below (OwnTab.below (OwnTab.mono o3 (by simp)) B4.out) (by simp; omega) _) (by omega)

end Go.Proofs.YtbhpogddnpaacaaGreatDoor

/- A line as it goes outside, as data. No condition. -/
namespace Go.Proofs.YtbhpogddnpaacaaGreatDoor
open Go.RowKit

theorem says_ins {l : List UInt8} {a p : Int} (h : saysE l = some (a, p)) : insB a p = true := by
  unfold saysE at h
  split at h
  · split at h
    · split at h
      · rename_i hi
        simp at h
        obtain ⟨rfl, rfl⟩ := h
        exact hi
      · cases h
    · cases h
  · cases h
theorem lineE_none {es : List (Int × Int)} {l : List UInt8} (h : saysE l = none) : lineE es l = (es, l) := by unfold lineE; rw [h]
theorem lineE_some {es : List (Int × Int)} {l : List UInt8} {e : Int × Int} (h : saysE l = some e) : lineE es l = ((putE es e).1, if (putE es e).2 = 0 then noneL else lpL 50 (putE es e).2) := by
  unfold lineE
  rw [h]
  simp only
  split <;> rfl
theorem lineE_ok {es : List (Int × Int)} {l : List UInt8} (hm : mapB es = true) : mapB (lineE es l).1 = true := by
  rcases h : saysE l with _ | ⟨a, p⟩
  · rw [lineE_none h]; exact hm
  · rw [lineE_some h]; exact putE_ok hm (says_ins h)

end Go.Proofs.YtbhpogddnpaacaaGreatDoor

/- The box's end with a port, and whether an end's streams name ends, of the program. No condition. -/
namespace Go.Proofs.YtbhpogddnpaacaaGreatDoor
open Go.RowKit

set_option maxRecDepth 100000 in
set_option maxHeartbeats 400000 in
theorem boxAt_any (p : Int) (w : World) :
    Calls Tryz.prog 61 #[.int .i64 p] w fun e w' => e = .returned (.agg #[.int .i64 50, .int .i64 p]) ∧ Below w.heap.size w w' := by
  go_enter Tryz.func61, Tryz.ntmps61
  go_wp2_with fail
  refine bodyPost_ret (v := .agg #[.int .i64 50, .int .i64 p]) (by simp [results, Tryz.results61, go_sem]) rfl ⟨rfl, ?_⟩
  first
    | exact (((Below.refl _ _).alloc (Nat.le_refl _) _).setCell (by simp) _).setCell (by simp) _
    | exact (Below.refl _ _).alloc (Nat.le_refl _) _

end Go.Proofs.YtbhpogddnpaacaaGreatDoor

/- The program's MapOk answers as the document says. Conditions: at most 2^22 ends; all numbers are ints. -/
namespace Go.Proofs.YtbhpogddnpaacaaGreatDoor
open Go.RowKit Go.Sort

set_option maxRecDepth 100000 in
set_option maxHeartbeats 3200000 in
theorem implMapOk_big (v : Value) (es : List (Int × Int)) (w : World)  (ht : TabAt w v es) (h6 : 6 < es.length) :
    Calls Tryz.prog 28 #[.agg #[v]] w fun e w' => e = .returned (.bool (mapB es)) ∧ Below w.heap.size w w' := by
  have HT := Lib.hid ht
  obtain ⟨ad, cap, rfl, _, _⟩ := ht
  have HB : Hid (mapB es = false) := by show mapB es = false; rw [mapB_vals, decide_eq_false (by omega)]; rfl
  have h66 : decide ((es.length : Int) ≤ 6) = false := by simp; omega
  rw [HB.out]
  clear HB HT
  go_enter Tryz.func28, Tryz.ntmps28
  go_wp2_with fail
  go_quiet (fail)
  go_wp2_with fail
  go_ret
  exact ⟨rfl, ((Below.refl _ _).alloc (Nat.le_refl _) _).trans ⟨rfl, rfl, rfl, Nat.le_refl _, fun _ _ => rfl⟩⟩

end Go.Proofs.YtbhpogddnpaacaaGreatDoor

/- The program's MapOk answers as the document says. Conditions: at most 2^22 ends; all numbers are ints. -/
namespace Go.Proofs.YtbhpogddnpaacaaGreatDoor
open Go.RowKit Go.Sort

set_option maxRecDepth 100000 in
set_option maxHeartbeats 3200000 in
theorem implMapOk_all (v : Value) (es : List (Int × Int)) (w : World) (hn : es.length ≤ 4194304) (hwf : wfE es) (ht : TabAt w v es) (h6 : ¬ 6 < es.length) (hin : es.all (fun e => insB e.1 e.2) = true) :
    Calls Tryz.prog 28 #[.agg #[v]] w fun e w' => e = .returned (.bool (mapB es)) ∧ Below w.heap.size w w' := by
  have HT := Lib.hid ht
  obtain ⟨ad, cap, rfl, _, _⟩ := ht
  have h66 : decide ((es.length : Int) ≤ 6) = true := by simp; omega
  have HA : ∀ b, es.all (fun e => insB e.1 e.2) = b → Hid (∀ w, TabAt w (.slice ad es.length cap) es → Calls Tryz.prog 54 #[.slice ad es.length cap] w fun e w' => e = .returned (.bool b) ∧ Below w.heap.size w w') := fun b hb w h => by rw [← hb]; exact allInside_any _ es w hn h
  obtain ⟨W0, hW0⟩ : ∃ W0, W0 = w.alloc (.cells #[.slice ad es.length cap] 25) := ⟨_, rfl⟩
  have t0 : W0.cell? ⟨w.heap.size, 0, none⟩ = some (.slice ad es.length cap) := by rw [hW0]; exact (cell_new w _ _ 0).1
  have B0 : Hid (Below w.heap.size w W0) := by rw [hW0]; exact (Below.refl _ _).alloc (Nat.le_refl _) _
  have z0 : W0.heap.size = w.heap.size + 1 := by rw [hW0]; simp
  have HT0 := Lib.hid (HT.out.below B0.out)
  have HA := HA true hin
  obtain ⟨n, hnn⟩ : ∃ n, n = (valsL es).length := ⟨_, rfl⟩
  have HB : Hid (mapB es = ((n : Int) == (es.length : Int))) := by
    show mapB es = _
    rw [mapB_vals, hin, decide_eq_true (by omega), ← hnn, Bool.eq_iff_iff]
    simp
    omega
  have HP : Hid (∀ w, TabAt w (.slice ad es.length cap) es → Calls Tryz.prog 30 #[.agg #[.slice ad es.length cap]] w fun e w' => ∃ g1 g2, e = .returned (.agg #[.map (some g1), .map (some g2)]) ∧ w.heap.size ≤ g1 ∧ w.heap.size ≤ g2 ∧ Both w' g1 g2 es ∧ Below w.heap.size w w') := fun w h => portsOf_any _ es w hn hwf h
  have HS : Hid (∀ g1 g2 w, Both w g1 g2 es → Calls Tryz.prog 55 #[.agg #[.map (some g1), .map (some g2)]] w fun e w' => e = .returned (.int .i64 (n : Int)) ∧ Below w.heap.size w w') := fun g1 g2 w h => by rw [hnn]; exact size_any g1 g2 es w h
  rw [HB.out]
  clear hwf HT hin hnn HB hn
  go_enter Tryz.func28, Tryz.ntmps28
  go_wp2_with fail
  rw [← hW0]
  clear hW0
  have mk : Hid (∀ w', Below W0.heap.size W0 w' → w'.cell? ⟨w.heap.size, 0, none⟩ = some (.slice ad es.length cap) ∧ Below W0.heap.size W0 w') := fun w' h => ⟨by rw [h.cell (by simp; omega)]; exact t0, h⟩
  clear t0
  go_region_held3 (fun w' => w'.cell? ⟨w.heap.size, 0, none⟩ = some (.slice ad es.length cap) ∧ Below W0.heap.size W0 w') (first | exact mk.out _ (Below.refl _ _).drew | exact mk.out _ cc)
    (first
      | (go_at_call 54; refine (HA.out _ (HT0.out.below (Below.refl _ _).drew)).mono ?_; rintro e wN ⟨rfl, bN⟩; have cc : Below W0.heap.size W0 wN := ((Below.refl _ _).drew).trans bN)
      | (go_at_call 30; refine (HP.out _ (HT0.out.below cc)).mono ?_; rintro e wP ⟨g1, g2, rfl, _, _, hb, bN⟩; have HBo := Lib.hid hb; have cc : Below W0.heap.size W0 wP := cc.trans (bN.mono cc.size); clear hb)
      | (go_at_call 55; refine (HS.out _ _ _ HBo.out).mono ?_; rintro e wQ ⟨rfl, bN⟩; have cc : Below W0.heap.size W0 wQ := cc.trans (bN.mono cc.size)))
  all_goals
    go_wp2_with fail
    go_ret
    exact ⟨rfl, B0.out.trans (cc.mono (by omega))⟩

end Go.Proofs.YtbhpogddnpaacaaGreatDoor

/- The program's MapOk answers as the document says. Conditions: at most 2^22 ends; all numbers are ints. -/
namespace Go.Proofs.YtbhpogddnpaacaaGreatDoor
open Go.RowKit Go.Sort

set_option maxRecDepth 100000 in
set_option maxHeartbeats 3200000 in
theorem implMapOk_not (v : Value) (es : List (Int × Int)) (w : World) (hn : es.length ≤ 4194304) (ht : TabAt w v es) (h6 : ¬ 6 < es.length) (hin : ¬ es.all (fun e => insB e.1 e.2) = true) :
    Calls Tryz.prog 28 #[.agg #[v]] w fun e w' => e = .returned (.bool (mapB es)) ∧ Below w.heap.size w w' := by
  have HT := Lib.hid ht
  obtain ⟨ad, cap, rfl, _, _⟩ := ht
  have h66 : decide ((es.length : Int) ≤ 6) = true := by simp; omega
  have HA : ∀ b, es.all (fun e => insB e.1 e.2) = b → Hid (∀ w, TabAt w (.slice ad es.length cap) es → Calls Tryz.prog 54 #[.slice ad es.length cap] w fun e w' => e = .returned (.bool b) ∧ Below w.heap.size w w') := fun b hb w h => by rw [← hb]; exact allInside_any _ es w hn h
  obtain ⟨W0, hW0⟩ : ∃ W0, W0 = w.alloc (.cells #[.slice ad es.length cap] 25) := ⟨_, rfl⟩
  have t0 : W0.cell? ⟨w.heap.size, 0, none⟩ = some (.slice ad es.length cap) := by rw [hW0]; exact (cell_new w _ _ 0).1
  have B0 : Hid (Below w.heap.size w W0) := by rw [hW0]; exact (Below.refl _ _).alloc (Nat.le_refl _) _
  have z0 : W0.heap.size = w.heap.size + 1 := by rw [hW0]; simp
  have HT0 := Lib.hid (HT.out.below B0.out)
  have hin' : es.all (fun e => insB e.1 e.2) = false := by simpa using hin
  have HA := HA false hin'
  have HB : Hid (mapB es = false) := by
    show mapB es = false
    rw [mapB_vals, hin']
    simp
  rw [HB.out]
  clear HT hin hin' HB hn
  go_enter Tryz.func28, Tryz.ntmps28
  go_wp2_with fail
  rw [← hW0]
  clear hW0
  have K0 := cell_regrown t0
  have cA : ∀ d os, Calls Tryz.prog 54 #[.slice ad es.length cap] (grow (redrawn W0 d) os) fun e w'' => e = .returned (.bool false) ∧ ∃ q : Regrown, w'' = grow (redrawn W0 q.d) q.os := fun d os => Calls.regrown_of (HA.out _ (HT0.out.below (below_regrown W0 d os)))
  clear t0
  refine wp_region_quiet_below (by kernel_rfl) (by kernel_rfl) ?_
  repeat (first | go_big_quiet_skip | quiet_step (exact cA _ _))
  refine wpQuiet_nil ?_
  intro _ hw'
  obtain ⟨⟨dq, osq⟩, hw''⟩ := hw'
  subst hw''
  go_wp2_with fail
  go_ret
  exact ⟨rfl, B0.out.trans ((below_regrown W0 dq osq).mono (by omega))⟩

end Go.Proofs.YtbhpogddnpaacaaGreatDoor
