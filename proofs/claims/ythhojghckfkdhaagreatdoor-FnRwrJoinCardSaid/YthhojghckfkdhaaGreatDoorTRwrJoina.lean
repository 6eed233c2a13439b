/- RwrStream of the program and of the specification, in one form. Conditions: at most 2^22 ends; all numbers are ints; the text has at most 2^21 bytes; the variables that are read hold what they are laid with. (Several texts, joined: SRwr, LineE, IMapO1, IMapO2, IMapO3, IMapO, Text, Cut, ReadNum, ReadEnd, Reads, IPort, ISays, EqEnd, LawTab, ToEnd, ToTab, MarkTab, Fresh, Box, IRwr, SLine, SStr, IStrm, SStrL, IStrmA.) -/
import Derived.Test.YthhojghckfkdhaaGreatDoorSBak
import Derived.Test.YthhojghckfkdhaaGreatDoorCell2
import Derived.Test.YthhojghckfkdhaaGreatDoorPutE
import Derived.Test.YthhojghckfkdhaaGreatDoorIPorts
import Derived.Deep.RegionWith
import Derived.Deep.RegionHeld3
import Derived.Lib.QuietBelow
import Derived.Test.YthhojghckfkdhaaGreatDoorSText
import Derived.Lib.SmallJoins
import Derived.Shelf.Strconv.Itoa3
import Derived.Test.YthhojghckfkdhaaGreatDoorShelf
import Derived.Shelf.Strings.Search2
import Derived.Lib.CutLaws
import Derived.Lib.IndexBytes
import Derived.RegionTactic
import Derived.IntWalk
import Derived.Shelf.Strconv.ErrVarAll
import Derived.Lib.AtoiAllCases
import Derived.Test.YthhojghckfkdhaaGreatDoorSRead
import Derived.Deep.RegionHeld
import Derived.Test.YthhojghckfkdhaaGreatDoorRds
import Derived.Test.YthhojghckfkdhaaGreatDoorSSays
import Derived.Test.YthhojghckfkdhaaGreatDoorBase
import Derived.Test.YthhojghckfkdhaaGreatDoorSMap
import Derived.Test.YthhojghckfkdhaaGreatDoorOwnEnds
import Derived.OwnWalk
import Derived.Test.YthhojghckfkdhaaGreatDoorIGive
import Derived.Test.YthhojghckfkdhaaGreatDoorILin
import Derived.Test.YthhojghckfkdhaaGreatDoorGen
import Derived.Test.YthhojghckfkdhaaGreatDoorLines
import Derived.Test.YthhojghckfkdhaaGreatDoorSLin
import Derived.Deep.DeepCutAuto
import Derived.Test.YthhojghckfkdhaaGreatDoorISeqS
import Derived.Test.YthhojghckfkdhaaGreatDoorIBuild
import Derived.Test.YthhojghckfkdhaaGreatDoorIStr
import Derived.RangeFuncWrites

/- l3Line of the specification: a line as it goes outside, and the table then. Conditions: at most 2^22 ends; the text has at most 2^21 bytes. -/
namespace Go.Proofs.YthhojghckfkdhaaGreatDoor
open Go.RowKit Go.Sort

def noneL : List UInt8 := [110, 111, 110, 101]
/-- A line as it goes outside, and the table then. -/
def lineE (es : List (Int × Int)) (l : List UInt8) : List (Int × Int) × List UInt8 := match saysE l with | none => (es, l) | some e => if (putE es e).2 = 0 then ((putE es e).1, noneL) else ((putE es e).1, lpL 50 (putE es e).2)

theorem specPut_new_or (ad : Addr) (cap : Nat) (es : List (Int × Int)) (a p : Int) (w : World) (hn : es.length ≤ 4194304) (ht : TabAt w (.slice (some ad) es.length cap) es) :
    Calls Tryz.prog 100 #[.agg #[.slice (some ad) es.length cap], .agg #[.int .i64 a, .int .i64 p]] w fun e w' => ∃ g c, e = .returned (.tuple #[.agg #[.slice (some g) (putE es (a, p)).1.length c], .int .i64 (putE es (a, p)).2]) ∧ ((g = ad ∧ c = cap ∧ (putE es (a, p)).1 = es) ∨ OwnTab w' w.heap.size (.slice (some g) (putE es (a, p)).1.length c) (putE es (a, p)).1) ∧ Below w.heap.size w w' := by
  by_cases h : 0 < portI es (a, p)
  · rw [show putE es (a, p) = (es, portI es (a, p)) from if_pos h]
    refine (specPut_has ad cap es a p w hn ht h).mono ?_
    rintro e w' ⟨rfl, hb⟩
    exact ⟨_, _, rfl, .inl ⟨rfl, rfl, rfl⟩, hb⟩
  · have h0 := portI_zero h
    by_cases h6 : es.length = 6
    · rw [show putE es (a, p) = (es, 0) from by unfold putE; rw [if_neg h, if_pos h6]]
      refine (specPut_full ad cap es a p w hn ht h0 h6).mono ?_
      rintro e w' ⟨rfl, hb⟩
      exact ⟨_, _, rfl, .inl ⟨rfl, rfl, rfl⟩, hb⟩
    · rw [show putE es (a, p) = (es ++ [(a, p)], 500 + (es.length : Int)) from by unfold putE; rw [if_neg h, if_neg h6]]
      refine (specPut_new ad cap es a p w hn ht h0 h6).mono ?_
      rintro e w' ⟨g, c, rfl, h1, hb⟩
      exact ⟨g, c, by simp, .inr (by simpa using h1), hb⟩

set_option maxRecDepth 100000 in
set_option maxHeartbeats 1600000 in
theorem specLine_any (B : Nat) (ad : Addr) (cap : Nat) (es : List (Int × Int)) (s : ByteArray) (w : World) (hn : es.length ≤ 4194304) (hs : s.size ≤ 2097152) (hB : B ≤ w.heap.size) (ho : OwnTab w B (.slice (some ad) es.length cap) es) :
    Calls Tryz.prog 59 #[.agg #[.slice (some ad) es.length cap], .string s] w fun e w' => ∃ g c, e = .returned (.tuple #[.agg #[.slice (some g) (lineE es s.data.toList).1.length c], .string ⟨(lineE es s.data.toList).2.toArray⟩]) ∧ OwnTab w' B (.slice (some g) (lineE es s.data.toList).1.length c) (lineE es s.data.toList).1 ∧ Below w.heap.size w w' := by
  have HO := Lib.hid ho
  clear ho
  rcases hb : saysE s.data.toList with _ | ⟨a, p⟩
  · have HB : Hid (∀ w, Calls Tryz.prog 99 #[.string s] w fun e w' => e = .returned (.tuple #[.agg #[.int .i64 0, .int .i64 0], .bool false]) ∧ Below w.heap.size w w') := fun w => by have := specSays_any s w hs; rw [hb] at this; exact this
    have HE : Hid (lineE es s.data.toList = (es, s.data.toList)) := by show lineE _ _ = _; unfold lineE; rw [hb]
    clear hb
    rw [HE.out, str_same]
    go_enter Tryz.func59, Tryz.ntmps59
    go_wp2_with fail
    (go_at_call 99; refine (HB.out _).mono ?_; rintro e w1 ⟨rfl, b1⟩; obtain ⟨cA, cB, b01, z1⟩ := cell_two b1; have t0 := (cA 0).1; have r0 := (cB 0).1; have g0 := (cB 0).2; simp at t0 r0; have B1 := Lib.hid b01; clear cA cB b1 b01)
    have t1 : (w1.alloc (.cells #[.int .i64 0, .int .i64 0] 34)).cell? ⟨w.heap.size, 0, none⟩ = some (.slice (some ad) es.length cap) := (by rw [cell_alloc_lt (by omega)]; exact t0)
    have r1 : (w1.alloc (.cells #[.int .i64 0, .int .i64 0] 34)).cell? ⟨w.heap.size + 1, 0, none⟩ = some (.slice none 0 0) := (by rw [cell_alloc_lt (by omega)]; exact r0)
    have g1 : (w1.alloc (.cells #[.int .i64 0, .int .i64 0] 34)).frozen? ⟨w.heap.size + 1, 0, none⟩ = false := (by rw [frozen_alloc_lt (by omega)]; exact g0)
    go_wp2_with fail
    refine bodyPost_ret (v := .tuple #[.agg #[.slice (some ad) es.length cap], .string s]) (by simp [results, Tryz.results59, go_sem, World.cell?_setCell_same _ _ _ r1]) rfl ?_
    exact ⟨_, _, rfl, HO.out.below ((B1.out.alloc B1.out.size _).setCell (by simp) _), (B1.out.alloc B1.out.size _).setCell (by simp) _⟩
  · obtain ⟨us, hus⟩ : ∃ us, us = (putE es (a, p)).1 := ⟨_, rfl⟩
    obtain ⟨q, hq⟩ : ∃ q, q = (putE es (a, p)).2 := ⟨_, rfl⟩
    have hP : Hid (∀ (w : World), TabAt w (.slice (some ad) es.length cap) es → Calls Tryz.prog 100 #[.agg #[.slice (some ad) es.length cap], .agg #[.int .i64 a, .int .i64 p]] w fun e w' => ∃ g c, e = .returned (.tuple #[.agg #[.slice (some g) us.length c], .int .i64 q]) ∧ ((g = ad ∧ c = cap ∧ us = es) ∨ OwnTab w' w.heap.size (.slice (some g) us.length c) us) ∧ Below w.heap.size w w') := fun w h => by rw [hus, hq]; exact specPut_new_or ad cap es a p w hn h
    have HB : Hid (∀ w, Calls Tryz.prog 99 #[.string s] w fun e w' => e = .returned (.tuple #[.agg #[.int .i64 a, .int .i64 p], .bool true]) ∧ Below w.heap.size w w') := fun w => by have := specSays_any s w hs; rw [hb] at this; exact this
    by_cases h0 : q = 0
    · have HE : Hid (lineE es s.data.toList = (us, noneL)) := by show lineE _ _ = _; unfold lineE; rw [hb]; simp only; rw [← hq, if_pos h0, hus]
      clear hb hus hq
      subst h0
      rw [HE.out]
      go_enter Tryz.func59, Tryz.ntmps59
      go_wp2_with fail
      (go_at_call 99; refine (HB.out _).mono ?_; rintro e w1 ⟨rfl, b1⟩; obtain ⟨cA, cB, b01, z1⟩ := cell_two b1; have t0 := (cA 0).1; have r0 := (cB 0).1; have g0 := (cB 0).2; simp at t0 r0; have B1 := Lib.hid b01; clear cA cB b1 b01)
      have t1 : (w1.alloc (.cells #[.int .i64 a, .int .i64 p] 34)).cell? ⟨w.heap.size, 0, none⟩ = some (.slice (some ad) es.length cap) := (by rw [cell_alloc_lt (by omega)]; exact t0)
      have r1 : (w1.alloc (.cells #[.int .i64 a, .int .i64 p] 34)).cell? ⟨w.heap.size + 1, 0, none⟩ = some (.slice none 0 0) := (by rw [cell_alloc_lt (by omega)]; exact r0)
      have g1 : (w1.alloc (.cells #[.int .i64 a, .int .i64 p] 34)).frozen? ⟨w.heap.size + 1, 0, none⟩ = false := (by rw [frozen_alloc_lt (by omega)]; exact g0)
      go_wp2_with fail
      (go_at_call 100; refine (hP.out _ (HO.out.tab.below (B1.out.alloc B1.out.size _))).mono ?_; rintro e w2 ⟨g2, c2, rfl, o2, b2⟩; have O2 := Lib.hid o2; have B2 := Lib.hid b2; clear o2 b2)
      have r2 : w2.cell? ⟨w.heap.size + 1, 0, none⟩ = some (.slice none 0 0) := (by rw [B2.out.cell (by simp; omega)]; exact r1)
      have g02 : w2.frozen? ⟨w.heap.size + 1, 0, none⟩ = false := (by rw [B2.out.frozen (by simp; omega)]; exact g1)
      have z2 := B2.out.size
      have z2 : w1.heap.size + 1 ≤ w2.heap.size := by simpa using z2
      have r3 : (w2.alloc (.cells #[.slice (some g2) us.length c2] 25)).cell? ⟨w.heap.size + 1, 0, none⟩ = some (.slice none 0 0) := (by rw [cell_alloc_lt (by show _ < _; omega)]; exact r2)
      have g03 : (w2.alloc (.cells #[.slice (some g2) us.length c2] 25)).frozen? ⟨w.heap.size + 1, 0, none⟩ = false := (by rw [frozen_alloc_lt (by show _ < _; omega)]; exact g02)
      go_wp2_with fail
      refine bodyPost_ret (v := .tuple #[.agg #[.slice (some g2) us.length c2], .string ⟨noneL.toArray⟩]) (by simp [results, Tryz.results59, go_sem, World.cell?_setCell_same _ _ _ r3, noneL]) rfl ?_
      have BF : Below w.heap.size w ((w2.alloc (.cells #[.slice (some g2) us.length c2] 25)).setCell ⟨w.heap.size + 1, 0, none⟩ (.slice (some g2) us.length c2)) := (((B1.out.alloc B1.out.size _).trans (B2.out.mono (by simp; omega))).alloc (by omega) _).setCell (by simp) _
      refine ⟨_, _, rfl, ?_, BF⟩
      rcases O2.out with ⟨rfl, rfl, rfl⟩ | o2
      · exact HO.out.below BF
      · exact OwnTab.mono (B := w1.heap.size) (ownsRow_setCell_below (OwnTab.below (OwnTab.mono o2 (by simp)) ((Below.refl _ _).alloc (Nat.le_refl _) _)) (by simp; omega) _) (by omega)
    · have HE : Hid (lineE es s.data.toList = (us, lpL 50 q)) := by show lineE _ _ = _; unfold lineE; rw [hb]; simp only; rw [← hq, if_neg h0, hus]
      clear hb hus hq
      rw [HE.out]
      go_enter Tryz.func59, Tryz.ntmps59
      go_wp2_with fail
      (go_at_call 99; refine (HB.out _).mono ?_; rintro e w1 ⟨rfl, b1⟩; obtain ⟨cA, cB, b01, z1⟩ := cell_two b1; have t0 := (cA 0).1; have r0 := (cB 0).1; have g0 := (cB 0).2; simp at t0 r0; have B1 := Lib.hid b01; clear cA cB b1 b01)
      have t1 : (w1.alloc (.cells #[.int .i64 a, .int .i64 p] 34)).cell? ⟨w.heap.size, 0, none⟩ = some (.slice (some ad) es.length cap) := (by rw [cell_alloc_lt (by omega)]; exact t0)
      have r1 : (w1.alloc (.cells #[.int .i64 a, .int .i64 p] 34)).cell? ⟨w.heap.size + 1, 0, none⟩ = some (.slice none 0 0) := (by rw [cell_alloc_lt (by omega)]; exact r0)
      have g1 : (w1.alloc (.cells #[.int .i64 a, .int .i64 p] 34)).frozen? ⟨w.heap.size + 1, 0, none⟩ = false := (by rw [frozen_alloc_lt (by omega)]; exact g0)
      go_wp2_with fail
      (go_at_call 100; refine (hP.out _ (HO.out.tab.below (B1.out.alloc B1.out.size _))).mono ?_; rintro e w2 ⟨g2, c2, rfl, o2, b2⟩; have O2 := Lib.hid o2; have B2 := Lib.hid b2; clear o2 b2)
      have r2 : w2.cell? ⟨w.heap.size + 1, 0, none⟩ = some (.slice none 0 0) := (by rw [B2.out.cell (by simp; omega)]; exact r1)
      have g02 : w2.frozen? ⟨w.heap.size + 1, 0, none⟩ = false := (by rw [B2.out.frozen (by simp; omega)]; exact g1)
      have z2 := B2.out.size
      have z2 : w1.heap.size + 1 ≤ w2.heap.size := by simpa using z2
      have r3 : (w2.alloc (.cells #[.slice (some g2) us.length c2] 25)).cell? ⟨w.heap.size + 1, 0, none⟩ = some (.slice none 0 0) := (by rw [cell_alloc_lt (by show _ < _; omega)]; exact r2)
      have g03 : (w2.alloc (.cells #[.slice (some g2) us.length c2] 25)).frozen? ⟨w.heap.size + 1, 0, none⟩ = false := (by rw [frozen_alloc_lt (by show _ < _; omega)]; exact g02)
      go_wp2_with fail
      have BF : Hid (Below w.heap.size w (w2.alloc (.cells #[.slice (some g2) us.length c2] 25))) := (((B1.out.alloc B1.out.size _).trans (B2.out.mono (by simp; omega))).alloc (by omega) _)
      have x3 : (w2.alloc (.cells #[.slice (some g2) us.length c2] 25)).cell? ⟨w2.heap.size, 0, none⟩ = some (.slice (some g2) us.length c2) := (cell_new _ _ _ 0).1
      have z3 : w2.heap.size + 1 ≤ (w2.alloc (.cells #[.slice (some g2) us.length c2] 25)).heap.size := by simp
      have O3 : Hid ((g2 = ad ∧ c2 = cap ∧ us = es) ∨ OwnTab (w2.alloc (.cells #[.slice (some g2) us.length c2] 25)) (w1.heap.size + 1) (.slice (some g2) us.length c2) us) := O2.out.imp id (fun o2 => OwnTab.below (OwnTab.mono o2 (by simp)) ((Below.refl _ _).alloc (Nat.le_refl _) _))
      obtain ⟨w3, hw3⟩ : ∃ w3, w3 = w2.alloc (.cells #[.slice (some g2) us.length c2] 25) := ⟨_, rfl⟩
      obtain ⟨k2, hk2⟩ : ∃ k2, k2 = w2.heap.size := ⟨_, rfl⟩
      rw [← hw3] at BF x3 z3 O3 r3 g03
      rw [← hk2] at x3 z3 z2
      rw [← hw3, ← hk2]
      clear hw3 hk2 r2 g02 O2 B2 B1 r0 t0 g0 t1 r1 g1
      go_region_with (go_at_call 87; refine (specLinPort_any 50 q _).mono ?_; rintro e w4 ⟨rfl, b4⟩; have B4 : Hid (Below w3.heap.size w3 w4) := ((Below.refl _ _).drew).trans b4; have x4 : w4.cell? ⟨k2, 0, none⟩ = some (.slice (some g2) us.length c2) := (by rw [B4.out.cell (by simp; omega)]; exact x3); have r4 : w4.cell? ⟨w.heap.size + 1, 0, none⟩ = some (.slice none 0 0) := (by rw [B4.out.cell (by simp; omega)]; exact r3); have g04 : w4.frozen? ⟨w.heap.size + 1, 0, none⟩ = false := (by rw [B4.out.frozen (by simp; omega)]; exact g03))
      all_goals
        go_wp2_with fail
        refine bodyPost_ret (v := .tuple #[.agg #[.slice (some g2) us.length c2], .string ⟨(lpL 50 q).toArray⟩]) (by simp [results, Tryz.results59, go_sem, World.cell?_setCell_same _ _ _ r4]) rfl ?_
        have BG : Below w.heap.size w (w4.setCell ⟨w.heap.size + 1, 0, none⟩ (.slice (some g2) us.length c2)) := (BF.out.trans (B4.out.mono BF.out.size)).setCell (by simp) _
        refine ⟨_, _, rfl, ?_, BG⟩
        rcases O3.out with ⟨rfl, rfl, rfl⟩ | o3
        · exact HO.out.below BG
        · exact OwnTab.mono (B := w1.heap.size) (ownsRow_setCell_below (OwnTab.below (OwnTab.mono o3 (by simp)) B4.out) (by simp; omega) _) (by omega)

end Go.Proofs.YthhojghckfkdhaaGreatDoor

/- A line as it goes outside, as data. No condition. -/
namespace Go.Proofs.YthhojghckfkdhaaGreatDoor
open Go.RowKit

theorem says_ins {l : List UInt8} {a p : Int} (h : saysE l = some (a, p)) : insB a p = true := by
  unfold saysE at h
  split at h
  · split at h
    · split at h
      · rename_i hi
        simp at h
        obtain ⟨rfl, rfl⟩ := h
        exact hi
      · cases h
    · cases h
  · cases h
theorem lineE_none {es : List (Int × Int)} {l : List UInt8} (h : saysE l = none) : lineE es l = (es, l) := by unfold lineE; rw [h]
theorem lineE_some {es : List (Int × Int)} {l : List UInt8} {e : Int × Int} (h : saysE l = some e) : lineE es l = ((putE es e).1, if (putE es e).2 = 0 then noneL else lpL 50 (putE es e).2) := by
  unfold lineE
  rw [h]
  simp only
  split <;> rfl
theorem lineE_ok {es : List (Int × Int)} {l : List UInt8} (hm : mapB es = true) : mapB (lineE es l).1 = true := by
  rcases h : saysE l with _ | ⟨a, p⟩
  · rw [lineE_none h]; exact hm
  · rw [lineE_some h]; exact putE_ok hm (says_ins h)

end Go.Proofs.YthhojghckfkdhaaGreatDoor

/- The program's MapOk answers as the document says. Conditions: at most 2^22 ends; all numbers are ints. -/
namespace Go.Proofs.YthhojghckfkdhaaGreatDoor
open Go.RowKit Go.Sort

set_option maxRecDepth 100000 in
set_option maxHeartbeats 3200000 in
theorem implMapOk_big (v : Value) (es : List (Int × Int)) (w : World)  (ht : TabAt w v es) (h6 : 6 < es.length) :
    Calls Tryz.prog 24 #[.agg #[v]] w fun e w' => e = .returned (.bool (mapB es)) ∧ Below w.heap.size w w' := by
  have HT := Lib.hid ht
  obtain ⟨ad, cap, rfl, _, _⟩ := ht
  have HB : Hid (mapB es = false) := by show mapB es = false; rw [mapB_vals, decide_eq_false (by omega)]; rfl
  have h66 : decide ((es.length : Int) ≤ 6) = false := by simp; omega
  rw [HB.out]
  clear HB HT
  go_enter Tryz.func24, Tryz.ntmps24
  go_wp2_with fail
  go_quiet (fail)
  go_wp2_with fail
  go_ret
  exact ⟨rfl, ((Below.refl _ _).alloc (Nat.le_refl _) _).trans ⟨rfl, rfl, rfl, Nat.le_refl _, fun _ _ => rfl⟩⟩

end Go.Proofs.YthhojghckfkdhaaGreatDoor

/- The program's MapOk answers as the document says. Conditions: at most 2^22 ends; all numbers are ints. -/
namespace Go.Proofs.YthhojghckfkdhaaGreatDoor
open Go.RowKit Go.Sort

set_option maxRecDepth 100000 in
set_option maxHeartbeats 3200000 in
theorem implMapOk_all (v : Value) (es : List (Int × Int)) (w : World) (hn : es.length ≤ 4194304) (hwf : wfE es) (ht : TabAt w v es) (h6 : ¬ 6 < es.length) (hin : es.all (fun e => insB e.1 e.2) = true) :
    Calls Tryz.prog 24 #[.agg #[v]] w fun e w' => e = .returned (.bool (mapB es)) ∧ Below w.heap.size w w' := by
  have HT := Lib.hid ht
  obtain ⟨ad, cap, rfl, _, _⟩ := ht
  have h66 : decide ((es.length : Int) ≤ 6) = true := by simp; omega
  have HA : ∀ b, es.all (fun e => insB e.1 e.2) = b → Hid (∀ w, TabAt w (.slice ad es.length cap) es → Calls Tryz.prog 66 #[.slice ad es.length cap] w fun e w' => e = .returned (.bool b) ∧ Below w.heap.size w w') := fun b hb w h => by rw [← hb]; exact allInside_any _ es w hn h
  obtain ⟨W0, hW0⟩ : ∃ W0, W0 = w.alloc (.cells #[.slice ad es.length cap] 25) := ⟨_, rfl⟩
  have t0 : W0.cell? ⟨w.heap.size, 0, none⟩ = some (.slice ad es.length cap) := by rw [hW0]; exact (cell_new w _ _ 0).1
  have B0 : Hid (Below w.heap.size w W0) := by rw [hW0]; exact (Below.refl _ _).alloc (Nat.le_refl _) _
  have z0 : W0.heap.size = w.heap.size + 1 := by rw [hW0]; simp
  have HT0 := Lib.hid (HT.out.below B0.out)
  have HA := HA true hin
  obtain ⟨n, hnn⟩ : ∃ n, n = (valsL es).length := ⟨_, rfl⟩
  have HB : Hid (mapB es = ((n : Int) == (es.length : Int))) := by
    show mapB es = _
    rw [mapB_vals, hin, decide_eq_true (by omega), ← hnn, Bool.eq_iff_iff]
    simp
    omega
  have HP : Hid (∀ w, TabAt w (.slice ad es.length cap) es → Calls Tryz.prog 56 #[.agg #[.slice ad es.length cap]] w fun e w' => ∃ g1 g2, e = .returned (.agg #[.map (some g1), .map (some g2)]) ∧ w.heap.size ≤ g1 ∧ w.heap.size ≤ g2 ∧ Both w' g1 g2 es ∧ Below w.heap.size w w') := fun w h => portsOf_any _ es w hn hwf h
  have HS : Hid (∀ g1 g2 w, Both w g1 g2 es → Calls Tryz.prog 67 #[.agg #[.map (some g1), .map (some g2)]] w fun e w' => e = .returned (.int .i64 (n : Int)) ∧ Below w.heap.size w w') := fun g1 g2 w h => by rw [hnn]; exact size_any g1 g2 es w h
  rw [HB.out]
  clear hwf HT hin hnn HB hn
  go_enter Tryz.func24, Tryz.ntmps24
  go_wp2_with fail
  rw [← hW0]
  clear hW0
  have mk : Hid (∀ w', Below W0.heap.size W0 w' → w'.cell? ⟨w.heap.size, 0, none⟩ = some (.slice ad es.length cap) ∧ Below W0.heap.size W0 w') := fun w' h => ⟨by rw [h.cell (by simp; omega)]; exact t0, h⟩
  clear t0
  go_region_held3 (fun w' => w'.cell? ⟨w.heap.size, 0, none⟩ = some (.slice ad es.length cap) ∧ Below W0.heap.size W0 w') (first | exact mk.out _ (Below.refl _ _).drew | exact mk.out _ cc)
    (first
      | (go_at_call 66; refine (HA.out _ (HT0.out.below (Below.refl _ _).drew)).mono ?_; rintro e wN ⟨rfl, bN⟩; have cc : Below W0.heap.size W0 wN := ((Below.refl _ _).drew).trans bN)
      | (go_at_call 56; refine (HP.out _ (HT0.out.below cc)).mono ?_; rintro e wP ⟨g1, g2, rfl, _, _, hb, bN⟩; have HBo := Lib.hid hb; have cc : Below W0.heap.size W0 wP := cc.trans (bN.mono cc.size); clear hb)
      | (go_at_call 67; refine (HS.out _ _ _ HBo.out).mono ?_; rintro e wQ ⟨rfl, bN⟩; have cc : Below W0.heap.size W0 wQ := cc.trans (bN.mono cc.size)))
  all_goals
    go_wp2_with fail
    go_ret
    exact ⟨rfl, B0.out.trans (cc.mono (by omega))⟩

end Go.Proofs.YthhojghckfkdhaaGreatDoor

/- The program's MapOk answers as the document says. Conditions: at most 2^22 ends; all numbers are ints. -/
namespace Go.Proofs.YthhojghckfkdhaaGreatDoor
open Go.RowKit Go.Sort

set_option maxRecDepth 100000 in
set_option maxHeartbeats 3200000 in
theorem implMapOk_not (v : Value) (es : List (Int × Int)) (w : World) (hn : es.length ≤ 4194304) (ht : TabAt w v es) (h6 : ¬ 6 < es.length) (hin : ¬ es.all (fun e => insB e.1 e.2) = true) :
    Calls Tryz.prog 24 #[.agg #[v]] w fun e w' => e = .returned (.bool (mapB es)) ∧ Below w.heap.size w w' := by
  have HT := Lib.hid ht
  obtain ⟨ad, cap, rfl, _, _⟩ := ht
  have h66 : decide ((es.length : Int) ≤ 6) = true := by simp; omega
  have HA : ∀ b, es.all (fun e => insB e.1 e.2) = b → Hid (∀ w, TabAt w (.slice ad es.length cap) es → Calls Tryz.prog 66 #[.slice ad es.length cap] w fun e w' => e = .returned (.bool b) ∧ Below w.heap.size w w') := fun b hb w h => by rw [← hb]; exact allInside_any _ es w hn h
  obtain ⟨W0, hW0⟩ : ∃ W0, W0 = w.alloc (.cells #[.slice ad es.length cap] 25) := ⟨_, rfl⟩
  have t0 : W0.cell? ⟨w.heap.size, 0, none⟩ = some (.slice ad es.length cap) := by rw [hW0]; exact (cell_new w _ _ 0).1
  have B0 : Hid (Below w.heap.size w W0) := by rw [hW0]; exact (Below.refl _ _).alloc (Nat.le_refl _) _
  have z0 : W0.heap.size = w.heap.size + 1 := by rw [hW0]; simp
  have HT0 := Lib.hid (HT.out.below B0.out)
  have hin' : es.all (fun e => insB e.1 e.2) = false := by simpa using hin
  have HA := HA false hin'
  have HB : Hid (mapB es = false) := by
    show mapB es = false
    rw [mapB_vals, hin']
    simp
  rw [HB.out]
  clear HT hin hin' HB hn
  go_enter Tryz.func24, Tryz.ntmps24
  go_wp2_with fail
  rw [← hW0]
  clear hW0
  have K0 := cell_regrown t0
  have cA : ∀ d os, Calls Tryz.prog 66 #[.slice ad es.length cap] (grow (redrawn W0 d) os) fun e w'' => e = .returned (.bool false) ∧ ∃ q : Regrown, w'' = grow (redrawn W0 q.d) q.os := fun d os => Calls.regrown_of (HA.out _ (HT0.out.below (below_regrown W0 d os)))
  clear t0
  refine wp_region_quiet_below (by kernel_rfl) (by kernel_rfl) ?_
  repeat (first | go_big_quiet_skip | quiet_step (exact cA _ _))
  refine wpQuiet_nil ?_
  intro _ hw'
  obtain ⟨⟨dq, osq⟩, hw''⟩ := hw'
  subst hw''
  go_wp2_with fail
  go_ret
  exact ⟨rfl, B0.out.trans ((below_regrown W0 dq osq).mono (by omega))⟩

end Go.Proofs.YthhojghckfkdhaaGreatDoor

/- The program's MapOk answers as the document says. Conditions: at most 2^22 ends; all numbers are ints. -/
namespace Go.Proofs.YthhojghckfkdhaaGreatDoor
open Go.RowKit

theorem implMapOk_any (v : Value) (es : List (Int × Int)) (w : World) (hn : es.length ≤ 4194304) (hwf : wfE es) (ht : TabAt w v es) :
    Calls Tryz.prog 24 #[.agg #[v]] w fun e w' => e = .returned (.bool (mapB es)) ∧ Below w.heap.size w w' := by
  by_cases h6 : 6 < es.length
  · exact implMapOk_big v es w ht h6
  · by_cases hin : es.all (fun e => insB e.1 e.2) = true
    · exact implMapOk_all v es w hn hwf ht h6 hin
    · exact implMapOk_not v es w hn ht h6 hin

end Go.Proofs.YthhojghckfkdhaaGreatDoor

/- EndText of the program: address and port in decimals, a space between; nothing of what is no end. Condition: the table of powers of ten of the library's Itoa holds what it is laid with. -/
namespace Go.Proofs.YthhojghckfkdhaaGreatDoor
open Go.RowKit Go.Sort

/-- The library's table of powers of ten, as the row lists it. -/
def TabOk (w : World) : Prop := Lib.TabIs Tryz.prog w "internal/strconv.uint64pow10" .u64 Lib.pow10Tab
theorem TabOk.below {w w' : World} {B : Nat} (h : TabOk w) (hb : Below B w w') (hB : w.heap.size ≤ B) : TabOk w' :=
  Joins.tab_stays (g := 3) (by kernel_rfl) h hb hB
theorem below_growN (w : World) (k : Nat) (os : Array Obj) : Below w.heap.size w (grow (w.drewN k) os) :=
  ⟨rfl, rfl, rfl, by simp [grow, World.drewN], fun k hk => by simp [grow, World.drewN, Array.getElem?_append, hk]⟩
theorem itoa_nat (n : Nat) : Lib.itoa (n : Int) = Lib.decDigits n := by
  unfold Lib.itoa; rw [if_neg (by omega)]; simp

theorem itoa_any (n : Nat) (w : World) (hn : n ≤ 1000000000000000000) (ht : TabOk w) :
    Calls Tryz.prog 107 #[.int .i64 n] w fun e w' => e = .returned (.string ⟨(Lib.decDigits n).toArray⟩) ∧ Below w.heap.size w w' := by
  have h := Any.strconv_Itoa Tryz.laysM171 (n : Int) (by omega) (by omega) w ht
  rw [itoa_nat] at h
  refine Calls.mono h ?_
  rintro e w' ⟨rfl, k, os, rfl⟩
  exact ⟨rfl, below_growN _ _ _⟩

set_option maxRecDepth 100000 in
set_option maxHeartbeats 400000 in
theorem implText_no (a p : Int) (w : World) (h : endB a p = false) :
    Calls Tryz.prog 71 #[.agg #[.int .i64 a, .int .i64 p]] w fun e w' => e = .returned (.string ⟨#[]⟩) ∧ Below w.heap.size w w' := by
  go_enter Tryz.func71, Tryz.ntmps71
  go_wp2_with (go_at_call 70; refine (implOk_any _ _ _).mono ?_; rintro e w1 ⟨rfl, b1⟩)
  go_ret
  exact ⟨rfl, below_box b1⟩

set_option maxRecDepth 100000 in
set_option maxHeartbeats 400000 in
theorem implText_yes (a p : Nat) (w : World) (h : endB a p = true) (ht : TabOk w) :
    Calls Tryz.prog 71 #[.agg #[.int .i64 a, .int .i64 p]] w fun e w' => e = .returned (.string ⟨(endL a p).toArray⟩) ∧ Below w.heap.size w w' := by
  obtain ⟨h1, h2, h3, h4⟩ := end_bounds h
  have la := dec_len a
  have lp := dec_len p
  have n1 : ¬ 9223372036854775807 < (Lib.decDigits a).length + 1 := by omega
  have n2 : ¬ 9223372036854775807 < (Lib.decDigits a).length + 1 + (Lib.decDigits p).length := by omega
  clear la lp
  have HT := Lib.hid ht
  clear ht
  go_enter Tryz.func71, Tryz.ntmps71
  go_wp2_with (go_at_call 70; refine (implOk_any _ _ _).mono ?_; rintro e w1 ⟨rfl, b1⟩)
  have s1 : w.heap.size < w1.heap.size := by (have := b1.size; simp at this; omega)
  have k0 := cell_regrown (show w1.cell? ⟨w.heap.size, 0, none⟩ = some (.int .i64 a) by rw [b1.cell (by simp)]; simp)
  have k1 := cell_regrown (show w1.cell? ⟨w.heap.size, 1, none⟩ = some (.int .i64 p) by rw [b1.cell (by simp)]; simp)
  have cN : ∀ (k : Nat) (hk : k ≤ 1000) d os, Calls Tryz.prog 107 #[.int .i64 (k : Int)] (grow (redrawn w1 d) os) fun e w'' => e = .returned (.string ⟨(Lib.decDigits k).toArray⟩) ∧ ∃ p : Regrown, w'' = grow (redrawn w1 p.d) p.os := fun k hk d os => Calls.regrown_of (itoa_any k _ (by omega) (HT.out.below ((below_box b1).trans ((below_regrown w1 d os).mono (by omega))) (Nat.le_refl _)))
  refine wp_region_quiet_below (by kernel_rfl) (by kernel_rfl) ?_
  repeat (quiet_step (exact cN _ (by omega) _ _))
  refine wpQuiet_nil ?_
  intro _ hw'
  obtain ⟨⟨dq, osq⟩, hw''⟩ := hw'
  subst hw''
  go_wp2
  go_ret
  exact ⟨by rw [text_cat]; rfl, (below_box b1).trans ((below_regrown w1 dq osq).mono (by omega))⟩

end Go.Proofs.YthhojghckfkdhaaGreatDoor

/- The text cut at its first space, by the library. Condition: the text has at most 2^48 bytes. -/
namespace Go.Proofs.YthhojghckfkdhaaGreatDoor
open Go.RowKit Go.Sort

set_option maxRecDepth 100000 in
set_option maxHeartbeats 800000 in
theorem cutS_any (s : ByteArray) (w : World) (hs : s.size ≤ 281474976710656) :
    Calls Tryz.prog 129 #[.string s, .string ⟨#[32]⟩] w fun e w' => e = .returned (.tuple #[.string ⟨(Lib.cut s.data.toList [32]).1.toArray⟩, .string ⟨(Lib.cut s.data.toList [32]).2.1.toArray⟩, .bool (Lib.cut s.data.toList [32]).2.2]) ∧ ∃ n, w' = w.drewN n := by
  have hc : ∀ w, Calls Tryz.prog 141 #[.string s, .string ⟨#[32]⟩] w fun e w' => e = .returned (.int .i64 (Lib.index s.data.toList [32])) ∧ w' = w := by
    intro w; have := Any.stringslite_Index_one Tryz.lays219 s 32 w; rw [← Lib.index_one] at this; exact this
  have HC := Lib.hid hc
  clear hc
  rcases Lib.indexB_cases s ⟨#[32]⟩ with hix | ⟨i, hix, hroom⟩
  · obtain ⟨e1, e2, e3⟩ := Lib.cutB_miss s ⟨#[32]⟩ hix
    have hix' : Lib.index s.data.toList [32] = -1 := hix
    have E1 : Hid ((⟨(Lib.cut s.data.toList [32]).1.toArray⟩ : ByteArray) = s) := e1
    have E2 : Hid ((⟨(Lib.cut s.data.toList [32]).2.1.toArray⟩ : ByteArray) = ByteArray.empty) := e2
    have E3 : Hid ((Lib.cut s.data.toList [32]).2.2 = false) := e3
    have HI := Lib.hid hix'
    clear e1 e2 e3 hix hix'
    go_enter Tryz.func129, Tryz.ntmps129
    go_wp2_with (go_at_call 141; refine (HC.out _).mono ?_; rintro e w' ⟨rfl, rfl⟩; rw [HI.out])
    go_ret3
    exact ⟨by rw [E1.out, E2.out, E3.out]; rfl, 0, rfl⟩
  · obtain ⟨e1, e2, e3⟩ := Lib.cutB_hit s ⟨#[32]⟩ i hix
    have hix' : Lib.index s.data.toList [32] = i := hix
    have hr : i + 1 ≤ s.size := hroom
    have E1 : Hid ((⟨(Lib.cut s.data.toList [32]).1.toArray⟩ : ByteArray) = s.extract 0 i) := e1
    have E2 : Hid ((⟨(Lib.cut s.data.toList [32]).2.1.toArray⟩ : ByteArray) = s.extract (i + 1) s.size) := e2
    have E3 : Hid ((Lib.cut s.data.toList [32]).2.2 = true) := e3
    have HI := Lib.hid hix'
    clear e1 e2 e3 hix hix' hroom
    have c1 : (0 : Int) ≤ ↑i := by omega
    have c2 : (↑i : Int) ≤ ↑s.size := by omega
    have c3 : (0 : Int) ≤ ↑i + 1 := by omega
    have c4 : (↑i + 1 : Int) ≤ ↑s.size := by omega
    have c5 : IntKind.i64.wrap ((i : Int) + 1) = (i : Int) + 1 := IntWalk.i64_in _ (by omega)
    have c6 : ((i : Int) + 1).toNat = i + 1 := by omega
    go_enter Tryz.func129, Tryz.ntmps129
    go_wp2_with (go_at_call 141; refine (HC.out _).mono ?_; rintro e w' ⟨rfl, rfl⟩; rw [HI.out])
    go_region
    go_wp2
    go_ret3
    exact ⟨by rw [E1.out, E2.out, E3.out]; rfl, 1, rfl⟩

theorem cut_any (s : ByteArray) (w : World) (hs : s.size ≤ 281474976710656) :
    Calls Tryz.prog 110 #[.string s, .string ⟨#[32]⟩] w fun e w' => e = .returned (.tuple #[.string ⟨(Lib.cut s.data.toList [32]).1.toArray⟩, .string ⟨(Lib.cut s.data.toList [32]).2.1.toArray⟩, .bool (Lib.cut s.data.toList [32]).2.2]) ∧ ∃ n, w' = w.drewN n := by
  go_enter Tryz.func110, Tryz.ntmps110
  go_wp2_with (go_at_call 129; refine (cutS_any _ _ hs).mono ?_; rintro e w' ⟨rfl, n, rfl⟩)
  go_ret3
  exact ⟨rfl, n, rfl⟩

end Go.Proofs.YthhojghckfkdhaaGreatDoor

/- readNumber of the program: the number that is written back the same; else 0 and an error. Conditions: the text has at most 2^48 bytes; the variables that are read hold what they are laid with. -/
namespace Go.Proofs.YthhojghckfkdhaaGreatDoor
open Go.RowKit Go.Sort

/-- What the program's package-level variables and the library's hold: the table of powers of ten, four errors. -/
structure VarsOk (w : World) : Prop where
  tab : TabOk w
  syn : ∃ t p, w.var? Tryz.prog "strconv.ErrSyntax" = some #[.iface t p]
  rng : ∃ t p, w.var? Tryz.prog "strconv.ErrRange" = some #[.iface t p]
  noNum : ∃ t p, w.cell? ⟨2, 0, none⟩ = some (.iface t p)
  noEnd : ∃ t p, w.cell? ⟨0, 0, none⟩ = some (.iface t p)
theorem VarsOk.below {w w' : World} (h : VarsOk w) (hb : Below w.heap.size w w') : VarsOk w' := by
  obtain ⟨h1, ⟨t2, p2, h2⟩, ⟨t3, p3, h3⟩, ⟨t4, p4, h4⟩, ⟨t5, p5, h5⟩⟩ := h
  exact ⟨h1.below hb (Nat.le_refl _), ⟨t2, p2, Joins.var_stays (g := 4) (by kernel_rfl) h2 hb (Nat.le_refl _)⟩, ⟨t3, p3, Joins.var_stays (g := 5) (by kernel_rfl) h3 hb (Nat.le_refl _)⟩,
    ⟨t4, p4, (hb.cell (World.block_lt_of_cell? _ _ h4)).trans h4⟩, ⟨t5, p5, (hb.cell (World.block_lt_of_cell? _ _ h5)).trans h5⟩⟩

theorem below_bytes {w w' : World} {e : TypeId} (h : w' = w ∨ ∃ t, w' = Lib.bytesWorld w e t) : Below w.heap.size w w' := by
  rcases h with rfl | ⟨t, rfl⟩
  · exact Below.refl _ _
  · exact Joins.below_bytesWorld _ _ _ _ (Nat.le_refl _)

theorem atoi_ok (s : ByteArray) (v : Int) (w : World) (hs : s.size ≤ 281474976710656) (h : Lib.atoiAll s.data.toList = .ok v) :
    Calls Tryz.prog 143 #[.string s] w fun e w' => e = .returned (.tuple #[.int .i64 v, .nilIface]) ∧ Below w.heap.size w w' := by
  refine (Any.strconv_Atoi_ok Tryz.laysC172 s (by omega) v h w).mono ?_
  rintro e w' ⟨rfl, hw⟩
  exact ⟨rfl, below_bytes hw⟩

theorem atoi_bad (s : ByteArray) (w : World) (hs : s.size ≤ 281474976710656) (h : ∀ v, Lib.atoiAll s.data.toList ≠ .ok v) (hv : VarsOk w) :
    Calls Tryz.prog 143 #[.string s] w fun e w' => ∃ n t a, e = .returned (.tuple #[.int .i64 n, .iface t (.pointer (some a))]) ∧ Below w.heap.size w w' := by
  obtain ⟨t2, p2, h2⟩ := hv.syn
  obtain ⟨t3, p3, h3⟩ := hv.rng
  rcases hl : Lib.atoiAll s.data.toList with v | _ | _
  · exact absurd hl (h v)
  · refine (Any.strconv_Atoi_syntax_var Tryz.laysC172 s hs hl t2 p2 w h2).mono ?_
    rintro e w' ⟨N, rfl, _, _, hb⟩
    exact ⟨_, _, _, rfl, hb⟩
  · refine (Any.strconv_Atoi_range_var Tryz.laysC172 s hs hl t3 p3 w h3).mono ?_
    rintro e w' ⟨N, rfl, _, _, hb⟩
    exact ⟨_, _, _, rfl, hb⟩

theorem itoa_int (n : Int) (w : World) (h0 : -9223372036854775808 ≤ n) (h1 : n ≤ 9223372036854775807) (ht : TabOk w) :
    Calls Tryz.prog 107 #[.int .i64 n] w fun e w' => e = .returned (.string ⟨(Lib.itoa n).toArray⟩) ∧ Below w.heap.size w w' := by
  refine Calls.mono (Any.strconv_Itoa Tryz.laysM171 n h0 h1 w ht) ?_
  rintro e w' ⟨rfl, k, os, rfl⟩
  exact ⟨rfl, below_growN _ _ _⟩

/-- What the program reads of a number: the one that is written back the same. -/
def numI (l : List UInt8) : Option Int := match Lib.atoiAll l with | .ok v => if Lib.itoa v = l then some v else none | _ => none

set_option maxRecDepth 100000 in
set_option maxHeartbeats 800000 in
theorem readNumber_ok (s : ByteArray) (v : Int) (w : World) (hs : s.size ≤ 281474976710656) (h : numI s.data.toList = some v) (hv : VarsOk w) :
    Calls Tryz.prog 139 #[.string s] w fun e w' => e = .returned (.tuple #[.int .i64 v, .nilIface]) ∧ Below w.heap.size w w' := by
  obtain ⟨ha, hi⟩ : Lib.atoiAll s.data.toList = .ok v ∧ Lib.itoa v = s.data.toList := by
    unfold numI at h
    cases hl : Lib.atoiAll s.data.toList with
    | ok u => rw [hl] at h; simp at h; exact ⟨by rw [h.2], by rw [← h.2]; exact h.1⟩
    | _ => rw [hl] at h; cases h
  obtain ⟨hb0, hb1⟩ := Lib.atoiAll_bounds ha
  have HA := Lib.hid ha
  have HV := Lib.hid hv
  have HI : Hid (Lib.itoa v = s.toList) := by rw [Lib.toList_data]; exact hi
  have HB : Hid (-9223372036854775808 ≤ v ∧ v ≤ 9223372036854775807) := ⟨hb0, hb1⟩
  have hq : (!Lib.itoa v == s.toList) = false := by rw [HI.out]; simp
  clear ha hv hi h hb0 hb1
  go_enter Tryz.func139, Tryz.ntmps139
  go_wp2_with (first
    | (go_at_call 143; refine (atoi_ok _ v _ hs HA.out).mono ?_; rintro e w1 ⟨rfl, b1⟩)
    | (go_at_call 107; refine (itoa_int v _ HB.out.1 HB.out.2 (HV.out.below b1).tab).mono ?_; rintro e w2 ⟨rfl, b2⟩))
  go_ret2
  exact ⟨rfl, b1.trans (b2.mono b1.size)⟩

/-- What readNumber answers of what is no number: 0 and the error that the program's variable holds. -/
theorem readNumber_bad (s : ByteArray) (w : World) (hs : s.size ≤ 281474976710656) (h : numI s.data.toList = none) (hv : VarsOk w) :
    Calls Tryz.prog 139 #[.string s] w fun e w' => ∃ t p, e = .returned (.tuple #[.int .i64 0, .iface t p]) ∧ Below w.heap.size w w' := by
  obtain ⟨t, p, hn⟩ := hv.noNum
  have hlt := World.block_lt_of_cell? w _ hn
  by_cases ha : ∃ v, Lib.atoiAll s.data.toList = .ok v
  · obtain ⟨v, ha⟩ := ha
    have hi : Lib.itoa v ≠ s.data.toList := by
      intro hi; unfold numI at h; rw [ha] at h; simp [hi] at h
    obtain ⟨hb0, hb1⟩ := Lib.atoiAll_bounds ha
    have HA := Lib.hid ha
    have HV := Lib.hid hv
    have HB : Hid (-9223372036854775808 ≤ v ∧ v ≤ 9223372036854775807) := ⟨hb0, hb1⟩
    have hq : (!Lib.itoa v == s.toList) = true := by rw [Lib.toList_data]; simpa using hi
    clear ha hv hi h hb0 hb1
    go_enter Tryz.func139, Tryz.ntmps139
    go_wp2_with (first
      | (go_at_call 143; refine (atoi_ok _ v _ hs HA.out).mono ?_; rintro e w1 ⟨rfl, b1⟩; obtain ⟨c1, f1⟩ := bcell b1)
      | (go_at_call 107; refine (itoa_int v _ HB.out.1 HB.out.2 (HV.out.below b1).tab).mono ?_; rintro e w2 ⟨rfl, b2⟩; obtain ⟨c2, f2⟩ := bcell b2; have z1 := b1.size))
    have hn2 : w2.cell? ⟨2, 0, none⟩ = some (.iface t p) := by rw [c2 _ _ (by omega), c1 _ _ hlt]; exact hn
    clear c1 c2 f1 f2
    go_region
    go_wp2
    go_ret2
    exact ⟨t, p, rfl, (b1.trans (b2.mono b1.size)).drew⟩
  · have HA : Hid (∀ v, Lib.atoiAll s.data.toList ≠ .ok v) := fun v hv => ha ⟨v, hv⟩
    have HV := Lib.hid hv
    clear ha hv h
    go_enter Tryz.func139, Tryz.ntmps139
    go_wp2_with (first
      | (go_at_call 143; refine (atoi_bad _ _ hs HA.out HV.out).mono ?_; rintro e w1 ⟨n1, t1, a1, rfl, b1⟩; obtain ⟨c1, f1⟩ := bcell b1))
    have hn1 : w1.cell? ⟨2, 0, none⟩ = some (.iface t p) := by rw [c1 _ _ hlt]; exact hn
    clear c1 f1
    go_region
    go_wp2
    go_ret2
    exact ⟨t, p, rfl, b1.drew⟩

end Go.Proofs.YthhojghckfkdhaaGreatDoor

/- readEnd of the program: address and port of a text that has both, cut at its first space; else nothing and an error. Conditions: the text has at most 2^48 bytes; the variables that are read hold what they are laid with. -/
namespace Go.Proofs.YthhojghckfkdhaaGreatDoor
open Go.RowKit Go.Sort

theorem cut_parts (s : ByteArray) (hs : s.size ≤ 281474976710656) : ∃ (X Y : ByteArray) (f : Bool), X.data.toList = (Lib.cut s.data.toList [32]).1 ∧ Y.data.toList = (Lib.cut s.data.toList [32]).2.1 ∧ X.size ≤ 281474976710656 ∧ Y.size ≤ 281474976710656 ∧
    ∀ w, Calls Tryz.prog 110 #[.string s, .string ⟨#[32]⟩] w fun e w' => e = .returned (.tuple #[.string X, .string Y, .bool f]) ∧ Below w.heap.size w w' := by
  have h1 : (Lib.cut s.data.toList [32]).1.length ≤ s.size := by
    unfold Lib.cut; split
    · simp; omega
    · simp
  have h2 : (Lib.cut s.data.toList [32]).2.1.length ≤ s.size := by
    unfold Lib.cut; split
    · simp
    · simp
  refine ⟨⟨(Lib.cut s.data.toList [32]).1.toArray⟩, ⟨(Lib.cut s.data.toList [32]).2.1.toArray⟩, (Lib.cut s.data.toList [32]).2.2, by simp, by simp, by simp [ByteArray.size]; omega, by simp [ByteArray.size]; omega, fun w => (cut_any s w hs).mono ?_⟩
  rintro e w' ⟨rfl, n, rfl⟩
  exact ⟨rfl, Joins.below_draws _ _ _⟩

set_option maxRecDepth 100000 in
set_option maxHeartbeats 800000 in
theorem readEnd_bad1 (s : ByteArray) (w : World) (hs : s.size ≤ 281474976710656) (h : numI (Lib.cut s.data.toList [32]).1 = none) (hv : VarsOk w) :
    Calls Tryz.prog 127 #[.string s] w fun e w' => ∃ t p, e = .returned (.tuple #[.agg #[.int .i64 0, .int .i64 0], .iface t p]) ∧ Below w.heap.size w w' := by
  obtain ⟨X, Y, f, hX, hY, sX, sY, hc⟩ := cut_parts s hs
  rw [← hX] at h
  have HC := Lib.hid hc
  have H := Lib.hid h
  have HV := Lib.hid hv
  clear hc h hv hX hY
  go_enter Tryz.func127, Tryz.ntmps127
  go_wp2_with (first
    | (go_at_call 110; refine (HC.out _).mono ?_; rintro e w1 ⟨rfl, b1⟩; obtain ⟨c1, f1⟩ := bcell b1; have z1 : w.heap.size < w1.heap.size := by (have hq := b1.size; simp at hq; omega))
    | (go_at_call 139; refine (readNumber_bad _ _ sX H.out (HV.out.below (below_box b1))).mono ?_; rintro e w2 ⟨t2, p2, rfl, b2⟩; obtain ⟨c2, f2⟩ := bcell b2))
  obtain ⟨q0, q1, q2⟩ := set_two (w := w2) (b := w.heap.size) (x := .int .i64 0) (y := .int .i64 0) (.int .i64 0) (.int .i64 0) (by rw [c2 _ _ z1, c1 _ _ (by simp)]; simp) (by rw [c2 _ _ z1, c1 _ _ (by simp)]; simp)
  refine bodyPost_ret (v := .tuple #[.agg #[.int .i64 0, .int .i64 0], .iface t2 p2]) (by simp [results, Tryz.results127, go_sem, q1, q2]) rfl ⟨_, _, rfl, ?_⟩
  exact ((((below_box b1).trans (b2.mono (by omega))).setCell (Nat.le_refl _) _).setCell (Nat.le_refl _) _)

set_option maxRecDepth 100000 in
set_option maxHeartbeats 800000 in
theorem readEnd_bad2 (s : ByteArray) (a : Int) (w : World) (hs : s.size ≤ 281474976710656) (h : numI (Lib.cut s.data.toList [32]).1 = some a) (h2 : numI (Lib.cut s.data.toList [32]).2.1 = none) (hv : VarsOk w) :
    Calls Tryz.prog 127 #[.string s] w fun e w' => ∃ t p, e = .returned (.tuple #[.agg #[.int .i64 0, .int .i64 0], .iface t p]) ∧ Below w.heap.size w w' := by
  obtain ⟨X, Y, f, hX, hY, sX, sY, hc⟩ := cut_parts s hs
  rw [← hX] at h
  rw [← hY] at h2
  have HC := Lib.hid hc
  have H := Lib.hid h
  have H2 := Lib.hid h2
  have HV := Lib.hid hv
  clear hc h h2 hv hX hY
  go_enter Tryz.func127, Tryz.ntmps127
  go_wp2_with fail
  (go_at_call 110; refine (HC.out _).mono ?_; rintro e w1 ⟨rfl, b1⟩; obtain ⟨c1, f1⟩ := bcell b1; have z1 : w.heap.size < w1.heap.size := by (have hq := b1.size; simp at hq; omega))
  have V1 : Hid (VarsOk w1) := HV.out.below (below_box b1)
  go_wp2_with fail
  (go_at_call 139; refine (readNumber_ok _ _ _ sX H.out V1.out).mono ?_; rintro e w2 ⟨rfl, b2⟩; obtain ⟨c2, f2⟩ := bcell b2; have z2 : w.heap.size < w2.heap.size := by (have hq := b2.size; omega))
  have V2 : Hid (VarsOk w2) := V1.out.below b2
  go_wp2_with fail
  (go_at_call 139; refine (readNumber_bad _ _ sY H2.out V2.out).mono ?_; rintro e w3 ⟨t3, p3, rfl, b3⟩; obtain ⟨c3, f3⟩ := bcell b3)
  go_wp2
  obtain ⟨q0, q1, q2⟩ := set_two (w := w3) (b := w.heap.size) (x := .int .i64 0) (y := .int .i64 0) (.int .i64 0) (.int .i64 0) (by rw [c3 _ _ z2, c2 _ _ z1, c1 _ _ (by simp)]; simp) (by rw [c3 _ _ z2, c2 _ _ z1, c1 _ _ (by simp)]; simp)
  refine bodyPost_ret (v := .tuple #[.agg #[.int .i64 0, .int .i64 0], .iface t3 p3]) (by simp [results, Tryz.results127, go_sem, q1, q2]) rfl ⟨_, _, rfl, ?_⟩
  exact ((((below_box b1).trans ((b2.mono (by omega)).trans (b3.mono (by omega)))).setCell (Nat.le_refl _) _).setCell (Nat.le_refl _) _)

/-- The variable errNoEnd, in a later world. -/
theorem noEnd_at {w w' : World} {t : TypeId} {p : Value} (h : w.cell? ⟨0, 0, none⟩ = some (.iface t p)) (hb : Below w.heap.size w w') : w'.cell? ⟨0, 0, none⟩ = some (.iface t p) :=
  (hb.cell (World.block_lt_of_cell? _ _ h)).trans h

set_option maxRecDepth 100000 in
set_option maxHeartbeats 1600000 in
theorem readEnd_last (s : ByteArray) (a p : Int) (w : World) (hs : s.size ≤ 281474976710656) (h : numI (Lib.cut s.data.toList [32]).1 = some a) (h2 : numI (Lib.cut s.data.toList [32]).2.1 = some p) (hv : VarsOk w) :
    Calls Tryz.prog 127 #[.string s] w fun e w' => (endB a p = true → e = .returned (.tuple #[.agg #[.int .i64 a, .int .i64 p], .nilIface])) ∧ (endB a p = false → ∃ t q, e = .returned (.tuple #[.agg #[.int .i64 0, .int .i64 0], .iface t q])) ∧ Below w.heap.size w w' := by
  obtain ⟨X, Y, f, hX, hY, sX, sY, hc⟩ := cut_parts s hs
  rw [← hX] at h
  rw [← hY] at h2
  obtain ⟨te, pe, hne⟩ := hv.noEnd
  have HC := Lib.hid hc
  have H := Lib.hid h
  have H2 := Lib.hid h2
  have HV := Lib.hid hv
  have HE := Lib.hid hne
  clear hc h h2 hv hX hY hne
  go_enter Tryz.func127, Tryz.ntmps127
  go_wp2_with fail
  (go_at_call 110; refine (HC.out _).mono ?_; rintro e w1 ⟨rfl, b1⟩; obtain ⟨c1, f1⟩ := bcell b1; have z1 : w.heap.size < w1.heap.size := by (have hq := b1.size; simp at hq; omega))
  have V1 : Hid (VarsOk w1) := HV.out.below (below_box b1)
  go_wp2_with fail
  (go_at_call 139; refine (readNumber_ok _ _ _ sX H.out V1.out).mono ?_; rintro e w2 ⟨rfl, b2⟩; obtain ⟨c2, f2⟩ := bcell b2; have z2 : w.heap.size < w2.heap.size := by (have hq := b2.size; omega))
  have V2 : Hid (VarsOk w2) := V1.out.below b2
  go_wp2_with fail
  (go_at_call 139; refine (readNumber_ok _ _ _ sY H2.out V2.out).mono ?_; rintro e w3 ⟨rfl, b3⟩; obtain ⟨c3, f3⟩ := bcell b3; have z3 : w.heap.size < w3.heap.size := by (have hq := b3.size; omega))
  have b13 : Below w.heap.size w w3 := (below_box b1).trans ((b2.mono (by omega)).trans (b3.mono (by omega)))
  go_wp2_with fail
  (go_at_call 70; refine (implOk_any _ _ _).mono ?_; rintro e w4 ⟨rfl, b4⟩; obtain ⟨c4, f4⟩ := bcell b4)
  have b14 : Below w.heap.size w w4 := b13.trans (((Below.refl _ w3).alloc (Nat.le_refl _) _ |>.trans (b4.mono (by simp))).mono (by omega))
  have k0 : w4.cell? ⟨w.heap.size, 0, none⟩ = some (.int .i64 0) := by rw [c4 _ _ (by simp; omega), cell_alloc_lt z3, c3 _ _ z2, c2 _ _ z1, c1 _ _ (by simp)]; simp
  have k1 : w4.cell? ⟨w.heap.size, 1, none⟩ = some (.int .i64 0) := by rw [c4 _ _ (by simp; omega), cell_alloc_lt z3, c3 _ _ z2, c2 _ _ z1, c1 _ _ (by simp)]; simp
  by_cases hb : endB a p = true
  · obtain ⟨q0, q1, q2⟩ := set_two (.int .i64 a) (.int .i64 p) k0 k1
    go_wp2
    refine bodyPost_ret (v := .tuple #[.agg #[.int .i64 a, .int .i64 p], .nilIface]) (by simp [results, Tryz.results127, go_sem, q1, q2]) rfl ⟨fun _ => rfl, fun h => absurd hb (by simp [h]), ?_⟩
    exact (b14.setCell (Nat.le_refl _) _).setCell (Nat.le_refl _) _
  · have hE := noEnd_at HE.out b14
    obtain ⟨q0, q1, q2⟩ := set_two (.int .i64 0) (.int .i64 0) k0 k1
    have r0 : w4.frozen? ⟨w.heap.size, 0, none⟩ = false := by rw [f4 _ _ (by simp; omega), frozen_alloc_lt z3, f3 _ _ z2, f2 _ _ z1, f1 _ _ (by simp)]; simp
    have r1 : w4.frozen? ⟨w.heap.size, 1, none⟩ = false := by rw [f4 _ _ (by simp; omega), frozen_alloc_lt z3, f3 _ _ z2, f2 _ _ z1, f1 _ _ (by simp)]; simp
    have hlt : 0 < w.heap.size := World.block_lt_of_cell? w _ HE.out
    have hE2 : (w4.setCell ⟨w.heap.size, 0, none⟩ (.int .i64 0)).cell? ⟨0, 0, none⟩ = some (.iface te pe) := by
      rw [World.cell?_setCell_far _ _ _ _ (Nat.ne_of_gt hlt)]; exact hE
    clear c1 c2 c3 c4 f1 f2 f3 f4
    go_wp2
    go_region
    go_wp2
    refine bodyPost_ret (v := .tuple #[.agg #[.int .i64 0, .int .i64 0], .iface te pe]) (by simp [results, Tryz.results127, go_sem, q1, q2]) rfl ⟨fun h => absurd h hb, fun _ => ⟨_, _, rfl⟩, ?_⟩
    exact ((b14.setCell (Nat.le_refl _) _).setCell (Nat.le_refl _) _).drew

end Go.Proofs.YthhojghckfkdhaaGreatDoor

/- EndRead of the program and of the specification answer the same of every text. Conditions: the text has at most 2^20 bytes; the variables that are read hold what they are laid with. -/
namespace Go.Proofs.YthhojghckfkdhaaGreatDoor
open Go.RowKit Go.Sort

set_option maxRecDepth 100000 in
set_option maxHeartbeats 800000 in
theorem implRead_good (s : ByteArray) (a p : Int) (w : World) (hv : VarsOk w)
    (h : ∀ w, VarsOk w → Calls Tryz.prog 127 #[.string s] w fun e w' => e = .returned (.tuple #[.agg #[.int .i64 a, .int .i64 p], .nilIface]) ∧ Below w.heap.size w w') :
    Calls Tryz.prog 103 #[.string s] w fun e w' => e = .returned (.tuple #[.agg #[.int .i64 a, .int .i64 p], .bool true]) ∧ Below w.heap.size w w' := by
  have H := Lib.hid h
  have HV := Lib.hid hv
  clear h hv
  go_enter Tryz.func103, Tryz.ntmps103
  go_wp2_with (go_at_call 127; refine (H.out _ (HV.out.below ((Below.refl _ _).alloc (Nat.le_refl _) _))).mono ?_; rintro e w1 ⟨rfl, b1⟩; obtain ⟨c1, f1⟩ := bcell b1)
  have z1 : w.heap.size < w1.heap.size := by have hq := b1.size; simp at hq; omega
  have k0 : w1.cell? ⟨w.heap.size, 0, none⟩ = some (.int .i64 0) := by rw [c1 _ _ (by simp)]; simp
  have k1 : w1.cell? ⟨w.heap.size, 1, none⟩ = some (.int .i64 0) := by rw [c1 _ _ (by simp)]; simp
  have r0 : w1.frozen? ⟨w.heap.size, 0, none⟩ = false := by rw [f1 _ _ (by simp)]; simp
  have r1 : w1.frozen? ⟨w.heap.size, 1, none⟩ = false := by rw [f1 _ _ (by simp)]; simp
  clear c1 f1
  go_region
  go_wp2
  obtain ⟨q0, q1, q2⟩ := set_two (w := w1) (.int .i64 a) (.int .i64 p) k0 k1
  refine bodyPost_ret (v := .tuple #[.agg #[.int .i64 a, .int .i64 p], .bool true]) (by simp [results, Tryz.results103, go_sem, cell_alloc_lt, z1, q1, q2]) rfl ⟨rfl, ?_⟩
  exact ((((((below_box b1).setCell (Nat.le_refl _) _).setCell (Nat.le_refl _) _).alloc (by simp; omega) _)).drew)

set_option maxRecDepth 100000 in
set_option maxHeartbeats 800000 in
theorem implRead_bad (s : ByteArray) (w : World) (hv : VarsOk w)
    (h : ∀ w, VarsOk w → Calls Tryz.prog 127 #[.string s] w fun e w' => ∃ t q, e = .returned (.tuple #[.agg #[.int .i64 0, .int .i64 0], .iface t q]) ∧ Below w.heap.size w w') :
    Calls Tryz.prog 103 #[.string s] w fun e w' => e = .returned (.tuple #[.agg #[.int .i64 0, .int .i64 0], .bool false]) ∧ Below w.heap.size w w' := by
  have H := Lib.hid h
  have HV := Lib.hid hv
  clear h hv
  go_enter Tryz.func103, Tryz.ntmps103
  go_wp2_with (go_at_call 127; refine (H.out _ (HV.out.below ((Below.refl _ _).alloc (Nat.le_refl _) _))).mono ?_; rintro e w1 ⟨t1, p1, rfl, b1⟩; obtain ⟨c1, f1⟩ := bcell b1)
  have z1 : w.heap.size < w1.heap.size := by have hq := b1.size; simp at hq; omega
  have k0 : w1.cell? ⟨w.heap.size, 0, none⟩ = some (.int .i64 0) := by rw [c1 _ _ (by simp)]; simp
  have k1 : w1.cell? ⟨w.heap.size, 1, none⟩ = some (.int .i64 0) := by rw [c1 _ _ (by simp)]; simp
  have r0 : w1.frozen? ⟨w.heap.size, 0, none⟩ = false := by rw [f1 _ _ (by simp)]; simp
  have r1 : w1.frozen? ⟨w.heap.size, 1, none⟩ = false := by rw [f1 _ _ (by simp)]; simp
  clear c1 f1
  go_region
  go_wp2
  obtain ⟨q0, q1, q2⟩ := set_two (w := w1) (.int .i64 0) (.int .i64 0) k0 k1
  refine bodyPost_ret (v := .tuple #[.agg #[.int .i64 0, .int .i64 0], .bool false]) (by simp [results, Tryz.results103, go_sem, cell_alloc_lt, z1, q1, q2]) rfl ⟨rfl, ?_⟩
  exact ((((((below_box b1).setCell (Nat.le_refl _) _).setCell (Nat.le_refl _) _).alloc (by simp; omega) _)).drew)

/-- What the program reads. -/
def rdO (l : List UInt8) : Value := match numI (Lib.cut l [32]).1, numI (Lib.cut l [32]).2.1 with | some a, some p => rdV a p | _, _ => noneV
theorem numI_dec {k : Nat} (hk : k ≤ 1000000000000000000) : numI (Lib.decDigits k) = some (k : Int) := by
  unfold numI; rw [atoi_dec k hk]; simp [itoa_nat]
theorem numI_inv {l : List UInt8} {v : Int} (h : numI l = some v) : Lib.itoa v = l := by
  unfold numI at h
  split at h
  · split at h
    · simp at h; subst h; assumption
    · cases h
  · cases h
theorem itoa_pos {v : Int} (h : 0 ≤ v) : Lib.itoa v = Lib.decDigits v.toNat := by
  unfold Lib.itoa; rw [if_neg (by omega)]

theorem rdO_yes {a p : Nat} (h : endB a p = true) : rdO (endL a p) = rdV a p := by
  obtain ⟨h1, h2, h3, h4⟩ := end_bounds h
  have hi : 0 ≤ Lib.index (endL a p) [32] := by
    rcases Int.lt_or_le (Lib.index (endL a p) [32]) 0 with hn | hn
    · exact absurd rfl (index_none hn 32 (by simp [endL]))
    · exact hn
  obtain ⟨e1, e2⟩ := cut_yes hi
  obtain ⟨u1, u2⟩ := split_uniq (dec_no_space a) e2 (show Lib.decDigits a ++ 32 :: Lib.decDigits p = _ from e1)
  unfold rdO
  rw [← u1, ← u2, numI_dec (by omega), numI_dec (by omega)]
theorem rdO_no {l : List UInt8} (h : ∀ a p : Nat, endB a p = true → l ≠ endL a p) : rdO l = noneV := by
  unfold rdO
  split
  · rename_i a p ha hp
    by_cases hb : endB a p = true
    · obtain ⟨h1, h2, h3, h4⟩ := end_bounds hb
      have ea := numI_inv ha
      have ep := numI_inv hp
      rw [itoa_pos (by omega)] at ea ep
      refine absurd ?_ (h a.toNat p.toNat (by rw [Int.toNat_of_nonneg (by omega), Int.toNat_of_nonneg (by omega)]; exact hb))
      by_cases hi : 0 ≤ Lib.index l [32]
      · rw [endL, ea, ep]; exact (cut_yes hi).1
      · rw [cut_no hi] at ep
        have := dec_pos p.toNat
        rw [ep] at this; simp at this
    · exact rdV_none (by simpa using hb)
  · rfl
theorem rd_same (l : List UInt8) : rdO l = rdS l := by
  by_cases h : ∃ a p : Nat, endB a p = true ∧ l = endL a p
  · obtain ⟨a, p, h1, rfl⟩ := h; rw [rdO_yes h1, rdS_yes h1]
  · have h' : ∀ a p : Nat, endB a p = true → l ≠ endL a p := fun a p h1 h2 => h ⟨a, p, h1, h2⟩
    rw [rdO_no h', rdS_no h']

theorem implRead_any (s : ByteArray) (w : World) (hs : s.size ≤ 281474976710656) (hv : VarsOk w) :
    Calls Tryz.prog 103 #[.string s] w fun e w' => e = .returned (rdO s.data.toList) ∧ Below w.heap.size w w' := by
  rcases ha : numI (Lib.cut s.data.toList [32]).1 with _ | a
  · have e : rdO s.data.toList = noneV := by unfold rdO; rw [ha]
    rw [e]
    exact implRead_bad s w hv fun w hv => (readEnd_bad1 s w hs ha hv).mono fun _ _ ⟨t, p, he, hb⟩ => ⟨t, p, he, hb⟩
  · rcases hp : numI (Lib.cut s.data.toList [32]).2.1 with _ | p
    · have e : rdO s.data.toList = noneV := by unfold rdO; rw [ha, hp]
      rw [e]
      exact implRead_bad s w hv fun w hv => (readEnd_bad2 s a w hs ha hp hv).mono fun _ _ ⟨t, p, he, hb⟩ => ⟨t, p, he, hb⟩
    · have e : rdO s.data.toList = rdV a p := by unfold rdO; rw [ha, hp]
      rw [e]
      by_cases hb : endB a p = true
      · rw [show rdV a p = _ from if_pos hb]
        exact implRead_good s a p w hv fun w hv => (readEnd_last s a p w hs ha hp hv).mono fun _ _ ⟨h1, _, h3⟩ => ⟨h1 hb, h3⟩
      · rw [show rdV a p = _ from if_neg hb]
        exact implRead_bad s w hv fun w hv => (readEnd_last s a p w hs ha hp hv).mono fun _ _ ⟨_, h2, h3⟩ => by
          obtain ⟨t, q, he⟩ := h2 (by simpa using hb)
          exact ⟨t, q, he, h3⟩

end Go.Proofs.YthhojghckfkdhaaGreatDoor

/- LinPort of the program, and the end that a line of the form of LinPort's says. Conditions: the text has at most 2^48 bytes; the variables that are read hold what they are laid with. -/
namespace Go.Proofs.YthhojghckfkdhaaGreatDoor
open Go.RowKit Go.Sort

set_option maxRecDepth 100000 in
set_option maxHeartbeats 800000 in
theorem implLinPort_any (a p : Int) (w : World) (ht : TabOk w) :
    Calls Tryz.prog 28 #[.agg #[.int .i64 a, .int .i64 p]] w fun e w' => e = .returned (.string ⟨(lpL a p).toArray⟩) ∧ Below w.heap.size w w' := by
  have HT0 := Lib.hid ht
  clear ht
  by_cases hb : endB a p = true
  · obtain ⟨h1, h2, h3, h4⟩ := end_bounds hb
    obtain ⟨m, rfl⟩ := Int.eq_ofNat_of_zero_le (show 0 ≤ a by omega)
    obtain ⟨n, rfl⟩ := Int.eq_ofNat_of_zero_le (show 0 ≤ p by omega)
    have HL : Hid (lpL m n = portL ++ endL m n) := if_pos hb
    have n1 : ¬ 9223372036854775807 < 5 + (endL m n).length := by
      have := dec_len4 (k := m) (by omega); have := dec_len4 (k := n) (by omega)
      simp [endL]; omega
    have HI : Hid (∀ w, TabOk w → Calls Tryz.prog 71 #[.agg #[.int .i64 (m : Int), .int .i64 (n : Int)]] w fun e w' => e = .returned (.string ⟨(endL m n).toArray⟩) ∧ Below w.heap.size w w') := fun w ht => implText_yes m n w hb ht
    go_enter Tryz.func28, Tryz.ntmps28
    go_wp2_with (first
      | (go_at_call 70; refine (implOk_any _ _ _).mono ?_; rintro e w1 ⟨rfl, b1⟩; obtain ⟨c1, f1⟩ := bcell b1; have T1 : Hid (TabOk w1) := HT0.out.below (below_box b1) (Nat.le_refl _))
      | (go_at_call 71; refine (HI.out _ T1.out).mono ?_; rintro e w2 ⟨rfl, b2⟩))
    go_ret
    refine ⟨?_, (below_box b1).trans (b2.mono (by have := b1.size; simp at this; omega))⟩
    rw [HL.out, ← port_cat]; rfl
  · have HL : Hid (lpL a p = []) := if_neg hb
    go_enter Tryz.func28, Tryz.ntmps28
    go_wp2_with (go_at_call 70; refine (implOk_any _ _ _).mono ?_; rintro e w1 ⟨rfl, b1⟩)
    go_ret
    exact ⟨by rw [HL.out]; rfl, below_box b1⟩

/-- The end, of whichever side, that a line says. -/
def rpE (l : List UInt8) : Option (Int × Int) := if l.take 5 = portL then rdE (l.drop 5) else none

set_option maxRecDepth 100000 in
set_option maxHeartbeats 800000 in
theorem prefix_any (s : ByteArray) (w : World) :
    Calls Tryz.prog 138 #[.string s, .string ⟨#[112, 111, 114, 116, 32]⟩] w fun e w' => e = .returned (.bool (decide (s.data.toList.take 5 = portL))) ∧ w' = w := by
  by_cases h5 : s.size < 5
  · have hno : ¬ s.data.toList.take 5 = portL := by
      intro h; have := congrArg List.length h; simp [portL] at this; omega
    have HD : Hid (decide (s.data.toList.take 5 = portL) = false) := decide_eq_false hno
    clear hno
    go_enter Tryz.func138, Tryz.ntmps138
    go_wp2_with fail
    go_ret
    exact ⟨ret_bool HD.out.symm, rfl⟩
  · have HD : Hid (((s.extract 0 5).toList == [112, 111, 114, 116, 32]) = decide (s.data.toList.take 5 = portL)) := by
      show ((s.extract 0 5).toList == [112, 111, 114, 116, 32]) = decide (s.data.toList.take 5 = portL)
      rw [Lib.toList_data, ext_take, Bool.eq_iff_iff, beq_iff_eq, decide_eq_true_iff]; rfl
    go_enter Tryz.func138, Tryz.ntmps138
    go_wp2_with fail
    go_ret
    exact ⟨ret_bool HD.out, rfl⟩

set_option maxRecDepth 100000 in
set_option maxHeartbeats 800000 in
theorem cutPortS_yes (s : ByteArray) (w : World) (ht : s.data.toList.take 5 = portL) :
    Calls Tryz.prog 126 #[.string s, .string ⟨#[112, 111, 114, 116, 32]⟩] w fun e w' => e = .returned (.tuple #[.string (s.extract 5 s.size), .bool true]) ∧ w' = w := by
  have h5 : 5 ≤ s.size := by have := congrArg List.length ht; simp [portL] at this; omega
  have HD : Hid (decide (s.data.toList.take 5 = portL) = true) := decide_eq_true ht
  clear ht
  go_enter Tryz.func126, Tryz.ntmps126
  go_wp2_with (go_at_call 138; refine (prefix_any _ _).mono ?_; rintro e w' ⟨rfl, rfl⟩; rw [HD.out])
  go_ret2
  exact ⟨rfl, rfl⟩

set_option maxRecDepth 100000 in
set_option maxHeartbeats 800000 in
theorem cutPortS_no (s : ByteArray) (w : World) (ht : ¬ s.data.toList.take 5 = portL) :
    Calls Tryz.prog 126 #[.string s, .string ⟨#[112, 111, 114, 116, 32]⟩] w fun e w' => e = .returned (.tuple #[.string s, .bool false]) ∧ w' = w := by
  have HD : Hid (decide (s.data.toList.take 5 = portL) = false) := decide_eq_false ht
  clear ht
  go_enter Tryz.func126, Tryz.ntmps126
  go_wp2_with (go_at_call 138; refine (prefix_any _ _).mono ?_; rintro e w' ⟨rfl, rfl⟩; rw [HD.out])
  go_ret2
  exact ⟨rfl, rfl⟩

set_option maxRecDepth 100000 in
set_option maxHeartbeats 800000 in
theorem cutPort_yes (s : ByteArray) (w : World) (ht : s.data.toList.take 5 = portL) :
    Calls Tryz.prog 102 #[.string s, .string ⟨#[112, 111, 114, 116, 32]⟩] w fun e w' => e = .returned (.tuple #[.string (s.extract 5 s.size), .bool true]) ∧ w' = w := by
  have HC := Lib.hid (fun w => cutPortS_yes s w ht)
  clear ht
  go_enter Tryz.func102, Tryz.ntmps102
  go_wp2_with (go_at_call 126; refine (HC.out _).mono ?_; rintro e w' ⟨rfl, rfl⟩)
  go_ret2
  exact ⟨rfl, rfl⟩

set_option maxRecDepth 100000 in
set_option maxHeartbeats 800000 in
theorem cutPort_no (s : ByteArray) (w : World) (ht : ¬ s.data.toList.take 5 = portL) :
    Calls Tryz.prog 102 #[.string s, .string ⟨#[112, 111, 114, 116, 32]⟩] w fun e w' => e = .returned (.tuple #[.string s, .bool false]) ∧ w' = w := by
  have HC := Lib.hid (fun w => cutPortS_no s w ht)
  clear ht
  go_enter Tryz.func102, Tryz.ntmps102
  go_wp2_with (go_at_call 126; refine (HC.out _).mono ?_; rintro e w' ⟨rfl, rfl⟩)
  go_ret2
  exact ⟨rfl, rfl⟩

end Go.Proofs.YthhojghckfkdhaaGreatDoor

/- LinSays and LinBox of the program: as the specification's, of every text. Conditions: the text has at most 2^21 bytes; the variables that are read hold what they are laid with. -/
namespace Go.Proofs.YthhojghckfkdhaaGreatDoor
open Go.RowKit Go.Sort

/-- EndRead of the program at what is behind the word. -/
theorem implRead_drop (s : ByteArray) (w : World) (hs : s.size ≤ 2097152) (hv : VarsOk w) :
    Calls Tryz.prog 103 #[.string (s.extract 5 s.size)] w fun e w' => e = .returned (saysV (rdE (s.data.toList.drop 5))) ∧ Below w.heap.size w w' := by
  have h := implRead_any (s.extract 5 s.size) w (by simp; omega) hv
  rw [ext_drop, rd_same] at h
  rcases hr : rdE (s.data.toList.drop 5) with _ | ⟨a, p⟩
  · rw [rdE_none hr] at h; exact h
  · rw [(rdE_some hr).1] at h; exact h

set_option maxRecDepth 100000 in
set_option maxHeartbeats 800000 in
theorem readPort_form (s : ByteArray) (a p : Int) (b : Bool) (w : World) (hv : VarsOk w) (ht : s.data.toList.take 5 = portL)
    (h : ∀ w, VarsOk w → Calls Tryz.prog 103 #[.string (s.extract 5 s.size)] w fun e w' => e = .returned (.tuple #[.agg #[.int .i64 a, .int .i64 p], .bool b]) ∧ Below w.heap.size w w') :
    Calls Tryz.prog 64 #[.string s] w fun e w' => e = .returned (.tuple #[.agg #[.int .i64 a, .int .i64 p], .bool b]) ∧ Below w.heap.size w w' := by
  have H := Lib.hid h
  have HV := Lib.hid hv
  have HC := Lib.hid (fun w => cutPort_yes s w ht)
  clear h hv ht
  go_enter Tryz.func64, Tryz.ntmps64
  go_wp2_with (first
    | (go_at_call 102; refine (HC.out _).mono ?_; rintro e w' ⟨rfl, rfl⟩)
    | (go_at_call 103; refine (H.out _ (HV.out.below ((Below.refl _ _).alloc (Nat.le_refl _) _))).mono ?_; rintro e w1 ⟨rfl, b1⟩; obtain ⟨c1, f1⟩ := bcell b1; have z1 : w.heap.size < w1.heap.size := by (have hq := b1.size; simp at hq; omega)))
  obtain ⟨q0, q1, q2⟩ := set_two (w := w1) (b := w.heap.size) (x := .int .i64 0) (y := .int .i64 0) (.int .i64 a) (.int .i64 p) (by rw [c1 _ _ (by simp)]; simp) (by rw [c1 _ _ (by simp)]; simp)
  refine bodyPost_ret (v := .tuple #[.agg #[.int .i64 a, .int .i64 p], .bool b]) (by simp [results, Tryz.results64, go_sem, q1, q2]) rfl ⟨rfl, ?_⟩
  exact ((below_box b1).setCell (Nat.le_refl _) _).setCell (Nat.le_refl _) _

set_option maxRecDepth 100000 in
set_option maxHeartbeats 800000 in
theorem readPort_no (s : ByteArray) (w : World) (ht : ¬ s.data.toList.take 5 = portL) :
    Calls Tryz.prog 64 #[.string s] w fun e w' => e = .returned (.tuple #[.agg #[.int .i64 0, .int .i64 0], .bool false]) ∧ Below w.heap.size w w' := by
  have HC := Lib.hid (fun w => cutPort_no s w ht)
  clear ht
  go_enter Tryz.func64, Tryz.ntmps64
  go_wp2_with (go_at_call 102; refine (HC.out _).mono ?_; rintro e w' ⟨rfl, rfl⟩)
  refine bodyPost_ret (v := .tuple #[.agg #[.int .i64 0, .int .i64 0], .bool false]) (by simp [results, Tryz.results64, go_sem]) rfl ⟨rfl, ?_⟩
  exact (Below.refl _ _).alloc (Nat.le_refl _) _

theorem readPort_any (s : ByteArray) (w : World) (hs : s.size ≤ 2097152) (hv : VarsOk w) :
    Calls Tryz.prog 64 #[.string s] w fun e w' => e = .returned (saysV (rpE s.data.toList)) ∧ Below w.heap.size w w' := by
  by_cases ht : s.data.toList.take 5 = portL
  · have e : rpE s.data.toList = rdE (s.data.toList.drop 5) := if_pos ht
    rw [e]
    have hd := fun w hv => implRead_drop s w hs hv
    rcases hr : rdE (s.data.toList.drop 5) with _ | ⟨a, p⟩
    · simp only [hr] at hd; exact readPort_form s 0 0 false w hv ht hd
    · simp only [hr] at hd; exact readPort_form s a p true w hv ht hd
  · have e : rpE s.data.toList = none := if_neg ht
    rw [e]; exact readPort_no s w ht

/-- What LinSays and LinBox make of the end that a line says. -/
theorem says_none {l : List UInt8} (h : rpE l = none) : saysE l = none ∧ boxE l = none := by
  unfold rpE at h
  unfold saysE boxE
  split
  · rename_i ht
    rw [if_pos ht] at h
    rw [h]; exact ⟨rfl, rfl⟩
  · exact ⟨rfl, rfl⟩
theorem says_some {l : List UInt8} {a p : Int} (h : rpE l = some (a, p)) : saysE l = (if insB a p = true then some (a, p) else none) ∧ boxE l = (if boxB a p = true then some p else none) := by
  unfold rpE at h
  unfold saysE boxE
  split
  · rename_i ht
    rw [if_pos ht] at h
    rw [h]
    refine ⟨rfl, ?_⟩
    have hb := (rdE_some h).2
    by_cases ha : a = 50
    · subst ha
      have : boxB 50 p = true := by
        simp [endB, insB, outB, boxB, inB] at hb ⊢; omega
      simp [this]
    · simp [boxB, ha]
  · rename_i ht
    rw [if_neg ht] at h; cases h

set_option maxRecDepth 100000 in
set_option maxHeartbeats 800000 in
theorem implSays_some (s : ByteArray) (a p : Int) (w : World) (hv : VarsOk w)
    (h : ∀ w, VarsOk w → Calls Tryz.prog 64 #[.string s] w fun e w' => e = .returned (.tuple #[.agg #[.int .i64 a, .int .i64 p], .bool true]) ∧ Below w.heap.size w w') :
    Calls Tryz.prog 23 #[.string s] w fun e w' => e = .returned (saysV (if insB a p = true then some (a, p) else none)) ∧ Below w.heap.size w w' := by
  have H := Lib.hid h
  have HV := Lib.hid hv
  clear h hv
  by_cases hin : insB a p = true
  · rw [if_pos hin]
    go_enter Tryz.func23, Tryz.ntmps23
    go_wp2_with (first
      | (go_at_call 64; refine (H.out _ (HV.out.below ((Below.refl _ _).alloc (Nat.le_refl _) _))).mono ?_; rintro e w1 ⟨rfl, b1⟩; obtain ⟨c1, f1⟩ := bcell b1; have z1 : w.heap.size < w1.heap.size := by (have hq := b1.size; simp at hq; omega))
      | (go_at_call 65; refine (implInside_any _ _ _).mono ?_; rintro e w3 ⟨rfl, b3⟩; obtain ⟨c3, f3⟩ := bcell b3; have z3 : w1.heap.size < w3.heap.size := by (have hq := b3.size; simp at hq; omega)))
    obtain ⟨q0, q1, q2⟩ := set_two (w := w3) (b := w.heap.size) (x := .int .i64 0) (y := .int .i64 0) (.int .i64 a) (.int .i64 p) (by rw [c3 _ _ (by simp; omega), cell_alloc_lt z1, c1 _ _ (by simp)]; simp) (by rw [c3 _ _ (by simp; omega), cell_alloc_lt z1, c1 _ _ (by simp)]; simp)
    refine bodyPost_ret (v := .tuple #[.agg #[.int .i64 a, .int .i64 p], .bool true]) (by simp [results, Tryz.results23, go_sem, q1, q2]) rfl ⟨rfl, ?_⟩
    exact ((((below_box b1).trans (((Below.refl _ w1).alloc (Nat.le_refl _) _ |>.trans (b3.mono (by simp))).mono (by omega))).setCell (Nat.le_refl _) _).setCell (Nat.le_refl _) _)
  · rw [if_neg hin]
    go_enter Tryz.func23, Tryz.ntmps23
    go_wp2_with (first
      | (go_at_call 64; refine (H.out _ (HV.out.below ((Below.refl _ _).alloc (Nat.le_refl _) _))).mono ?_; rintro e w1 ⟨rfl, b1⟩; obtain ⟨c1, f1⟩ := bcell b1; have z1 : w.heap.size < w1.heap.size := by (have hq := b1.size; simp at hq; omega))
      | (go_at_call 65; refine (implInside_any _ _ _).mono ?_; rintro e w3 ⟨rfl, b3⟩; obtain ⟨c3, f3⟩ := bcell b3; have z3 : w1.heap.size < w3.heap.size := by (have hq := b3.size; simp at hq; omega)))
    obtain ⟨q0, q1, q2⟩ := set_two (w := w3) (b := w.heap.size) (x := .int .i64 0) (y := .int .i64 0) (.int .i64 0) (.int .i64 0) (by rw [c3 _ _ (by simp; omega), cell_alloc_lt z1, c1 _ _ (by simp)]; simp) (by rw [c3 _ _ (by simp; omega), cell_alloc_lt z1, c1 _ _ (by simp)]; simp)
    refine bodyPost_ret (v := .tuple #[.agg #[.int .i64 0, .int .i64 0], .bool false]) (by simp [results, Tryz.results23, go_sem, q1, q2]) rfl ⟨rfl, ?_⟩
    exact ((((below_box b1).trans (((Below.refl _ w1).alloc (Nat.le_refl _) _ |>.trans (b3.mono (by simp))).mono (by omega))).setCell (Nat.le_refl _) _).setCell (Nat.le_refl _) _)

set_option maxRecDepth 100000 in
set_option maxHeartbeats 800000 in
theorem implSays_none (s : ByteArray) (w : World) (hv : VarsOk w)
    (h : ∀ w, VarsOk w → Calls Tryz.prog 64 #[.string s] w fun e w' => e = .returned (.tuple #[.agg #[.int .i64 0, .int .i64 0], .bool false]) ∧ Below w.heap.size w w') :
    Calls Tryz.prog 23 #[.string s] w fun e w' => e = .returned (saysV none) ∧ Below w.heap.size w w' := by
  have H := Lib.hid h
  have HV := Lib.hid hv
  clear h hv
  go_enter Tryz.func23, Tryz.ntmps23
  go_wp2_with (go_at_call 64; refine (H.out _ (HV.out.below ((Below.refl _ _).alloc (Nat.le_refl _) _))).mono ?_; rintro e w1 ⟨rfl, b1⟩; obtain ⟨c1, f1⟩ := bcell b1; have z1 : w.heap.size < w1.heap.size := by (have hq := b1.size; simp at hq; omega))
  obtain ⟨q0, q1, q2⟩ := set_two (w := w1) (b := w.heap.size) (x := .int .i64 0) (y := .int .i64 0) (.int .i64 0) (.int .i64 0) (by rw [c1 _ _ (by simp)]; simp) (by rw [c1 _ _ (by simp)]; simp)
  refine bodyPost_ret (v := .tuple #[.agg #[.int .i64 0, .int .i64 0], .bool false]) (by simp [results, Tryz.results23, go_sem, cell_alloc_lt, z1, q1, q2]) rfl ⟨rfl, ?_⟩
  exact (((below_box b1).setCell (Nat.le_refl _) _).setCell (Nat.le_refl _) _).alloc (by simp; omega) _

theorem implSays_any (s : ByteArray) (w : World) (hs : s.size ≤ 2097152) (hv : VarsOk w) :
    Calls Tryz.prog 23 #[.string s] w fun e w' => e = .returned (saysV (saysE s.data.toList)) ∧ Below w.heap.size w w' := by
  have hd := fun w hv => readPort_any s w hs hv
  rcases hr : rpE s.data.toList with _ | ⟨a, p⟩
  · rw [(says_none hr).1]; simp only [hr] at hd; exact implSays_none s w hv hd
  · rw [(says_some hr).1]; simp only [hr] at hd; exact implSays_some s a p w hv hd

set_option maxRecDepth 100000 in
set_option maxHeartbeats 800000 in
theorem implBox_some (s : ByteArray) (a p : Int) (w : World) (hv : VarsOk w)
    (h : ∀ w, VarsOk w → Calls Tryz.prog 64 #[.string s] w fun e w' => e = .returned (.tuple #[.agg #[.int .i64 a, .int .i64 p], .bool true]) ∧ Below w.heap.size w w') :
    Calls Tryz.prog 48 #[.string s] w fun e w' => e = .returned (boxV (if boxB a p = true then some p else none)) ∧ Below w.heap.size w w' := by
  have H := Lib.hid h
  have HV := Lib.hid hv
  clear h hv
  by_cases hin : boxB a p = true <;>
  · simp only [hin, if_true, if_false, Bool.false_eq_true]
    go_enter Tryz.func48, Tryz.ntmps48
    go_wp2_with (first
      | (go_at_call 64; refine (H.out _ HV.out).mono ?_; rintro e w1 ⟨rfl, b1⟩; have z1 := b1.size)
      | (go_at_call 91; refine (isBox_any _ _ _).mono ?_; rintro e w3 ⟨rfl, b3⟩; obtain ⟨c3, f3⟩ := bcell b3; have z3 : w1.heap.size < w3.heap.size := by (have hq := b3.size; simp at hq; omega)))
    go_ret2
    exact ⟨rfl, b1.trans ((((Below.refl _ w1).alloc (Nat.le_refl _) _).trans (b3.mono (by simp))).mono z1)⟩

set_option maxRecDepth 100000 in
set_option maxHeartbeats 800000 in
theorem implBox_none (s : ByteArray) (w : World) (hv : VarsOk w)
    (h : ∀ w, VarsOk w → Calls Tryz.prog 64 #[.string s] w fun e w' => e = .returned (.tuple #[.agg #[.int .i64 0, .int .i64 0], .bool false]) ∧ Below w.heap.size w w') :
    Calls Tryz.prog 48 #[.string s] w fun e w' => e = .returned (boxV none) ∧ Below w.heap.size w w' := by
  have H := Lib.hid h
  have HV := Lib.hid hv
  clear h hv
  go_enter Tryz.func48, Tryz.ntmps48
  go_wp2_with (go_at_call 64; refine (H.out _ HV.out).mono ?_; rintro e w1 ⟨rfl, b1⟩; have z1 := b1.size)
  go_ret2
  exact ⟨rfl, b1.alloc z1 _⟩

theorem implBox_any (s : ByteArray) (w : World) (hs : s.size ≤ 2097152) (hv : VarsOk w) :
    Calls Tryz.prog 48 #[.string s] w fun e w' => e = .returned (boxV (boxE s.data.toList)) ∧ Below w.heap.size w w' := by
  have hd := fun w hv => readPort_any s w hs hv
  rcases hr : rpE s.data.toList with _ | ⟨a, p⟩
  · rw [(says_none hr).2]; simp only [hr] at hd; exact implBox_none s w hv hd
  · rw [(says_some hr).2]; simp only [hr] at hd; exact implBox_some s a p w hv hd

end Go.Proofs.YthhojghckfkdhaaGreatDoor

/- How the law compares two ends: of one end it says that it is the same. No condition. -/
namespace Go.Proofs.YthhojghckfkdhaaGreatDoor
open Go.RowKit

end Go.Proofs.YthhojghckfkdhaaGreatDoor

/- The laws' own words on tables of ends: their size, whether two are the same. Condition: at most 2^22 ends. -/
namespace Go.Proofs.YthhojghckfkdhaaGreatDoor
open Go.RowKit Go.Sort

end Go.Proofs.YthhojghckfkdhaaGreatDoor

/- An end as the law has it becomes an end of the program. No condition. -/
namespace Go.Proofs.YthhojghckfkdhaaGreatDoor
open Go.RowKit

end Go.Proofs.YthhojghckfkdhaaGreatDoor

/- The laws' own tables: how an argument becomes one of the program's, in new memory. Condition: at most 2^22 ends. -/
namespace Go.Proofs.YthhojghckfkdhaaGreatDoor
open Go.RowKit Go.Sort

/-- m cells that may be written. -/
def Room (w : World) (g m : Nat) : Prop := ∀ i, i < m → (∃ u, w.cell? ⟨g, i, none⟩ = some u) ∧ w.frozen? ⟨g, i, none⟩ = false
theorem Room.below {w w' : World} {B g m : Nat} (h : Room w g m) (hb : Below B w w') (hg : g < B) : Room w' g m :=
  fun i hi => ⟨by rw [hb.cell (p := ⟨g, i, none⟩) hg]; exact (h i hi).1, (hb.frozen (p := ⟨g, i, none⟩) hg).trans (h i hi).2⟩
theorem Room.set {w : World} {g m j : Nat} (h : Room w g m) (hj : j < m) (u : Value) : Room (w.setCell ⟨g, j, none⟩ u) g m := by
  intro i hi
  refine ⟨?_, by rw [World.frozen?_setCell]; exact (h i hi).2⟩
  by_cases e : j = i
  · subst e
    obtain ⟨x, hx⟩ := (h j hj).1
    exact ⟨u, World.cell?_setCell_same _ _ _ hx⟩
  · obtain ⟨x, hx⟩ := (h i hi).1
    exact ⟨x, by rw [World.cell?_setCell_other _ _ _ u (by intro q; injection q with _ q2; exact e q2)]; exact hx⟩
theorem own_room {w : World} {B g n cap : Nat} {e : TypeId} {size : Nat} {xs : List Value} (h : w.ownsRow B e size (.slice (some ⟨g, 0, none⟩) n cap) n xs) : Room w g (n * size) ∧ B ≤ g ∧ g < w.heap.size := by
  rcases h.2 with ⟨h0, _⟩ | ⟨g', cap', cur, hv, hB, hg, h2, _, hs, ht⟩
  · cases h0
  · simp at hv
    obtain ⟨rfl, rfl⟩ := hv
    have hlt := (Array.getElem?_eq_some_iff.1 hg).1
    refine ⟨fun i hi => ⟨?_, by simp [World.frozen?, hg]⟩, hB, hlt⟩
    have hi' : i < cur.size := by rw [hs]; exact Nat.lt_of_lt_of_le hi (Nat.mul_le_mul_right _ h2)
    exact ⟨cur[i], by simp [World.cell?, hg, hi']⟩
/-- A table in cells that may be written. -/
def TabRoom (w : World) (B : Nat) (v : Value) (es : List (Int × Int)) : Prop := ∃ g cap, v = .slice (some ⟨g, 0, none⟩) es.length cap ∧ es.length ≤ cap ∧ B ≤ g ∧ g < w.heap.size ∧ EndsAt w g es ∧ Room w g (es.length * 2)
theorem TabRoom.tab {w : World} {B : Nat} {v : Value} {es : List (Int × Int)} (h : TabRoom w B v es) : TabAt w v es := by
  obtain ⟨g, cap, rfl, h1, _, _, h2, _⟩ := h
  exact ⟨_, cap, rfl, ⟨h1, by simp⟩, fun _ => ⟨g, rfl, h2⟩⟩

theorem addrs_ne {g i j : Nat} (h : i ≠ j) : (⟨g, i, none⟩ : Addr) ≠ ⟨g, j, none⟩ := by intro e; injection e with _ e2; exact h e2
/-- One end more is written. -/
theorem EndsAt.push {w : World} {g m k : Nat} {es fs : List (Int × Int)} {a p : Int} (hf : fs.length = k + 1) (ht : fs.take k = es.take k) (hk : k ≤ es.length) (hap : ∀ h : k < fs.length, (a, p) = fs[k]) (he : EndsAt w g (es.take k)) (hr : Room w g m) (hm : k * 2 + 1 < m) :
    EndsAt ((w.setCell ⟨g, k * 2, none⟩ (.int .i64 a)).setCell ⟨g, k * 2 + 1, none⟩ (.int .i64 p)) g fs := by
  intro i hi
  obtain ⟨x0, h0⟩ := (hr (k * 2) (by omega)).1
  obtain ⟨x1, h1⟩ := (hr (k * 2 + 1) (by omega)).1
  have h1' : (w.setCell ⟨g, k * 2, none⟩ (.int .i64 a)).cell? ⟨g, k * 2 + 1, none⟩ = some x1 := by rw [World.cell?_setCell_other _ _ _ _ (addrs_ne (by omega))]; exact h1
  by_cases e : i = k
  · subst e
    have hq := hap hi
    rw [← hq]
    refine ⟨?_, World.cell?_setCell_same _ _ _ h1'⟩
    rw [World.cell?_setCell_other _ _ _ _ (addrs_ne (by omega))]
    exact World.cell?_setCell_same _ _ _ h0
  · have hik : i < k := by omega
    have hg := he i (by simp; omega)
    have hq : fs[i] = (es.take k)[i]'(by simp; omega) := by
      have h2 : (fs.take k)[i]? = (es.take k)[i]? := by rw [ht]
      rw [List.getElem?_take_of_lt hik, List.getElem?_eq_getElem hi, List.getElem?_eq_getElem (by simp; omega)] at h2
      exact Option.some.inj h2
    rw [hq]
    refine ⟨?_, ?_⟩
    · rw [World.cell?_setCell_other _ _ _ _ (addrs_ne (by omega)), World.cell?_setCell_other _ _ _ _ (addrs_ne (by omega))]; exact hg.1
    · rw [World.cell?_setCell_other _ _ _ _ (addrs_ne (by omega)), World.cell?_setCell_other _ _ _ _ (addrs_ne (by omega))]; exact hg.2

theorem TabRoom.setCell {w : World} {B : Nat} {v : Value} {es : List (Int × Int)} (h : TabRoom w B v es) {a : Addr} (ha : a.block < B) (u : Value) : TabRoom (w.setCell a u) B v es := by
  obtain ⟨g, cap, rfl, h1, h2, h3, h4, h5⟩ := h
  have hc : ∀ i, (w.setCell a u).cell? ⟨g, i, none⟩ = w.cell? ⟨g, i, none⟩ := fun i => World.cell?_setCell_other _ _ _ _ (by intro e; subst e; simp at ha; omega)
  refine ⟨g, cap, rfl, h1, h2, by simp; omega, fun i hi => ?_, fun i hi => ?_⟩
  · rw [hc, hc]; exact h4 i hi
  · rw [hc, World.frozen?_setCell]; exact h5 i hi
theorem TabRoom.mono {w : World} {B B' : Nat} {v : Value} {es : List (Int × Int)} (h : TabRoom w B v es) (hB : B' ≤ B) : TabRoom w B' v es := by
  obtain ⟨g, cap, rfl, h1, h2, h3, h4, h5⟩ := h
  exact ⟨g, cap, rfl, h1, by omega, h3, h4, h5⟩
theorem TabRoom.below {w w' : World} {B : Nat} {v : Value} {es : List (Int × Int)} (h : TabRoom w B v es) (hb : Below w.heap.size w w') : TabRoom w' B v es := by
  obtain ⟨g, cap, rfl, h1, h2, h3, h4, h5⟩ := h
  exact ⟨g, cap, rfl, h1, h2, Nat.lt_of_lt_of_le h3 hb.size, h4.below hb h3, h5.below hb h3⟩

end Go.Proofs.YthhojghckfkdhaaGreatDoor

/- How the law marks a table's ends and finds the marks again. Conditions: the marks from 1 on, at most 10^15. -/
namespace Go.Proofs.YthhojghckfkdhaaGreatDoor
open Go.RowKit Go.Sort

theorem grown_setM {w w' : World} {b : Nat} (h : w.grownBy w' (some b)) (i : Nat) (v : Value) : w.grownBy (w'.setCell ⟨b, i, none⟩ v) (some b) :=
  ⟨h.os, h.tape, h.output, by simpa using h.size, fun k hk hne => by rw [Below.heap_setCell _ _ _ _ (fun e => hne (by rw [e]))]; exact h.block k hk hne⟩
theorem grown_below {w w' : World} {row : Option Nat} (h : Below w.heap.size w w') : w.grownBy w' row :=
  ⟨h.os, h.tape, h.output, h.size, fun k hk _ => h.block k hk⟩
/-- n marks of ends, from k on. -/
def marksE (k n : Nat) : List (Int × Int) := (List.range n).map fun i => (((k + 2 * i : Nat) : Int), ((k + 2 * i + 1 : Nat) : Int))
theorem marksE_len (k n : Nat) : (marksE k n).length = n := by simp [marksE]
theorem marksE_at (k n i : Nat) (h : i < (marksE k n).length) : (marksE k n)[i] = (((k + 2 * i : Nat) : Int), ((k + 2 * i + 1 : Nat) : Int)) := by simp [marksE]

end Go.Proofs.YthhojghckfkdhaaGreatDoor

/- An answer's table: in memory of its own, empty or in cells that may be written; how the law marks it and finds the marks again. -/
namespace Go.Proofs.YthhojghckfkdhaaGreatDoor
open Go.RowKit Go.Sort

/-- A table that an answer holds: nothing at all, or a table in cells that may be written, behind B. -/
def FreshTab (w : World) (B : Nat) (v : Value) (us : List (Int × Int)) : Prop := (us = [] ∧ ∃ a cap, v = .slice a 0 cap ∧ (a = none → cap = 0)) ∨ TabRoom w B v us
theorem FreshTab.tab {w : World} {B : Nat} {v : Value} {us : List (Int × Int)} (h : FreshTab w B v us) : TabAt w v us := by
  rcases h with ⟨rfl, a, cap, rfl, hc⟩ | h
  · exact ⟨a, cap, rfl, ⟨by simp, hc⟩, fun h => by simp at h⟩
  · exact h.tab
theorem FreshTab.below {w w' : World} {B C : Nat} {v : Value} {us : List (Int × Int)} (h : FreshTab w B v us) (hC : w.heap.size ≤ C) (hb : Below C w w') : FreshTab w' B v us := by
  rcases h with h | ⟨g, cap, rfl, h1, h2, h3, h4, h5⟩
  · exact .inl h
  · exact .inr ⟨g, cap, rfl, h1, h2, Nat.lt_of_lt_of_le h3 hb.size, h4.below hb (by omega), h5.below hb (by omega)⟩
/-- A table that lies elsewhere stays, when one row is marked. -/
theorem EndsAt.grown {w w' : World} {g : Nat} {es : List (Int × Int)} {row : Option Nat} (h : EndsAt w g es) (hg : w.grownBy w' row) (hne : some g ≠ row) : EndsAt w' g es := by
  intro i hi
  have hlt := World.block_lt_of_cell? w _ (h i hi).1
  have hk := hg.block g hlt hne
  have c := h i hi
  simp only [World.cell?] at c ⊢
  rw [hk]; exact c

theorem grown_none {w w' : World} {row : Option Nat} (h : w.grownBy w' none) : w.grownBy w' row :=
  ⟨h.os, h.tape, h.output, h.size, fun k hk _ => h.block k hk (by simp)⟩

end Go.Proofs.YthhojghckfkdhaaGreatDoor

/- Boxes and tables through calls, marks and stores: what stays. No condition. -/
namespace Go.Proofs.YthhojghckfkdhaaGreatDoor
open Go.RowKit Go.Sort

/-- A box of one cell that a call finds new. -/
theorem fresh1 {W w : World} {x : Value} {t : TypeId} (h : Below (W.alloc (.cells #[x] t)).heap.size (W.alloc (.cells #[x] t)) w) : w.cell? ⟨W.heap.size, 0, none⟩ = some x ∧ w.frozen? ⟨W.heap.size, 0, none⟩ = false :=
  ⟨by rw [h.cell (by simp)]; simp, by rw [h.frozen (by simp)]; exact (cell_new W _ _ 0).2⟩
theorem fresh1d {W w : World} {x : Value} {t : TypeId} (h : Below (W.alloc (.cells #[x] t)).drew.heap.size (W.alloc (.cells #[x] t)).drew w) : w.cell? ⟨W.heap.size, 0, none⟩ = some x ∧ w.frozen? ⟨W.heap.size, 0, none⟩ = false :=
  fresh1 (((Below.refl _ _).drew).trans h)
theorem box_below {w w' : World} {b i : Nat} {v : Value} (h : w.cell? ⟨b, i, none⟩ = some v) (hb : Below w.heap.size w w') : w'.cell? ⟨b, i, none⟩ = some v := by
  rw [hb.cell (p := ⟨b, i, none⟩) (World.block_lt_of_cell? w _ h)]; exact h
theorem box_frozen {w w' : World} {b i : Nat} {v : Value} (h : w.cell? ⟨b, i, none⟩ = some v) (hf : w.frozen? ⟨b, i, none⟩ = false) (hb : Below w.heap.size w w') : w'.frozen? ⟨b, i, none⟩ = false := by
  rw [hb.frozen (p := ⟨b, i, none⟩) (World.block_lt_of_cell? w _ h)]; exact hf
theorem cell_grown {w w' : World} {b i : Nat} {v : Value} {row : Option Nat} (h : w.cell? ⟨b, i, none⟩ = some v) (hg : w.grownBy w' row) (hne : some b ≠ row) : w'.cell? ⟨b, i, none⟩ = some v := by
  have hk := hg.block b (World.block_lt_of_cell? w _ h) hne
  simp only [World.cell?] at h ⊢
  rw [hk]; exact h
theorem OwnTab.fresh {w : World} {B : Nat} {v : Value} {es : List (Int × Int)} (h : OwnTab w B v es) : FreshTab w B v es := by
  rcases h.2 with ⟨rfl, h0⟩ | ⟨g, cap, cur, rfl, hB, hg, h2, _, hs, ht⟩
  · exact .inl ⟨List.eq_nil_of_length_eq_zero h0, none, 0, rfl, fun _ => rfl⟩
  · have hlt := (Array.getElem?_eq_some_iff.1 hg).1
    have hh := h.tab
    by_cases he : es = []
    · subst he
      exact .inl ⟨rfl, _, cap, rfl, fun e => by cases e⟩
    · obtain ⟨a, c, e1, _, hrow⟩ := hh
      obtain ⟨g', e2, hat⟩ := hrow (List.length_pos_iff.2 he)
      simp at e1
      obtain ⟨rfl, rfl⟩ := e1
      simp at e2
      subst e2
      refine .inr ⟨g, cap, rfl, h2, hB, hlt, hat, fun i hi => ⟨?_, by simp [World.frozen?, hg]⟩⟩
      have hi' : i < cur.size := by rw [hs]; exact Nat.lt_of_lt_of_le hi (Nat.mul_le_mul_right _ h2)
      exact ⟨cur[i], by simp [World.cell?, hg, hi']⟩
theorem FreshTab.nil (w : World) (B : Nat) : FreshTab w B (.slice none 0 0) [] := .inl ⟨rfl, none, 0, rfl, fun _ => rfl⟩
theorem FreshTab.form {w : World} {B : Nat} {v : Value} {us : List (Int × Int)} (h : FreshTab w B v us) : ∃ a c, v = .slice a us.length c := by
  rcases h with ⟨rfl, a, cap, rfl, _⟩ | ⟨g, cap, rfl, _⟩
  · exact ⟨a, cap, rfl⟩
  · exact ⟨_, cap, rfl⟩
theorem FreshTab.mono {w : World} {B B' : Nat} {v : Value} {us : List (Int × Int)} (h : FreshTab w B v us) (hB : B' ≤ B) : FreshTab w B' v us := by
  rcases h with h | h
  · exact .inl h
  · exact .inr (h.mono hB)
theorem FreshTab.setCell {w : World} {B : Nat} {v : Value} {us : List (Int × Int)} (h : FreshTab w B v us) {a : Addr} (ha : a.block < B) (u : Value) : FreshTab (w.setCell a u) B v us := by
  rcases h with h | h
  · exact .inl h
  · exact .inr (h.setCell ha u)
theorem FreshTab.later {w w' : World} {B : Nat} {v : Value} {us : List (Int × Int)} (h : FreshTab w B v us) (hb : Below w.heap.size w w') : FreshTab w' B v us := h.below (Nat.le_refl _) hb
/-- What a table's own block is: none, or one behind B. -/
theorem FreshTab.block {w : World} {B : Nat} {v : Value} {us : List (Int × Int)} (h : FreshTab w B v us) (hu : us ≠ []) {k : Nat} (hk : v.ownBlock = some k) : B ≤ k ∧ k < w.heap.size := by
  rcases h with h | ⟨g, cap, rfl, _, hB, hl, _⟩
  · exact absurd h.1 hu
  · simp [Value.ownBlock] at hk
    subst hk
    exact ⟨hB, hl⟩
theorem TabRoom.fresh {w : World} {B : Nat} {v : Value} {es : List (Int × Int)} (h : TabRoom w B v es) : FreshTab w B v es := .inr h
/-- A table whose row lies elsewhere stays, when one row is marked. -/
theorem FreshTab.grown {w w' : World} {B : Nat} {v : Value} {us : List (Int × Int)} {row : Option Nat} (h : FreshTab w B v us) (hg : w.grownBy w' row) (hne : ∀ k, row = some k → k < B) : FreshTab w' B v us := by
  rcases h with h | ⟨g, cap, rfl, h1, h2, h3, h4, h5⟩
  · exact .inl h
  · have hn : some g ≠ row := fun e => by have := hne g e.symm; omega
    refine .inr ⟨g, cap, rfl, h1, h2, Nat.lt_of_lt_of_le h3 hg.size, h4.grown hg hn, fun i hi => ?_⟩
    obtain ⟨⟨u, hu⟩, hf⟩ := h5 i hi
    refine ⟨⟨u, cell_grown hu hg hn⟩, ?_⟩
    rw [World.frozen?_of_block (hg.block g h3 hn)]; exact hf
/-- Marks in a row that is behind B turn nothing below B. -/
theorem below_markd {w w' : World} {B : Nat} {row : Option Nat} (hg : w.grownBy w' row) (hr : ∀ k, row = some k → B ≤ k) (hB : B ≤ w.heap.size) : Below B w w' :=
  ⟨hg.os, hg.tape, hg.output, hg.size, fun k hk => hg.block k (Nat.lt_of_lt_of_le hk hB) fun e => by have := hr k e.symm; omega⟩

end Go.Proofs.YthhojghckfkdhaaGreatDoor

/- A line as it goes outside, and RwrLine, of the program. Conditions: the table is ok; the text has at most 2^21 bytes; the variables that are read hold what they are laid with. -/
namespace Go.Proofs.YthhojghckfkdhaaGreatDoor
open Go.RowKit Go.Sort

set_option maxRecDepth 100000 in
set_option maxHeartbeats 1600000 in
theorem lineOutside_any (g1 g2 : Nat) (es : List (Int × Int)) (s : ByteArray) (w : World) (hs : s.size ≤ 2097152) (hb : Both w g1 g2 es) (hm : mapB es = true) (hv : ∀ w', Two g1 g2 w w' → VarsOk w') :
    Calls Tryz.prog 57 #[.agg #[.map (some g1), .map (some g2)], .string s] w fun e w' => e = .returned (.string ⟨(lineE es s.data.toList).2.toArray⟩) ∧ Both w' g1 g2 (lineE es s.data.toList).1 ∧ Two g1 g2 w w' := by
  have HBo : Hid (∀ w', Below w.heap.size w w' → Both w' g1 g2 es) := fun w' h => hb.later h
  have HV := Lib.hid hv
  have l1 := hb.lt.1
  have l2 := hb.lt.2
  clear hb hv
  rcases hx : saysE s.data.toList with _ | ⟨a, p⟩
  · have HB : Hid (∀ w, VarsOk w → Calls Tryz.prog 23 #[.string s] w fun e w' => e = .returned (.tuple #[.agg #[.int .i64 0, .int .i64 0], .bool false]) ∧ Below w.heap.size w w') := fun w hv => by have := implSays_any s w hs hv; rw [hx] at this; exact this
    have HE : Hid (lineE es s.data.toList = (es, s.data.toList)) := lineE_none hx
    rw [HE.out, str_same]
    clear hx HE hm
    go_enter Tryz.func57, Tryz.ntmps57
    go_wp2_with fail
    (go_at_call 23; refine (HB.out _ (HV.out _ (Two.of_below ((Below.refl _ _).alloc (Nat.le_refl _) _)))).mono ?_; rintro e w1 ⟨rfl, b1⟩; have B1 : Hid (Below w.heap.size w w1) := ((Below.refl _ _).alloc (Nat.le_refl _) _).trans (b1.mono (by simp)); clear b1)
    go_wp2_with fail
    go_ret
    have B2 : Below w.heap.size w (w1.alloc (.cells #[.int .i64 0, .int .i64 0] 34)) := B1.out.alloc B1.out.size _
    exact ⟨rfl, HBo.out _ B2, Two.of_below B2⟩
  · have HB : Hid (∀ w, VarsOk w → Calls Tryz.prog 23 #[.string s] w fun e w' => e = .returned (.tuple #[.agg #[.int .i64 a, .int .i64 p], .bool true]) ∧ Below w.heap.size w w') := fun w hv => by have := implSays_any s w hs hv; rw [hx] at this; exact this
    have hE := lineE_some (es := es) hx
    have hi := says_ins hx
    obtain ⟨us, hus⟩ : ∃ us, us = (putE es (a, p)).1 := ⟨_, rfl⟩
    obtain ⟨q, hq⟩ : ∃ q, q = (putE es (a, p)).2 := ⟨_, rfl⟩
    rw [← hus, ← hq] at hE
    have HG : Hid (∀ w, Both w g1 g2 es → Calls Tryz.prog 98 #[.agg #[.map (some g1), .map (some g2)], .agg #[.int .i64 a, .int .i64 p]] w fun e w' => e = .returned (.int .i64 q) ∧ Both w' g1 g2 us ∧ Two g1 g2 w w') := fun w h => by rw [hus, hq]; exact givePort_any g1 g2 es a p w h hm hi
    by_cases h0 : q = 0
    · rw [hE, if_pos h0]
      subst h0
      clear hE hx hus hq hm hi
      go_enter Tryz.func57, Tryz.ntmps57
      go_wp2_with fail
      (go_at_call 23; refine (HB.out _ (HV.out _ (Two.of_below ((Below.refl _ _).alloc (Nat.le_refl _) _)))).mono ?_; rintro e w1 ⟨rfl, b1⟩; have B1 : Hid (Below w.heap.size w w1) := ((Below.refl _ _).alloc (Nat.le_refl _) _).trans (b1.mono (by simp)); have t0 : ∀ o, (w1.alloc o).cell? ⟨w.heap.size, 0, none⟩ = some (.map (some g1)) := (fun o => by rw [cell_alloc_lt (by have := b1.size; simp at this; omega), b1.cell (by simp)]; simp); have t1 : ∀ o, (w1.alloc o).cell? ⟨w.heap.size, 1, none⟩ = some (.map (some g2)) := (fun o => by rw [cell_alloc_lt (by have := b1.size; simp at this; omega), b1.cell (by simp)]; simp); clear b1)
      have B2 : Hid (∀ o, Below w.heap.size w (w1.alloc o)) := fun o => B1.out.alloc B1.out.size o
      go_wp2_with fail
      (go_at_call 98; refine (HG.out _ (HBo.out _ (B2.out _))).mono ?_; rintro e w2 ⟨rfl, hb2, t2⟩; have HB2 := Lib.hid hb2; have T2 : Hid (Two g1 g2 w w2) := (Two.of_below (B2.out _)).trans t2; clear hb2 t2)
      go_wp2_with fail
      go_ret
      exact ⟨rfl, HB2.out, T2.out⟩
    · rw [hE, if_neg h0]
      have hqb : (q == 0) = false := by simpa using h0
      clear hE hx hus hq hm hi
      go_enter Tryz.func57, Tryz.ntmps57
      go_wp2_with fail
      (go_at_call 23; refine (HB.out _ (HV.out _ (Two.of_below ((Below.refl _ _).alloc (Nat.le_refl _) _)))).mono ?_; rintro e w1 ⟨rfl, b1⟩; have B1 : Hid (Below w.heap.size w w1) := ((Below.refl _ _).alloc (Nat.le_refl _) _).trans (b1.mono (by simp)); have t0 : ∀ o, (w1.alloc o).cell? ⟨w.heap.size, 0, none⟩ = some (.map (some g1)) := (fun o => by rw [cell_alloc_lt (by have := b1.size; simp at this; omega), b1.cell (by simp)]; simp); have t1 : ∀ o, (w1.alloc o).cell? ⟨w.heap.size, 1, none⟩ = some (.map (some g2)) := (fun o => by rw [cell_alloc_lt (by have := b1.size; simp at this; omega), b1.cell (by simp)]; simp); clear b1)
      have B2 : Hid (∀ o, Below w.heap.size w (w1.alloc o)) := fun o => B1.out.alloc B1.out.size o
      go_wp2_with fail
      (go_at_call 98; refine (HG.out _ (HBo.out _ (B2.out _))).mono ?_; rintro e w2 ⟨rfl, hb2, t2⟩; have HB2 := Lib.hid hb2; have T2 : Hid (Two g1 g2 w w2) := (Two.of_below (B2.out _)).trans t2; clear hb2 t2)
      go_wp2_with fail
      (go_at_call 28; refine (implLinPort_any 50 q _ (HV.out _ T2.out).tab).mono ?_; rintro e w3 ⟨rfl, b3⟩)
      go_wp2_with fail
      go_ret
      exact ⟨rfl, HB2.out.later b3, T2.out.trans (Two.of_below b3)⟩

/-- What RwrLine answers. -/
def rwrA (es : List (Int × Int)) (l : List UInt8) : List (Int × Int) × List UInt8 := if mapB es = true ∧ linB l = true then lineE es l else ([], [])

set_option maxRecDepth 100000 in
set_option maxHeartbeats 1600000 in
theorem implRwrLine_not (v : Value) (es : List (Int × Int)) (s : ByteArray) (w : World) (hn : es.length ≤ 4194304) (hs : s.size ≤ 2097152) (hwf : wfE es) (ht : TabAt w v es) (hno : (mapB es && linB s.data.toList) = false) :
    Calls Tryz.prog 17 #[.agg #[v], .string s] w fun e w' => e = .returned (.tuple #[.agg #[.slice none 0 0], .string ⟨#[]⟩]) ∧ Below w.heap.size w w' := by
  have HT := Lib.hid ht
  obtain ⟨ad, cap, rfl, hcap, hr⟩ := ht
  have hM : Hid (∀ w, TabAt w (.slice ad es.length cap) es → Calls Tryz.prog 24 #[.agg #[.slice ad es.length cap]] w fun e w' => e = .returned (.bool (mapB es)) ∧ Below w.heap.size w w') := fun w h => implMapOk_any _ es w hn hwf h
  have hL : Hid (∀ w, Calls Tryz.prog 26 #[.string s] w fun e w' => e = .returned (.bool (linB s.data.toList)) ∧ w = w') := fun w => implLin_any s w (by omega)
  clear hr hwf
  by_cases hm : mapB es = true
  · have hi : linB s.data.toList = false := by rw [hm] at hno; simpa using hno
    rw [hm] at hM
    rw [hi] at hL
    clear hno hm
    go_enter Tryz.func17, Tryz.ntmps17
    go_wp2_with (first
      | (go_at_call 24; refine (hM.out _ (HT.out.below (((Below.refl _ _).alloc (Nat.le_refl _) _).alloc (by simp) _))).mono ?_; rintro e w1 ⟨rfl, b1⟩; obtain ⟨_, cB, b01, z1⟩ := cell_two b1; have r0 := (cB 0).1; have g0 := (cB 0).2; simp at r0; clear cB)
      | (go_at_call 26; refine (hL.out _).mono ?_; rintro e w2 ⟨rfl, rfl⟩))
    refine bodyPost_ret (v := .tuple #[.agg #[.slice none 0 0], .string ⟨#[]⟩]) (by simp [results, Tryz.results17, go_sem, World.cell?_setCell_same _ _ _ r0]) rfl ⟨rfl, ?_⟩
    exact b01.setCell (by simp) _
  · have hm' : mapB es = false := by simpa using hm
    rw [hm'] at hM
    clear hno hm hm'
    go_enter Tryz.func17, Tryz.ntmps17
    go_wp2_with (go_at_call 24; refine (hM.out _ (HT.out.below (((Below.refl _ _).alloc (Nat.le_refl _) _).alloc (by simp) _))).mono ?_; rintro e w1 ⟨rfl, b1⟩; obtain ⟨_, cB, b01, z1⟩ := cell_two b1; have r0 := (cB 0).1; have g0 := (cB 0).2; simp at r0; clear cB)
    refine bodyPost_ret (v := .tuple #[.agg #[.slice none 0 0], .string ⟨#[]⟩]) (by simp [results, Tryz.results17, go_sem, World.cell?_setCell_same _ _ _ r0]) rfl ⟨rfl, ?_⟩
    exact b01.setCell (by simp) _

set_option maxRecDepth 100000 in
set_option maxHeartbeats 1600000 in
theorem implRwrLine_ok (v : Value) (es : List (Int × Int)) (s : ByteArray) (w : World) (hn : es.length ≤ 4194304) (hs : s.size ≤ 2097152) (ht : TabAt w v es) (hm : mapB es = true) (hl : linB s.data.toList = true) (hv : VarsOk w) :
    Calls Tryz.prog 17 #[.agg #[v], .string s] w fun e w' => ∃ g c, e = .returned (.tuple #[.agg #[.slice g (lineE es s.data.toList).1.length c], .string ⟨(lineE es s.data.toList).2.toArray⟩]) ∧ OwnTab w' w.heap.size (.slice g (lineE es s.data.toList).1.length c) (lineE es s.data.toList).1 ∧ Below w.heap.size w w' := by
  have HT := Lib.hid ht
  have hwf := mapB_wf hm
  obtain ⟨ad, cap, rfl, hcap, hr⟩ := ht
  have hM : Hid (∀ w, TabAt w (.slice ad es.length cap) es → Calls Tryz.prog 24 #[.agg #[.slice ad es.length cap]] w fun e w' => e = .returned (.bool true) ∧ Below w.heap.size w w') := fun w h => by rw [← hm]; exact implMapOk_any _ es w hn hwf h
  have hL : Hid (∀ w, Calls Tryz.prog 26 #[.string s] w fun e w' => e = .returned (.bool true) ∧ w = w') := fun w => by rw [← hl]; exact implLin_any s w (by omega)
  have HP : Hid (∀ w, TabAt w (.slice ad es.length cap) es → Calls Tryz.prog 56 #[.agg #[.slice ad es.length cap]] w fun e w' => ∃ g1 g2, e = .returned (.agg #[.map (some g1), .map (some g2)]) ∧ w.heap.size ≤ g1 ∧ w.heap.size ≤ g2 ∧ Both w' g1 g2 es ∧ Below w.heap.size w w') := fun w h => portsOf_any _ es w hn hwf h
  have HV : Hid (∀ w', Below w.heap.size w w' → VarsOk w') := fun w' h => hv.below h
  have hmu : mapB (lineE es s.data.toList).1 = true := lineE_ok hm
  obtain ⟨us, hus⟩ : ∃ us, us = (lineE es s.data.toList).1 := ⟨_, rfl⟩
  obtain ⟨q, hq⟩ : ∃ q, q = (lineE es s.data.toList).2.toArray := ⟨_, rfl⟩
  rw [← hus] at hmu
  have HG : Hid (∀ g1 g2 w, Both w g1 g2 es → (∀ w', Two g1 g2 w w' → VarsOk w') → Calls Tryz.prog 57 #[.agg #[.map (some g1), .map (some g2)], .string s] w fun e w' => e = .returned (.string ⟨q⟩) ∧ Both w' g1 g2 us ∧ Two g1 g2 w w') := fun g1 g2 w h h2 => by rw [hus, hq]; exact lineOutside_any g1 g2 es s w hs h hm h2
  have HO : Hid (∀ g1 g2 w, Both w g1 g2 us → Calls Tryz.prog 58 #[.agg #[.map (some g1), .map (some g2)]] w fun e w' => ∃ a c, e = .returned (.agg #[.slice a us.length c]) ∧ OwnTab w' w.heap.size (.slice a us.length c) us ∧ Below w.heap.size w w') := fun g1 g2 w h => tableOf_any g1 g2 us w h (valsL_ok hmu) (by have := mapB_le hmu; omega)
  rw [← hus, ← hq]
  clear hr hm hus hq hmu hwf hcap hn hl hs hv
  go_enter Tryz.func17, Tryz.ntmps17
  go_wp2_with fail
  (go_at_call 24; refine (hM.out _ (HT.out.below (((Below.refl _ _).alloc (Nat.le_refl _) _).alloc (by simp) _))).mono ?_; rintro e w1 ⟨rfl, b1⟩; obtain ⟨cA, cB, b01, z1⟩ := cell_two b1; have t0 := (cA 0).1; have r0 := (cB 0).1; have g0 := (cB 0).2; simp at t0 r0; have B1 := Lib.hid b01; clear cA cB b1 b01)
  go_wp2_with fail
  (go_at_call 26; refine (hL.out _).mono ?_; rintro e w2 ⟨rfl, rfl⟩)
  go_wp2_with fail
  (go_at_call 56; refine (HP.out _ (HT.out.below B1.out)).mono ?_; rintro e w3 ⟨g1, g2, rfl, l1, l2, hb, b3⟩; have z3 := b3.size; have m1 := hb.lt.1; have m2 := hb.lt.2; have HB : Hid (∀ o, Both (w3.alloc o) g1 g2 es) := (fun o => hb.later ((Below.refl _ _).alloc (Nat.le_refl _) o)); have B3 : Hid (Below w.heap.size w w3) := B1.out.trans (b3.mono (by omega)); have r3 : ∀ o, (w3.alloc o).cell? ⟨w.heap.size + 1, 0, none⟩ = some (.slice none 0 0) := (fun o => by rw [cell_alloc_lt (by omega), b3.cell (by simp; omega)]; exact r0); have g03 : ∀ o, (w3.alloc o).frozen? ⟨w.heap.size + 1, 0, none⟩ = false := (fun o => by rw [frozen_alloc_lt (by omega), b3.frozen (by simp; omega)]; exact g0); clear hb b3)
  have B4 : Hid (∀ o w', Two g1 g2 (w3.alloc o) w' → Below w.heap.size w w') := fun o w' h => (B3.out.alloc B3.out.size _).trans (h.below (by simp; omega) (by omega) (by omega))
  go_wp2_with fail
  (go_at_call 57; refine (HG.out g1 g2 _ (HB.out _) (fun w' h => HV.out _ (B4.out _ _ h))).mono ?_; rintro e w4 ⟨rfl, hb4, t4⟩; have HB4 := Lib.hid hb4; have z4 : w3.heap.size + 1 ≤ w4.heap.size := (by have := t4.size; simpa using this); have p0 : w4.cell? ⟨w3.heap.size, 0, none⟩ = some (.map (some g1)) := (by rw [t4.cell (by simp) (by omega) (by omega)]; simp); have p1 : w4.cell? ⟨w3.heap.size, 1, none⟩ = some (.map (some g2)) := (by rw [t4.cell (by simp) (by omega) (by omega)]; simp); have r4 : w4.cell? ⟨w.heap.size + 1, 0, none⟩ = some (.slice none 0 0) := (by rw [t4.cell (by simp; omega) (by omega) (by omega)]; exact r3 _); have g04 : w4.frozen? ⟨w.heap.size + 1, 0, none⟩ = false := (by rw [t4.frozen (by simp; omega) (by omega) (by omega)]; exact g03 _); have B5 : Hid (Below w.heap.size w w4) := B4.out _ _ t4; clear hb4 t4)
  go_wp2_with fail
  (go_at_call 58; refine (HO.out g1 g2 _ HB4.out).mono ?_; rintro e w5 ⟨g5, c5, rfl, o5, b5⟩; have O5 := Lib.hid o5; have r5 : w5.cell? ⟨w.heap.size + 1, 0, none⟩ = some (.slice none 0 0) := (by rw [b5.cell (by simp; omega)]; exact r4); have g05 : w5.frozen? ⟨w.heap.size + 1, 0, none⟩ = false := (by rw [b5.frozen (by simp; omega)]; exact g04); have B6 : Hid (Below w.heap.size w w5) := B5.out.trans (b5.mono (by omega)); clear o5 b5)
  go_wp2_with fail
  refine bodyPost_ret (v := .tuple #[.agg #[.slice g5 us.length c5], .string ⟨q⟩]) (by simp [results, Tryz.results17, go_sem, World.cell?_setCell_same _ _ _ r5]) rfl ⟨_, _, rfl, ?_, B6.out.setCell (by simp) _⟩
  exact OwnTab.mono (B := w4.heap.size) (ownsRow_setCell_below (a := ⟨w.heap.size + 1, 0, none⟩) O5.out (by simp; omega) _) (by omega)

end Go.Proofs.YthhojghckfkdhaaGreatDoor

/- StrLines and StrOk of the specification, at every text. Condition: the text has at most 2^21 bytes. -/
namespace Go.Proofs.YthhojghckfkdhaaGreatDoor
open Go.RowKit

set_option maxRecDepth 100000 in
set_option maxHeartbeats 800000 in
theorem specLines_any (s : ByteArray) (w : World) (hs : s.size ≤ 2097152) :
    Calls Tryz.prog 50 #[.string s] w fun e w' => ∃ v, e = .returned (.tuple #[v, .string ⟨(restL s.data.toList).toArray⟩]) ∧ w'.ownsRow w.heap.size 9 1 v (linesL s.data.toList).length ((linesL s.data.toList).map strV) ∧ Below w.heap.size w w' := by
  obtain ⟨i0, hi, hz0, hz1, hz2⟩ := info_parts infoStr
  go_enter Tryz.func50, Tryz.ntmps50
  go_wp2
  go_loopw [4, 5, 6] (fun v f i wr => ∃ (k m : Nat) (W0 : List (List UInt8) × List UInt8), k ≤ s.size ∧ i = .int .i64 k ∧ f = .int .i64 m ∧ m + W0.2.length = k ∧ W0 = linesF (s.data.toList.take k) ∧ wr.ownsRow w.heap.size 9 1 v W0.1.length (W0.1.map strV) ∧ Below w.heap.size w wr)
    (fun _ _ i _ => s.size - (intOf i).toNat)
  case atStart => exact ⟨0, 0, ([], []), Nat.zero_le _, rfl, rfl, rfl, rfl, World.ownsRow_made w #[] 0 (Nat.le_refl _) (Nat.zero_le _) rfl, (Below.refl _ _).alloc (Nat.le_refl _) _⟩
  case round =>
    obtain ⟨k, m, W0, hk, rfl, rfl, hm, hW, hown, hb⟩ := hrel
    have HW := Lib.hid hW
    have HM := Lib.hid hm
    have hlen : W0.1.length ≤ k := by
      have := lines_len (s.data.toList.take k)
      rw [hW]; simp [linesL] at this ⊢; omega
    have hmk : m ≤ k := by omega
    have hbs := hb.size
    clear hW hm
    by_cases hlt : k < s.size
    · have hsn : Hid (linesF (s.data.toList.take (k + 1)) = stl W0 s[k]) := by
        show linesF (s.data.toList.take (k + 1)) = stl W0 s[k]
        rw [take_snoc s k hlt, linesF_snoc, HW.out]
      by_cases h59 : s[k] = 59
      · have ht : (((s[k]).toNat : Int) == 59) = true := by rw [h59]; rfl
        have H59 : Hid (s[k] = 59) := h59
        have HX : Hid (s.extract m k = ⟨W0.2.toArray⟩) := by
          show s.extract m k = _
          have h1 := rest_drop (s.data.toList.take k)
          rw [show restL (s.data.toList.take k) = W0.2 by rw [HW.out]; rfl] at h1
          have h2 : (s.data.toList.take k).length - W0.2.length = m := by have := HM.out; simp; omega
          rw [h2] at h1
          rw [ext_list, ← h1]
        clear h59
        go_wp2_with (at_builtin; rw [HX.out]; refine wpList_append_own _ rfl (.tmp 18) (.tmp 23) 40 rfl w.heap.size 9 i0 (.string ⟨#[]⟩) 1 16 Tryz.underlying40 hi hz0 hz1 hz2 rfl (by decide) _ _ _ rfl (hown.alloc _) ⟨wr.heap.size, 0, none⟩ 1 1 [.string ⟨W0.2.toArray⟩] rfl rfl ?c1 ?c2 ?c3 ?c4 ?c5 ?_)
        case c1 =>
          intro j u hj
          match j, hj with
          | 0, hj => simp at hj; subst hj; simp [Addr.add]
        case c2 => intro u hu; simp at hu; subst hu; rfl
        case c3 => unfold maxLen; omega
        case c4 => omega
        case c5 => simp; omega
        · intro v' w1 hown' hgrow _
          go_wp2
          go_roundw
          case rel =>
            refine ⟨k + 1, k + 1, stl W0 s[k], by omega, by go_num, by go_num, ?_, hsn.out.symm, ?_, ?_⟩
            · rw [stl, if_pos H59.out]; simp
            · rw [stl, if_pos H59.out]; simpa [strV] using hown'
            · exact (hb.alloc hbs _).grown hgrow (by simp; omega) (fun k hk => (hown.lt k hk).1)
          case measure => simp [intOf]; omega
      · have ht : (((s[k]).toNat : Int) == 59) = false := by
          have e59 : (59 : UInt8).toNat = 59 := rfl
          simp; intro e; exact h59 (UInt8.toNat_inj.1 (by omega))
        have H59 : Hid (¬ s[k] = 59) := h59
        clear h59
        go_wp2
        go_roundw
        case rel =>
          refine ⟨k + 1, m, stl W0 s[k], by omega, by go_num, rfl, ?_, hsn.out.symm, ?_, hb⟩
          · have := HM.out
            rw [stl, if_neg H59.out]; simp; omega
          · rw [stl, if_neg H59.out]; exact hown
        case measure => simp [intOf]; omega
    · have HK : Hid (s.data.toList.take k = s.data.toList) := List.take_of_length_le (by rw [len_list]; omega)
      have HX : Hid (s.extract m s.size = ⟨(restL s.data.toList).toArray⟩) := by
        show s.extract m s.size = _
        have h1 := rest_drop s.data.toList
        have h0 : restL s.data.toList = W0.2 := by rw [HW.out, HK.out]; rfl
        have h2 : s.data.toList.length - (restL s.data.toList).length = m := by have := HM.out; rw [h0, len_list]; omega
        rw [h2] at h1
        rw [ext_list, List.take_of_length_le (by rw [len_list]; omega), ← h1]
      have HE : Hid (linesL s.data.toList = W0.1) := by
        show linesL s.data.toList = W0.1
        rw [HW.out, HK.out]; rfl
      have hm1 : (0 : Int) ≤ (m : Int) := by omega
      have hm2 : (m : Int) ≤ (s.size : Int) := by omega
      go_wp2_with fail
      go_region
      go_wp2
      go_ret2
      exact ⟨_, by rw [HX.out]; rfl, by rw [HE.out]; exact hown, hb.drew⟩

set_option maxRecDepth 100000 in
set_option maxHeartbeats 800000 in
theorem specStr_any (s : ByteArray) (w : World) (hs : s.size ≤ 2097152) :
    Calls Tryz.prog 32 #[.string s] w fun e w' => e = .returned (.bool (strB s.data.toList)) ∧ Below w.heap.size w w' := by
  by_cases h120 : 120 < s.size
  · go_enter Tryz.func32, Tryz.ntmps32
    go_wp2_with fail
    go_ret
    exact ⟨ret_bool (by unfold strB; rw [len_list, decide_eq_false (by omega)]; rfl), Below.refl _ _⟩
  · go_enter Tryz.func32, Tryz.ntmps32
    go_wp2_with (go_at_call 50; refine (specLines_any _ _ hs).mono ?_; rintro e w1 ⟨v, rfl, own1, b1⟩)
    obtain ⟨a1, cap1, rfl⟩ := own_form own1
    have hll := lines_len s.data.toList
    rw [len_list] at hll
    have sR : (⟨(restL s.data.toList).toArray⟩ : ByteArray).size ≤ 281474976710656 := by simp [ByteArray.size]; omega
    go_loop [5] (fun i => ∃ k : Nat, k ≤ (linesL s.data.toList).length ∧ i = .int .i64 k ∧ (∀ x ∈ (linesL s.data.toList).take k, linB x = true)) (fun i => (linesL s.data.toList).length - (intOf i).toNat)
    case atStart => exact ⟨0, Nat.zero_le _, rfl, by simp⟩
    case round =>
      obtain ⟨k, hk, rfl, hd⟩ := hrel
      have HD := Lib.hid hd
      clear hd
      by_cases hlt : k < (linesL s.data.toList).length
      · obtain ⟨g, cap, e1, gB, gl, hcap, hcells⟩ := own_cells own1 (by omega)
        obtain ⟨x, hx⟩ : ∃ x, x = (linesL s.data.toList)[k] := ⟨_, rfl⟩
        have hcell : w1.cell? ⟨g, k, none⟩ = some (strV x) := by
          rw [(hcells k (by simpa using hlt)).1]; simp [hx]
        have hxl : x.length ≤ s.size := by rw [← len_list]; exact line_len (by rw [hx]; exact List.getElem_mem _)
        have sX : (⟨x.toArray⟩ : ByteArray).size ≤ 281474976710656 := by simp [ByteArray.size]; omega
        simp at e1
        obtain ⟨rfl, rfl⟩ := e1
        have HX : Hid (x = (linesL s.data.toList)[k]) := hx
        clear hx hcells hxl
        unfold strV at hcell
        by_cases hb : linB x = true
        · have HB := Lib.hid hb
          go_wp2_with (go_at_call 21; refine (specLin_any _ _ sX).mono ?_; rintro e w' ⟨rfl, rfl⟩)
          go_round
          case rel =>
            refine ⟨k + 1, by omega, by go_num, ?_⟩
            rw [List.take_succ_eq_append_getElem hlt, ← HX.out]; intro y hy
            rcases List.mem_append.1 hy with hy | hy
            · exact HD.out y hy
            · simp at hy; subst hy; exact HB.out
          case measure => simp [intOf]; omega
        · have HB : Hid (strB s.data.toList = false) := by
            have : (linesL s.data.toList).all linB = false := by
              rw [List.all_eq_false]; exact ⟨x, by rw [HX.out]; exact List.getElem_mem _, hb⟩
            show (_ && _ && _) = false
            rw [this]; simp
          go_wp2_with (go_at_call 21; refine (specLin_any _ _ sX).mono ?_; rintro e w' ⟨rfl, rfl⟩)
          go_ret
          exact ⟨ret_bool HB.out.symm, b1⟩
      · have HS : Hid (strB s.data.toList = linB (restL s.data.toList)) := by
          have he : (linesL s.data.toList).take k = linesL s.data.toList := List.take_of_length_le (by omega)
          show (_ && _ && _) = _
          rw [len_list, decide_eq_true (by omega), ← he, List.all_eq_true.2 HD.out]; simp
        go_wp2_with (go_at_call 21; refine (specLin_any _ _ sR).mono ?_; rintro e w' ⟨rfl, rfl⟩)
        go_ret
        exact ⟨ret_bool (by rw [HS.out]), b1⟩

end Go.Proofs.YthhojghckfkdhaaGreatDoor

/- l3Stream and RwrStream of the specification. Conditions: the table is ok; the text has at most 2^21 bytes. -/
namespace Go.Proofs.YthhojghckfkdhaaGreatDoor
open Go.RowKit Go.Sort

theorem lpL_len' (a p : Int) : (lpL a p).length ≤ 20 := by
  unfold lpL
  split
  · rename_i h
    obtain ⟨h1, h2, h3, h4⟩ := end_bounds h
    have l1 := dec_len4 (k := a.toNat) (by omega)
    have l2 := dec_len4 (k := p.toNat) (by omega)
    simp [portL, endL]; omega
  · simp
theorem lineE_len (es : List (Int × Int)) (l : List UInt8) : (lineE es l).2.length ≤ l.length + 20 := by
  rcases h : saysE l with _ | e
  · rw [lineE_none h]
    simp
  · rw [lineE_some h]
    simp only
    split
    · simp [noneL]
    · have := lpL_len' 50 (putE es e).2
      omega
/-- One line more goes outside. -/
def strF (T : List (Int × Int) × List UInt8) (l : List UInt8) : List (Int × Int) × List UInt8 := ((lineE T.1 l).1, T.2 ++ (lineE T.1 l).2 ++ [59])
/-- Lines as they go outside, one behind the other, and the table then. -/
def streamE (es : List (Int × Int)) (ls : List (List UInt8)) : List (Int × Int) × List UInt8 := ls.foldl strF (es, [])
theorem streamE_snoc (es : List (Int × Int)) (ls : List (List UInt8)) (l : List UInt8) : streamE es (ls ++ [l]) = strF (streamE es ls) l := by simp [streamE]
theorem streamE_ok {es : List (Int × Int)} (hm : mapB es = true) (ls : List (List UInt8)) : mapB (streamE es ls).1 = true := by
  unfold streamE
  suffices h : ∀ (T : List (Int × Int) × List UInt8), mapB T.1 = true → mapB (ls.foldl strF T).1 = true from h _ hm
  induction ls with
  | nil => intro T h; exact h
  | cons l r ih => intro T h; exact ih _ (lineE_ok h)

/-- A block of cells of this type. -/
def Tag (w : World) (b : Nat) (t : TypeId) : Prop := ∃ cs fz, w.heap[b]? = some (.cells cs t fz)
theorem Tag.lt {w : World} {b : Nat} {t : TypeId} (h : Tag w b t) : b < w.heap.size := by
  obtain ⟨_, _, h⟩ := h
  exact (Array.getElem?_eq_some_iff.1 h).1
theorem Tag.later {w w' : World} {b : Nat} {t : TypeId} (h : Tag w b t) (hb : Below w.heap.size w w') : Tag w' b t := by
  have hl := h.lt
  obtain ⟨cs, fz, h⟩ := h
  exact ⟨cs, fz, (hb.block b hl).trans h⟩
theorem Tag.new (w : World) (cs : Array Value) (t : TypeId) : Tag (w.alloc (.cells cs t)) w.heap.size t := ⟨cs, _, heap_alloc_new w (.cells cs t)⟩
/-- A table that lies in a block of ends stays, when a cell of a block of another type is written. -/
theorem OwnTab.setTag {w : World} {B : Nat} {v : Value} {es : List (Int × Int)} {t : TypeId} (h : OwnTab w B v es) {a : Addr} (ht : Tag w a.block t) (hne : t ≠ 34) (u : Value) : OwnTab (w.setCell a u) B v es := by
  refine ⟨h.1, ?_⟩
  rcases h.2 with h2 | ⟨g, cap, cur, hv, hB, hg, r⟩
  · exact .inl h2
  · refine .inr ⟨g, cap, cur, hv, hB, ?_, r⟩
    rw [Below.heap_setCell _ _ _ _ fun e => ?_]
    · exact hg
    · obtain ⟨cs, fz, h1⟩ := ht
      rw [← e, hg] at h1
      injection h1 with h1
      injection h1 with _ h2 _
      exact hne h2.symm
theorem tab_ne : (25 : TypeId) ≠ 34 := by decide
theorem fresh1t {W w : World} {x : Value} {t : TypeId} (h : Below (W.alloc (.cells #[x] t)).heap.size (W.alloc (.cells #[x] t)) w) : Tag w W.heap.size t := (Tag.new W #[x] t).later h
theorem fresh1dt {W w : World} {x : Value} {t : TypeId} (h : Below (W.alloc (.cells #[x] t)).drew.heap.size (W.alloc (.cells #[x] t)).drew w) : Tag w W.heap.size t := fresh1t (((Below.refl _ _).drew).trans h)
theorem Tag.setCell {w : World} {b : Nat} {t : TypeId} (h : Tag w b t) (a : Addr) (u : Value) : Tag (w.setCell a u) b t := by
  obtain ⟨cs, fz, h⟩ := h
  by_cases e : b = a.block
  · subst e
    refine ⟨if a.spot.isSome then cs else cs.setIfInBounds a.off u, fz, ?_⟩
    show (w.heap.modify a.block _)[a.block]? = _
    rw [Array.getElem?_modify]
    simp [h]
  · exact ⟨cs, fz, (Below.heap_setCell _ _ _ _ e).trans h⟩

set_option maxRecDepth 100000 in
set_option maxHeartbeats 3200000 in
theorem specStream_any (B : Nat) (ad : Addr) (cap : Nat) (es : List (Int × Int)) (s : ByteArray) (w : World) (hm : mapB es = true) (hs : s.size ≤ 2097152) (hB : B ≤ w.heap.size) (ho : OwnTab w B (.slice (some ad) es.length cap) es) :
    Calls Tryz.prog 77 #[.agg #[.slice (some ad) es.length cap], .string s] w fun e w' => ∃ g c, e = .returned (.tuple #[.agg #[.slice (some g) (streamE es (linesL s.data.toList)).1.length c], .string ⟨(streamE es (linesL s.data.toList)).2.toArray⟩]) ∧ OwnTab w' B (.slice (some g) (streamE es (linesL s.data.toList)).1.length c) (streamE es (linesL s.data.toList)).1 ∧ Below w.heap.size w w' := by
  have HO := Lib.hid ho
  have HM := Lib.hid hm
  have hlz : ∀ x ∈ linesL s.data.toList, x.length ≤ 2097152 := fun x hx => by have := line_len hx; rw [len_list] at this; omega
  have hl0 := lines_len s.data.toList
  rw [len_list] at hl0
  have HL : Hid (∀ w, Calls Tryz.prog 50 #[.string s] w fun e w' => ∃ v, e = .returned (.tuple #[v, .string ⟨(restL s.data.toList).toArray⟩]) ∧ w'.ownsRow w.heap.size 9 1 v (linesL s.data.toList).length ((linesL s.data.toList).map strV) ∧ Below w.heap.size w w') := fun w => specLines_any s w hs
  obtain ⟨ls, hls⟩ : ∃ ls, ls = linesL s.data.toList := ⟨_, rfl⟩
  obtain ⟨rs, hrs⟩ : ∃ rs, rs = (restL s.data.toList).toArray := ⟨_, rfl⟩
  rw [← hls] at HL hlz hl0 ⊢
  rw [← hrs] at HL
  have hln : ls.length ≤ 2097152 := by omega
  have HLZ := Lib.hid hlz
  clear ho hm hls hrs hlz hl0
  go_enter Tryz.func77, Tryz.ntmps77
  go_wp2_with fail
  (go_at_call 50; refine (HL.out _).mono ?_; rintro e w1 ⟨vl, rfl, own1, b1⟩; obtain ⟨cA, cB, b01, z1⟩ := cell_two b1; have t0 := (cA 0).1; have f0 := (cA 0).2; have r0 := (cB 0).1; have g0 := (cB 0).2; simp at t0 r0; have own1 := own_base (B' := w.heap.size + 2) own1 (by simp <;> omega); obtain ⟨al, capl, rfl⟩ := own_form own1; have OWN1 := Lib.hid own1; have B1 := Lib.hid b01; have T0 : Hid (Tag w1 w.heap.size 25) := (⟨_, _, (b1.block w.heap.size (by simp <;> omega)).trans ((Below.heap_alloc _ _ _ (by simp <;> omega)).trans (heap_alloc_new w _))⟩ : Tag w1 w.heap.size 25); have T1 : Hid (Tag w1 (w.heap.size + 1) 25) := (by obtain ⟨cs, fz, hh⟩ := Tag.new (w.alloc (.cells #[.slice (some ad) es.length cap] 25)) #[.slice none 0 0] 25; simp only [World.size_alloc] at hh; exact ⟨cs, fz, (b1.block (w.heap.size + 1) (by simp)).trans hh⟩); clear cA cB b1 b01 own1)
  go_wp2_with fail
  go_loopw [8, 9, 10, 11] (fun o i _ _ wr => ∃ (k : Nat) (us : List (Int × Int)) (x : List UInt8) (g : Addr) (c : Nat), k ≤ ls.length ∧ i = .int .i64 k ∧ o = .string ⟨x.toArray⟩ ∧ (us, x) = streamE es (ls.take k) ∧ x.length ≤ k * 2097173 ∧ wr.cell? ⟨w.heap.size, 0, none⟩ = some (.slice (some g) us.length c) ∧ wr.frozen? ⟨w.heap.size, 0, none⟩ = false ∧ Tag wr w.heap.size 25 ∧ Tag wr (w.heap.size + 1) 25 ∧ OwnTab wr B (.slice (some g) us.length c) us ∧ wr.cell? ⟨w.heap.size + 1, 0, none⟩ = some (.slice none 0 0) ∧ wr.frozen? ⟨w.heap.size + 1, 0, none⟩ = false ∧ wr.ownsRow (w.heap.size + 2) 9 1 (.slice al ls.length capl) ls.length (ls.map strV) ∧ Below w.heap.size w wr ∧ w.heap.size + 2 ≤ wr.heap.size) (fun _ i _ _ _ => ls.length - (intOf i).toNat)
  case atStart => exact ⟨0, es, [], ad, cap, Nat.zero_le _, rfl, rfl, rfl, by simp, t0, f0, T0.out, T1.out, HO.out.below B1.out, r0, g0, OWN1.out, B1.out, z1⟩
  case round =>
    obtain ⟨k, us, x, g, c, hk, rfl, rfl, hT, hxk, t2, f2, tg, tg1, ho, r2, g2, own, hb, hz⟩ := hrel
    have HT := Lib.hid hT
    have HO2 := Lib.hid ho
    have HTG := Lib.hid tg
    have HTG1 := Lib.hid tg1
    clear tg1
    have HOW := Lib.hid own
    have HB := Lib.hid hb
    clear hT ho tg hb
    by_cases hlt : k < ls.length
    · obtain ⟨gl, cl, hv, hgB, hgl, hcl, hcells⟩ := own_cells own (by omega)
      simp at hv
      obtain ⟨rfl, rfl⟩ := hv
      obtain ⟨q0, _⟩ := hcells k (by simpa using hlt)
      simp only [List.getElem_map] at q0
      have hx := HLZ.out ls[k] (List.getElem_mem hlt)
      have HTK : Hid (ls.take (k + 1) = ls.take k ++ [ls[k]]) := List.take_succ_eq_append_getElem hlt
      obtain ⟨y, hy⟩ : ∃ y, y = ls[k] := ⟨_, rfl⟩
      rw [← hy] at q0 hx HTK
      have hul : us.length ≤ 6 := by
        have := mapB_le (streamE_ok HM.out (ls.take k))
        rw [← HT.out] at this
        exact this
      obtain ⟨us', hus⟩ : ∃ us', us' = (lineE us y).1 := ⟨_, rfl⟩
      obtain ⟨x', hx'⟩ : ∃ x', x' = (lineE us y).2 := ⟨_, rfl⟩
      have HN : Hid ((us', x ++ x' ++ [59]) = streamE es (ls.take (k + 1))) := by
        show _ = _
        rw [HTK.out, streamE_snoc, ← HT.out, hus, hx']; rfl
      have hxl : x'.length ≤ 2097172 := by have := lineE_len us y; rw [hx']; omega
      have hxb : x.length ≤ 4400000000000 := by have : k * 2097173 ≤ 2097152 * 2097173 := Nat.mul_le_mul_right _ (by omega); omega
      have hxn : (x ++ x' ++ [59]).length ≤ (k + 1) * 2097173 := by simp; omega
      have HXN := Lib.hid hxn
      clear hxn
      have HC : Hid (∀ w0, B ≤ w0.heap.size → OwnTab w0 B (.slice (some g) us.length c) us → Calls Tryz.prog 59 #[.agg #[.slice (some g) us.length c], strV y] w0 fun e w' => ∃ g c, e = .returned (.tuple #[.agg #[.slice (some g) us'.length c], .string ⟨x'.toArray⟩]) ∧ OwnTab w' B (.slice (some g) us'.length c) us' ∧ Below w0.heap.size w0 w') := fun w0 h1 h2 => by
        rw [hus, hx']
        exact specLine_any B g c us ⟨y.toArray⟩ w0 (by omega) (by show y.toArray.size ≤ _; simpa using hx) h1 h2
      have hk2 : (k : Int) ≤ (capl : Int) := by omega
      have hk3 : (k : Int) ≤ 2097152 := by omega
      have mk : Hid (∀ w', Below wr.heap.size wr w' → w'.cell? ⟨w.heap.size, 0, none⟩ = some (.slice (some g) us.length c) ∧ w'.cell? ⟨gl, k, none⟩ = some (strV y) ∧ Below wr.heap.size wr w') := fun w' h => ⟨box_below t2 h, box_below q0 h, h⟩
      clear hcells hy own hx hus hx'
      go_upto_region 6 with fail
      go_cut [10, 11] (fun s10 s11 wx => ∃ b g c, s10 = .pointer (some ⟨b, 0, none⟩) ∧ s11 = .string ⟨x'.toArray⟩ ∧ wx.cell? ⟨b, 0, none⟩ = some (.slice (some g) us'.length c) ∧ OwnTab wx B (.slice (some g) us'.length c) us' ∧ Below wr.heap.size wr wx)
      case first =>
        go_region_held3 (fun w' => w'.cell? ⟨w.heap.size, 0, none⟩ = some (.slice (some g) us.length c) ∧ w'.cell? ⟨gl, k, none⟩ = some (strV y) ∧ Below wr.heap.size wr w')
          (first
            | exact mk.out _ (Below.refl _ _).drew
            | exact mk.out _ cc
            | exact mk.out _ (cc.alloc cc.size _)
            | exact mk.out _ (cc.setCell (by first | (simp; done) | (simp; omega)) _)
            | exact mk.out _ (((Below.refl _ _).drew).alloc (Nat.le_refl _) _)
            | (trace_state; fail))
          (first | (go_at_call 59; have hS := (by assumption : _ ∧ _ ∧ Below wr.heap.size wr _); refine (HC.out _ (Nat.le_trans (by omega : B ≤ wr.heap.size) hS.2.2.size) (HO2.out.below hS.2.2)).mono ?_; rintro e wN ⟨gN, cN, rfl, oN, bN⟩; have ON := Lib.hid oN; have cc : Below wr.heap.size wr wN := hS.2.2.trans (bN.mono hS.2.2.size); (first | (have hk := fresh1 bN; obtain ⟨k0, kf⟩ := hk; have kt := fresh1t bN) | (have hk := fresh1d bN; obtain ⟨k0, kf⟩ := hk; have kt := fresh1dt bN) | skip)))
        all_goals (go_wp2_with fail; go_meet)
        all_goals (first | exact ⟨_, _, _, rfl, rfl, by simp, ON.out.below ((Below.refl _ _).alloc (Nat.le_refl _) _), cc.alloc cc.size _⟩ | exact ⟨_, _, _, rfl, rfl, World.cell?_setCell_same _ _ _ k0, ON.out.setTag kt tab_ne _, cc.setCell (by first | (simp; done) | (simp; omega)) _⟩ | (trace_state; fail))
      case rest =>
        obtain ⟨b, gN, cN, rfl, rfl, kN, oN, bN⟩ := hcut
        have ON := Lib.hid oN
        have BN := Lib.hid bN
        have t3 := box_below t2 bN
        have f3 := box_frozen t2 f2 bN
        have r3 := box_below r2 bN
        have g3 := box_frozen r2 g2 bN
        have TG3 := Lib.hid (HTG.out.later bN)
        have OW3 := Lib.hid (own_below HOW.out bN)
        have zN := bN.size
        have HSX : Hid ((⟨x.toArray⟩ : ByteArray) ++ ⟨x'.toArray⟩ ++ ⟨#[59]⟩ = ⟨(x ++ x' ++ [59]).toArray⟩) := by
          show _ = _
          apply ByteArray.ext
          apply Array.ext'
          simp
        clear oN bN t2 f2 r2 g2 q0
        clear hxk
        go_wp2_with fail
        go_roundw
        case rel =>
          refine ⟨k + 1, us', x ++ x' ++ [59], gN, cN, by omega, by go_num, by rw [HSX.out], HN.out, HXN.out, World.cell?_setCell_same _ _ _ t3, by rw [World.frozen?_setCell]; exact f3, TG3.out.setCell _ _, (HTG1.out.later BN.out).setCell _ _, ON.out.setTag TG3.out tab_ne _, ?_, by rw [World.frozen?_setCell]; exact g3, ownsRow_setCell_below OW3.out (by simp) _, ?_, by simp; omega⟩
          · rw [World.cell?_setCell_far _ ⟨w.heap.size, 0, none⟩ ⟨w.heap.size + 1, 0, none⟩ _ (by show w.heap.size ≠ w.heap.size + 1; omega)]; exact r3
          · exact (HB.out.trans (BN.out.mono (by omega))).setCell (by simp) _
        case measure => simp [intOf]; omega
    · have hke : k = ls.length := by omega
      have HTE : Hid ((us, x) = streamE es ls) := by show _ = _; rw [HT.out, hke, List.take_length]
      clear hlt
      go_wp2_with fail
      refine bodyPost_ret (v := .tuple #[.agg #[.slice (some g) us.length c], .string ⟨x.toArray⟩]) (by simp [results, Tryz.results77, go_sem, World.cell?_setCell_same _ _ _ r2]) rfl ?_
      rw [← HTE.out]
      refine ⟨g, c, rfl, HO2.out.setTag HTG1.out tab_ne _, HB.out.setCell (by simp) _⟩

end Go.Proofs.YthhojghckfkdhaaGreatDoor

/- RwrStream of the program. Conditions: the table is ok; the text is a stream; the variables that are read hold what they are laid with. -/
namespace Go.Proofs.YthhojghckfkdhaaGreatDoor
open Go.RowKit Go.Shelf Go.Sort
attribute [local go_sem] Oper.semAt_some

/-- What stays when a block that is no cells turns. -/
theorem heap_kept {w w' : World} {row : Option Nat} {b : Nat} {cs : Array Value} {t : TypeId} {fz : Nat × Nat} (h : w.heap[b]? = some (.cells cs t fz)) (hg : w.grownBy w' row) (hr : ∀ r, row = some r → ∃ o : Obj, w.heap[r]? = some o ∧ o.isCells = false) : w'.heap[b]? = some (.cells cs t fz) := by
  refine (hg.block b (Array.getElem?_eq_some_iff.1 h).1 fun e => ?_).trans h
  obtain ⟨o, ho, hc⟩ := hr b e.symm
  rw [h] at ho
  cases ho
  cases hc
theorem Bld.kept {w w' : World} {row : Option Nat} {B b : Nat} {l : List UInt8} (h : Bld B b l w) (hg : w.grownBy w' row) (hr : ∀ r, row = some r → ∃ o : Obj, w.heap[r]? = some o ∧ o.isCells = false) : Bld B b l w' := by
  have one : ∀ p, Lib.BuilderAtF 79 5 B b p (Lib.byteCells l) w → Lib.BuilderAtF 79 5 B b p (Lib.byteCells l) w' := by
    rintro p ⟨hB, v, hb, hown, hne⟩
    refine ⟨hB, v, heap_kept hb hg hr, ⟨hown.1, ?_⟩, hne⟩
    rcases hown.2 with h2 | ⟨g, cap, cur, fz, hv, hBg, hh, r⟩
    · exact .inl h2
    · exact .inr ⟨g, cap, cur, fz, hv, hBg, heap_kept hh hg hr, r⟩
  rcases h with h | h
  · exact .inl (one _ h)
  · exact .inr (one _ h)
theorem OwnTab.kept {w w' : World} {row : Option Nat} {B : Nat} {v : Value} {es : List (Int × Int)} (h : OwnTab w B v es) (hg : w.grownBy w' row) (hr : ∀ r, row = some r → ∃ o : Obj, w.heap[r]? = some o ∧ o.isCells = false) : OwnTab w' B v es := by
  refine ⟨h.1, ?_⟩
  rcases h.2 with h2 | ⟨g, cap, cur, hv, hB, hh, r⟩
  · exact .inl h2
  · exact .inr ⟨g, cap, cur, hv, hB, heap_kept hh hg hr, r⟩
theorem MapAt.kind {P : Program} {k : TypeId} {w : World} {b : Nat} {L : List (Value × Value)} (h : MapAt P k w b L) : ∃ o : Obj, w.heap[b]? = some o ∧ o.isCells = false ∧ ∀ c t fz, o ≠ .cells c t fz := by
  obtain ⟨es, clock, hb, _⟩ := h
  exact ⟨_, hb, rfl, fun _ _ _ e => by cases e⟩
/-- A builder stays one, when the two maps turn. -/
theorem Bld.two {w w' : World} {g1 g2 B b : Nat} {l : List UInt8} {us : List (Int × Int)} (h : Bld B b l w) (ht : Two g1 g2 w w') (hb : Both w g1 g2 us) : Bld B b l w' := by
  obtain ⟨o1, k1, c1, _⟩ := hb.1.kind
  obtain ⟨o2, k2, c2, _⟩ := hb.2.1.kind
  have keep : ∀ (c : Nat) (cs : Array Value) (t : TypeId) (fz : Nat × Nat), w.heap[c]? = some (.cells cs t fz) → w'.heap[c]? = some (.cells cs t fz) := fun c cs t fz hc => by
    refine (ht.block c (Array.getElem?_eq_some_iff.1 hc).1 (fun e => ?_) (fun e => ?_)).trans hc
    · rw [e, k1] at hc; cases hc; cases c1
    · rw [e, k2] at hc; cases hc; cases c2
  have one : ∀ p, Lib.BuilderAtF 79 5 B b p (Lib.byteCells l) w → Lib.BuilderAtF 79 5 B b p (Lib.byteCells l) w' := by
    rintro p ⟨hB, v, hb, hown, hne⟩
    refine ⟨hB, v, keep _ _ _ _ hb, ⟨hown.1, ?_⟩, hne⟩
    rcases hown.2 with h2 | ⟨g, cap, cur, fz, hv, hBg, hh, r⟩
    · exact .inl h2
    · exact .inr ⟨g, cap, cur, fz, hv, hBg, keep _ _ _ _ hh, r⟩
  rcases h with h | h
  · exact .inl (one _ h)
  · exact .inr (one _ h)
theorem Both.kept {w w' : World} {g1 g2 b : Nat} {us : List (Int × Int)} (h : Both w g1 g2 us) (hk : Kept b w w') (h1 : g1 ≠ b) (h2 : g2 ≠ b) : Both w' g1 g2 us := by
  obtain ⟨o1, k1, _, c1⟩ := h.1.kind
  obtain ⟨o2, k2, _, c2⟩ := h.2.1.kind
  exact ⟨h.1.same ((hk g1 o1 k1 (by simpa using h1) fun c fz => c1 c _ fz).trans k1.symm), h.2.1.same ((hk g2 o2 k2 (by simpa using h2) fun c fz => c2 c _ fz).trans k2.symm), h.2.2⟩
theorem heap_other {w w' : World} {b k : Nat} {cs : Array Value} {t : TypeId} {fz : Nat × Nat} (h : w.heap[k]? = some (.cells cs t fz)) (hk : Kept b w w') (hb : k ≠ b) (ht : t ≠ 5) : w'.heap[k]? = some (.cells cs t fz) :=
  hk k _ h (by simpa using hb) fun c fz' e => by injection e with _ e2 _; exact ht e2
theorem both_ne8 : (66 : TypeId) ≠ 5 := by decide
theorem tab_ne8 : (25 : TypeId) ≠ 5 := by decide
theorem keeps_two {B g1 g2 : Nat} {w w' : World} (h : Two g1 g2 w w') (h1 : g1 < B) (h2 : g2 < B) : KeepsFrom B w w' :=
  ⟨h.size, fun k o hB hk _ => (h.block k (Array.getElem?_eq_some_iff.1 hk).1 (by omega) (by omega)).trans hk⟩
theorem keeps_kept {B b : Nat} {w w' : World} (h : Kept b w w') (hs : w.heap.size ≤ w'.heap.size) (hb : b < B) : KeepsFrom B w w' :=
  ⟨hs, fun k o hB hk ho => h k o hk (by simp; omega) fun c fz e => by subst e; cases ho⟩
theorem cells_at {w : World} {b : Nat} {cs : Array Value} {t : TypeId} (h : w.heap[b]? = some (.cells cs t (0, 0))) (i : Nat) : w.cell? ⟨b, i, none⟩ = cs[i]? ∧ w.frozen? ⟨b, i, none⟩ = false :=
  ⟨by simp only [World.cell?, h]; simp, by simp only [World.frozen?, h]; simp⟩

theorem end_ne8 : (34 : TypeId) ≠ 5 := by decide
theorem OwnTab.other {w w' : World} {B b : Nat} {v : Value} {es : List (Int × Int)} (h : OwnTab w B v es) (hk : Kept b w w') (hb : b < B) : OwnTab w' B v es := by
  refine ⟨h.1, ?_⟩
  rcases h.2 with h2 | ⟨g, cap, cur, hv, hB, hh, r⟩
  · exact .inl h2
  · exact .inr ⟨g, cap, cur, hv, hB, heap_other hh hk (by omega) end_ne8, r⟩

/-- What a round finds: the table and the text of the lines that have gone. -/
def RoundOk (es : List (Int × Int)) (w0 : World) (s : ByteArray) (g1 g2 b3 r : Nat) (pre : List (LineOf s)) (W : World) : Prop :=
  ∃ us x, (us, x) = streamE es (pre.map Subtype.val) ∧ x.length ≤ pre.length * 2097173 ∧ Both W g1 g2 us ∧ Bld (b3 + 1) (b3 + 1) x W ∧ W.heap[b3]? = some (.cells #[.map (some g1), .map (some g2)] 66 (0, 0)) ∧ W.heap[r]? = some (.cells #[.slice none 0 0] 25 (0, 0)) ∧ Below w0.heap.size w0 W ∧ b3 + 3 ≤ W.heap.size
theorem roundOk_own (es : List (Int × Int)) (w0 : World) (s : ByteArray) (g1 g2 b3 r B : Nat) (h1 : g1 < B) (h2 : g2 < B) (hB : w0.heap.size ≤ B) : OwnFrom B (RoundOk es w0 s g1 g2 b3 r) := by
  rintro pre X Y row ⟨us, x, hT, hx, hb, hl, h3, hr3, hbl, hz⟩ hg hr
  have hr' : ∀ r, row = some r → ∃ o : Obj, X.heap[r]? = some o ∧ o.isCells = false := fun r e => (hr r e).2
  have hn : ∀ g, g < B → some g ≠ row := fun g hlt e => by have := (hr g e.symm).1; omega
  refine ⟨us, x, hT, hx, ⟨hb.1.same (hg.block g1 hb.1.lt (hn _ h1)), hb.2.1.same (hg.block g2 hb.2.1.lt (hn _ h2)), hb.2.2⟩, hl.kept hg hr', heap_kept h3 hg hr', heap_kept hr3 hg hr', hbl.grown hg hbl.size (fun k e => Nat.le_trans hB (hr k e).1), Nat.le_trans hz hg.size⟩

set_option maxRecDepth 100000 in
set_option maxHeartbeats 4000000 in
theorem implStream_in (n : Nat) (hn3 : 3 ≤ n) (v : Value) (es : List (Int × Int)) (s : ByteArray) (w : World) (hn : es.length ≤ 4194304) (hs : s.size ≤ 2097152) (ht : TabAt w v es) (hm : mapB es = true) (hl : strB s.data.toList = true) (hv : VarsOk w) :
    CallsIn Fence.wide n Tryz.prog 30 #[.agg #[v], .string s] w fun e w' => ∃ g c, e = .returned (.tuple #[.agg #[.slice g (streamE es (linesL s.data.toList)).1.length c], .string ⟨(streamE es (linesL s.data.toList)).2.toArray⟩]) ∧ OwnTab w' w.heap.size (.slice g (streamE es (linesL s.data.toList)).1.length c) (streamE es (linesL s.data.toList)).1 ∧ Below w.heap.size w w' := by
  have h1 : 1 ≤ n := by omega
  have HT := Lib.hid ht
  have hwf := mapB_wf hm
  obtain ⟨ad, cap, rfl, hcap, hr⟩ := ht
  have hM : Hid (∀ w, TabAt w (.slice ad es.length cap) es → Calls Tryz.prog 24 #[.agg #[.slice ad es.length cap]] w fun e w' => e = .returned (.bool true) ∧ Below w.heap.size w w') := fun w h => by rw [← hm]; exact implMapOk_any _ es w hn hwf h
  have hL : Hid (∀ w, Calls Tryz.prog 73 #[.string s] w fun e w' => e = .returned (.bool true) ∧ Below w.heap.size w w') := fun w => by rw [← hl]; exact implStr_any s w hs
  have HP : Hid (∀ w, TabAt w (.slice ad es.length cap) es → Calls Tryz.prog 56 #[.agg #[.slice ad es.length cap]] w fun e w' => ∃ g1 g2, e = .returned (.agg #[.map (some g1), .map (some g2)]) ∧ w.heap.size ≤ g1 ∧ w.heap.size ≤ g2 ∧ Both w' g1 g2 es ∧ Below w.heap.size w w') := fun w h => portsOf_any _ es w hn hwf h
  have HV : Hid (∀ w', Below w.heap.size w w' → VarsOk w') := fun w' h => hv.below h
  have HM := Lib.hid hm
  clear hr hm hwf hcap hn hl hv
  refine callsIn_of_wp_marks Tryz.func30 rfl trivial ?_ rfl
  simp only [Tryz.ntmps30, List.size_toArray, List.length_cons, List.length_nil, Nat.reduceAdd, Nat.reduceSub, Array.replicate_succ, Array.replicate_zero, List.push_toArray, List.append_toArray, List.nil_append, List.cons_append]
  gi_wp2_with (refine ⟨trivial, ?_⟩; first
    | (gi_at_call 24; refine (callsIn_wide.2 (hM.out _ (HT.out.below (((Below.refl _ _).alloc (Nat.le_refl _) _).alloc (by simp) _)))).mono ?_; rintro e w1 ⟨rfl, b1⟩; obtain ⟨cA, _, b01, z1⟩ := cell_two b1; have t0 := (cA 0).1; simp at t0; have hR1 : w1.heap[w.heap.size + 1]? = some (.cells #[.slice none 0 0] 25 (0, 0)) := (by have h := heap_alloc_new (w.alloc (.cells #[.slice ad es.length cap] 25)) (.cells #[.slice none 0 0] 25); simp only [World.size_alloc] at h; exact (b1.block (w.heap.size + 1) (by simp)).trans h); have HR1 := Lib.hid hR1; clear cA b1 hR1)
    | (gi_at_call 73; refine (callsIn_wide.2 (hL.out _)).mono ?_; rintro e w2 ⟨rfl, b2⟩; replace t0 := box_below t0 b2; replace HR1 := Lib.hid ((b2.block _ (by omega)).trans HR1.out); replace b01 := b01.trans (b2.mono (by omega)); replace z1 := Nat.le_trans z1 b2.size; clear b2)
    | (gi_at_call 56; refine (callsIn_wide.2 (HP.out _ (HT.out.below b01))).mono ?_; rintro e w3 ⟨g1, g2, rfl, l1, l2, hb, b3⟩; replace HR1 := Lib.hid ((b3.block _ (by omega)).trans HR1.out); have B3 := Lib.hid (b01.trans (b3.mono (by omega))); have z3 := b3.size; have m1 := hb.lt.1; have m2 := hb.lt.2; have HB := Lib.hid hb; clear b01 b3 hb t0)
    | (gi_at_call 74; refine (callsIn_wide.2 (linesOf_any _ _)).mono ?_; rintro e w' ⟨rfl, rfl⟩))
  obtain ⟨W0, hW0⟩ : ∃ W0, ((w3.alloc (.cells #[.map (some g1), .map (some g2)] 66)).alloc (.cells #[.pointer none, .slice none 0 0] 79)).alloc (.cells #[.string s] 9) = W0 := ⟨_, rfl⟩
  obtain ⟨b3, hb3⟩ : ∃ b3, b3 = w3.heap.size := ⟨_, rfl⟩
  have hs0 : W0.heap.size = b3 + 3 := by rw [← hW0, hb3]; simp
  have BW : Hid (Below w3.heap.size w3 W0) := by rw [← hW0]; exact (((Below.refl _ _).alloc (Nat.le_refl _) _).alloc (by simp) _).alloc (by simp; omega) _
  have hS : W0.cell? ⟨b3 + 2, 0, none⟩ = some (.string s) := by
    have := (cell_new ((w3.alloc (.cells #[.map (some g1), .map (some g2)] 66)).alloc (.cells #[.pointer none, .slice none 0 0] 79)) #[.string s] 9 0).1
    simp only [World.size_alloc] at this
    rw [← hW0, hb3]; exact this
  have I0 : RoundOk es w s g1 g2 b3 (w.heap.size + 1) [] W0 := by
    refine ⟨es, [], rfl, by simp, HB.out.later BW.out, ?_, ?_, ?_, B3.out.trans (BW.out.mono B3.out.size), by omega⟩
    · refine .inl ⟨Nat.le_refl _, .slice none 0 0, ?_, ⟨rfl, .inl ⟨rfl, rfl⟩⟩, fun e => by cases e⟩
      have := heap_alloc_new (w3.alloc (.cells #[.map (some g1), .map (some g2)] 66)) (.cells #[.pointer none, .slice none 0 0] 79)
      simp only [World.size_alloc] at this
      rw [← hW0, hb3, Below.heap_alloc _ _ _ (by simp)]
      exact this
    · rw [← hW0, hb3, Below.heap_alloc _ _ _ (by simp; omega), Below.heap_alloc _ _ _ (by simp)]
      exact heap_alloc_new w3 _
    · exact (BW.out.block _ (by omega)).trans HR1.out
  rw [hW0]
  rw [← hb3] at m1 m2 z3 ⊢
  have hs1 : W0.heap.size ≤ b3 + 3 := Nat.le_of_eq hs0
  have hs2 : b3 + 3 ≤ W0.heap.size := Nat.le_of_eq hs0.symm
  have hzw : w.heap.size + 2 ≤ b3 := by omega
  have HI0 := Lib.hid I0
  have HSt := Lib.hid hS
  have hln : (linesL s.data.toList).length ≤ 2097152 := by have := lines_len s.data.toList; rw [len_list] at this; omega
  clear hs0 hW0 hb3 I0 hS BW
  refine wpIn_rangeFunc_ownG rfl h1 (gf := 109) (lb := #[.pointer (some ⟨b3 + 1 + 1, 0, none⟩)]) rfl trivial (enters_of Tryz.func109 (by kernel_rfl) rfl)
    (tell_stopsS (n - 1) (by omega) (b3 + 2) s hs W0 (by omega) HSt.out) (fun _ _ => trivial) (fun _ _ _ _ _ _ _ _ => trivial) (Below.refl _ _) (fun _ => rfl)
    (RoundOk es w s g1 g2 b3 (w.heap.size + 1))
    (fun _ _ _ => False)
    (roundOk_own es w s g1 g2 b3 (w.heap.size + 1) W0.heap.size (by omega) (by omega) (by omega))
    (fun c => fun _ _ _ _ h _ _ => h.elim)
    HI0.out
    (fun x => { tmps := #[.agg #[.slice ad es.length cap], .string s, .pointer (some ⟨w.heap.size, 0, none⟩), undef, .pointer (some ⟨w.heap.size + 1, 0, none⟩), .string ⟨#[]⟩, .pointer (some ⟨b3, 0, none⟩), .pointer (some ⟨b3 + 1, 0, none⟩), .string ⟨x.1.toArray⟩, .agg #[.slice ad es.length cap], .bool true, .bool false, .bool false, .string s, .bool true, .bool false, .bool false, undef, .agg #[.slice ad es.length cap], .agg #[.map (some g1), .map (some g2)], .string s, .func (.func 109) #[] #[.pointer (some ⟨b3 + 1 + 1, 0, none⟩)], .string ⟨x.1.toArray⟩, undef, undef, undef, undef, undef, undef, undef, undef], defers := [] }) ?assign ?body ?done ?stop
  case assign =>
    intro l x W K hK
    gi_wp2
    exact hK
  case body =>
    rintro l pre x W ⟨us, y, hT, hy, hb, hbl, h3, hr3, hB, hz⟩ hpre
    have hmu : mapB us = true := by
      have := streamE_ok HM.out (pre.map Subtype.val)
      rw [← hT] at this
      exact this
    have hxl : x.1.length ≤ 2097152 := by have := line_len x.2; rw [len_list] at this; omega
    obtain ⟨us', hus⟩ : ∃ us', us' = (lineE us x.1).1 := ⟨_, rfl⟩
    obtain ⟨x', hx'⟩ : ∃ x', x' = (lineE us x.1).2 := ⟨_, rfl⟩
    have hx'l : x'.length ≤ 2097172 := by have := lineE_len us x.1; rw [hx']; omega
    have hyb : y.length ≤ 4400000000000 := by have : pre.length * 2097173 ≤ 2097152 * 2097173 := Nat.mul_le_mul_right _ (by omega); omega
    have HY : Hid ((y ++ (x' ++ [59])).length ≤ (pre ++ [x]).length * 2097173) := by show _ ≤ _; simp; omega
    have HN : Hid ((us', y ++ (x' ++ [59])) = streamE es ((pre ++ [x]).map Subtype.val)) := by
      show _ = _
      rw [List.map_append, List.map_singleton, streamE_snoc, ← hT, hus, hx']
      simp [strF]
    have HC : Hid (Calls Tryz.prog 57 #[.agg #[.map (some g1), .map (some g2)], .string ⟨x.1.toArray⟩] W fun e w' => e = .returned (.string ⟨x'.toArray⟩) ∧ Both w' g1 g2 us' ∧ Two g1 g2 W w') := by
      rw [hus, hx']
      exact lineOutside_any g1 g2 us ⟨x.1.toArray⟩ W (by show x.1.toArray.size ≤ _; simpa using hxl) hb hmu fun w' h => HV.out _ (hB.trans (h.below hB.size (by omega) (by omega)))
    have HW : Hid (∀ w, Bld (b3 + 1) (b3 + 1) y w → b3 + 1 ≤ w.heap.size → Calls Tryz.prog 75 #[.pointer (some ⟨b3 + 1, 0, none⟩), .string (⟨x'.toArray⟩ ++ ⟨#[59]⟩)] w fun e w' => e = .returned (.tuple #[.int .i64 ((x' ++ [59]).length : Int), .nilIface]) ∧ Bld (b3 + 1) (b3 + 1) (y ++ (x' ++ [59])) w' ∧ Below (b3 + 1) w w' ∧ Kept (b3 + 1) w w') := fun w h1 h2 => by
      rw [show (⟨x'.toArray⟩ ++ ⟨#[59]⟩ : ByteArray) = ⟨(x' ++ [59]).toArray⟩ from by apply ByteArray.ext; apply Array.ext'; simp]
      exact write_any (b3 + 1) (b3 + 1) y (x' ++ [59]) w h1 (by simp; omega) h2
    have p0 := (cells_at h3 0).1
    have p1 := (cells_at h3 1).1
    simp at p0 p1
    have HBo := Lib.hid hb
    have HBl := Lib.hid hbl
    have H3 := Lib.hid h3
    have HR3 := Lib.hid hr3
    have HB := Lib.hid hB
    have hd : 1 ≤ n - 1 - 1 := by omega
    clear hT hy hb hbl h3 hr3 hB hmu hus hx' hxl hyb
    gi_wp2_with (refine ⟨trivial, ?_⟩; first
      | (gi_at_call 57; refine (CallsIn.inRound l (callsIn_wide.2 HC.out)).mono ?_; rintro e W1 ⟨rfl, hb1, t1⟩; have HB1 := Lib.hid hb1; have T1 := Lib.hid t1; have zW := t1.size; clear hb1 t1)
      | (gi_at_call 75; refine (CallsIn.inRound l (callsIn_wide.2 (HW.out _ (HBl.out.two T1.out HBo.out) (by omega)))).mono ?_; rintro e W2 ⟨rfl, hl2, b2, k2⟩))
    have T1 := T1.out
    have e3 : W1.heap[b3]? = some (.cells #[.map (some g1), .map (some g2)] 66 (0, 0)) := (T1.block b3 (by omega) (by omega) (by omega)).trans H3.out
    have er : W1.heap[w.heap.size + 1]? = some (.cells #[.slice none 0 0] 25 (0, 0)) := (T1.block _ (by omega) (by omega) (by omega)).trans HR3.out
    exact ⟨(keeps_two T1 (by omega) (by omega)).trans (keeps_kept k2 b2.size (by omega)), trivial, us', y ++ (x' ++ [59]), HN.out, HY.out, HB1.out.kept k2 (by omega) (by omega), hl2, heap_other e3 k2 (by omega) both_ne8, heap_other er k2 (by omega) tab_ne8, (HB.out.trans (T1.below HB.out.size (by omega) (by omega))).trans (b2.mono (by omega)), by have := b2.size; omega⟩
  case done =>
    rintro D xs W hD hxs ⟨us, y, hT, hy, hb, hbl, h3, hr3, hB, hz⟩ hK
    rw [hxs] at hT
    have hmu : mapB us = true := by
      have := streamE_ok HM.out (linesL s.data.toList)
      rw [← hT] at this
      exact this
    have HO : Hid (Calls Tryz.prog 58 #[.agg #[.map (some g1), .map (some g2)]] W fun e w' => ∃ a c, e = .returned (.agg #[.slice a us.length c]) ∧ OwnTab w' W.heap.size (.slice a us.length c) us ∧ Below W.heap.size W w') := tableOf_any g1 g2 us W hb (valsL_ok hmu) (by have := mapB_le hmu; omega)
    have HS : Hid (∀ w, Bld (b3 + 1) (b3 + 1) y w → b3 + 1 ≤ w.heap.size → Calls Tryz.prog 76 #[.pointer (some ⟨b3 + 1, 0, none⟩)] w fun e w' => e = .returned (.string ⟨y.toArray⟩) ∧ Bld (b3 + 1) (b3 + 1) y w' ∧ Below (b3 + 1) w w' ∧ Kept (b3 + 1) w w') := fun w h1 h2 => buildString_any (b3 + 1) (b3 + 1) y w h1 h2
    have p0 := (cells_at h3 0).1
    have p1 := (cells_at h3 1).1
    simp at p0 p1
    have HBo := Lib.hid hb
    have HBl := Lib.hid hbl
    have HR3 := Lib.hid hr3
    have HB := Lib.hid hB
    have HK := Lib.hid hK
    have HTT := Lib.hid hT
    clear hT hy hb hbl h3 hr3 hB hmu hxs hK
    gi_wp2_with (refine ⟨trivial, ?_⟩; first
      | (gi_at_call 58; refine (callsIn_wide.2 HO.out).mono ?_; rintro e W1 ⟨ga, ca, rfl, o1, b1⟩; have O1 := Lib.hid o1; have B1 := Lib.hid b1; have zW := b1.size; clear o1 b1)
      | (gi_at_call 76; refine (callsIn_wide.2 (HS.out _ (HBl.out.two (Two.of_below B1.out) HBo.out) (by omega))).mono ?_; rintro e W2 ⟨rfl, _, b2, k2⟩; have z2 := b2.size; have hr2 := heap_other ((B1.out.block _ (by omega)).trans HR3.out) k2 (by omega) tab_ne8; have hc2 := (cells_at hr2 0).1; have hf2 := (cells_at hr2 0).2; simp at hc2; have HR2 := Lib.hid hr2; have B2 := Lib.hid b2; have K2 := Lib.hid k2; clear b2 k2 hr2))
    have hD2 : W2.heap[D]? = some (.deferred (some [])) := K2.out D _ ((B1.out.block D (Array.getElem?_eq_some_iff.1 HK.out).1).trans HK.out) (by simp; omega) (fun c fz e => by cases e)
    have hK' := (KeepsOthers.setCell W2 ⟨w.heap.size + 1, 0, none⟩ (.slice ga us.length ca)).same D _ hD2 rfl
    have O2 : OwnTab W2 W.heap.size (.slice ga us.length ca) us := O1.out.other K2.out (by omega)
    have BB : Below w.heap.size w W2 := (HB.out.trans (B1.out.mono (by omega))).trans (B2.out.mono (by omega))
    have hc3 : (W2.setCell ⟨w.heap.size + 1, 0, none⟩ (.slice ga us.length ca)).cell? ⟨w.heap.size + 1, 0, none⟩ = some (.slice ga us.length ca) := World.cell?_setCell_same _ _ _ hc2
    have hg := grownBy_putObj' (W2.setCell ⟨w.heap.size + 1, 0, none⟩ (.slice ga us.length ca)) D (.deferred none)
    have hrw : ∀ r, some D = some r → ∃ o : Obj, (W2.setCell ⟨w.heap.size + 1, 0, none⟩ (.slice ga us.length ca)).heap[r]? = some o ∧ o.isCells = false := fun r e => by cases e; exact ⟨_, hK', rfl⟩
    refine ⟨by simp, .inl ⟨_, _, rfl, run_takeDeferred hK', ?_⟩⟩
    have hc5 := cell_kept hc3 hg hrw
    refine ⟨.tuple #[.agg #[.slice ga us.length ca], .string ⟨y.toArray⟩], ?_, ga, ca, ?_, ?_, ?_⟩
    · simp [results, Tryz.results30, go_sem, hc5]
    · rw [← HTT.out]
    · rw [← HTT.out]
      exact OwnTab.kept (OwnTab.mono (B := W.heap.size) (ownsRow_setCell_below (a := ⟨w.heap.size + 1, 0, none⟩) O2 (by simp; omega) _) (by omega)) hg hrw
    · exact (BB.setCell (by simp) _).trans (belowK_b (w := w) (Nat.le_refl _) _ D _ _ (by omega) hK' rfl rfl)
  case stop =>
    intro D c pre W hD hpre hx
    exact hx.elim

end Go.Proofs.YthhojghckfkdhaaGreatDoor

/- RwrStream of the specification. Conditions: at most 2^22 ends; the text has at most 2^21 bytes. -/
namespace Go.Proofs.YthhojghckfkdhaaGreatDoor
open Go.RowKit Go.Sort

set_option maxRecDepth 100000 in
set_option maxHeartbeats 1600000 in
/-- RwrStream of what is no table, or of no line: nothing. -/
theorem specRwrStream_not (v : Value) (es : List (Int × Int)) (s : ByteArray) (w : World) (hn : es.length ≤ 4194304) (hs : s.size ≤ 2097152) (ht : TabAt w v es) (hno : (mapB es && strB s.data.toList) = false) :
    Calls Tryz.prog 31 #[.agg #[v], .string s] w fun e w' => e = .returned (.tuple #[.agg #[.slice none 0 0], .string ⟨#[]⟩]) ∧ Below w.heap.size w w' := by
  have HT := Lib.hid ht
  obtain ⟨ad, cap, rfl, hcap, hr⟩ := ht
  have hM : Hid (∀ w, TabAt w (.slice ad es.length cap) es → Calls Tryz.prog 20 #[.agg #[.slice ad es.length cap]] w fun e w' => e = .returned (.bool (mapB es)) ∧ Below w.heap.size w w') := fun w h => specMapOk_any _ es w hn h
  have hL : Hid (∀ w, Calls Tryz.prog 32 #[.string s] w fun e w' => e = .returned (.bool (strB s.data.toList)) ∧ Below w.heap.size w w') := fun w => specStr_any s w hs
  clear hr
  by_cases hm : mapB es = true
  · have hi : strB s.data.toList = false := by rw [hm] at hno; simpa using hno
    rw [hm] at hM
    rw [hi] at hL
    clear hno hm hi
    go_enter Tryz.func31, Tryz.ntmps31
    go_wp2_with (first
      | (go_at_call 20; refine (hM.out _ (HT.out.below (((Below.refl _ _).alloc (Nat.le_refl _) _).alloc (by simp) _))).mono ?_; rintro e w1 ⟨rfl, b1⟩; obtain ⟨cA, cB, b01, z1⟩ := cell_two b1; have r0 := (cB 0).1; have g0 := (cB 0).2; simp at r0; clear cA cB)
      | (go_at_call 32; refine (hL.out _).mono ?_; rintro e w2 ⟨rfl, b2⟩; replace g0 := box_frozen r0 g0 b2; replace r0 := box_below r0 b2; replace b01 := b01.trans (b2.mono (by omega))))
    refine bodyPost_ret (v := .tuple #[.agg #[.slice none 0 0], .string ⟨#[]⟩]) (by simp [results, Tryz.results31, go_sem, World.cell?_setCell_same _ _ _ r0]) rfl ⟨rfl, ?_⟩
    exact b01.setCell (by simp) _
  · have hm' : mapB es = false := by simpa using hm
    rw [hm'] at hM
    clear hno hm hm'
    go_enter Tryz.func31, Tryz.ntmps31
    go_wp2_with (go_at_call 20; refine (hM.out _ (HT.out.below (((Below.refl _ _).alloc (Nat.le_refl _) _).alloc (by simp) _))).mono ?_; rintro e w1 ⟨rfl, b1⟩; obtain ⟨cA, cB, b01, z1⟩ := cell_two b1; have r0 := (cB 0).1; have g0 := (cB 0).2; simp at r0; clear cA cB)
    refine bodyPost_ret (v := .tuple #[.agg #[.slice none 0 0], .string ⟨#[]⟩]) (by simp [results, Tryz.results31, go_sem, World.cell?_setCell_same _ _ _ r0]) rfl ⟨rfl, ?_⟩
    exact b01.setCell (by simp) _

set_option maxRecDepth 100000 in
set_option maxHeartbeats 1600000 in
/-- RwrStream of a table and a stream: the table then, in memory of the call's own, and the line. -/
theorem specRwrStream_ok (v : Value) (es : List (Int × Int)) (s : ByteArray) (w : World) (hn : es.length ≤ 4194304) (hs : s.size ≤ 2097152) (ht : TabAt w v es) (hm : mapB es = true) (hi : strB s.data.toList = true) :
    Calls Tryz.prog 31 #[.agg #[v], .string s] w fun e w' => ∃ g c, e = .returned (.tuple #[.agg #[.slice (some g) (streamE es (linesL s.data.toList)).1.length c], .string ⟨(streamE es (linesL s.data.toList)).2.toArray⟩]) ∧ OwnTab w' w.heap.size (.slice (some g) (streamE es (linesL s.data.toList)).1.length c) (streamE es (linesL s.data.toList)).1 ∧ Below w.heap.size w w' := by
  have HT := Lib.hid ht
  obtain ⟨ad, cap, rfl, hcap, hr⟩ := ht
  have hM : Hid (∀ w, TabAt w (.slice ad es.length cap) es → Calls Tryz.prog 20 #[.agg #[.slice ad es.length cap]] w fun e w' => e = .returned (.bool true) ∧ Below w.heap.size w w') := fun w h => by rw [← hm]; exact specMapOk_any _ es w hn h
  have hL : Hid (∀ w, Calls Tryz.prog 32 #[.string s] w fun e w' => e = .returned (.bool true) ∧ Below w.heap.size w w') := fun w => by rw [← hi]; exact specStr_any s w hs
  have hP0 : Hid (∀ (B : Nat) (ad : Addr) (cap : Nat) (w : World), B ≤ w.heap.size → OwnTab w B (.slice (some ad) es.length cap) es → Calls Tryz.prog 77 #[.agg #[.slice (some ad) es.length cap], .string s] w fun e w' => ∃ g c, e = .returned (.tuple #[.agg #[.slice (some g) (streamE es (linesL s.data.toList)).1.length c], .string ⟨(streamE es (linesL s.data.toList)).2.toArray⟩]) ∧ OwnTab w' B (.slice (some g) (streamE es (linesL s.data.toList)).1.length c) (streamE es (linesL s.data.toList)).1 ∧ Below w.heap.size w w') := fun B ad cap w h1 h2 => specStream_any B ad cap es s w hm hs h1 h2
  have hC : Hid (∀ wx, TabAt wx (.slice ad es.length cap) es → Calls Tryz.prog 60 #[.agg #[.slice ad es.length cap]] wx fun e w' => ∃ g c, e = .returned (.agg #[.slice (some g) es.length c]) ∧ OwnTab w' wx.heap.size (.slice (some g) es.length c) es ∧ Below wx.heap.size wx w') := fun wx h => specCopy_any _ es wx hn h
  obtain ⟨us, hus⟩ : ∃ us, us = (streamE es (linesL s.data.toList)).1 := ⟨_, rfl⟩
  obtain ⟨q, hq⟩ : ∃ q, q = (streamE es (linesL s.data.toList)).2.toArray := ⟨_, rfl⟩
  have hP : Hid (∀ (B : Nat) (ad : Addr) (cap : Nat) (w : World), B ≤ w.heap.size → OwnTab w B (.slice (some ad) es.length cap) es → Calls Tryz.prog 77 #[.agg #[.slice (some ad) es.length cap], .string s] w fun e w' => ∃ g c, e = .returned (.tuple #[.agg #[.slice (some g) us.length c], .string ⟨q⟩]) ∧ OwnTab w' B (.slice (some g) us.length c) us ∧ Below w.heap.size w w') := by rw [hus, hq]; exact hP0
  rw [← hus, ← hq]
  clear hr hm hi hus hq hP0
  go_enter Tryz.func31, Tryz.ntmps31
  go_upto_region 3 with (first
    | (go_at_call 20; refine (hM.out _ (HT.out.below (((Below.refl _ _).alloc (Nat.le_refl _) _).alloc (by simp) _))).mono ?_; rintro e w1 ⟨rfl, b1⟩; obtain ⟨cA, cB, b01, z1⟩ := cell_two b1; have t0 := (cA 0).1; have r0 := (cB 0).1; have g0 := (cB 0).2; simp at t0 r0; clear cA cB b1)
    | (go_at_call 32; refine (hL.out _).mono ?_; rintro e w2 ⟨rfl, b2⟩; replace t0 := box_below t0 b2; replace g0 := box_frozen r0 g0 b2; replace r0 := box_below r0 b2; replace b01 := b01.trans (b2.mono (by omega)); replace z1 := Nat.le_trans z1 b2.size))
  have B01 := Lib.hid b01
  clear b01
  go_wp2_with fail
  (go_at_call 60; refine (hC.out _ (HT.out.below B01.out)).mono ?_; rintro e w3 ⟨g3, c3, rfl, o3, b3⟩; have O3 := Lib.hid o3; have B3 := Lib.hid b3; clear o3 b3)
  have r3 : w3.cell? ⟨w.heap.size + 1, 0, none⟩ = some (.slice none 0 0) := (by rw [B3.out.cell (by simp; omega)]; exact r0)
  have g03 : w3.frozen? ⟨w.heap.size + 1, 0, none⟩ = false := (by rw [B3.out.frozen (by simp; omega)]; exact g0)
  have z3 := B3.out.size
  go_wp2_with fail
  (go_at_call 77; refine (hP.out w2.heap.size _ _ _ B3.out.size O3.out).mono ?_; rintro e w4 ⟨g4, c4, rfl, o4, b4⟩; have O4 := Lib.hid o4; have B4 := Lib.hid b4; clear o4 b4)
  have r4 : w4.cell? ⟨w.heap.size + 1, 0, none⟩ = some (.slice none 0 0) := (by rw [B4.out.cell (by simp; omega)]; exact r3)
  have g04 : w4.frozen? ⟨w.heap.size + 1, 0, none⟩ = false := (by rw [B4.out.frozen (by simp; omega)]; exact g03)
  go_wp2_with fail
  refine bodyPost_ret (v := .tuple #[.agg #[.slice (some g4) us.length c4], .string ⟨q⟩]) (by simp [results, Tryz.results31, go_sem, World.cell?_setCell_same _ _ _ r4]) rfl ⟨_, _, rfl, ?_, ?_⟩
  · exact OwnTab.mono (B := w2.heap.size) (ownsRow_setCell_below O4.out (by simp; omega) _) (by omega)
  · exact ((B01.out.trans (B3.out.mono (by omega))).trans (B4.out.mono (by omega))).setCell (by simp) _

end Go.Proofs.YthhojghckfkdhaaGreatDoor

/- RwrStream of the program and of the specification, in one form. Conditions: at most 2^22 ends; all numbers are ints; the text has at most 2^21 bytes; the variables that are read hold what they are laid with. -/
namespace Go.Proofs.YthhojghckfkdhaaGreatDoor
open Go.RowKit

/-- What RwrStream answers. -/
def strA (es : List (Int × Int)) (l : List UInt8) : List (Int × Int) × List UInt8 := if mapB es = true ∧ strB l = true then streamE es (linesL l) else ([], [])

set_option maxRecDepth 100000 in
set_option maxHeartbeats 1600000 in
theorem implRwrStream_not (v : Value) (es : List (Int × Int)) (s : ByteArray) (w : World) (hn : es.length ≤ 4194304) (hs : s.size ≤ 2097152) (hwf : wfE es) (ht : TabAt w v es) (hno : (mapB es && strB s.data.toList) = false) :
    Calls Tryz.prog 30 #[.agg #[v], .string s] w fun e w' => e = .returned (.tuple #[.agg #[.slice none 0 0], .string ⟨#[]⟩]) ∧ Below w.heap.size w w' := by
  have HT := Lib.hid ht
  obtain ⟨ad, cap, rfl, hcap, hr⟩ := ht
  have hM : Hid (∀ w, TabAt w (.slice ad es.length cap) es → Calls Tryz.prog 24 #[.agg #[.slice ad es.length cap]] w fun e w' => e = .returned (.bool (mapB es)) ∧ Below w.heap.size w w') := fun w h => implMapOk_any _ es w hn hwf h
  have hL : Hid (∀ w, Calls Tryz.prog 73 #[.string s] w fun e w' => e = .returned (.bool (strB s.data.toList)) ∧ Below w.heap.size w w') := fun w => implStr_any s w hs
  clear hr hwf
  by_cases hm : mapB es = true
  · have hi : strB s.data.toList = false := by rw [hm] at hno; simpa using hno
    rw [hm] at hM
    rw [hi] at hL
    clear hno hm
    go_enter Tryz.func30, Tryz.ntmps30
    go_wp2_with (first
      | (go_at_call 24; refine (hM.out _ (HT.out.below (((Below.refl _ _).alloc (Nat.le_refl _) _).alloc (by simp) _))).mono ?_; rintro e w1 ⟨rfl, b1⟩; obtain ⟨_, cB, b01, z1⟩ := cell_two b1; have r0 := (cB 0).1; have g0 := (cB 0).2; simp at r0; clear cB)
      | (go_at_call 73; refine (hL.out _).mono ?_; rintro e w2 ⟨rfl, b2⟩; replace g0 := box_frozen r0 g0 b2; replace r0 := box_below r0 b2; replace b01 := b01.trans (b2.mono (by omega))))
    refine bodyPost_ret (v := .tuple #[.agg #[.slice none 0 0], .string ⟨#[]⟩]) (by simp [results, Tryz.results30, go_sem, World.cell?_setCell_same _ _ _ r0]) rfl ⟨rfl, ?_⟩
    exact b01.setCell (by simp) _
  · have hm' : mapB es = false := by simpa using hm
    rw [hm'] at hM
    clear hno hm hm'
    go_enter Tryz.func30, Tryz.ntmps30
    go_wp2_with (go_at_call 24; refine (hM.out _ (HT.out.below (((Below.refl _ _).alloc (Nat.le_refl _) _).alloc (by simp) _))).mono ?_; rintro e w1 ⟨rfl, b1⟩; obtain ⟨_, cB, b01, z1⟩ := cell_two b1; have r0 := (cB 0).1; have g0 := (cB 0).2; simp at r0; clear cB)
    refine bodyPost_ret (v := .tuple #[.agg #[.slice none 0 0], .string ⟨#[]⟩]) (by simp [results, Tryz.results30, go_sem, World.cell?_setCell_same _ _ _ r0]) rfl ⟨rfl, ?_⟩
    exact b01.setCell (by simp) _

theorem implStream_ok (v : Value) (es : List (Int × Int)) (s : ByteArray) (w : World) (hn : es.length ≤ 4194304) (hs : s.size ≤ 2097152) (ht : TabAt w v es) (hm : mapB es = true) (hl : strB s.data.toList = true) (hv : VarsOk w) :
    Calls Tryz.prog 30 #[.agg #[v], .string s] w fun e w' => ∃ g c, e = .returned (.tuple #[.agg #[.slice g (streamE es (linesL s.data.toList)).1.length c], .string ⟨(streamE es (linesL s.data.toList)).2.toArray⟩]) ∧ OwnTab w' w.heap.size (.slice g (streamE es (linesL s.data.toList)).1.length c) (streamE es (linesL s.data.toList)).1 ∧ Below w.heap.size w w' :=
  callsIn_wide.1 (implStream_in 3 (by omega) v es s w hn hs ht hm hl hv)

theorem strA_yes {es : List (Int × Int)} {l : List UInt8} (h : (mapB es && strB l) = true) : strA es l = streamE es (linesL l) := if_pos (by simpa using h)
theorem strA_not {es : List (Int × Int)} {l : List UInt8} (h : (mapB es && strB l) = false) : strA es l = ([], []) := if_neg (by simpa using h)
theorem strA_le (es : List (Int × Int)) (l : List UInt8) : (strA es l).1.length ≤ 6 := by
  by_cases h : (mapB es && strB l) = true
  · rw [strA_yes h]
    exact mapB_le (streamE_ok (by simp at h; exact h.1) _)
  · rw [strA_not (by simpa using h)]
    simp

theorem specStrA (v : Value) (es : List (Int × Int)) (s : ByteArray) (w : World) (hn : es.length ≤ 4194304) (hs : s.size ≤ 2097152) (ht : TabAt w v es) :
    Calls Tryz.prog 31 #[.agg #[v], .string s] w fun e w' => ∃ g c, e = .returned (.tuple #[.agg #[.slice g (strA es s.data.toList).1.length c], .string ⟨(strA es s.data.toList).2.toArray⟩]) ∧ FreshTab w' w.heap.size (.slice g (strA es s.data.toList).1.length c) (strA es s.data.toList).1 ∧ Below w.heap.size w w' := by
  by_cases h : (mapB es && strB s.data.toList) = true
  · rw [strA_yes h]
    simp only [Bool.and_eq_true] at h
    refine (specRwrStream_ok v es s w hn hs ht h.1 h.2).mono ?_
    rintro e w' ⟨g, c, rfl, h1, h2⟩
    exact ⟨_, _, rfl, h1.fresh, h2⟩
  · have h' : (mapB es && strB s.data.toList) = false := by simpa using h
    rw [strA_not h']
    refine (specRwrStream_not v es s w hn hs ht h').mono ?_
    rintro e w' ⟨rfl, h2⟩
    exact ⟨_, _, rfl, FreshTab.nil _ _, h2⟩

theorem implStrA (v : Value) (es : List (Int × Int)) (s : ByteArray) (w : World) (hn : es.length ≤ 4194304) (hs : s.size ≤ 2097152) (hwf : wfE es) (ht : TabAt w v es) (hv : VarsOk w) :
    Calls Tryz.prog 30 #[.agg #[v], .string s] w fun e w' => ∃ g c, e = .returned (.tuple #[.agg #[.slice g (strA es s.data.toList).1.length c], .string ⟨(strA es s.data.toList).2.toArray⟩]) ∧ FreshTab w' w.heap.size (.slice g (strA es s.data.toList).1.length c) (strA es s.data.toList).1 ∧ Below w.heap.size w w' := by
  by_cases h : (mapB es && strB s.data.toList) = true
  · rw [strA_yes h]
    simp only [Bool.and_eq_true] at h
    refine (implStream_ok v es s w hn hs ht h.1 h.2 hv).mono ?_
    rintro e w' ⟨g, c, rfl, h1, h2⟩
    exact ⟨_, _, rfl, h1.fresh, h2⟩
  · have h' : (mapB es && strB s.data.toList) = false := by simpa using h
    rw [strA_not h']
    refine (implRwrStream_not v es s w hn hs hwf ht h').mono ?_
    rintro e w' ⟨rfl, h2⟩
    exact ⟨_, _, rfl, FreshTab.nil _ _, h2⟩

end Go.Proofs.YthhojghckfkdhaaGreatDoor
