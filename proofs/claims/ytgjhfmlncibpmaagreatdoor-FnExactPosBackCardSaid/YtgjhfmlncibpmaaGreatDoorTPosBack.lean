/- PosBack of the program answers as PosBack of the specification, at every argument; the arguments stay as they were. The card: the variables that are read are tied to the program's text. No condition beside what the law sets aside and the card says. (Several texts, joined: SRwr, EqEnd, LawTab, ToEnd, ToTab, MarkTab, Fresh, Box, IRwr, SLine, SStr, IStrm, SStrL, IStrmA, RdV, Flat, Spans, SpMem, SpWith, SPairs, ILines, IPairs, SSpans, MarkSp, Search, IThere, IOut, SBack, SOut, PosOB, ArgTab, ArgOwn, LawPosBack, OpenTab, HoldPosBack.) -/
import Derived.Test.YtgjhfmlncibpmaaGreatDoorSBak
import Derived.Test.YtgjhfmlncibpmaaGreatDoorCell2
import Derived.Test.YtgjhfmlncibpmaaGreatDoorBase
import Derived.Test.YtgjhfmlncibpmaaGreatDoorSMap
import Derived.Test.YtgjhfmlncibpmaaGreatDoorOwnEnds
import Derived.OwnWalk
import Derived.Deep.RegionHeld
import Derived.Test.YtgjhfmlncibpmaaGreatDoorIGive
import Derived.Test.YtgjhfmlncibpmaaGreatDoorIMapO
import Derived.Test.YtgjhfmlncibpmaaGreatDoorISays
import Derived.Test.YtgjhfmlncibpmaaGreatDoorILin
import Derived.Test.YtgjhfmlncibpmaaGreatDoorGen
import Derived.Test.YtgjhfmlncibpmaaGreatDoorLines
import Derived.Test.YtgjhfmlncibpmaaGreatDoorSLin
import Derived.Deep.RegionHeld3
import Derived.Deep.DeepCutAuto
import Derived.Test.YtgjhfmlncibpmaaGreatDoorISeqS
import Derived.Test.YtgjhfmlncibpmaaGreatDoorIBuild
import Derived.Test.YtgjhfmlncibpmaaGreatDoorIStr
import Derived.RangeFuncWrites
import Derived.Maps.AppendAt
import Derived.Deep.AppendLies
import Derived.Deep.RegionLaw
import Derived.Test.YtgjhfmlncibpmaaGreatDoorISeq
import Derived.Deep.RegionWith
import Derived.Shelf.SlSorted.Search
import Derived.Test.YtgjhfmlncibpmaaGreatDoorProg
import Derived.Test.YtgjhfmlncibpmaaGreatDoorChecked
import Derived.RegionTactic
import Derived.Deep.SlicePairs
import Derived.Lib.SmallJoins
import Derived.ChangeSame
import Derived.Test.YtgjhfmlncibpmaaGreatDoorCards
import Derived.Test.YtgjhfmlncibpmaaGreatDoorTie
import Derived.ProofKit
import Derived.JoinedOf
import Derived.JoinedAt
import Derived.RowKit3
import Derived.RowKitTokens
import Derived.LaidMore
import Derived.Stop.LaidErr
import Derived.Stop.Joined
import Derived.SevenTiedAt
import Derived.OpenShut
import Derived.ShutString
import Derived.ChangeOld
import Derived.Below
import Derived.Carry

/- l3Line of the specification: a line as it goes outside, and the table then. Conditions: at most 2^22 ends; the text has at most 2^21 bytes. -/
namespace Go.Proofs.YtgjhfmlncibpmaaGreatDoor
open Go.RowKit Go.Sort

def noneL : List UInt8 := [110, 111, 110, 101]
/-- A line as it goes outside, and the table then. -/
def lineE (es : List (Int × Int)) (l : List UInt8) : List (Int × Int) × List UInt8 := match saysE l with | none => (es, l) | some e => if (putE es e).2 = 0 then ((putE es e).1, noneL) else ((putE es e).1, lpL 50 (putE es e).2)

theorem specPut_new_or (ad : Addr) (cap : Nat) (es : List (Int × Int)) (a p : Int) (w : World) (hn : es.length ≤ 4194304) (ht : TabAt w (.slice (some ad) es.length cap) es) :
    Calls Tryz.prog 74 #[.agg #[.slice (some ad) es.length cap], .agg #[.int .i64 a, .int .i64 p]] w fun e w' => ∃ g c, e = .returned (.tuple #[.agg #[.slice (some g) (putE es (a, p)).1.length c], .int .i64 (putE es (a, p)).2]) ∧ ((g = ad ∧ c = cap ∧ (putE es (a, p)).1 = es) ∨ OwnTab w' w.heap.size (.slice (some g) (putE es (a, p)).1.length c) (putE es (a, p)).1) ∧ Below w.heap.size w w' := by
  by_cases h : 0 < portI es (a, p)
  · rw [show putE es (a, p) = (es, portI es (a, p)) from if_pos h]
    refine (specPut_has ad cap es a p w hn ht h).mono ?_
    rintro e w' ⟨rfl, hb⟩
    exact ⟨_, _, rfl, .inl ⟨rfl, rfl, rfl⟩, hb⟩
  · have h0 := portI_zero h
    by_cases h6 : es.length = 6
    · rw [show putE es (a, p) = (es, 0) from by unfold putE; rw [if_neg h, if_pos h6]]
      refine (specPut_full ad cap es a p w hn ht h0 h6).mono ?_
      rintro e w' ⟨rfl, hb⟩
      exact ⟨_, _, rfl, .inl ⟨rfl, rfl, rfl⟩, hb⟩
    · rw [show putE es (a, p) = (es ++ [(a, p)], 500 + (es.length : Int)) from by unfold putE; rw [if_neg h, if_neg h6]]
      refine (specPut_new ad cap es a p w hn ht h0 h6).mono ?_
      rintro e w' ⟨g, c, rfl, h1, hb⟩
      exact ⟨g, c, by simp, .inr (by simpa using h1), hb⟩

set_option maxRecDepth 100000 in
set_option maxHeartbeats 1600000 in
theorem specLine_any (B : Nat) (ad : Addr) (cap : Nat) (es : List (Int × Int)) (s : ByteArray) (w : World) (hn : es.length ≤ 4194304) (hs : s.size ≤ 2097152) (hB : B ≤ w.heap.size) (ho : OwnTab w B (.slice (some ad) es.length cap) es) :
    Calls Tryz.prog 57 #[.agg #[.slice (some ad) es.length cap], .string s] w fun e w' => ∃ g c, e = .returned (.tuple #[.agg #[.slice (some g) (lineE es s.data.toList).1.length c], .string ⟨(lineE es s.data.toList).2.toArray⟩]) ∧ OwnTab w' B (.slice (some g) (lineE es s.data.toList).1.length c) (lineE es s.data.toList).1 ∧ Below w.heap.size w w' := by
  have HO := Lib.hid ho
  clear ho
  rcases hb : saysE s.data.toList with _ | ⟨a, p⟩
  · have HB : Hid (∀ w, Calls Tryz.prog 73 #[.string s] w fun e w' => e = .returned (.tuple #[.agg #[.int .i64 0, .int .i64 0], .bool false]) ∧ Below w.heap.size w w') := fun w => by have := specSays_any s w hs; rw [hb] at this; exact this
    have HE : Hid (lineE es s.data.toList = (es, s.data.toList)) := by show lineE _ _ = _; unfold lineE; rw [hb]
    clear hb
    rw [HE.out, str_same]
    go_enter Tryz.func57, Tryz.ntmps57
    go_wp2_with fail
    (go_at_call 73; refine (HB.out _).mono ?_; rintro e w1 ⟨rfl, b1⟩; obtain ⟨cA, cB, b01, z1⟩ := cell_two b1; have t0 := (cA 0).1; have r0 := (cB 0).1; have g0 := (cB 0).2; simp at t0 r0; have B1 := Lib.hid b01; clear cA cB b1 b01)
    have t1 : (w1.alloc (.cells #[.int .i64 0, .int .i64 0] 55)).cell? ⟨w.heap.size, 0, none⟩ = some (.slice (some ad) es.length cap) := (by rw [cell_alloc_lt (by omega)]; exact t0)
    have r1 : (w1.alloc (.cells #[.int .i64 0, .int .i64 0] 55)).cell? ⟨w.heap.size + 1, 0, none⟩ = some (.slice none 0 0) := (by rw [cell_alloc_lt (by omega)]; exact r0)
    have g1 : (w1.alloc (.cells #[.int .i64 0, .int .i64 0] 55)).frozen? ⟨w.heap.size + 1, 0, none⟩ = false := (by rw [frozen_alloc_lt (by omega)]; exact g0)
    go_wp2_with fail
    refine bodyPost_ret (v := .tuple #[.agg #[.slice (some ad) es.length cap], .string s]) (by simp [results, Tryz.results57, go_sem, World.cell?_setCell_same _ _ _ r1]) rfl ?_
    exact ⟨_, _, rfl, HO.out.below ((B1.out.alloc B1.out.size _).setCell (by simp) _), (B1.out.alloc B1.out.size _).setCell (by simp) _⟩
  · obtain ⟨us, hus⟩ : ∃ us, us = (putE es (a, p)).1 := ⟨_, rfl⟩
    obtain ⟨q, hq⟩ : ∃ q, q = (putE es (a, p)).2 := ⟨_, rfl⟩
    have hP : Hid (∀ (w : World), TabAt w (.slice (some ad) es.length cap) es → Calls Tryz.prog 74 #[.agg #[.slice (some ad) es.length cap], .agg #[.int .i64 a, .int .i64 p]] w fun e w' => ∃ g c, e = .returned (.tuple #[.agg #[.slice (some g) us.length c], .int .i64 q]) ∧ ((g = ad ∧ c = cap ∧ us = es) ∨ OwnTab w' w.heap.size (.slice (some g) us.length c) us) ∧ Below w.heap.size w w') := fun w h => by rw [hus, hq]; exact specPut_new_or ad cap es a p w hn h
    have HB : Hid (∀ w, Calls Tryz.prog 73 #[.string s] w fun e w' => e = .returned (.tuple #[.agg #[.int .i64 a, .int .i64 p], .bool true]) ∧ Below w.heap.size w w') := fun w => by have := specSays_any s w hs; rw [hb] at this; exact this
    by_cases h0 : q = 0
    · have HE : Hid (lineE es s.data.toList = (us, noneL)) := by show lineE _ _ = _; unfold lineE; rw [hb]; simp only; rw [← hq, if_pos h0, hus]
      clear hb hus hq
      subst h0
      rw [HE.out]
      go_enter Tryz.func57, Tryz.ntmps57
      go_wp2_with fail
      (go_at_call 73; refine (HB.out _).mono ?_; rintro e w1 ⟨rfl, b1⟩; obtain ⟨cA, cB, b01, z1⟩ := cell_two b1; have t0 := (cA 0).1; have r0 := (cB 0).1; have g0 := (cB 0).2; simp at t0 r0; have B1 := Lib.hid b01; clear cA cB b1 b01)
      have t1 : (w1.alloc (.cells #[.int .i64 a, .int .i64 p] 55)).cell? ⟨w.heap.size, 0, none⟩ = some (.slice (some ad) es.length cap) := (by rw [cell_alloc_lt (by omega)]; exact t0)
      have r1 : (w1.alloc (.cells #[.int .i64 a, .int .i64 p] 55)).cell? ⟨w.heap.size + 1, 0, none⟩ = some (.slice none 0 0) := (by rw [cell_alloc_lt (by omega)]; exact r0)
      have g1 : (w1.alloc (.cells #[.int .i64 a, .int .i64 p] 55)).frozen? ⟨w.heap.size + 1, 0, none⟩ = false := (by rw [frozen_alloc_lt (by omega)]; exact g0)
      go_wp2_with fail
      (go_at_call 74; refine (hP.out _ (HO.out.tab.below (B1.out.alloc B1.out.size _))).mono ?_; rintro e w2 ⟨g2, c2, rfl, o2, b2⟩; have O2 := Lib.hid o2; have B2 := Lib.hid b2; clear o2 b2)
      have r2 : w2.cell? ⟨w.heap.size + 1, 0, none⟩ = some (.slice none 0 0) := (by rw [B2.out.cell (by simp; omega)]; exact r1)
      have g02 : w2.frozen? ⟨w.heap.size + 1, 0, none⟩ = false := (by rw [B2.out.frozen (by simp; omega)]; exact g1)
      have z2 := B2.out.size
      have z2 : w1.heap.size + 1 ≤ w2.heap.size := by simpa using z2
      have r3 : (w2.alloc (.cells #[.slice (some g2) us.length c2] 30)).cell? ⟨w.heap.size + 1, 0, none⟩ = some (.slice none 0 0) := (by rw [cell_alloc_lt (by show _ < _; omega)]; exact r2)
      have g03 : (w2.alloc (.cells #[.slice (some g2) us.length c2] 30)).frozen? ⟨w.heap.size + 1, 0, none⟩ = false := (by rw [frozen_alloc_lt (by show _ < _; omega)]; exact g02)
      go_wp2_with fail
      refine bodyPost_ret (v := .tuple #[.agg #[.slice (some g2) us.length c2], .string ⟨noneL.toArray⟩]) (by simp [results, Tryz.results57, go_sem, World.cell?_setCell_same _ _ _ r3, noneL]) rfl ?_
      have BF : Below w.heap.size w ((w2.alloc (.cells #[.slice (some g2) us.length c2] 30)).setCell ⟨w.heap.size + 1, 0, none⟩ (.slice (some g2) us.length c2)) := (((B1.out.alloc B1.out.size _).trans (B2.out.mono (by simp; omega))).alloc (by omega) _).setCell (by simp) _
      refine ⟨_, _, rfl, ?_, BF⟩
      rcases O2.out with ⟨rfl, rfl, rfl⟩ | o2
      · exact HO.out.below BF
      · exact OwnTab.mono (B := w1.heap.size) (ownsRow_setCell_below (OwnTab.below (OwnTab.mono o2 (by simp)) ((Below.refl _ _).alloc (Nat.le_refl _) _)) (by simp; omega) _) (by omega)
    · have HE : Hid (lineE es s.data.toList = (us, lpL 50 q)) := by show lineE _ _ = _; unfold lineE; rw [hb]; simp only; rw [← hq, if_neg h0, hus]
      clear hb hus hq
      rw [HE.out]
      go_enter Tryz.func57, Tryz.ntmps57
      go_wp2_with fail
      (go_at_call 73; refine (HB.out _).mono ?_; rintro e w1 ⟨rfl, b1⟩; obtain ⟨cA, cB, b01, z1⟩ := cell_two b1; have t0 := (cA 0).1; have r0 := (cB 0).1; have g0 := (cB 0).2; simp at t0 r0; have B1 := Lib.hid b01; clear cA cB b1 b01)
      have t1 : (w1.alloc (.cells #[.int .i64 a, .int .i64 p] 55)).cell? ⟨w.heap.size, 0, none⟩ = some (.slice (some ad) es.length cap) := (by rw [cell_alloc_lt (by omega)]; exact t0)
      have r1 : (w1.alloc (.cells #[.int .i64 a, .int .i64 p] 55)).cell? ⟨w.heap.size + 1, 0, none⟩ = some (.slice none 0 0) := (by rw [cell_alloc_lt (by omega)]; exact r0)
      have g1 : (w1.alloc (.cells #[.int .i64 a, .int .i64 p] 55)).frozen? ⟨w.heap.size + 1, 0, none⟩ = false := (by rw [frozen_alloc_lt (by omega)]; exact g0)
      go_wp2_with fail
      (go_at_call 74; refine (hP.out _ (HO.out.tab.below (B1.out.alloc B1.out.size _))).mono ?_; rintro e w2 ⟨g2, c2, rfl, o2, b2⟩; have O2 := Lib.hid o2; have B2 := Lib.hid b2; clear o2 b2)
      have r2 : w2.cell? ⟨w.heap.size + 1, 0, none⟩ = some (.slice none 0 0) := (by rw [B2.out.cell (by simp; omega)]; exact r1)
      have g02 : w2.frozen? ⟨w.heap.size + 1, 0, none⟩ = false := (by rw [B2.out.frozen (by simp; omega)]; exact g1)
      have z2 := B2.out.size
      have z2 : w1.heap.size + 1 ≤ w2.heap.size := by simpa using z2
      have r3 : (w2.alloc (.cells #[.slice (some g2) us.length c2] 30)).cell? ⟨w.heap.size + 1, 0, none⟩ = some (.slice none 0 0) := (by rw [cell_alloc_lt (by show _ < _; omega)]; exact r2)
      have g03 : (w2.alloc (.cells #[.slice (some g2) us.length c2] 30)).frozen? ⟨w.heap.size + 1, 0, none⟩ = false := (by rw [frozen_alloc_lt (by show _ < _; omega)]; exact g02)
      go_wp2_with fail
      have BF : Hid (Below w.heap.size w (w2.alloc (.cells #[.slice (some g2) us.length c2] 30))) := (((B1.out.alloc B1.out.size _).trans (B2.out.mono (by simp; omega))).alloc (by omega) _)
      have x3 : (w2.alloc (.cells #[.slice (some g2) us.length c2] 30)).cell? ⟨w2.heap.size, 0, none⟩ = some (.slice (some g2) us.length c2) := (cell_new _ _ _ 0).1
      have z3 : w2.heap.size + 1 ≤ (w2.alloc (.cells #[.slice (some g2) us.length c2] 30)).heap.size := by simp
      have O3 : Hid ((g2 = ad ∧ c2 = cap ∧ us = es) ∨ OwnTab (w2.alloc (.cells #[.slice (some g2) us.length c2] 30)) (w1.heap.size + 1) (.slice (some g2) us.length c2) us) := O2.out.imp id (fun o2 => OwnTab.below (OwnTab.mono o2 (by simp)) ((Below.refl _ _).alloc (Nat.le_refl _) _))
      obtain ⟨w3, hw3⟩ : ∃ w3, w3 = w2.alloc (.cells #[.slice (some g2) us.length c2] 30) := ⟨_, rfl⟩
      obtain ⟨k2, hk2⟩ : ∃ k2, k2 = w2.heap.size := ⟨_, rfl⟩
      rw [← hw3] at BF x3 z3 O3 r3 g03
      rw [← hk2] at x3 z3 z2
      rw [← hw3, ← hk2]
      clear hw3 hk2 r2 g02 O2 B2 B1 r0 t0 g0 t1 r1 g1
      go_region_with (go_at_call 75; refine (specLinPort_any 50 q _).mono ?_; rintro e w4 ⟨rfl, b4⟩; have B4 : Hid (Below w3.heap.size w3 w4) := ((Below.refl _ _).drew).trans b4; have x4 : w4.cell? ⟨k2, 0, none⟩ = some (.slice (some g2) us.length c2) := (by rw [B4.out.cell (by simp; omega)]; exact x3); have r4 : w4.cell? ⟨w.heap.size + 1, 0, none⟩ = some (.slice none 0 0) := (by rw [B4.out.cell (by simp; omega)]; exact r3); have g04 : w4.frozen? ⟨w.heap.size + 1, 0, none⟩ = false := (by rw [B4.out.frozen (by simp; omega)]; exact g03))
      all_goals
        go_wp2_with fail
        refine bodyPost_ret (v := .tuple #[.agg #[.slice (some g2) us.length c2], .string ⟨(lpL 50 q).toArray⟩]) (by simp [results, Tryz.results57, go_sem, World.cell?_setCell_same _ _ _ r4]) rfl ?_
        have BG : Below w.heap.size w (w4.setCell ⟨w.heap.size + 1, 0, none⟩ (.slice (some g2) us.length c2)) := (BF.out.trans (B4.out.mono BF.out.size)).setCell (by simp) _
        refine ⟨_, _, rfl, ?_, BG⟩
        rcases O3.out with ⟨rfl, rfl, rfl⟩ | o3
        · exact HO.out.below BG
        · exact OwnTab.mono (B := w1.heap.size) (ownsRow_setCell_below (OwnTab.below (OwnTab.mono o3 (by simp)) B4.out) (by simp; omega) _) (by omega)

end Go.Proofs.YtgjhfmlncibpmaaGreatDoor

/- How the law compares two ends: of one end it says that it is the same. No condition. -/
namespace Go.Proofs.YtgjhfmlncibpmaaGreatDoor
open Go.RowKit

set_option maxRecDepth 100000 in
set_option maxHeartbeats 800000 in
theorem eqEnd_same (a p : Int) (w : World) :
    Calls Tryz.prog 50 #[.agg #[.int .i64 a, .int .i64 p], .agg #[.int .i64 a, .int .i64 p]] w fun e w' => e = .returned (.bool true) ∧ Below w.heap.size w w' := by
  go_enter Tryz.func50, Tryz.ntmps50
  go_wp2
  go_ret
  exact ⟨rfl, ((Below.refl _ _).alloc (Nat.le_refl _) _).alloc (by simp) _⟩

end Go.Proofs.YtgjhfmlncibpmaaGreatDoor

/- The laws' own words on tables of ends: their size, whether two are the same. Condition: at most 2^22 ends. -/
namespace Go.Proofs.YtgjhfmlncibpmaaGreatDoor
open Go.RowKit Go.Sort

theorem lawSzS_any (ad : Option Addr) (n cap : Nat) (left : Int) (w : World) (hn : n ≤ 4611686018427387904) (h0 : 0 ≤ left) (h1 : left ≤ 4194304) :
    Calls Tryz.prog 19 #[.slice ad n cap, .int .i64 left] w fun e w' => e = .returned (.int .i64 (if left < (n : Int) then -1 else left - n)) ∧ w = w' := by
  by_cases h : left < (n : Int)
  all_goals
    go_enter Tryz.func19, Tryz.ntmps19
    go_wp2
    go_ret
    exact ⟨ret_int (by first | rfl | (rw [if_pos h]; rfl) | (rw [if_neg (by omega)]) | (rw [if_neg (by omega)]; rfl)), rfl⟩

theorem lawSz_any (v : Value) (es : List (Int × Int)) (left : Int) (w : World) (hn : es.length ≤ 4611686018427387904) (h0 : 0 ≤ left) (h1 : left ≤ 4194304) (ht : TabAt w v es) :
    Calls Tryz.prog 6 #[.agg #[v], .int .i64 left] w fun e w' => e = .returned (.int .i64 (if left < (es.length : Int) then -1 else left - es.length)) ∧ Below w.heap.size w w' := by
  obtain ⟨ad, cap, rfl, _, _⟩ := ht
  by_cases h : left < (es.length : Int)
  · have hc : ∀ w, Calls Tryz.prog 19 #[.slice ad es.length cap, .int .i64 left] w fun e w' => e = .returned (.int .i64 (-1)) ∧ w = w' := fun w => by
      have := lawSzS_any ad es.length cap left w hn h0 h1
      rwa [if_pos h] at this
    have HC := Lib.hid hc
    clear hc
    rw [if_pos h]
    clear h
    go_enter Tryz.func6, Tryz.ntmps6
    go_wp2_with (go_at_call 19; refine (HC.out _).mono ?_; rintro e w' ⟨rfl, rfl⟩)
    go_ret
    exact ⟨rfl, (Below.refl _ _).alloc (Nat.le_refl _) _⟩
  · obtain ⟨q, hq⟩ : ∃ q : Int, q = left - es.length := ⟨_, rfl⟩
    have hc : ∀ w, Calls Tryz.prog 19 #[.slice ad es.length cap, .int .i64 left] w fun e w' => e = .returned (.int .i64 q) ∧ w = w' := fun w => by
      have := lawSzS_any ad es.length cap left w hn h0 h1
      rwa [if_neg h, ← hq] at this
    have HC := Lib.hid hc
    have h0q : 0 ≤ q := by omega
    clear hc
    rw [if_neg h, ← hq]
    clear h hq
    go_enter Tryz.func6, Tryz.ntmps6
    go_wp2_with (go_at_call 19; refine (HC.out _).mono ?_; rintro e w' ⟨rfl, rfl⟩)
    go_ret
    exact ⟨rfl, (Below.refl _ _).alloc (Nat.le_refl _) _⟩

set_option maxRecDepth 100000 in
set_option maxHeartbeats 800000 in
theorem eqEnds_same (u v : Value) (es : List (Int × Int)) (w : World) (hn : es.length ≤ 4194304) (hu : TabAt w u es) (hv : TabAt w v es) :
    Calls Tryz.prog 27 #[u, v] w fun e w' => e = .returned (.bool true) ∧ Below w.heap.size w w' := by
  obtain ⟨ad, cap, rfl, hcap, hr⟩ := hu
  obtain ⟨bd, cbp, rfl, hcbp, hs⟩ := hv
  have HR := Lib.hid hr
  have HS := Lib.hid hs
  clear hr hs
  go_enter Tryz.func27, Tryz.ntmps27
  go_wp2_with fail
  go_loopw [5] (fun i wr => ∃ k : Nat, k ≤ es.length ∧ i = .int .i64 k ∧ Below w.heap.size w wr) (fun i _ => es.length - (intOf i).toNat)
  case atStart => exact ⟨0, Nat.zero_le _, rfl, Below.refl _ _⟩
  case round =>
    obtain ⟨k, hk, rfl, hb⟩ := hrel
    by_cases hlt : k < es.length
    · obtain ⟨g, rfl, hrow⟩ := HR.out (by omega)
      obtain ⟨g', rfl, hrow'⟩ := HS.out (by omega)
      obtain ⟨r0, r1⟩ := (hrow.below hb (hrow.lt (by omega))) k hlt
      obtain ⟨s0, s1⟩ := (hrow'.below hb (hrow'.lt (by omega))) k hlt
      obtain ⟨⟨a, p⟩, hap⟩ : ∃ x, x = es[k] := ⟨_, rfl⟩
      rw [← hap] at r0 r1 s0 s1
      simp only at r0 r1 s0 s1
      have K0 := cell_regrown r0
      have K1 := cell_regrown r1
      have K2 := cell_regrown s0
      have K3 := cell_regrown s1
      have cE : ∀ d os, Calls Tryz.prog 50 #[.agg #[.int .i64 a, .int .i64 p], .agg #[.int .i64 a, .int .i64 p]] (grow (redrawn wr d) os) fun e w'' => e = .returned (.bool true) ∧ ∃ q : Regrown, w'' = grow (redrawn wr q.d) q.os := fun d os => Calls.regrown_of (eqEnd_same a p _)
      have hk2 : (k : Int) ≤ (cap : Int) := by have := hcap.1; omega
      have hk3 : (k : Int) ≤ (cbp : Int) := by have := hcbp.1; omega
      clear hrow hrow' HR HS hap r0 r1 s0 s1
      go_wp2_with fail
      refine wp_region_quiet_below (by kernel_rfl) (by kernel_rfl) ?_
      repeat (first | go_big_quiet_skip | quiet_step (exact cE _ _))
      refine wpQuiet_nil ?_
      intro _ hw'
      obtain ⟨⟨dq, osq⟩, hw''⟩ := hw'
      subst hw''
      go_wp2
      go_roundw
      case rel => exact ⟨k + 1, by omega, by go_num, hb.trans ((below_regrown wr dq osq).mono hb.size)⟩
      case measure => simp [intOf]; omega
    · go_wp2
      go_ret
      exact ⟨rfl, hb⟩

theorem eqTab_same (u v : Value) (es : List (Int × Int)) (w : World) (hn : es.length ≤ 4194304) (hu : TabAt w u es) (hv : TabAt w v es) :
    Calls Tryz.prog 11 #[.agg #[u], .agg #[v]] w fun e w' => e = .returned (.bool true) ∧ Below w.heap.size w w' := by
  have HU := Lib.hid hu
  have HV := Lib.hid hv
  obtain ⟨ad, cap, rfl, _, _⟩ := hu
  obtain ⟨bd, cbp, rfl, _, _⟩ := hv
  go_enter Tryz.func11, Tryz.ntmps11
  go_wp2_with (go_at_call 27; refine (eqEnds_same _ _ es _ hn (HU.out.below (((Below.refl _ _).alloc (Nat.le_refl _) _).alloc (by simp) _)) (HV.out.below (((Below.refl _ _).alloc (Nat.le_refl _) _).alloc (by simp) _))).mono ?_; rintro e w1 ⟨rfl, b1⟩)
  go_ret
  exact ⟨rfl, (((Below.refl _ _).alloc (Nat.le_refl _) _).alloc (by simp) _).trans (b1.mono (by simp; omega))⟩

end Go.Proofs.YtgjhfmlncibpmaaGreatDoor

/- An end as the law has it becomes an end of the program. No condition. -/
namespace Go.Proofs.YtgjhfmlncibpmaaGreatDoor
open Go.RowKit

set_option maxRecDepth 100000 in
set_option maxHeartbeats 400000 in
theorem toEnd_any (a p : Int) (w : World) :
    Calls Tryz.prog 39 #[.agg #[.int .i64 a, .int .i64 p]] w fun e w' => e = .returned (.agg #[.int .i64 a, .int .i64 p]) ∧ Below w.heap.size w w' := by
  go_enter Tryz.func39, Tryz.ntmps39
  go_wp2
  refine bodyPost_ret (v := .agg #[.int .i64 a, .int .i64 p]) (by simp [results, Tryz.results39, go_sem]) rfl ⟨rfl, ?_⟩
  exact ((((Below.refl _ _).alloc (Nat.le_refl _) _).alloc (by simp) _).alloc (by simp; omega) _)

end Go.Proofs.YtgjhfmlncibpmaaGreatDoor

/- The laws' own tables: how an argument becomes one of the program's, in new memory. Condition: at most 2^22 ends. -/
namespace Go.Proofs.YtgjhfmlncibpmaaGreatDoor
open Go.RowKit Go.Sort

/-- m cells that may be written. -/
def Room (w : World) (g m : Nat) : Prop := ∀ i, i < m → (∃ u, w.cell? ⟨g, i, none⟩ = some u) ∧ w.frozen? ⟨g, i, none⟩ = false
theorem Room.below {w w' : World} {B g m : Nat} (h : Room w g m) (hb : Below B w w') (hg : g < B) : Room w' g m :=
  fun i hi => ⟨by rw [hb.cell (p := ⟨g, i, none⟩) hg]; exact (h i hi).1, (hb.frozen (p := ⟨g, i, none⟩) hg).trans (h i hi).2⟩
theorem Room.set {w : World} {g m j : Nat} (h : Room w g m) (hj : j < m) (u : Value) : Room (w.setCell ⟨g, j, none⟩ u) g m := by
  intro i hi
  refine ⟨?_, by rw [World.frozen?_setCell]; exact (h i hi).2⟩
  by_cases e : j = i
  · subst e
    obtain ⟨x, hx⟩ := (h j hj).1
    exact ⟨u, World.cell?_setCell_same _ _ _ hx⟩
  · obtain ⟨x, hx⟩ := (h i hi).1
    exact ⟨x, by rw [World.cell?_setCell_other _ _ _ u (by intro q; injection q with _ q2; exact e q2)]; exact hx⟩
theorem own_room {w : World} {B g n cap : Nat} {e : TypeId} {size : Nat} {xs : List Value} (h : w.ownsRow B e size (.slice (some ⟨g, 0, none⟩) n cap) n xs) : Room w g (n * size) ∧ B ≤ g ∧ g < w.heap.size := by
  rcases h.2 with ⟨h0, _⟩ | ⟨g', cap', cur, hv, hB, hg, h2, _, hs, ht⟩
  · cases h0
  · simp at hv
    obtain ⟨rfl, rfl⟩ := hv
    have hlt := (Array.getElem?_eq_some_iff.1 hg).1
    refine ⟨fun i hi => ⟨?_, by simp [World.frozen?, hg]⟩, hB, hlt⟩
    have hi' : i < cur.size := by rw [hs]; exact Nat.lt_of_lt_of_le hi (Nat.mul_le_mul_right _ h2)
    exact ⟨cur[i], by simp [World.cell?, hg, hi']⟩
/-- A table in cells that may be written. -/
def TabRoom (w : World) (B : Nat) (v : Value) (es : List (Int × Int)) : Prop := ∃ g cap, v = .slice (some ⟨g, 0, none⟩) es.length cap ∧ es.length ≤ cap ∧ B ≤ g ∧ g < w.heap.size ∧ EndsAt w g es ∧ Room w g (es.length * 2)
theorem TabRoom.tab {w : World} {B : Nat} {v : Value} {es : List (Int × Int)} (h : TabRoom w B v es) : TabAt w v es := by
  obtain ⟨g, cap, rfl, h1, _, _, h2, _⟩ := h
  exact ⟨_, cap, rfl, ⟨h1, by simp⟩, fun _ => ⟨g, rfl, h2⟩⟩

theorem addrs_ne {g i j : Nat} (h : i ≠ j) : (⟨g, i, none⟩ : Addr) ≠ ⟨g, j, none⟩ := by intro e; injection e with _ e2; exact h e2
/-- One end more is written. -/
theorem EndsAt.push {w : World} {g m k : Nat} {es fs : List (Int × Int)} {a p : Int} (hf : fs.length = k + 1) (ht : fs.take k = es.take k) (hk : k ≤ es.length) (hap : ∀ h : k < fs.length, (a, p) = fs[k]) (he : EndsAt w g (es.take k)) (hr : Room w g m) (hm : k * 2 + 1 < m) :
    EndsAt ((w.setCell ⟨g, k * 2, none⟩ (.int .i64 a)).setCell ⟨g, k * 2 + 1, none⟩ (.int .i64 p)) g fs := by
  intro i hi
  obtain ⟨x0, h0⟩ := (hr (k * 2) (by omega)).1
  obtain ⟨x1, h1⟩ := (hr (k * 2 + 1) (by omega)).1
  have h1' : (w.setCell ⟨g, k * 2, none⟩ (.int .i64 a)).cell? ⟨g, k * 2 + 1, none⟩ = some x1 := by rw [World.cell?_setCell_other _ _ _ _ (addrs_ne (by omega))]; exact h1
  by_cases e : i = k
  · subst e
    have hq := hap hi
    rw [← hq]
    refine ⟨?_, World.cell?_setCell_same _ _ _ h1'⟩
    rw [World.cell?_setCell_other _ _ _ _ (addrs_ne (by omega))]
    exact World.cell?_setCell_same _ _ _ h0
  · have hik : i < k := by omega
    have hg := he i (by simp; omega)
    have hq : fs[i] = (es.take k)[i]'(by simp; omega) := by
      have h2 : (fs.take k)[i]? = (es.take k)[i]? := by rw [ht]
      rw [List.getElem?_take_of_lt hik, List.getElem?_eq_getElem hi, List.getElem?_eq_getElem (by simp; omega)] at h2
      exact Option.some.inj h2
    rw [hq]
    refine ⟨?_, ?_⟩
    · rw [World.cell?_setCell_other _ _ _ _ (addrs_ne (by omega)), World.cell?_setCell_other _ _ _ _ (addrs_ne (by omega))]; exact hg.1
    · rw [World.cell?_setCell_other _ _ _ _ (addrs_ne (by omega)), World.cell?_setCell_other _ _ _ _ (addrs_ne (by omega))]; exact hg.2

set_option maxRecDepth 100000 in
set_option maxHeartbeats 800000 in
theorem toEnds_any (v : Value) (es : List (Int × Int)) (w : World) (hn : es.length ≤ 4194304) (ht : TabAt w v es) :
    Calls Tryz.prog 23 #[v] w fun e w' => ∃ u, e = .returned u ∧ TabRoom w' w.heap.size u es ∧ Below w.heap.size w w' := by
  obtain ⟨ad, cap, rfl, hcap, hr⟩ := ht
  obtain ⟨i0, hi, hz0, hz1, hz2⟩ := info_parts infoEnd
  have HR := Lib.hid hr
  clear hr
  go_enter Tryz.func23, Tryz.ntmps23
  go_wp2_with (at_make; refine wpList_make_full _ rfl (.tmp 6) (.tmp 6) 28 rfl w.heap.size 55 i0 (.agg #[.int .i64 0, .int .i64 0]) 2 (by rfl) hi hz0 hz1 .i64 .i64 (es.length : Int) (es.length : Int) es.length (by rfl) (by rfl) rfl rfl (by rw [hz2]; omega) (by unfold maxLen; omega) (Nat.le_refl _) ?_; intro w1 hown hgrow)
  have R1 : Hid (Room w1 w.heap.size (es.length * 2) ∧ w.heap.size ≤ w.heap.size ∧ w.heap.size < w1.heap.size) := own_room hown
  have B1 : Hid (Below w.heap.size w w1) := (Below.refl _ _).grown hgrow (Nat.le_refl _) (fun k hk => by cases hk)
  clear hown hgrow
  go_loopw [4] (fun i wr => ∃ k : Nat, k ≤ es.length ∧ i = .int .i64 k ∧ EndsAt wr w.heap.size (es.take k) ∧ Room wr w.heap.size (es.length * 2) ∧ Below w.heap.size w wr ∧ w.heap.size < wr.heap.size) (fun i _ => es.length - (intOf i).toNat)
  case atStart => exact ⟨0, Nat.zero_le _, rfl, fun i hi => by simp at hi, R1.out.1, B1.out, R1.out.2.2⟩
  case round =>
    obtain ⟨k, hk, rfl, he, hro, hb, hsz⟩ := hrel
    have HE := Lib.hid he
    have HO := Lib.hid hro
    clear he hro
    by_cases hlt : k < es.length
    · obtain ⟨g, rfl, hrow⟩ := HR.out (by omega)
      obtain ⟨r0, r1⟩ := (hrow.below hb (hrow.lt (by omega))) k hlt
      obtain ⟨⟨a, p⟩, hap⟩ : ∃ x, x = es[k] := ⟨_, rfl⟩
      rw [← hap] at r0 r1
      simp only at r0 r1
      have HA := Lib.hid hap
      have hk2 : (k : Int) ≤ (cap : Int) := by have := hcap.1; omega
      clear hrow hap
      go_wp2_with (go_at_call 39; refine (toEnd_any a p _).mono ?_; rintro e w2 ⟨rfl, b2⟩; have hr2 := HO.out.below b2 hsz; obtain ⟨x0, hx0⟩ := (hr2 (k * 2) (by omega)).1; have f0 := (hr2 (k * 2) (by omega)).2; obtain ⟨x1, hx1⟩ := (hr2 (k * 2 + 1) (by omega)).1; have f1 := (hr2 (k * 2 + 1) (by omega)).2)
      go_roundw
      case rel =>
        refine ⟨k + 1, by omega, by go_num, EndsAt.push (es := es) (m := es.length * 2) (by simp; omega) (by rw [List.take_take, Nat.min_eq_left (by omega)]) hk (fun h => by rw [HA.out]; simp) (HE.out.below b2 hsz) hr2 (by omega), (hr2.set (by omega) _).set (by omega) _, ?_, ?_⟩
        · exact ((hb.trans (b2.mono (by omega))).setCell (by simp) _).setCell (by simp) _
        · have := b2.size; simp; omega
      case measure => simp [intOf]; omega
    · have hkn : k = es.length := by omega
      subst hkn
      go_wp2
      go_ret
      refine ⟨_, rfl, ⟨w.heap.size, es.length, rfl, Nat.le_refl _, Nat.le_refl _, hsz, by simpa using HE.out, HO.out⟩, hb⟩

theorem TabRoom.setCell {w : World} {B : Nat} {v : Value} {es : List (Int × Int)} (h : TabRoom w B v es) {a : Addr} (ha : a.block < B) (u : Value) : TabRoom (w.setCell a u) B v es := by
  obtain ⟨g, cap, rfl, h1, h2, h3, h4, h5⟩ := h
  have hc : ∀ i, (w.setCell a u).cell? ⟨g, i, none⟩ = w.cell? ⟨g, i, none⟩ := fun i => World.cell?_setCell_other _ _ _ _ (by intro e; subst e; simp at ha; omega)
  refine ⟨g, cap, rfl, h1, h2, by simp; omega, fun i hi => ?_, fun i hi => ?_⟩
  · rw [hc, hc]; exact h4 i hi
  · rw [hc, World.frozen?_setCell]; exact h5 i hi
theorem TabRoom.mono {w : World} {B B' : Nat} {v : Value} {es : List (Int × Int)} (h : TabRoom w B v es) (hB : B' ≤ B) : TabRoom w B' v es := by
  obtain ⟨g, cap, rfl, h1, h2, h3, h4, h5⟩ := h
  exact ⟨g, cap, rfl, h1, by omega, h3, h4, h5⟩
theorem TabRoom.below {w w' : World} {B : Nat} {v : Value} {es : List (Int × Int)} (h : TabRoom w B v es) (hb : Below w.heap.size w w') : TabRoom w' B v es := by
  obtain ⟨g, cap, rfl, h1, h2, h3, h4, h5⟩ := h
  exact ⟨g, cap, rfl, h1, h2, Nat.lt_of_lt_of_le h3 hb.size, h4.below hb h3, h5.below hb h3⟩

set_option maxRecDepth 100000 in
set_option maxHeartbeats 800000 in
theorem toTab_any (v : Value) (es : List (Int × Int)) (w : World) (hn : es.length ≤ 4194304) (ht : TabAt w v es) :
    Calls Tryz.prog 8 #[.agg #[v]] w fun e w' => ∃ u, e = .returned (.agg #[u]) ∧ TabRoom w' w.heap.size u es ∧ Below w.heap.size w w' := by
  have HT := Lib.hid ht
  obtain ⟨ad, cap, rfl, hcap, hr⟩ := ht
  clear hr
  go_enter Tryz.func8, Tryz.ntmps8
  go_wp2_with (go_at_call 23; refine (toEnds_any _ es _ hn (HT.out.below ((((Below.refl _ _).alloc (Nat.le_refl _) _).alloc (by simp) _).alloc (by simp; omega) _))).mono ?_; rintro e w1 ⟨u, rfl, hu, b1⟩; obtain ⟨cA, cB, cC, b01, z1⟩ := cell_three b1; have t0 := (cA 0).1; have r0 := (cB 0).1; have g0 := (cB 0).2; have o0 := (cC 0).1; have p0 := (cC 0).2; simp at t0 r0 o0; obtain ⟨gu, cu, rfl, hu'⟩ : ∃ g c, u = .slice (some ⟨g, 0, none⟩) es.length c ∧ TabRoom w1 (w.heap.size + 3) u es := (by obtain ⟨g, c, q, hh⟩ := hu; exact ⟨g, c, q, TabRoom.mono ⟨g, c, q, hh⟩ (by simp)⟩); have HU := Lib.hid hu'; clear hu hu' cA cB cC)
  have q0 : (w1.setCell ⟨w.heap.size + 1 + 1, 0, none⟩ (.slice (some ⟨gu, 0, none⟩) es.length cu)).cell? ⟨w.heap.size + 1, 0, none⟩ = some (.slice none 0 0) := by
    rw [World.cell?_setCell_far _ ⟨w.heap.size + 1 + 1, 0, none⟩ ⟨w.heap.size + 1, 0, none⟩ _ (by show w.heap.size + 1 + 1 ≠ w.heap.size + 1; omega)]; exact r0
  refine bodyPost_ret (v := .agg #[.slice (some ⟨gu, 0, none⟩) es.length cu]) (by simp [results, Tryz.results8, go_sem, World.cell?_setCell_same _ _ _ q0]) rfl ⟨_, rfl, ?_, ?_⟩
  · exact ((HU.out.setCell (a := ⟨w.heap.size + 1 + 1, 0, none⟩) (by simp) _).setCell (a := ⟨w.heap.size + 1, 0, none⟩) (by simp) _).mono (by omega)
  · exact (b01.setCell (by simp; omega) _).setCell (by simp) _

end Go.Proofs.YtgjhfmlncibpmaaGreatDoor

/- How the law marks a table's ends and finds the marks again. Conditions: the marks from 1 on, at most 10^15. -/
namespace Go.Proofs.YtgjhfmlncibpmaaGreatDoor
open Go.RowKit Go.Sort

theorem grown_set {w w' : World} {b : Nat} (h : w.grownBy w' (some b)) (i : Nat) (v : Value) : w.grownBy (w'.setCell ⟨b, i, none⟩ v) (some b) :=
  ⟨h.os, h.tape, h.output, by simpa using h.size, fun k hk hne => by rw [Below.heap_setCell _ _ _ _ (fun e => hne (by rw [e]))]; exact h.block k hk hne⟩
theorem grown_below {w w' : World} {row : Option Nat} (h : Below w.heap.size w w') : w.grownBy w' row :=
  ⟨h.os, h.tape, h.output, h.size, fun k hk _ => h.block k hk⟩
/-- n marks of ends, from k on. -/
def marksE (k n : Nat) : List (Int × Int) := (List.range n).map fun i => (((k + 2 * i : Nat) : Int), ((k + 2 * i + 1 : Nat) : Int))
theorem marksE_len (k n : Nat) : (marksE k n).length = n := by simp [marksE]
theorem marksE_at (k n i : Nat) (h : i < (marksE k n).length) : (marksE k n)[i] = (((k + 2 * i : Nat) : Int), ((k + 2 * i + 1 : Nat) : Int)) := by simp [marksE]

set_option maxRecDepth 100000 in
set_option maxHeartbeats 800000 in
theorem markEnds_any (k n g cap : Nat) (w : World) (hn : k + 2 * n ≤ 1000000000000000) (hc : n ≤ cap) (hr : Room w g (n * 2)) :
    Calls Tryz.prog 28 #[.slice (some ⟨g, 0, none⟩) n cap, .int .i64 k] w fun e w' => e = .returned (.int .i64 (k + 2 * n : Nat)) ∧ EndsAt w' g (marksE k n) ∧ Room w' g (n * 2) ∧ w.grownBy w' (some g) := by
  have HR := Lib.hid hr
  clear hr
  go_enter Tryz.func28, Tryz.ntmps28
  go_wp2
  go_loopw [1, 5] (fun m i wr => ∃ j : Nat, j ≤ n ∧ i = .int .i64 j ∧ m = .int .i64 (k + 2 * j : Nat) ∧ EndsAt wr g ((marksE k n).take j) ∧ Room wr g (n * 2) ∧ w.grownBy wr (some g)) (fun _ i _ => n - (intOf i).toNat)
  case atStart => exact ⟨0, Nat.zero_le _, rfl, rfl, fun i hi => by simp at hi, HR.out, World.grownBy.refl _ _⟩
  case round =>
    obtain ⟨j, hj, rfl, rfl, he, hro, hb⟩ := hrel
    have HE := Lib.hid he
    have HO := Lib.hid hro
    have HB := Lib.hid hb
    clear he hb
    by_cases hlt : j < n
    · obtain ⟨x0, hx0⟩ := (hro (j * 2) (by omega)).1
      have f0 := (hro (j * 2) (by omega)).2
      obtain ⟨x1, hx1⟩ := (hro (j * 2 + 1) (by omega)).1
      have f1 := (hro (j * 2 + 1) (by omega)).2
      have hk2 : (j : Int) ≤ (cap : Int) := by omega
      clear hro
      go_wp2
      go_roundw
      case rel =>
        refine ⟨j + 1, by omega, by go_num, by rw [show (k : Int) + 2 * (j : Int) + 1 + 1 = ((k + 2 * (j + 1) : Nat) : Int) from by omega], EndsAt.push (es := marksE k n) (m := n * 2) (by simp [marksE_len]; omega) (by rw [List.take_take, Nat.min_eq_left (by omega)]) (by rw [marksE_len]; omega) (fun h => by rw [List.getElem_take, marksE_at]; simp) HE.out HO.out (by omega), (HO.out.set (by omega) _).set (by omega) _, grown_set (grown_set HB.out _ _) _ _⟩
      case measure => simp [intOf]; omega
    · have hjn : j = n := by omega
      subst hjn
      go_wp2
      go_ret
      refine ⟨rfl, ?_, HO.out, HB.out⟩
      have := HE.out
      rwa [List.take_of_length_le (by rw [marksE_len]; omega)] at this

/-- A table in cells that may be written is marked. -/
theorem markTab_room (k B : Nat) (v : Value) (es : List (Int × Int)) (w : World) (hn : k + 2 * es.length ≤ 1000000000000000) (ht : TabRoom w B v es) :
    Calls Tryz.prog 12 #[.agg #[v], .int .i64 k] w fun e w' => e = .returned (.int .i64 (k + 2 * es.length : Nat)) ∧ TabRoom w' B v (marksE k es.length) ∧ w.grownBy w' v.ownBlock := by
  obtain ⟨g, cap, rfl, hc, hB, hg, he, hr⟩ := ht
  have HR : Hid (∀ o, Room (w.alloc o) g (es.length * 2) ∧ g < (w.alloc o).heap.size) := fun o => ⟨hr.below ((Below.refl _ _).alloc (Nat.le_refl _) o) hg, by simp; omega⟩
  have HC : ∀ w, Room w g (es.length * 2) → g < w.heap.size → Calls Tryz.prog 28 #[.slice (some ⟨g, 0, none⟩) es.length cap, .int .i64 k] w fun e w' => e = .returned (.int .i64 (k + 2 * es.length : Nat)) ∧ EndsAt w' g (marksE k es.length) ∧ Room w' g (es.length * 2) ∧ w.grownBy w' (some g) := fun w h1 _ => markEnds_any k es.length g cap w hn hc h1
  have HCh := Lib.hid HC
  obtain ⟨q, hq⟩ : ∃ q : Int, q = ((k + 2 * es.length : Nat) : Int) := ⟨_, rfl⟩
  rw [← hq] at HCh ⊢
  clear HC hr he hq
  go_enter Tryz.func12, Tryz.ntmps12
  go_wp2_with (go_at_call 28; refine (HCh.out _ (HR.out _).1 (HR.out _).2).mono ?_; rintro e w1 ⟨rfl, h1, h2, h3⟩)
  go_ret
  refine ⟨rfl, ⟨g, cap, by rw [marksE_len], by rw [marksE_len]; exact hc, hB, ?_, h1, by rw [marksE_len]; exact h2⟩, ?_⟩
  · have := h3.size; simp at this; omega
  · exact (World.grownBy_alloc w _ _).trans h3

end Go.Proofs.YtgjhfmlncibpmaaGreatDoor

/- An answer's table: in memory of its own, empty or in cells that may be written; how the law marks it and finds the marks again. -/
namespace Go.Proofs.YtgjhfmlncibpmaaGreatDoor
open Go.RowKit Go.Sort

/-- A table that an answer holds: nothing at all, or a table in cells that may be written, behind B. -/
def FreshTab (w : World) (B : Nat) (v : Value) (us : List (Int × Int)) : Prop := (us = [] ∧ ∃ a cap, v = .slice a 0 cap ∧ (a = none → cap = 0)) ∨ TabRoom w B v us
theorem FreshTab.tab {w : World} {B : Nat} {v : Value} {us : List (Int × Int)} (h : FreshTab w B v us) : TabAt w v us := by
  rcases h with ⟨rfl, a, cap, rfl, hc⟩ | h
  · exact ⟨a, cap, rfl, ⟨by simp, hc⟩, fun h => by simp at h⟩
  · exact h.tab
theorem FreshTab.below {w w' : World} {B C : Nat} {v : Value} {us : List (Int × Int)} (h : FreshTab w B v us) (hC : w.heap.size ≤ C) (hb : Below C w w') : FreshTab w' B v us := by
  rcases h with h | ⟨g, cap, rfl, h1, h2, h3, h4, h5⟩
  · exact .inl h
  · exact .inr ⟨g, cap, rfl, h1, h2, Nat.lt_of_lt_of_le h3 hb.size, h4.below hb (by omega), h5.below hb (by omega)⟩
/-- A table that lies elsewhere stays, when one row is marked. -/
theorem EndsAt.grown {w w' : World} {g : Nat} {es : List (Int × Int)} {row : Option Nat} (h : EndsAt w g es) (hg : w.grownBy w' row) (hne : some g ≠ row) : EndsAt w' g es := by
  intro i hi
  have hlt := World.block_lt_of_cell? w _ (h i hi).1
  have hk := hg.block g hlt hne
  have c := h i hi
  simp only [World.cell?] at c ⊢
  rw [hk]; exact c

theorem markEmpty (a : Option Addr) (cap : Nat) (k : Nat) (w : World) :
    Calls Tryz.prog 28 #[.slice a 0 cap, .int .i64 k] w fun e w' => e = .returned (.int .i64 k) ∧ w = w' := by
  go_enter Tryz.func28, Tryz.ntmps28
  go_wp2
  go_loopw [1, 5] (fun m i wr => m = .int .i64 k ∧ i = .int .i64 0 ∧ w = wr) (fun _ _ _ => 0)
  case atStart => exact ⟨rfl, rfl, rfl⟩
  case round =>
    obtain ⟨rfl, rfl, rfl⟩ := hrel
    go_wp2
    go_ret
    exact ⟨rfl, rfl⟩
theorem grown_none {w w' : World} {row : Option Nat} (h : w.grownBy w' none) : w.grownBy w' row :=
  ⟨h.os, h.tape, h.output, h.size, fun k hk _ => h.block k hk (by simp)⟩

/-- An answer's table is marked. -/
theorem markFresh (k B : Nat) (v : Value) (us : List (Int × Int)) (w : World) (hn : k + 2 * us.length ≤ 1000000000000000) (ht : FreshTab w B v us) :
    Calls Tryz.prog 12 #[.agg #[v], .int .i64 k] w fun e w' => e = .returned (.int .i64 (k + 2 * us.length : Nat)) ∧ FreshTab w' B v (marksE k us.length) ∧ w.grownBy w' v.ownBlock ∧ w.heap.size ≤ w'.heap.size := by
  rcases ht with ⟨rfl, a, cap, rfl, hc⟩ | ht
  · have HC : Hid (∀ w, Calls Tryz.prog 28 #[.slice a 0 cap, .int .i64 k] w fun e w' => e = .returned (.int .i64 k) ∧ w = w') := fun w => markEmpty a cap k w
    go_enter Tryz.func12, Tryz.ntmps12
    go_wp2_with (go_at_call 28; refine (HC.out _).mono ?_; rintro e w1 ⟨rfl, rfl⟩)
    go_ret
    exact ⟨rfl, .inl ⟨rfl, a, cap, rfl, hc⟩, grown_none (World.grownBy_alloc w _ _), by simp⟩
  · refine (markTab_room k B v us w hn ht).mono ?_
    rintro e w' ⟨rfl, h1, h2⟩
    exact ⟨rfl, .inr h1, h2, h2.size⟩

end Go.Proofs.YtgjhfmlncibpmaaGreatDoor

/- Boxes and tables through calls, marks and stores: what stays. No condition. -/
namespace Go.Proofs.YtgjhfmlncibpmaaGreatDoor
open Go.RowKit Go.Sort

/-- A box of one cell that a call finds new. -/
theorem fresh1 {W w : World} {x : Value} {t : TypeId} (h : Below (W.alloc (.cells #[x] t)).heap.size (W.alloc (.cells #[x] t)) w) : w.cell? ⟨W.heap.size, 0, none⟩ = some x ∧ w.frozen? ⟨W.heap.size, 0, none⟩ = false :=
  ⟨by rw [h.cell (by simp)]; simp, by rw [h.frozen (by simp)]; exact (cell_new W _ _ 0).2⟩
theorem fresh1d {W w : World} {x : Value} {t : TypeId} (h : Below (W.alloc (.cells #[x] t)).drew.heap.size (W.alloc (.cells #[x] t)).drew w) : w.cell? ⟨W.heap.size, 0, none⟩ = some x ∧ w.frozen? ⟨W.heap.size, 0, none⟩ = false :=
  fresh1 (((Below.refl _ _).drew).trans h)
theorem box_below {w w' : World} {b i : Nat} {v : Value} (h : w.cell? ⟨b, i, none⟩ = some v) (hb : Below w.heap.size w w') : w'.cell? ⟨b, i, none⟩ = some v := by
  rw [hb.cell (p := ⟨b, i, none⟩) (World.block_lt_of_cell? w _ h)]; exact h
theorem box_frozen {w w' : World} {b i : Nat} {v : Value} (h : w.cell? ⟨b, i, none⟩ = some v) (hf : w.frozen? ⟨b, i, none⟩ = false) (hb : Below w.heap.size w w') : w'.frozen? ⟨b, i, none⟩ = false := by
  rw [hb.frozen (p := ⟨b, i, none⟩) (World.block_lt_of_cell? w _ h)]; exact hf
theorem cell_grown {w w' : World} {b i : Nat} {v : Value} {row : Option Nat} (h : w.cell? ⟨b, i, none⟩ = some v) (hg : w.grownBy w' row) (hne : some b ≠ row) : w'.cell? ⟨b, i, none⟩ = some v := by
  have hk := hg.block b (World.block_lt_of_cell? w _ h) hne
  simp only [World.cell?] at h ⊢
  rw [hk]; exact h
theorem OwnTab.fresh {w : World} {B : Nat} {v : Value} {es : List (Int × Int)} (h : OwnTab w B v es) : FreshTab w B v es := by
  rcases h.2 with ⟨rfl, h0⟩ | ⟨g, cap, cur, rfl, hB, hg, h2, _, hs, ht⟩
  · exact .inl ⟨List.eq_nil_of_length_eq_zero h0, none, 0, rfl, fun _ => rfl⟩
  · have hlt := (Array.getElem?_eq_some_iff.1 hg).1
    have hh := h.tab
    by_cases he : es = []
    · subst he
      exact .inl ⟨rfl, _, cap, rfl, fun e => by cases e⟩
    · obtain ⟨a, c, e1, _, hrow⟩ := hh
      obtain ⟨g', e2, hat⟩ := hrow (List.length_pos_iff.2 he)
      simp at e1
      obtain ⟨rfl, rfl⟩ := e1
      simp at e2
      subst e2
      refine .inr ⟨g, cap, rfl, h2, hB, hlt, hat, fun i hi => ⟨?_, by simp [World.frozen?, hg]⟩⟩
      have hi' : i < cur.size := by rw [hs]; exact Nat.lt_of_lt_of_le hi (Nat.mul_le_mul_right _ h2)
      exact ⟨cur[i], by simp [World.cell?, hg, hi']⟩
theorem FreshTab.nil (w : World) (B : Nat) : FreshTab w B (.slice none 0 0) [] := .inl ⟨rfl, none, 0, rfl, fun _ => rfl⟩
theorem FreshTab.form {w : World} {B : Nat} {v : Value} {us : List (Int × Int)} (h : FreshTab w B v us) : ∃ a c, v = .slice a us.length c := by
  rcases h with ⟨rfl, a, cap, rfl, _⟩ | ⟨g, cap, rfl, _⟩
  · exact ⟨a, cap, rfl⟩
  · exact ⟨_, cap, rfl⟩
theorem FreshTab.mono {w : World} {B B' : Nat} {v : Value} {us : List (Int × Int)} (h : FreshTab w B v us) (hB : B' ≤ B) : FreshTab w B' v us := by
  rcases h with h | h
  · exact .inl h
  · exact .inr (h.mono hB)
theorem FreshTab.setCell {w : World} {B : Nat} {v : Value} {us : List (Int × Int)} (h : FreshTab w B v us) {a : Addr} (ha : a.block < B) (u : Value) : FreshTab (w.setCell a u) B v us := by
  rcases h with h | h
  · exact .inl h
  · exact .inr (h.setCell ha u)
theorem FreshTab.later {w w' : World} {B : Nat} {v : Value} {us : List (Int × Int)} (h : FreshTab w B v us) (hb : Below w.heap.size w w') : FreshTab w' B v us := h.below (Nat.le_refl _) hb
/-- What a table's own block is: none, or one behind B. -/
theorem FreshTab.block {w : World} {B : Nat} {v : Value} {us : List (Int × Int)} (h : FreshTab w B v us) (hu : us ≠ []) {k : Nat} (hk : v.ownBlock = some k) : B ≤ k ∧ k < w.heap.size := by
  rcases h with h | ⟨g, cap, rfl, _, hB, hl, _⟩
  · exact absurd h.1 hu
  · simp [Value.ownBlock] at hk
    subst hk
    exact ⟨hB, hl⟩
theorem TabRoom.fresh {w : World} {B : Nat} {v : Value} {es : List (Int × Int)} (h : TabRoom w B v es) : FreshTab w B v es := .inr h
/-- A table whose row lies elsewhere stays, when one row is marked. -/
theorem FreshTab.grown {w w' : World} {B : Nat} {v : Value} {us : List (Int × Int)} {row : Option Nat} (h : FreshTab w B v us) (hg : w.grownBy w' row) (hne : ∀ k, row = some k → k < B) : FreshTab w' B v us := by
  rcases h with h | ⟨g, cap, rfl, h1, h2, h3, h4, h5⟩
  · exact .inl h
  · have hn : some g ≠ row := fun e => by have := hne g e.symm; omega
    refine .inr ⟨g, cap, rfl, h1, h2, Nat.lt_of_lt_of_le h3 hg.size, h4.grown hg hn, fun i hi => ?_⟩
    obtain ⟨⟨u, hu⟩, hf⟩ := h5 i hi
    refine ⟨⟨u, cell_grown hu hg hn⟩, ?_⟩
    rw [World.frozen?_of_block (hg.block g h3 hn)]; exact hf
/-- Marks in a row that is behind B turn nothing below B. -/
theorem below_grown {w w' : World} {B : Nat} {row : Option Nat} (hg : w.grownBy w' row) (hr : ∀ k, row = some k → B ≤ k) (hB : B ≤ w.heap.size) : Below B w w' :=
  ⟨hg.os, hg.tape, hg.output, hg.size, fun k hk => hg.block k (Nat.lt_of_lt_of_le hk hB) fun e => by have := hr k e.symm; omega⟩

/-- An answer's table is marked: only a row of its own turns. -/
theorem markAny (k B : Nat) (v : Value) (us : List (Int × Int)) (w : World) (hn : k + 2 * us.length ≤ 1000000000000000) (ht : FreshTab w B v us) :
    Calls Tryz.prog 12 #[.agg #[v], .int .i64 k] w fun e w' => e = .returned (.int .i64 (k + 2 * us.length : Nat)) ∧ FreshTab w' B v (marksE k us.length) ∧ w.heap.size ≤ w'.heap.size ∧ ∃ row, w.grownBy w' row ∧ ∀ j, row = some j → v.ownBlock = some j ∧ B ≤ j ∧ j < w.heap.size ∧ us ≠ [] ∧ ∃ x, w.cell? ⟨j, 0, none⟩ = some (.int .i64 x) := by
  by_cases hu : us = []
  · subst hu
    rcases ht with ⟨_, a, cap, rfl, hc⟩ | ht
    · have HC : Hid (∀ w, Calls Tryz.prog 28 #[.slice a 0 cap, .int .i64 k] w fun e w' => e = .returned (.int .i64 k) ∧ w = w') := fun w => markEmpty a cap k w
      go_enter Tryz.func12, Tryz.ntmps12
      go_wp2_with (go_at_call 28; refine (HC.out _).mono ?_; rintro e w1 ⟨rfl, rfl⟩)
      go_ret
      exact ⟨rfl, .inl ⟨rfl, a, cap, rfl, hc⟩, by simp, none, World.grownBy_alloc w _ _, fun j hj => by cases hj⟩
    · obtain ⟨g, cap, rfl, _⟩ := ht
      have HC : Hid (∀ w, Calls Tryz.prog 28 #[.slice (some ⟨g, 0, none⟩) 0 cap, .int .i64 k] w fun e w' => e = .returned (.int .i64 k) ∧ w = w') := fun w => markEmpty _ cap k w
      simp only [List.length_nil]
      go_enter Tryz.func12, Tryz.ntmps12
      go_wp2_with (go_at_call 28; refine (HC.out _).mono ?_; rintro e w1 ⟨rfl, rfl⟩)
      go_ret
      exact ⟨rfl, .inl ⟨rfl, _, cap, rfl, fun e => by cases e⟩, by simp, none, World.grownBy_alloc w _ _, fun j hj => by cases hj⟩
  · refine (markFresh k B v us w hn ht).mono ?_
    rintro e w' ⟨rfl, h1, h2, h3⟩
    refine ⟨rfl, h1, h3, v.ownBlock, h2, fun j hj => ?_⟩
    obtain ⟨hB, hl⟩ := ht.block hu hj
    refine ⟨hj, hB, hl, hu, ?_⟩
    rcases ht with ht | ⟨g, cap, rfl, _, _, _, he, _⟩
    · exact absurd ht.1 hu
    · simp [Value.ownBlock] at hj
      subst hj
      exact ⟨_, (he 0 (List.length_pos_iff.2 hu)).1⟩

/-- .. from the mark 1 on. -/
theorem mark1 (m : Int) (B : Nat) (v : Value) (us : List (Int × Int)) (w : World) (hm : m = ((1 + 2 * us.length : Nat) : Int)) (hn : us.length ≤ 4194304) (ht : FreshTab w B v us) :
    Calls Tryz.prog 12 #[.agg #[v], .int .i64 1] w fun e w' => e = .returned (.int .i64 m) ∧ FreshTab w' B v (marksE 1 us.length) ∧ w.heap.size ≤ w'.heap.size ∧ ∃ row, w.grownBy w' row ∧ ∀ j, row = some j → v.ownBlock = some j ∧ B ≤ j ∧ j < w.heap.size ∧ us ≠ [] ∧ ∃ x, w.cell? ⟨j, 0, none⟩ = some (.int .i64 x) := by
  have := markAny 1 B v us w (by omega) ht
  rw [hm]
  exact this
end Go.Proofs.YtgjhfmlncibpmaaGreatDoor

/- A line as it goes outside, and RwrLine, of the program. Conditions: the table is ok; the text has at most 2^21 bytes; the variables that are read hold what they are laid with. -/
namespace Go.Proofs.YtgjhfmlncibpmaaGreatDoor
open Go.RowKit Go.Sort

theorem says_ins {l : List UInt8} {a p : Int} (h : saysE l = some (a, p)) : insB a p = true := by
  unfold saysE at h
  split at h
  · split at h
    · split at h
      · rename_i hi
        simp at h
        obtain ⟨rfl, rfl⟩ := h
        exact hi
      · cases h
    · cases h
  · cases h
theorem lineE_none {es : List (Int × Int)} {l : List UInt8} (h : saysE l = none) : lineE es l = (es, l) := by unfold lineE; rw [h]
theorem lineE_some {es : List (Int × Int)} {l : List UInt8} {e : Int × Int} (h : saysE l = some e) : lineE es l = ((putE es e).1, if (putE es e).2 = 0 then noneL else lpL 50 (putE es e).2) := by
  unfold lineE
  rw [h]
  simp only
  split <;> rfl
theorem lineE_ok {es : List (Int × Int)} {l : List UInt8} (hm : mapB es = true) : mapB (lineE es l).1 = true := by
  rcases h : saysE l with _ | ⟨a, p⟩
  · rw [lineE_none h]; exact hm
  · rw [lineE_some h]; exact putE_ok hm (says_ins h)

set_option maxRecDepth 100000 in
set_option maxHeartbeats 1600000 in
theorem lineOutside_any (g1 g2 : Nat) (es : List (Int × Int)) (s : ByteArray) (w : World) (hs : s.size ≤ 2097152) (hb : Both w g1 g2 es) (hm : mapB es = true) (hv : ∀ w', Two g1 g2 w w' → VarsOk w') :
    Calls Tryz.prog 45 #[.agg #[.map (some g1), .map (some g2)], .string s] w fun e w' => e = .returned (.string ⟨(lineE es s.data.toList).2.toArray⟩) ∧ Both w' g1 g2 (lineE es s.data.toList).1 ∧ Two g1 g2 w w' := by
  have HBo : Hid (∀ w', Below w.heap.size w w' → Both w' g1 g2 es) := fun w' h => hb.later h
  have HV := Lib.hid hv
  have l1 := hb.lt.1
  have l2 := hb.lt.2
  clear hb hv
  rcases hx : saysE s.data.toList with _ | ⟨a, p⟩
  · have HB : Hid (∀ w, VarsOk w → Calls Tryz.prog 68 #[.string s] w fun e w' => e = .returned (.tuple #[.agg #[.int .i64 0, .int .i64 0], .bool false]) ∧ Below w.heap.size w w') := fun w hv => by have := implSays_any s w hs hv; rw [hx] at this; exact this
    have HE : Hid (lineE es s.data.toList = (es, s.data.toList)) := lineE_none hx
    rw [HE.out, str_same]
    clear hx HE hm
    go_enter Tryz.func45, Tryz.ntmps45
    go_wp2_with fail
    (go_at_call 68; refine (HB.out _ (HV.out _ (Two.of_below ((Below.refl _ _).alloc (Nat.le_refl _) _)))).mono ?_; rintro e w1 ⟨rfl, b1⟩; have B1 : Hid (Below w.heap.size w w1) := ((Below.refl _ _).alloc (Nat.le_refl _) _).trans (b1.mono (by simp)); clear b1)
    go_wp2_with fail
    go_ret
    have B2 : Below w.heap.size w (w1.alloc (.cells #[.int .i64 0, .int .i64 0] 55)) := B1.out.alloc B1.out.size _
    exact ⟨rfl, HBo.out _ B2, Two.of_below B2⟩
  · have HB : Hid (∀ w, VarsOk w → Calls Tryz.prog 68 #[.string s] w fun e w' => e = .returned (.tuple #[.agg #[.int .i64 a, .int .i64 p], .bool true]) ∧ Below w.heap.size w w') := fun w hv => by have := implSays_any s w hs hv; rw [hx] at this; exact this
    have hE := lineE_some (es := es) hx
    have hi := says_ins hx
    obtain ⟨us, hus⟩ : ∃ us, us = (putE es (a, p)).1 := ⟨_, rfl⟩
    obtain ⟨q, hq⟩ : ∃ q, q = (putE es (a, p)).2 := ⟨_, rfl⟩
    rw [← hus, ← hq] at hE
    have HG : Hid (∀ w, Both w g1 g2 es → Calls Tryz.prog 69 #[.agg #[.map (some g1), .map (some g2)], .agg #[.int .i64 a, .int .i64 p]] w fun e w' => e = .returned (.int .i64 q) ∧ Both w' g1 g2 us ∧ Two g1 g2 w w') := fun w h => by rw [hus, hq]; exact givePort_any g1 g2 es a p w h hm hi
    by_cases h0 : q = 0
    · rw [hE, if_pos h0]
      subst h0
      clear hE hx hus hq hm hi
      go_enter Tryz.func45, Tryz.ntmps45
      go_wp2_with fail
      (go_at_call 68; refine (HB.out _ (HV.out _ (Two.of_below ((Below.refl _ _).alloc (Nat.le_refl _) _)))).mono ?_; rintro e w1 ⟨rfl, b1⟩; have B1 : Hid (Below w.heap.size w w1) := ((Below.refl _ _).alloc (Nat.le_refl _) _).trans (b1.mono (by simp)); have t0 : ∀ o, (w1.alloc o).cell? ⟨w.heap.size, 0, none⟩ = some (.map (some g1)) := (fun o => by rw [cell_alloc_lt (by have := b1.size; simp at this; omega), b1.cell (by simp)]; simp); have t1 : ∀ o, (w1.alloc o).cell? ⟨w.heap.size, 1, none⟩ = some (.map (some g2)) := (fun o => by rw [cell_alloc_lt (by have := b1.size; simp at this; omega), b1.cell (by simp)]; simp); clear b1)
      have B2 : Hid (∀ o, Below w.heap.size w (w1.alloc o)) := fun o => B1.out.alloc B1.out.size o
      go_wp2_with fail
      (go_at_call 69; refine (HG.out _ (HBo.out _ (B2.out _))).mono ?_; rintro e w2 ⟨rfl, hb2, t2⟩; have HB2 := Lib.hid hb2; have T2 : Hid (Two g1 g2 w w2) := (Two.of_below (B2.out _)).trans t2; clear hb2 t2)
      go_wp2_with fail
      go_ret
      exact ⟨rfl, HB2.out, T2.out⟩
    · rw [hE, if_neg h0]
      have hqb : (q == 0) = false := by simpa using h0
      clear hE hx hus hq hm hi
      go_enter Tryz.func45, Tryz.ntmps45
      go_wp2_with fail
      (go_at_call 68; refine (HB.out _ (HV.out _ (Two.of_below ((Below.refl _ _).alloc (Nat.le_refl _) _)))).mono ?_; rintro e w1 ⟨rfl, b1⟩; have B1 : Hid (Below w.heap.size w w1) := ((Below.refl _ _).alloc (Nat.le_refl _) _).trans (b1.mono (by simp)); have t0 : ∀ o, (w1.alloc o).cell? ⟨w.heap.size, 0, none⟩ = some (.map (some g1)) := (fun o => by rw [cell_alloc_lt (by have := b1.size; simp at this; omega), b1.cell (by simp)]; simp); have t1 : ∀ o, (w1.alloc o).cell? ⟨w.heap.size, 1, none⟩ = some (.map (some g2)) := (fun o => by rw [cell_alloc_lt (by have := b1.size; simp at this; omega), b1.cell (by simp)]; simp); clear b1)
      have B2 : Hid (∀ o, Below w.heap.size w (w1.alloc o)) := fun o => B1.out.alloc B1.out.size o
      go_wp2_with fail
      (go_at_call 69; refine (HG.out _ (HBo.out _ (B2.out _))).mono ?_; rintro e w2 ⟨rfl, hb2, t2⟩; have HB2 := Lib.hid hb2; have T2 : Hid (Two g1 g2 w w2) := (Two.of_below (B2.out _)).trans t2; clear hb2 t2)
      go_wp2_with fail
      (go_at_call 70; refine (implLinPort_any 50 q _ (HV.out _ T2.out).tab).mono ?_; rintro e w3 ⟨rfl, b3⟩)
      go_wp2_with fail
      go_ret
      exact ⟨rfl, HB2.out.later b3, T2.out.trans (Two.of_below b3)⟩

/-- What RwrLine answers. -/
def rwrA (es : List (Int × Int)) (l : List UInt8) : List (Int × Int) × List UInt8 := if mapB es = true ∧ linB l = true then lineE es l else ([], [])

end Go.Proofs.YtgjhfmlncibpmaaGreatDoor

/- StrLines and StrOk of the specification, at every text. Condition: the text has at most 2^21 bytes. -/
namespace Go.Proofs.YtgjhfmlncibpmaaGreatDoor
open Go.RowKit

set_option maxRecDepth 100000 in
set_option maxHeartbeats 800000 in
theorem specLines_any (s : ByteArray) (w : World) (hs : s.size ≤ 2097152) :
    Calls Tryz.prog 35 #[.string s] w fun e w' => ∃ v, e = .returned (.tuple #[v, .string ⟨(restL s.data.toList).toArray⟩]) ∧ w'.ownsRow w.heap.size 9 1 v (linesL s.data.toList).length ((linesL s.data.toList).map strV) ∧ Below w.heap.size w w' := by
  obtain ⟨i0, hi, hz0, hz1, hz2⟩ := info_parts infoStr
  go_enter Tryz.func35, Tryz.ntmps35
  go_wp2
  go_loopw [4, 5, 6] (fun v f i wr => ∃ (k m : Nat) (W0 : List (List UInt8) × List UInt8), k ≤ s.size ∧ i = .int .i64 k ∧ f = .int .i64 m ∧ m + W0.2.length = k ∧ W0 = linesF (s.data.toList.take k) ∧ wr.ownsRow w.heap.size 9 1 v W0.1.length (W0.1.map strV) ∧ Below w.heap.size w wr)
    (fun _ _ i _ => s.size - (intOf i).toNat)
  case atStart => exact ⟨0, 0, ([], []), Nat.zero_le _, rfl, rfl, rfl, rfl, World.ownsRow_made w #[] 0 (Nat.le_refl _) (Nat.zero_le _) rfl, (Below.refl _ _).alloc (Nat.le_refl _) _⟩
  case round =>
    obtain ⟨k, m, W0, hk, rfl, rfl, hm, hW, hown, hb⟩ := hrel
    have HW := Lib.hid hW
    have HM := Lib.hid hm
    have hlen : W0.1.length ≤ k := by
      have := lines_len (s.data.toList.take k)
      rw [hW]; simp [linesL] at this ⊢; omega
    have hmk : m ≤ k := by omega
    have hbs := hb.size
    clear hW hm
    by_cases hlt : k < s.size
    · have hsn : Hid (linesF (s.data.toList.take (k + 1)) = stl W0 s[k]) := by
        show linesF (s.data.toList.take (k + 1)) = stl W0 s[k]
        rw [take_snoc s k hlt, linesF_snoc, HW.out]
      by_cases h59 : s[k] = 59
      · have ht : (((s[k]).toNat : Int) == 59) = true := by rw [h59]; rfl
        have H59 : Hid (s[k] = 59) := h59
        have HX : Hid (s.extract m k = ⟨W0.2.toArray⟩) := by
          show s.extract m k = _
          have h1 := rest_drop (s.data.toList.take k)
          rw [show restL (s.data.toList.take k) = W0.2 by rw [HW.out]; rfl] at h1
          have h2 : (s.data.toList.take k).length - W0.2.length = m := by have := HM.out; simp; omega
          rw [h2] at h1
          rw [ext_list, ← h1]
        clear h59
        go_wp2_with (at_builtin; rw [HX.out]; refine wpList_append_own _ rfl (.tmp 18) (.tmp 23) 57 rfl w.heap.size 9 i0 (.string ⟨#[]⟩) 1 16 Tryz.underlying57 hi hz0 hz1 hz2 rfl (by decide) _ _ _ rfl (hown.alloc _) ⟨wr.heap.size, 0, none⟩ 1 1 [.string ⟨W0.2.toArray⟩] rfl rfl ?c1 ?c2 ?c3 ?c4 ?c5 ?_)
        case c1 =>
          intro j u hj
          match j, hj with
          | 0, hj => simp at hj; subst hj; simp [Addr.add]
        case c2 => intro u hu; simp at hu; subst hu; rfl
        case c3 => unfold maxLen; omega
        case c4 => omega
        case c5 => simp; omega
        · intro v' w1 hown' hgrow _
          go_wp2
          go_roundw
          case rel =>
            refine ⟨k + 1, k + 1, stl W0 s[k], by omega, by go_num, by go_num, ?_, hsn.out.symm, ?_, ?_⟩
            · rw [stl, if_pos H59.out]; simp
            · rw [stl, if_pos H59.out]; simpa [strV] using hown'
            · exact (hb.alloc hbs _).grown hgrow (by simp; omega) (fun k hk => (hown.lt k hk).1)
          case measure => simp [intOf]; omega
      · have ht : (((s[k]).toNat : Int) == 59) = false := by
          have e59 : (59 : UInt8).toNat = 59 := rfl
          simp; intro e; exact h59 (UInt8.toNat_inj.1 (by omega))
        have H59 : Hid (¬ s[k] = 59) := h59
        clear h59
        go_wp2
        go_roundw
        case rel =>
          refine ⟨k + 1, m, stl W0 s[k], by omega, by go_num, rfl, ?_, hsn.out.symm, ?_, hb⟩
          · have := HM.out
            rw [stl, if_neg H59.out]; simp; omega
          · rw [stl, if_neg H59.out]; exact hown
        case measure => simp [intOf]; omega
    · have HK : Hid (s.data.toList.take k = s.data.toList) := List.take_of_length_le (by rw [len_list]; omega)
      have HX : Hid (s.extract m s.size = ⟨(restL s.data.toList).toArray⟩) := by
        show s.extract m s.size = _
        have h1 := rest_drop s.data.toList
        have h0 : restL s.data.toList = W0.2 := by rw [HW.out, HK.out]; rfl
        have h2 : s.data.toList.length - (restL s.data.toList).length = m := by have := HM.out; rw [h0, len_list]; omega
        rw [h2] at h1
        rw [ext_list, List.take_of_length_le (by rw [len_list]; omega), ← h1]
      have HE : Hid (linesL s.data.toList = W0.1) := by
        show linesL s.data.toList = W0.1
        rw [HW.out, HK.out]; rfl
      have hm1 : (0 : Int) ≤ (m : Int) := by omega
      have hm2 : (m : Int) ≤ (s.size : Int) := by omega
      go_wp2_with fail
      go_region
      go_wp2
      go_ret2
      exact ⟨_, by rw [HX.out]; rfl, by rw [HE.out]; exact hown, hb.drew⟩

set_option maxRecDepth 100000 in
set_option maxHeartbeats 800000 in
theorem specStr_any (s : ByteArray) (w : World) (hs : s.size ≤ 2097152) :
    Calls Tryz.prog 21 #[.string s] w fun e w' => e = .returned (.bool (strB s.data.toList)) ∧ Below w.heap.size w w' := by
  by_cases h120 : 120 < s.size
  · go_enter Tryz.func21, Tryz.ntmps21
    go_wp2_with fail
    go_ret
    exact ⟨ret_bool (by unfold strB; rw [len_list, decide_eq_false (by omega)]; rfl), Below.refl _ _⟩
  · go_enter Tryz.func21, Tryz.ntmps21
    go_wp2_with (go_at_call 35; refine (specLines_any _ _ hs).mono ?_; rintro e w1 ⟨v, rfl, own1, b1⟩)
    obtain ⟨a1, cap1, rfl⟩ := own_form own1
    have hll := lines_len s.data.toList
    rw [len_list] at hll
    have sR : (⟨(restL s.data.toList).toArray⟩ : ByteArray).size ≤ 281474976710656 := by simp [ByteArray.size]; omega
    go_loop [5] (fun i => ∃ k : Nat, k ≤ (linesL s.data.toList).length ∧ i = .int .i64 k ∧ (∀ x ∈ (linesL s.data.toList).take k, linB x = true)) (fun i => (linesL s.data.toList).length - (intOf i).toNat)
    case atStart => exact ⟨0, Nat.zero_le _, rfl, by simp⟩
    case round =>
      obtain ⟨k, hk, rfl, hd⟩ := hrel
      have HD := Lib.hid hd
      clear hd
      by_cases hlt : k < (linesL s.data.toList).length
      · obtain ⟨g, cap, e1, gB, gl, hcap, hcells⟩ := own_cells own1 (by omega)
        obtain ⟨x, hx⟩ : ∃ x, x = (linesL s.data.toList)[k] := ⟨_, rfl⟩
        have hcell : w1.cell? ⟨g, k, none⟩ = some (strV x) := by
          rw [(hcells k (by simpa using hlt)).1]; simp [hx]
        have hxl : x.length ≤ s.size := by rw [← len_list]; exact line_len (by rw [hx]; exact List.getElem_mem _)
        have sX : (⟨x.toArray⟩ : ByteArray).size ≤ 281474976710656 := by simp [ByteArray.size]; omega
        simp at e1
        obtain ⟨rfl, rfl⟩ := e1
        have HX : Hid (x = (linesL s.data.toList)[k]) := hx
        clear hx hcells hxl
        unfold strV at hcell
        by_cases hb : linB x = true
        · have HB := Lib.hid hb
          go_wp2_with (go_at_call 36; refine (specLin_any _ _ sX).mono ?_; rintro e w' ⟨rfl, rfl⟩)
          go_round
          case rel =>
            refine ⟨k + 1, by omega, by go_num, ?_⟩
            rw [List.take_succ_eq_append_getElem hlt, ← HX.out]; intro y hy
            rcases List.mem_append.1 hy with hy | hy
            · exact HD.out y hy
            · simp at hy; subst hy; exact HB.out
          case measure => simp [intOf]; omega
        · have HB : Hid (strB s.data.toList = false) := by
            have : (linesL s.data.toList).all linB = false := by
              rw [List.all_eq_false]; exact ⟨x, by rw [HX.out]; exact List.getElem_mem _, hb⟩
            show (_ && _ && _) = false
            rw [this]; simp
          go_wp2_with (go_at_call 36; refine (specLin_any _ _ sX).mono ?_; rintro e w' ⟨rfl, rfl⟩)
          go_ret
          exact ⟨ret_bool HB.out.symm, b1⟩
      · have HS : Hid (strB s.data.toList = linB (restL s.data.toList)) := by
          have he : (linesL s.data.toList).take k = linesL s.data.toList := List.take_of_length_le (by omega)
          show (_ && _ && _) = _
          rw [len_list, decide_eq_true (by omega), ← he, List.all_eq_true.2 HD.out]; simp
        go_wp2_with (go_at_call 36; refine (specLin_any _ _ sR).mono ?_; rintro e w' ⟨rfl, rfl⟩)
        go_ret
        exact ⟨ret_bool (by rw [HS.out]), b1⟩

end Go.Proofs.YtgjhfmlncibpmaaGreatDoor

/- l3Stream and RwrStream of the specification. Conditions: the table is ok; the text has at most 2^21 bytes. -/
namespace Go.Proofs.YtgjhfmlncibpmaaGreatDoor
open Go.RowKit Go.Sort

theorem lpL_len' (a p : Int) : (lpL a p).length ≤ 20 := by
  unfold lpL
  split
  · rename_i h
    obtain ⟨h1, h2, h3, h4⟩ := end_bounds h
    have l1 := dec_len4 (k := a.toNat) (by omega)
    have l2 := dec_len4 (k := p.toNat) (by omega)
    simp [portL, endL]; omega
  · simp
theorem lineE_len (es : List (Int × Int)) (l : List UInt8) : (lineE es l).2.length ≤ l.length + 20 := by
  rcases h : saysE l with _ | e
  · rw [lineE_none h]
    simp
  · rw [lineE_some h]
    simp only
    split
    · simp [noneL]
    · have := lpL_len' 50 (putE es e).2
      omega
/-- One line more goes outside. -/
def strF (T : List (Int × Int) × List UInt8) (l : List UInt8) : List (Int × Int) × List UInt8 := ((lineE T.1 l).1, T.2 ++ (lineE T.1 l).2 ++ [59])
/-- Lines as they go outside, one behind the other, and the table then. -/
def streamE (es : List (Int × Int)) (ls : List (List UInt8)) : List (Int × Int) × List UInt8 := ls.foldl strF (es, [])
theorem streamE_snoc (es : List (Int × Int)) (ls : List (List UInt8)) (l : List UInt8) : streamE es (ls ++ [l]) = strF (streamE es ls) l := by simp [streamE]
theorem streamE_ok {es : List (Int × Int)} (hm : mapB es = true) (ls : List (List UInt8)) : mapB (streamE es ls).1 = true := by
  unfold streamE
  suffices h : ∀ (T : List (Int × Int) × List UInt8), mapB T.1 = true → mapB (ls.foldl strF T).1 = true from h _ hm
  induction ls with
  | nil => intro T h; exact h
  | cons l r ih => intro T h; exact ih _ (lineE_ok h)

/-- A block of cells of this type. -/
def Tag (w : World) (b : Nat) (t : TypeId) : Prop := ∃ cs fz, w.heap[b]? = some (.cells cs t fz)
theorem Tag.lt {w : World} {b : Nat} {t : TypeId} (h : Tag w b t) : b < w.heap.size := by
  obtain ⟨_, _, h⟩ := h
  exact (Array.getElem?_eq_some_iff.1 h).1
theorem Tag.later {w w' : World} {b : Nat} {t : TypeId} (h : Tag w b t) (hb : Below w.heap.size w w') : Tag w' b t := by
  have hl := h.lt
  obtain ⟨cs, fz, h⟩ := h
  exact ⟨cs, fz, (hb.block b hl).trans h⟩
theorem Tag.new (w : World) (cs : Array Value) (t : TypeId) : Tag (w.alloc (.cells cs t)) w.heap.size t := ⟨cs, _, heap_alloc_new w (.cells cs t)⟩
/-- A table that lies in a block of ends stays, when a cell of a block of another type is written. -/
theorem OwnTab.setTag {w : World} {B : Nat} {v : Value} {es : List (Int × Int)} {t : TypeId} (h : OwnTab w B v es) {a : Addr} (ht : Tag w a.block t) (hne : t ≠ 55) (u : Value) : OwnTab (w.setCell a u) B v es := by
  refine ⟨h.1, ?_⟩
  rcases h.2 with h2 | ⟨g, cap, cur, hv, hB, hg, r⟩
  · exact .inl h2
  · refine .inr ⟨g, cap, cur, hv, hB, ?_, r⟩
    rw [Below.heap_setCell _ _ _ _ fun e => ?_]
    · exact hg
    · obtain ⟨cs, fz, h1⟩ := ht
      rw [← e, hg] at h1
      injection h1 with h1
      injection h1 with _ h2 _
      exact hne h2.symm
theorem tab_ne : (30 : TypeId) ≠ 55 := by decide
theorem fresh1t {W w : World} {x : Value} {t : TypeId} (h : Below (W.alloc (.cells #[x] t)).heap.size (W.alloc (.cells #[x] t)) w) : Tag w W.heap.size t := (Tag.new W #[x] t).later h
theorem fresh1dt {W w : World} {x : Value} {t : TypeId} (h : Below (W.alloc (.cells #[x] t)).drew.heap.size (W.alloc (.cells #[x] t)).drew w) : Tag w W.heap.size t := fresh1t (((Below.refl _ _).drew).trans h)
theorem Tag.setCell {w : World} {b : Nat} {t : TypeId} (h : Tag w b t) (a : Addr) (u : Value) : Tag (w.setCell a u) b t := by
  obtain ⟨cs, fz, h⟩ := h
  by_cases e : b = a.block
  · subst e
    refine ⟨if a.spot.isSome then cs else cs.setIfInBounds a.off u, fz, ?_⟩
    show (w.heap.modify a.block _)[a.block]? = _
    rw [Array.getElem?_modify]
    simp [h]
  · exact ⟨cs, fz, (Below.heap_setCell _ _ _ _ e).trans h⟩

set_option maxRecDepth 100000 in
set_option maxHeartbeats 3200000 in
theorem specStream_any (B : Nat) (ad : Addr) (cap : Nat) (es : List (Int × Int)) (s : ByteArray) (w : World) (hm : mapB es = true) (hs : s.size ≤ 2097152) (hB : B ≤ w.heap.size) (ho : OwnTab w B (.slice (some ad) es.length cap) es) :
    Calls Tryz.prog 37 #[.agg #[.slice (some ad) es.length cap], .string s] w fun e w' => ∃ g c, e = .returned (.tuple #[.agg #[.slice (some g) (streamE es (linesL s.data.toList)).1.length c], .string ⟨(streamE es (linesL s.data.toList)).2.toArray⟩]) ∧ OwnTab w' B (.slice (some g) (streamE es (linesL s.data.toList)).1.length c) (streamE es (linesL s.data.toList)).1 ∧ Below w.heap.size w w' := by
  have HO := Lib.hid ho
  have HM := Lib.hid hm
  have hlz : ∀ x ∈ linesL s.data.toList, x.length ≤ 2097152 := fun x hx => by have := line_len hx; rw [len_list] at this; omega
  have hl0 := lines_len s.data.toList
  rw [len_list] at hl0
  have HL : Hid (∀ w, Calls Tryz.prog 35 #[.string s] w fun e w' => ∃ v, e = .returned (.tuple #[v, .string ⟨(restL s.data.toList).toArray⟩]) ∧ w'.ownsRow w.heap.size 9 1 v (linesL s.data.toList).length ((linesL s.data.toList).map strV) ∧ Below w.heap.size w w') := fun w => specLines_any s w hs
  obtain ⟨ls, hls⟩ : ∃ ls, ls = linesL s.data.toList := ⟨_, rfl⟩
  obtain ⟨rs, hrs⟩ : ∃ rs, rs = (restL s.data.toList).toArray := ⟨_, rfl⟩
  rw [← hls] at HL hlz hl0 ⊢
  rw [← hrs] at HL
  have hln : ls.length ≤ 2097152 := by omega
  have HLZ := Lib.hid hlz
  clear ho hm hls hrs hlz hl0
  go_enter Tryz.func37, Tryz.ntmps37
  go_wp2_with fail
  (go_at_call 35; refine (HL.out _).mono ?_; rintro e w1 ⟨vl, rfl, own1, b1⟩; obtain ⟨cA, cB, b01, z1⟩ := cell_two b1; have t0 := (cA 0).1; have f0 := (cA 0).2; have r0 := (cB 0).1; have g0 := (cB 0).2; simp at t0 r0; have own1 := own_base (B' := w.heap.size + 2) own1 (by simp <;> omega); obtain ⟨al, capl, rfl⟩ := own_form own1; have OWN1 := Lib.hid own1; have B1 := Lib.hid b01; have T0 : Hid (Tag w1 w.heap.size 30) := (⟨_, _, (b1.block w.heap.size (by simp <;> omega)).trans ((Below.heap_alloc _ _ _ (by simp <;> omega)).trans (heap_alloc_new w _))⟩ : Tag w1 w.heap.size 30); have T1 : Hid (Tag w1 (w.heap.size + 1) 30) := (by obtain ⟨cs, fz, hh⟩ := Tag.new (w.alloc (.cells #[.slice (some ad) es.length cap] 30)) #[.slice none 0 0] 30; simp only [World.size_alloc] at hh; exact ⟨cs, fz, (b1.block (w.heap.size + 1) (by simp)).trans hh⟩); clear cA cB b1 b01 own1)
  go_wp2_with fail
  go_loopw [8, 9, 10, 11] (fun o i _ _ wr => ∃ (k : Nat) (us : List (Int × Int)) (x : List UInt8) (g : Addr) (c : Nat), k ≤ ls.length ∧ i = .int .i64 k ∧ o = .string ⟨x.toArray⟩ ∧ (us, x) = streamE es (ls.take k) ∧ x.length ≤ k * 2097173 ∧ wr.cell? ⟨w.heap.size, 0, none⟩ = some (.slice (some g) us.length c) ∧ wr.frozen? ⟨w.heap.size, 0, none⟩ = false ∧ Tag wr w.heap.size 30 ∧ Tag wr (w.heap.size + 1) 30 ∧ OwnTab wr B (.slice (some g) us.length c) us ∧ wr.cell? ⟨w.heap.size + 1, 0, none⟩ = some (.slice none 0 0) ∧ wr.frozen? ⟨w.heap.size + 1, 0, none⟩ = false ∧ wr.ownsRow (w.heap.size + 2) 9 1 (.slice al ls.length capl) ls.length (ls.map strV) ∧ Below w.heap.size w wr ∧ w.heap.size + 2 ≤ wr.heap.size) (fun _ i _ _ _ => ls.length - (intOf i).toNat)
  case atStart => exact ⟨0, es, [], ad, cap, Nat.zero_le _, rfl, rfl, rfl, by simp, t0, f0, T0.out, T1.out, HO.out.below B1.out, r0, g0, OWN1.out, B1.out, z1⟩
  case round =>
    obtain ⟨k, us, x, g, c, hk, rfl, rfl, hT, hxk, t2, f2, tg, tg1, ho, r2, g2, own, hb, hz⟩ := hrel
    have HT := Lib.hid hT
    have HO2 := Lib.hid ho
    have HTG := Lib.hid tg
    have HTG1 := Lib.hid tg1
    clear tg1
    have HOW := Lib.hid own
    have HB := Lib.hid hb
    clear hT ho tg hb
    by_cases hlt : k < ls.length
    · obtain ⟨gl, cl, hv, hgB, hgl, hcl, hcells⟩ := own_cells own (by omega)
      simp at hv
      obtain ⟨rfl, rfl⟩ := hv
      obtain ⟨q0, _⟩ := hcells k (by simpa using hlt)
      simp only [List.getElem_map] at q0
      have hx := HLZ.out ls[k] (List.getElem_mem hlt)
      have HTK : Hid (ls.take (k + 1) = ls.take k ++ [ls[k]]) := List.take_succ_eq_append_getElem hlt
      obtain ⟨y, hy⟩ : ∃ y, y = ls[k] := ⟨_, rfl⟩
      rw [← hy] at q0 hx HTK
      have hul : us.length ≤ 6 := by
        have := mapB_le (streamE_ok HM.out (ls.take k))
        rw [← HT.out] at this
        exact this
      obtain ⟨us', hus⟩ : ∃ us', us' = (lineE us y).1 := ⟨_, rfl⟩
      obtain ⟨x', hx'⟩ : ∃ x', x' = (lineE us y).2 := ⟨_, rfl⟩
      have HN : Hid ((us', x ++ x' ++ [59]) = streamE es (ls.take (k + 1))) := by
        show _ = _
        rw [HTK.out, streamE_snoc, ← HT.out, hus, hx']; rfl
      have hxl : x'.length ≤ 2097172 := by have := lineE_len us y; rw [hx']; omega
      have hxb : x.length ≤ 4400000000000 := by have : k * 2097173 ≤ 2097152 * 2097173 := Nat.mul_le_mul_right _ (by omega); omega
      have hxn : (x ++ x' ++ [59]).length ≤ (k + 1) * 2097173 := by simp; omega
      have HXN := Lib.hid hxn
      clear hxn
      have HC : Hid (∀ w0, B ≤ w0.heap.size → OwnTab w0 B (.slice (some g) us.length c) us → Calls Tryz.prog 57 #[.agg #[.slice (some g) us.length c], strV y] w0 fun e w' => ∃ g c, e = .returned (.tuple #[.agg #[.slice (some g) us'.length c], .string ⟨x'.toArray⟩]) ∧ OwnTab w' B (.slice (some g) us'.length c) us' ∧ Below w0.heap.size w0 w') := fun w0 h1 h2 => by
        rw [hus, hx']
        exact specLine_any B g c us ⟨y.toArray⟩ w0 (by omega) (by show y.toArray.size ≤ _; simpa using hx) h1 h2
      have hk2 : (k : Int) ≤ (capl : Int) := by omega
      have hk3 : (k : Int) ≤ 2097152 := by omega
      have mk : Hid (∀ w', Below wr.heap.size wr w' → w'.cell? ⟨w.heap.size, 0, none⟩ = some (.slice (some g) us.length c) ∧ w'.cell? ⟨gl, k, none⟩ = some (strV y) ∧ Below wr.heap.size wr w') := fun w' h => ⟨box_below t2 h, box_below q0 h, h⟩
      clear hcells hy own hx hus hx'
      go_upto_region 6 with fail
      go_cut [10, 11] (fun s10 s11 wx => ∃ b g c, s10 = .pointer (some ⟨b, 0, none⟩) ∧ s11 = .string ⟨x'.toArray⟩ ∧ wx.cell? ⟨b, 0, none⟩ = some (.slice (some g) us'.length c) ∧ OwnTab wx B (.slice (some g) us'.length c) us' ∧ Below wr.heap.size wr wx)
      case first =>
        go_region_held3 (fun w' => w'.cell? ⟨w.heap.size, 0, none⟩ = some (.slice (some g) us.length c) ∧ w'.cell? ⟨gl, k, none⟩ = some (strV y) ∧ Below wr.heap.size wr w')
          (first
            | exact mk.out _ (Below.refl _ _).drew
            | exact mk.out _ cc
            | exact mk.out _ (cc.alloc cc.size _)
            | exact mk.out _ (cc.setCell (by first | (simp; done) | (simp; omega)) _)
            | exact mk.out _ (((Below.refl _ _).drew).alloc (Nat.le_refl _) _)
            | (trace_state; fail))
          (first | (go_at_call 57; have hS := (by assumption : _ ∧ _ ∧ Below wr.heap.size wr _); refine (HC.out _ (Nat.le_trans (by omega : B ≤ wr.heap.size) hS.2.2.size) (HO2.out.below hS.2.2)).mono ?_; rintro e wN ⟨gN, cN, rfl, oN, bN⟩; have ON := Lib.hid oN; have cc : Below wr.heap.size wr wN := hS.2.2.trans (bN.mono hS.2.2.size); (first | (have hk := fresh1 bN; obtain ⟨k0, kf⟩ := hk; have kt := fresh1t bN) | (have hk := fresh1d bN; obtain ⟨k0, kf⟩ := hk; have kt := fresh1dt bN) | skip)))
        all_goals (go_wp2_with fail; go_meet)
        all_goals (first | exact ⟨_, _, _, rfl, rfl, by simp, ON.out.below ((Below.refl _ _).alloc (Nat.le_refl _) _), cc.alloc cc.size _⟩ | exact ⟨_, _, _, rfl, rfl, World.cell?_setCell_same _ _ _ k0, ON.out.setTag kt tab_ne _, cc.setCell (by first | (simp; done) | (simp; omega)) _⟩ | (trace_state; fail))
      case rest =>
        obtain ⟨b, gN, cN, rfl, rfl, kN, oN, bN⟩ := hcut
        have ON := Lib.hid oN
        have BN := Lib.hid bN
        have t3 := box_below t2 bN
        have f3 := box_frozen t2 f2 bN
        have r3 := box_below r2 bN
        have g3 := box_frozen r2 g2 bN
        have TG3 := Lib.hid (HTG.out.later bN)
        have OW3 := Lib.hid (own_below HOW.out bN)
        have zN := bN.size
        have HSX : Hid ((⟨x.toArray⟩ : ByteArray) ++ ⟨x'.toArray⟩ ++ ⟨#[59]⟩ = ⟨(x ++ x' ++ [59]).toArray⟩) := by
          show _ = _
          apply ByteArray.ext
          apply Array.ext'
          simp
        clear oN bN t2 f2 r2 g2 q0
        clear hxk
        go_wp2_with fail
        go_roundw
        case rel =>
          refine ⟨k + 1, us', x ++ x' ++ [59], gN, cN, by omega, by go_num, by rw [HSX.out], HN.out, HXN.out, World.cell?_setCell_same _ _ _ t3, by rw [World.frozen?_setCell]; exact f3, TG3.out.setCell _ _, (HTG1.out.later BN.out).setCell _ _, ON.out.setTag TG3.out tab_ne _, ?_, by rw [World.frozen?_setCell]; exact g3, ownsRow_setCell_below OW3.out (by simp) _, ?_, by simp; omega⟩
          · rw [World.cell?_setCell_far _ ⟨w.heap.size, 0, none⟩ ⟨w.heap.size + 1, 0, none⟩ _ (by show w.heap.size ≠ w.heap.size + 1; omega)]; exact r3
          · exact (HB.out.trans (BN.out.mono (by omega))).setCell (by simp) _
        case measure => simp [intOf]; omega
    · have hke : k = ls.length := by omega
      have HTE : Hid ((us, x) = streamE es ls) := by show _ = _; rw [HT.out, hke, List.take_length]
      clear hlt
      go_wp2_with fail
      refine bodyPost_ret (v := .tuple #[.agg #[.slice (some g) us.length c], .string ⟨x.toArray⟩]) (by simp [results, Tryz.results37, go_sem, World.cell?_setCell_same _ _ _ r2]) rfl ?_
      rw [← HTE.out]
      refine ⟨g, c, rfl, HO2.out.setTag HTG1.out tab_ne _, HB.out.setCell (by simp) _⟩

end Go.Proofs.YtgjhfmlncibpmaaGreatDoor

/- RwrStream of the program. Conditions: the table is ok; the text is a stream; the variables that are read hold what they are laid with. -/
namespace Go.Proofs.YtgjhfmlncibpmaaGreatDoor
open Go.RowKit Go.Shelf Go.Sort
attribute [local go_sem] Oper.semAt_some

/-- What stays when a block that is no cells turns. -/
theorem heap_kept {w w' : World} {row : Option Nat} {b : Nat} {cs : Array Value} {t : TypeId} {fz : Nat × Nat} (h : w.heap[b]? = some (.cells cs t fz)) (hg : w.grownBy w' row) (hr : ∀ r, row = some r → ∃ o : Obj, w.heap[r]? = some o ∧ o.isCells = false) : w'.heap[b]? = some (.cells cs t fz) := by
  refine (hg.block b (Array.getElem?_eq_some_iff.1 h).1 fun e => ?_).trans h
  obtain ⟨o, ho, hc⟩ := hr b e.symm
  rw [h] at ho
  cases ho
  cases hc
theorem Bld.kept {w w' : World} {row : Option Nat} {B b : Nat} {l : List UInt8} (h : Bld B b l w) (hg : w.grownBy w' row) (hr : ∀ r, row = some r → ∃ o : Obj, w.heap[r]? = some o ∧ o.isCells = false) : Bld B b l w' := by
  have one : ∀ p, Lib.BuilderAtF 70 5 B b p (Lib.byteCells l) w → Lib.BuilderAtF 70 5 B b p (Lib.byteCells l) w' := by
    rintro p ⟨hB, v, hb, hown, hne⟩
    refine ⟨hB, v, heap_kept hb hg hr, ⟨hown.1, ?_⟩, hne⟩
    rcases hown.2 with h2 | ⟨g, cap, cur, fz, hv, hBg, hh, r⟩
    · exact .inl h2
    · exact .inr ⟨g, cap, cur, fz, hv, hBg, heap_kept hh hg hr, r⟩
  rcases h with h | h
  · exact .inl (one _ h)
  · exact .inr (one _ h)
theorem OwnTab.kept {w w' : World} {row : Option Nat} {B : Nat} {v : Value} {es : List (Int × Int)} (h : OwnTab w B v es) (hg : w.grownBy w' row) (hr : ∀ r, row = some r → ∃ o : Obj, w.heap[r]? = some o ∧ o.isCells = false) : OwnTab w' B v es := by
  refine ⟨h.1, ?_⟩
  rcases h.2 with h2 | ⟨g, cap, cur, hv, hB, hh, r⟩
  · exact .inl h2
  · exact .inr ⟨g, cap, cur, hv, hB, heap_kept hh hg hr, r⟩
theorem MapAt.kind {P : Program} {k : TypeId} {w : World} {b : Nat} {L : List (Value × Value)} (h : MapAt P k w b L) : ∃ o : Obj, w.heap[b]? = some o ∧ o.isCells = false ∧ ∀ c t fz, o ≠ .cells c t fz := by
  obtain ⟨es, clock, hb, _⟩ := h
  exact ⟨_, hb, rfl, fun _ _ _ e => by cases e⟩
/-- A builder stays one, when the two maps turn. -/
theorem Bld.two {w w' : World} {g1 g2 B b : Nat} {l : List UInt8} {us : List (Int × Int)} (h : Bld B b l w) (ht : Two g1 g2 w w') (hb : Both w g1 g2 us) : Bld B b l w' := by
  obtain ⟨o1, k1, c1, _⟩ := hb.1.kind
  obtain ⟨o2, k2, c2, _⟩ := hb.2.1.kind
  have keep : ∀ (c : Nat) (cs : Array Value) (t : TypeId) (fz : Nat × Nat), w.heap[c]? = some (.cells cs t fz) → w'.heap[c]? = some (.cells cs t fz) := fun c cs t fz hc => by
    refine (ht.block c (Array.getElem?_eq_some_iff.1 hc).1 (fun e => ?_) (fun e => ?_)).trans hc
    · rw [e, k1] at hc; cases hc; cases c1
    · rw [e, k2] at hc; cases hc; cases c2
  have one : ∀ p, Lib.BuilderAtF 70 5 B b p (Lib.byteCells l) w → Lib.BuilderAtF 70 5 B b p (Lib.byteCells l) w' := by
    rintro p ⟨hB, v, hb, hown, hne⟩
    refine ⟨hB, v, keep _ _ _ _ hb, ⟨hown.1, ?_⟩, hne⟩
    rcases hown.2 with h2 | ⟨g, cap, cur, fz, hv, hBg, hh, r⟩
    · exact .inl h2
    · exact .inr ⟨g, cap, cur, fz, hv, hBg, keep _ _ _ _ hh, r⟩
  rcases h with h | h
  · exact .inl (one _ h)
  · exact .inr (one _ h)
theorem Both.kept {w w' : World} {g1 g2 b : Nat} {us : List (Int × Int)} (h : Both w g1 g2 us) (hk : Kept b w w') (h1 : g1 ≠ b) (h2 : g2 ≠ b) : Both w' g1 g2 us := by
  obtain ⟨o1, k1, _, c1⟩ := h.1.kind
  obtain ⟨o2, k2, _, c2⟩ := h.2.1.kind
  exact ⟨h.1.same ((hk g1 o1 k1 (by simpa using h1) fun c fz => c1 c _ fz).trans k1.symm), h.2.1.same ((hk g2 o2 k2 (by simpa using h2) fun c fz => c2 c _ fz).trans k2.symm), h.2.2⟩
theorem heap_other {w w' : World} {b k : Nat} {cs : Array Value} {t : TypeId} {fz : Nat × Nat} (h : w.heap[k]? = some (.cells cs t fz)) (hk : Kept b w w') (hb : k ≠ b) (ht : t ≠ 5) : w'.heap[k]? = some (.cells cs t fz) :=
  hk k _ h (by simpa using hb) fun c fz' e => by injection e with _ e2 _; exact ht e2
theorem both_ne8 : (65 : TypeId) ≠ 5 := by decide
theorem tab_ne8 : (30 : TypeId) ≠ 5 := by decide
theorem keeps_two {B g1 g2 : Nat} {w w' : World} (h : Two g1 g2 w w') (h1 : g1 < B) (h2 : g2 < B) : KeepsFrom B w w' :=
  ⟨h.size, fun k o hB hk _ => (h.block k (Array.getElem?_eq_some_iff.1 hk).1 (by omega) (by omega)).trans hk⟩
theorem keeps_kept {B b : Nat} {w w' : World} (h : Kept b w w') (hs : w.heap.size ≤ w'.heap.size) (hb : b < B) : KeepsFrom B w w' :=
  ⟨hs, fun k o hB hk ho => h k o hk (by simp; omega) fun c fz e => by subst e; cases ho⟩
theorem cells_at {w : World} {b : Nat} {cs : Array Value} {t : TypeId} (h : w.heap[b]? = some (.cells cs t (0, 0))) (i : Nat) : w.cell? ⟨b, i, none⟩ = cs[i]? ∧ w.frozen? ⟨b, i, none⟩ = false :=
  ⟨by simp only [World.cell?, h]; simp, by simp only [World.frozen?, h]; simp⟩

theorem end_ne8 : (55 : TypeId) ≠ 5 := by decide
theorem OwnTab.other {w w' : World} {B b : Nat} {v : Value} {es : List (Int × Int)} (h : OwnTab w B v es) (hk : Kept b w w') (hb : b < B) : OwnTab w' B v es := by
  refine ⟨h.1, ?_⟩
  rcases h.2 with h2 | ⟨g, cap, cur, hv, hB, hh, r⟩
  · exact .inl h2
  · exact .inr ⟨g, cap, cur, hv, hB, heap_other hh hk (by omega) end_ne8, r⟩

/-- What a round finds: the table and the text of the lines that have gone. -/
def RoundOk (es : List (Int × Int)) (w0 : World) (s : ByteArray) (g1 g2 b3 r : Nat) (pre : List (LineOf s)) (W : World) : Prop :=
  ∃ us x, (us, x) = streamE es (pre.map Subtype.val) ∧ x.length ≤ pre.length * 2097173 ∧ Both W g1 g2 us ∧ Bld (b3 + 1) (b3 + 1) x W ∧ W.heap[b3]? = some (.cells #[.map (some g1), .map (some g2)] 65 (0, 0)) ∧ W.heap[r]? = some (.cells #[.slice none 0 0] 30 (0, 0)) ∧ Below w0.heap.size w0 W ∧ b3 + 3 ≤ W.heap.size
theorem roundOk_own (es : List (Int × Int)) (w0 : World) (s : ByteArray) (g1 g2 b3 r B : Nat) (h1 : g1 < B) (h2 : g2 < B) (hB : w0.heap.size ≤ B) : OwnFrom B (RoundOk es w0 s g1 g2 b3 r) := by
  rintro pre X Y row ⟨us, x, hT, hx, hb, hl, h3, hr3, hbl, hz⟩ hg hr
  have hr' : ∀ r, row = some r → ∃ o : Obj, X.heap[r]? = some o ∧ o.isCells = false := fun r e => (hr r e).2
  have hn : ∀ g, g < B → some g ≠ row := fun g hlt e => by have := (hr g e.symm).1; omega
  refine ⟨us, x, hT, hx, ⟨hb.1.same (hg.block g1 hb.1.lt (hn _ h1)), hb.2.1.same (hg.block g2 hb.2.1.lt (hn _ h2)), hb.2.2⟩, hl.kept hg hr', heap_kept h3 hg hr', heap_kept hr3 hg hr', hbl.grown hg hbl.size (fun k e => Nat.le_trans hB (hr k e).1), Nat.le_trans hz hg.size⟩

set_option maxRecDepth 100000 in
set_option maxHeartbeats 4000000 in
theorem implStream_in (n : Nat) (hn3 : 3 ≤ n) (v : Value) (es : List (Int × Int)) (s : ByteArray) (w : World) (hn : es.length ≤ 4194304) (hs : s.size ≤ 2097152) (ht : TabAt w v es) (hm : mapB es = true) (hl : strB s.data.toList = true) (hv : VarsOk w) :
    CallsIn Fence.wide n Tryz.prog 24 #[.agg #[v], .string s] w fun e w' => ∃ g c, e = .returned (.tuple #[.agg #[.slice g (streamE es (linesL s.data.toList)).1.length c], .string ⟨(streamE es (linesL s.data.toList)).2.toArray⟩]) ∧ OwnTab w' w.heap.size (.slice g (streamE es (linesL s.data.toList)).1.length c) (streamE es (linesL s.data.toList)).1 ∧ Below w.heap.size w w' := by
  have h1 : 1 ≤ n := by omega
  have HT := Lib.hid ht
  have hwf := mapB_wf hm
  obtain ⟨ad, cap, rfl, hcap, hr⟩ := ht
  have hM : Hid (∀ w, TabAt w (.slice ad es.length cap) es → Calls Tryz.prog 40 #[.agg #[.slice ad es.length cap]] w fun e w' => e = .returned (.bool true) ∧ Below w.heap.size w w') := fun w h => by rw [← hm]; exact implMapOk_any _ es w hn hwf h
  have hL : Hid (∀ w, Calls Tryz.prog 41 #[.string s] w fun e w' => e = .returned (.bool true) ∧ Below w.heap.size w w') := fun w => by rw [← hl]; exact implStr_any s w hs
  have HP : Hid (∀ w, TabAt w (.slice ad es.length cap) es → Calls Tryz.prog 42 #[.agg #[.slice ad es.length cap]] w fun e w' => ∃ g1 g2, e = .returned (.agg #[.map (some g1), .map (some g2)]) ∧ w.heap.size ≤ g1 ∧ w.heap.size ≤ g2 ∧ Both w' g1 g2 es ∧ Below w.heap.size w w') := fun w h => portsOf_any _ es w hn hwf h
  have HV : Hid (∀ w', Below w.heap.size w w' → VarsOk w') := fun w' h => hv.below h
  have HM := Lib.hid hm
  clear hr hm hwf hcap hn hl hv
  refine callsIn_of_wp_marks Tryz.func24 rfl trivial ?_ rfl
  simp only [Tryz.ntmps24, List.size_toArray, List.length_cons, List.length_nil, Nat.reduceAdd, Nat.reduceSub, Array.replicate_succ, Array.replicate_zero, List.push_toArray, List.append_toArray, List.nil_append, List.cons_append]
  gi_wp2_with (refine ⟨trivial, ?_⟩; first
    | (gi_at_call 40; refine (callsIn_wide.2 (hM.out _ (HT.out.below (((Below.refl _ _).alloc (Nat.le_refl _) _).alloc (by simp) _)))).mono ?_; rintro e w1 ⟨rfl, b1⟩; obtain ⟨cA, _, b01, z1⟩ := cell_two b1; have t0 := (cA 0).1; simp at t0; have hR1 : w1.heap[w.heap.size + 1]? = some (.cells #[.slice none 0 0] 30 (0, 0)) := (by have h := heap_alloc_new (w.alloc (.cells #[.slice ad es.length cap] 30)) (.cells #[.slice none 0 0] 30); simp only [World.size_alloc] at h; exact (b1.block (w.heap.size + 1) (by simp)).trans h); have HR1 := Lib.hid hR1; clear cA b1 hR1)
    | (gi_at_call 41; refine (callsIn_wide.2 (hL.out _)).mono ?_; rintro e w2 ⟨rfl, b2⟩; replace t0 := box_below t0 b2; replace HR1 := Lib.hid ((b2.block _ (by omega)).trans HR1.out); replace b01 := b01.trans (b2.mono (by omega)); replace z1 := Nat.le_trans z1 b2.size; clear b2)
    | (gi_at_call 42; refine (callsIn_wide.2 (HP.out _ (HT.out.below b01))).mono ?_; rintro e w3 ⟨g1, g2, rfl, l1, l2, hb, b3⟩; replace HR1 := Lib.hid ((b3.block _ (by omega)).trans HR1.out); have B3 := Lib.hid (b01.trans (b3.mono (by omega))); have z3 := b3.size; have m1 := hb.lt.1; have m2 := hb.lt.2; have HB := Lib.hid hb; clear b01 b3 hb t0)
    | (gi_at_call 43; refine (callsIn_wide.2 (linesOf_any _ _)).mono ?_; rintro e w' ⟨rfl, rfl⟩))
  obtain ⟨W0, hW0⟩ : ∃ W0, ((w3.alloc (.cells #[.map (some g1), .map (some g2)] 65)).alloc (.cells #[.pointer none, .slice none 0 0] 70)).alloc (.cells #[.string s] 9) = W0 := ⟨_, rfl⟩
  obtain ⟨b3, hb3⟩ : ∃ b3, b3 = w3.heap.size := ⟨_, rfl⟩
  have hs0 : W0.heap.size = b3 + 3 := by rw [← hW0, hb3]; simp
  have BW : Hid (Below w3.heap.size w3 W0) := by rw [← hW0]; exact (((Below.refl _ _).alloc (Nat.le_refl _) _).alloc (by simp) _).alloc (by simp; omega) _
  have hS : W0.cell? ⟨b3 + 2, 0, none⟩ = some (.string s) := by
    have := (cell_new ((w3.alloc (.cells #[.map (some g1), .map (some g2)] 65)).alloc (.cells #[.pointer none, .slice none 0 0] 70)) #[.string s] 9 0).1
    simp only [World.size_alloc] at this
    rw [← hW0, hb3]; exact this
  have I0 : RoundOk es w s g1 g2 b3 (w.heap.size + 1) [] W0 := by
    refine ⟨es, [], rfl, by simp, HB.out.later BW.out, ?_, ?_, ?_, B3.out.trans (BW.out.mono B3.out.size), by omega⟩
    · refine .inl ⟨Nat.le_refl _, .slice none 0 0, ?_, ⟨rfl, .inl ⟨rfl, rfl⟩⟩, fun e => by cases e⟩
      have := heap_alloc_new (w3.alloc (.cells #[.map (some g1), .map (some g2)] 65)) (.cells #[.pointer none, .slice none 0 0] 70)
      simp only [World.size_alloc] at this
      rw [← hW0, hb3, Below.heap_alloc _ _ _ (by simp)]
      exact this
    · rw [← hW0, hb3, Below.heap_alloc _ _ _ (by simp; omega), Below.heap_alloc _ _ _ (by simp)]
      exact heap_alloc_new w3 _
    · exact (BW.out.block _ (by omega)).trans HR1.out
  rw [hW0]
  rw [← hb3] at m1 m2 z3 ⊢
  have hs1 : W0.heap.size ≤ b3 + 3 := Nat.le_of_eq hs0
  have hs2 : b3 + 3 ≤ W0.heap.size := Nat.le_of_eq hs0.symm
  have hzw : w.heap.size + 2 ≤ b3 := by omega
  have HI0 := Lib.hid I0
  have HSt := Lib.hid hS
  have hln : (linesL s.data.toList).length ≤ 2097152 := by have := lines_len s.data.toList; rw [len_list] at this; omega
  clear hs0 hW0 hb3 I0 hS BW
  refine wpIn_rangeFunc_ownG rfl h1 (gf := 65) (lb := #[.pointer (some ⟨b3 + 1 + 1, 0, none⟩)]) rfl trivial (enters_of Tryz.func65 (by kernel_rfl) rfl)
    (tell_stopsS (n - 1) (by omega) (b3 + 2) s hs W0 (by omega) HSt.out) (fun _ _ => trivial) (fun _ _ _ _ _ _ _ _ => trivial) (Below.refl _ _) (fun _ => rfl)
    (RoundOk es w s g1 g2 b3 (w.heap.size + 1))
    (fun _ _ _ => False)
    (roundOk_own es w s g1 g2 b3 (w.heap.size + 1) W0.heap.size (by omega) (by omega) (by omega))
    (fun c => fun _ _ _ _ h _ _ => h.elim)
    HI0.out
    (fun x => { tmps := #[.agg #[.slice ad es.length cap], .string s, .pointer (some ⟨w.heap.size, 0, none⟩), undef, .pointer (some ⟨w.heap.size + 1, 0, none⟩), .string ⟨#[]⟩, .pointer (some ⟨b3, 0, none⟩), .pointer (some ⟨b3 + 1, 0, none⟩), .string ⟨x.1.toArray⟩, .agg #[.slice ad es.length cap], .bool true, .bool false, .bool false, .string s, .bool true, .bool false, .bool false, undef, .agg #[.slice ad es.length cap], .agg #[.map (some g1), .map (some g2)], .string s, .func (.func 65) #[] #[.pointer (some ⟨b3 + 1 + 1, 0, none⟩)], .string ⟨x.1.toArray⟩, undef, undef, undef, undef, undef, undef, undef, undef], defers := [] }) ?assign ?body ?done ?stop
  case assign =>
    intro l x W K hK
    gi_wp2
    exact hK
  case body =>
    rintro l pre x W ⟨us, y, hT, hy, hb, hbl, h3, hr3, hB, hz⟩ hpre
    have hmu : mapB us = true := by
      have := streamE_ok HM.out (pre.map Subtype.val)
      rw [← hT] at this
      exact this
    have hxl : x.1.length ≤ 2097152 := by have := line_len x.2; rw [len_list] at this; omega
    obtain ⟨us', hus⟩ : ∃ us', us' = (lineE us x.1).1 := ⟨_, rfl⟩
    obtain ⟨x', hx'⟩ : ∃ x', x' = (lineE us x.1).2 := ⟨_, rfl⟩
    have hx'l : x'.length ≤ 2097172 := by have := lineE_len us x.1; rw [hx']; omega
    have hyb : y.length ≤ 4400000000000 := by have : pre.length * 2097173 ≤ 2097152 * 2097173 := Nat.mul_le_mul_right _ (by omega); omega
    have HY : Hid ((y ++ (x' ++ [59])).length ≤ (pre ++ [x]).length * 2097173) := by show _ ≤ _; simp; omega
    have HN : Hid ((us', y ++ (x' ++ [59])) = streamE es ((pre ++ [x]).map Subtype.val)) := by
      show _ = _
      rw [List.map_append, List.map_singleton, streamE_snoc, ← hT, hus, hx']
      simp [strF]
    have HC : Hid (Calls Tryz.prog 45 #[.agg #[.map (some g1), .map (some g2)], .string ⟨x.1.toArray⟩] W fun e w' => e = .returned (.string ⟨x'.toArray⟩) ∧ Both w' g1 g2 us' ∧ Two g1 g2 W w') := by
      rw [hus, hx']
      exact lineOutside_any g1 g2 us ⟨x.1.toArray⟩ W (by show x.1.toArray.size ≤ _; simpa using hxl) hb hmu fun w' h => HV.out _ (hB.trans (h.below hB.size (by omega) (by omega)))
    have HW : Hid (∀ w, Bld (b3 + 1) (b3 + 1) y w → b3 + 1 ≤ w.heap.size → Calls Tryz.prog 44 #[.pointer (some ⟨b3 + 1, 0, none⟩), .string (⟨x'.toArray⟩ ++ ⟨#[59]⟩)] w fun e w' => e = .returned (.tuple #[.int .i64 ((x' ++ [59]).length : Int), .nilIface]) ∧ Bld (b3 + 1) (b3 + 1) (y ++ (x' ++ [59])) w' ∧ Below (b3 + 1) w w' ∧ Kept (b3 + 1) w w') := fun w h1 h2 => by
      rw [show (⟨x'.toArray⟩ ++ ⟨#[59]⟩ : ByteArray) = ⟨(x' ++ [59]).toArray⟩ from by apply ByteArray.ext; apply Array.ext'; simp]
      exact write_any (b3 + 1) (b3 + 1) y (x' ++ [59]) w h1 (by simp; omega) h2
    have p0 := (cells_at h3 0).1
    have p1 := (cells_at h3 1).1
    simp at p0 p1
    have HBo := Lib.hid hb
    have HBl := Lib.hid hbl
    have H3 := Lib.hid h3
    have HR3 := Lib.hid hr3
    have HB := Lib.hid hB
    have hd : 1 ≤ n - 1 - 1 := by omega
    clear hT hy hb hbl h3 hr3 hB hmu hus hx' hxl hyb
    gi_wp2_with (refine ⟨trivial, ?_⟩; first
      | (gi_at_call 45; refine (CallsIn.inRound l (callsIn_wide.2 HC.out)).mono ?_; rintro e W1 ⟨rfl, hb1, t1⟩; have HB1 := Lib.hid hb1; have T1 := Lib.hid t1; have zW := t1.size; clear hb1 t1)
      | (gi_at_call 44; refine (CallsIn.inRound l (callsIn_wide.2 (HW.out _ (HBl.out.two T1.out HBo.out) (by omega)))).mono ?_; rintro e W2 ⟨rfl, hl2, b2, k2⟩))
    have T1 := T1.out
    have e3 : W1.heap[b3]? = some (.cells #[.map (some g1), .map (some g2)] 65 (0, 0)) := (T1.block b3 (by omega) (by omega) (by omega)).trans H3.out
    have er : W1.heap[w.heap.size + 1]? = some (.cells #[.slice none 0 0] 30 (0, 0)) := (T1.block _ (by omega) (by omega) (by omega)).trans HR3.out
    exact ⟨(keeps_two T1 (by omega) (by omega)).trans (keeps_kept k2 b2.size (by omega)), trivial, us', y ++ (x' ++ [59]), HN.out, HY.out, HB1.out.kept k2 (by omega) (by omega), hl2, heap_other e3 k2 (by omega) both_ne8, heap_other er k2 (by omega) tab_ne8, (HB.out.trans (T1.below HB.out.size (by omega) (by omega))).trans (b2.mono (by omega)), by have := b2.size; omega⟩
  case done =>
    rintro D xs W hD hxs ⟨us, y, hT, hy, hb, hbl, h3, hr3, hB, hz⟩ hK
    rw [hxs] at hT
    have hmu : mapB us = true := by
      have := streamE_ok HM.out (linesL s.data.toList)
      rw [← hT] at this
      exact this
    have HO : Hid (Calls Tryz.prog 46 #[.agg #[.map (some g1), .map (some g2)]] W fun e w' => ∃ a c, e = .returned (.agg #[.slice a us.length c]) ∧ OwnTab w' W.heap.size (.slice a us.length c) us ∧ Below W.heap.size W w') := tableOf_any g1 g2 us W hb (valsL_ok hmu) (by have := mapB_le hmu; omega)
    have HS : Hid (∀ w, Bld (b3 + 1) (b3 + 1) y w → b3 + 1 ≤ w.heap.size → Calls Tryz.prog 47 #[.pointer (some ⟨b3 + 1, 0, none⟩)] w fun e w' => e = .returned (.string ⟨y.toArray⟩) ∧ Bld (b3 + 1) (b3 + 1) y w' ∧ Below (b3 + 1) w w' ∧ Kept (b3 + 1) w w') := fun w h1 h2 => buildString_any (b3 + 1) (b3 + 1) y w h1 h2
    have p0 := (cells_at h3 0).1
    have p1 := (cells_at h3 1).1
    simp at p0 p1
    have HBo := Lib.hid hb
    have HBl := Lib.hid hbl
    have HR3 := Lib.hid hr3
    have HB := Lib.hid hB
    have HK := Lib.hid hK
    have HTT := Lib.hid hT
    clear hT hy hb hbl h3 hr3 hB hmu hxs hK
    gi_wp2_with (refine ⟨trivial, ?_⟩; first
      | (gi_at_call 46; refine (callsIn_wide.2 HO.out).mono ?_; rintro e W1 ⟨ga, ca, rfl, o1, b1⟩; have O1 := Lib.hid o1; have B1 := Lib.hid b1; have zW := b1.size; clear o1 b1)
      | (gi_at_call 47; refine (callsIn_wide.2 (HS.out _ (HBl.out.two (Two.of_below B1.out) HBo.out) (by omega))).mono ?_; rintro e W2 ⟨rfl, _, b2, k2⟩; have z2 := b2.size; have hr2 := heap_other ((B1.out.block _ (by omega)).trans HR3.out) k2 (by omega) tab_ne8; have hc2 := (cells_at hr2 0).1; have hf2 := (cells_at hr2 0).2; simp at hc2; have HR2 := Lib.hid hr2; have B2 := Lib.hid b2; have K2 := Lib.hid k2; clear b2 k2 hr2))
    have hD2 : W2.heap[D]? = some (.deferred (some [])) := K2.out D _ ((B1.out.block D (Array.getElem?_eq_some_iff.1 HK.out).1).trans HK.out) (by simp; omega) (fun c fz e => by cases e)
    have hK' := (KeepsOthers.setCell W2 ⟨w.heap.size + 1, 0, none⟩ (.slice ga us.length ca)).same D _ hD2 rfl
    have O2 : OwnTab W2 W.heap.size (.slice ga us.length ca) us := O1.out.other K2.out (by omega)
    have BB : Below w.heap.size w W2 := (HB.out.trans (B1.out.mono (by omega))).trans (B2.out.mono (by omega))
    have hc3 : (W2.setCell ⟨w.heap.size + 1, 0, none⟩ (.slice ga us.length ca)).cell? ⟨w.heap.size + 1, 0, none⟩ = some (.slice ga us.length ca) := World.cell?_setCell_same _ _ _ hc2
    have hg := grownBy_putObj' (W2.setCell ⟨w.heap.size + 1, 0, none⟩ (.slice ga us.length ca)) D (.deferred none)
    have hrw : ∀ r, some D = some r → ∃ o : Obj, (W2.setCell ⟨w.heap.size + 1, 0, none⟩ (.slice ga us.length ca)).heap[r]? = some o ∧ o.isCells = false := fun r e => by cases e; exact ⟨_, hK', rfl⟩
    refine ⟨by simp, .inl ⟨_, _, rfl, run_takeDeferred hK', ?_⟩⟩
    have hc5 := cell_kept hc3 hg hrw
    refine ⟨.tuple #[.agg #[.slice ga us.length ca], .string ⟨y.toArray⟩], ?_, ga, ca, ?_, ?_, ?_⟩
    · simp [results, Tryz.results24, go_sem, hc5]
    · rw [← HTT.out]
    · rw [← HTT.out]
      exact OwnTab.kept (OwnTab.mono (B := W.heap.size) (ownsRow_setCell_below (a := ⟨w.heap.size + 1, 0, none⟩) O2 (by simp; omega) _) (by omega)) hg hrw
    · exact (BB.setCell (by simp) _).trans (belowK_b (w := w) (Nat.le_refl _) _ D _ _ (by omega) hK' rfl rfl)
  case stop =>
    intro D c pre W hD hpre hx
    exact hx.elim

end Go.Proofs.YtgjhfmlncibpmaaGreatDoor

/- RwrStream of the specification. Conditions: at most 2^22 ends; the text has at most 2^21 bytes. -/
namespace Go.Proofs.YtgjhfmlncibpmaaGreatDoor
open Go.RowKit Go.Sort

end Go.Proofs.YtgjhfmlncibpmaaGreatDoor

/- RwrStream of the program and of the specification, in one form. Conditions: at most 2^22 ends; all numbers are ints; the text has at most 2^21 bytes; the variables that are read hold what they are laid with. -/
namespace Go.Proofs.YtgjhfmlncibpmaaGreatDoor
open Go.RowKit

/-- What RwrStream answers. -/
def strA (es : List (Int × Int)) (l : List UInt8) : List (Int × Int) × List UInt8 := if mapB es = true ∧ strB l = true then streamE es (linesL l) else ([], [])

set_option maxRecDepth 100000 in
set_option maxHeartbeats 1600000 in
theorem implRwrStream_not (v : Value) (es : List (Int × Int)) (s : ByteArray) (w : World) (hn : es.length ≤ 4194304) (hs : s.size ≤ 2097152) (hwf : wfE es) (ht : TabAt w v es) (hno : (mapB es && strB s.data.toList) = false) :
    Calls Tryz.prog 24 #[.agg #[v], .string s] w fun e w' => e = .returned (.tuple #[.agg #[.slice none 0 0], .string ⟨#[]⟩]) ∧ Below w.heap.size w w' := by
  have HT := Lib.hid ht
  obtain ⟨ad, cap, rfl, hcap, hr⟩ := ht
  have hM : Hid (∀ w, TabAt w (.slice ad es.length cap) es → Calls Tryz.prog 40 #[.agg #[.slice ad es.length cap]] w fun e w' => e = .returned (.bool (mapB es)) ∧ Below w.heap.size w w') := fun w h => implMapOk_any _ es w hn hwf h
  have hL : Hid (∀ w, Calls Tryz.prog 41 #[.string s] w fun e w' => e = .returned (.bool (strB s.data.toList)) ∧ Below w.heap.size w w') := fun w => implStr_any s w hs
  clear hr hwf
  by_cases hm : mapB es = true
  · have hi : strB s.data.toList = false := by rw [hm] at hno; simpa using hno
    rw [hm] at hM
    rw [hi] at hL
    clear hno hm
    go_enter Tryz.func24, Tryz.ntmps24
    go_wp2_with (first
      | (go_at_call 40; refine (hM.out _ (HT.out.below (((Below.refl _ _).alloc (Nat.le_refl _) _).alloc (by simp) _))).mono ?_; rintro e w1 ⟨rfl, b1⟩; obtain ⟨_, cB, b01, z1⟩ := cell_two b1; have r0 := (cB 0).1; have g0 := (cB 0).2; simp at r0; clear cB)
      | (go_at_call 41; refine (hL.out _).mono ?_; rintro e w2 ⟨rfl, b2⟩; replace g0 := box_frozen r0 g0 b2; replace r0 := box_below r0 b2; replace b01 := b01.trans (b2.mono (by omega))))
    refine bodyPost_ret (v := .tuple #[.agg #[.slice none 0 0], .string ⟨#[]⟩]) (by simp [results, Tryz.results24, go_sem, World.cell?_setCell_same _ _ _ r0]) rfl ⟨rfl, ?_⟩
    exact b01.setCell (by simp) _
  · have hm' : mapB es = false := by simpa using hm
    rw [hm'] at hM
    clear hno hm hm'
    go_enter Tryz.func24, Tryz.ntmps24
    go_wp2_with (go_at_call 40; refine (hM.out _ (HT.out.below (((Below.refl _ _).alloc (Nat.le_refl _) _).alloc (by simp) _))).mono ?_; rintro e w1 ⟨rfl, b1⟩; obtain ⟨_, cB, b01, z1⟩ := cell_two b1; have r0 := (cB 0).1; have g0 := (cB 0).2; simp at r0; clear cB)
    refine bodyPost_ret (v := .tuple #[.agg #[.slice none 0 0], .string ⟨#[]⟩]) (by simp [results, Tryz.results24, go_sem, World.cell?_setCell_same _ _ _ r0]) rfl ⟨rfl, ?_⟩
    exact b01.setCell (by simp) _

theorem implStream_ok (v : Value) (es : List (Int × Int)) (s : ByteArray) (w : World) (hn : es.length ≤ 4194304) (hs : s.size ≤ 2097152) (ht : TabAt w v es) (hm : mapB es = true) (hl : strB s.data.toList = true) (hv : VarsOk w) :
    Calls Tryz.prog 24 #[.agg #[v], .string s] w fun e w' => ∃ g c, e = .returned (.tuple #[.agg #[.slice g (streamE es (linesL s.data.toList)).1.length c], .string ⟨(streamE es (linesL s.data.toList)).2.toArray⟩]) ∧ OwnTab w' w.heap.size (.slice g (streamE es (linesL s.data.toList)).1.length c) (streamE es (linesL s.data.toList)).1 ∧ Below w.heap.size w w' :=
  callsIn_wide.1 (implStream_in 3 (by omega) v es s w hn hs ht hm hl hv)

theorem strA_yes {es : List (Int × Int)} {l : List UInt8} (h : (mapB es && strB l) = true) : strA es l = streamE es (linesL l) := if_pos (by simpa using h)
theorem strA_not {es : List (Int × Int)} {l : List UInt8} (h : (mapB es && strB l) = false) : strA es l = ([], []) := if_neg (by simpa using h)
theorem strA_le (es : List (Int × Int)) (l : List UInt8) : (strA es l).1.length ≤ 6 := by
  by_cases h : (mapB es && strB l) = true
  · rw [strA_yes h]
    exact mapB_le (streamE_ok (by simp at h; exact h.1) _)
  · rw [strA_not (by simpa using h)]
    simp

theorem implStrA (v : Value) (es : List (Int × Int)) (s : ByteArray) (w : World) (hn : es.length ≤ 4194304) (hs : s.size ≤ 2097152) (hwf : wfE es) (ht : TabAt w v es) (hv : VarsOk w) :
    Calls Tryz.prog 24 #[.agg #[v], .string s] w fun e w' => ∃ g c, e = .returned (.tuple #[.agg #[.slice g (strA es s.data.toList).1.length c], .string ⟨(strA es s.data.toList).2.toArray⟩]) ∧ FreshTab w' w.heap.size (.slice g (strA es s.data.toList).1.length c) (strA es s.data.toList).1 ∧ Below w.heap.size w w' := by
  by_cases h : (mapB es && strB s.data.toList) = true
  · rw [strA_yes h]
    simp only [Bool.and_eq_true] at h
    refine (implStream_ok v es s w hn hs ht h.1 h.2 hv).mono ?_
    rintro e w' ⟨g, c, rfl, h1, h2⟩
    exact ⟨_, _, rfl, h1.fresh, h2⟩
  · have h' : (mapB es && strB s.data.toList) = false := by simpa using h
    rw [strA_not h']
    refine (implRwrStream_not v es s w hn hs hwf ht h').mono ?_
    rintro e w' ⟨rfl, h2⟩
    exact ⟨_, _, rfl, FreshTab.nil _ _, h2⟩

end Go.Proofs.YtgjhfmlncibpmaaGreatDoor

/- What a list of texts reads as, in a world. No condition. -/
namespace Go.Proofs.YtgjhfmlncibpmaaGreatDoor
open Go.RowKit

/-- The cells of a row, none of them frozen. -/
def RowAt (w : World) (g : Nat) (xs : List Value) : Prop := ∀ i (hi : i < xs.length), w.cell? ⟨g, i, none⟩ = some xs[i] ∧ w.frozen? ⟨g, i, none⟩ = false
theorem RowAt.below {w w' : World} {B g : Nat} {xs : List Value} (h : RowAt w g xs) (hb : Below B w w') (hg : g < B) : RowAt w' g xs :=
  fun i hi => ⟨(hb.cell (p := ⟨g, i, none⟩) hg).trans (h i hi).1, (hb.frozen (p := ⟨g, i, none⟩) hg).trans (h i hi).2⟩
theorem RowAt.lt {w : World} {g : Nat} {xs : List Value} (h : RowAt w g xs) (hn : 0 < xs.length) : g < w.heap.size := World.block_lt_of_cell? w _ (h 0 hn).1
theorem addr_ne {g i j : Nat} (h : i ≠ j) : (⟨g, i, none⟩ : Addr) ≠ ⟨g, j, none⟩ := by intro e; injection e with _ e2; exact h e2
theorem RowAt.set {w : World} {g i : Nat} {xs : List Value} (h : RowAt w g xs) (hi : i < xs.length) (u : Value) : RowAt (w.setCell ⟨g, i, none⟩ u) g (xs.set i u) := by
  intro j hj
  have hj' : j < xs.length := by simpa using hj
  refine ⟨?_, by rw [World.frozen?_setCell]; exact (h j hj').2⟩
  by_cases e : i = j
  · subst e
    rw [World.cell?_setCell_same _ _ _ (h i hi).1]; simp
  · rw [World.cell?_setCell_other _ _ _ u (addr_ne e), (h j hj').1]
    simp [e]
/-- A slice reads as these cells. -/
def RdV (w : World) (v : Value) (xs : List Value) : Prop := ∃ a cap, v = .slice a xs.length cap ∧ (0 < xs.length → ∃ g, a = some ⟨g, 0, none⟩ ∧ RowAt w g xs)
theorem RdV.below {w w' : World} {v : Value} {xs : List Value} (h : RdV w v xs) (hb : Below w.heap.size w w') : RdV w' v xs := by
  obtain ⟨a, cap, rfl, hr⟩ := h
  refine ⟨a, cap, rfl, fun hn => ?_⟩
  obtain ⟨g, rfl, hrow⟩ := hr hn
  exact ⟨g, rfl, hrow.below hb (hrow.lt hn)⟩
theorem RdV.of_own {w : World} {B n : Nat} {e : TypeId} {v : Value} {xs : List Value} (h : w.ownsRow B e 1 v n xs) : RdV w v xs ∧ xs.length = n := by
  have hl : xs.length = n := by rw [h.1]; omega
  obtain ⟨a, cap, e⟩ := own_form h
  refine ⟨⟨a, cap, by rw [e, hl], fun hn => ?_⟩, hl⟩
  obtain ⟨g, cap', e', _, _, _, hc⟩ := own_cells h (by omega)
  rw [e] at e'
  simp at e'
  exact ⟨g, e'.1, hc⟩
theorem eq_cell {w : World} {g i : Nat} {xs : List Value} (h : RowAt w g xs) (hi : i < xs.length) : w.cell? ⟨g, i, none⟩ = some xs[i] := (h i hi).1

end Go.Proofs.YtgjhfmlncibpmaaGreatDoor

/- Lists of elements that take several cells each, in a world. No condition. -/
namespace Go.Proofs.YtgjhfmlncibpmaaGreatDoor
open Go.RowKit

/-- The cells of a list of elements. -/
def flatC {α : Type} (c : α → List Value) (xs : List α) : List Value := (xs.map c).flatten
theorem flatC_app {α : Type} (c : α → List Value) (xs ys : List α) : flatC c (xs ++ ys) = flatC c xs ++ flatC c ys := by simp [flatC]
theorem flatC_len {α : Type} {c : α → List Value} {k : Nat} (hk : ∀ x, (c x).length = k) (xs : List α) : (flatC c xs).length = xs.length * k := by
  induction xs with
  | nil => simp [flatC]
  | cons x r ih => simp [flatC] at ih ⊢; rw [ih, hk, Nat.add_mul]; omega
theorem flatC_one {α : Type} {c : α → List Value} (h : ∀ x, ∀ u ∈ c x, u.oneCell' = true) (xs : List α) : ∀ u ∈ flatC c xs, u.oneCell' = true := by
  intro u hu
  simp only [flatC, List.mem_flatten, List.mem_map] at hu
  obtain ⟨l, ⟨x, _, rfl⟩, hu⟩ := hu
  exact h x u hu
theorem flatC_at {α : Type} {c : α → List Value} {k : Nat} (hk : ∀ x, (c x).length = k) (xs : List α) (i : Nat) (hi : i < xs.length) (j : Nat) (hj : j < k) : (flatC c xs)[i * k + j]? = (c xs[i])[j]? := by
  induction xs generalizing i with
  | nil => simp at hi
  | cons x r ih =>
    cases i with
    | zero =>
      simp only [flatC, List.map_cons, List.flatten_cons, Nat.zero_mul, Nat.zero_add, List.getElem_cons_zero]
      exact List.getElem?_append_left (by rw [hk]; exact hj)
    | succ i =>
      have := ih i (by simpa using hi)
      simp only [flatC, List.map_cons, List.flatten_cons, List.getElem_cons_succ] at this ⊢
      rw [List.getElem?_append_right (by rw [hk, Nat.add_mul]; omega), ← this]
      congr 1
      rw [hk, Nat.add_mul]; omega
/-- A slice reads as these elements. -/
def RdC {α : Type} (c : α → List Value) (w : World) (v : Value) (xs : List α) : Prop := ∃ a cap, v = .slice a xs.length cap ∧ xs.length ≤ cap ∧ (0 < xs.length → ∃ g, a = some ⟨g, 0, none⟩ ∧ RowAt w g (flatC c xs))
theorem RdC.below {α : Type} {c : α → List Value} {k : Nat} (hk : ∀ x, (c x).length = k) (h0 : 0 < k) {w w' : World} {v : Value} {xs : List α} (h : RdC c w v xs) (hb : Below w.heap.size w w') : RdC c w' v xs := by
  obtain ⟨a, cap, rfl, hc, hr⟩ := h
  refine ⟨a, cap, rfl, hc, fun hn => ?_⟩
  obtain ⟨g, rfl, hrow⟩ := hr hn
  exact ⟨g, rfl, hrow.below hb (hrow.lt (by rw [flatC_len hk]; exact Nat.mul_pos hn h0))⟩
theorem RowAt.of_own {w : World} {B n k : Nat} {e : TypeId} {v : Value} {xs : List Value} (h : w.ownsRow B e k v n xs) (hn : 0 < xs.length) : ∃ g cap, v = .slice (some ⟨g, 0, none⟩) n cap ∧ n ≤ cap ∧ B ≤ g ∧ g < w.heap.size ∧ RowAt w g xs := by
  rcases h.2 with ⟨rfl, h0⟩ | ⟨g, cap, cur, rfl, hB, hg, h2, h3, hs, ht⟩
  · have := h.1; rw [h0] at this; omega
  · refine ⟨g, cap, rfl, h2, hB, (Array.getElem?_eq_some_iff.1 hg).1, fun i hi => ?_⟩
    obtain ⟨l⟩ := cur
    have hlen := h.1
    have f0 : xs[i]? = some xs[i] := List.getElem?_eq_getElem hi
    obtain ⟨u, hu⟩ : ∃ u, u = xs[i] := ⟨_, rfl⟩
    rw [← hu] at f0 ⊢
    clear hu
    rw [← ht] at f0
    rw [List.getElem?_take_of_lt (by omega)] at f0
    exact ⟨by simp [World.cell?, hg]; exact f0, by simp [World.frozen?, hg]⟩
theorem RdC.of_own {α : Type} {c : α → List Value} {k : Nat} (hk : ∀ x, (c x).length = k) (h0 : 0 < k) {w : World} {B : Nat} {e : TypeId} {v : Value} {xs : List α} (h : w.ownsRow B e k v xs.length (flatC c xs)) : RdC c w v xs := by
  by_cases hn : 0 < xs.length
  · obtain ⟨g, cap, rfl, hc, _, _, hr⟩ := RowAt.of_own h (by rw [flatC_len hk]; exact Nat.mul_pos hn h0)
    exact ⟨_, cap, rfl, hc, fun _ => ⟨g, rfl, hr⟩⟩
  · rcases h.2 with ⟨rfl, h1⟩ | ⟨g, cap, cur, rfl, hB, hg, h2, _⟩
    · exact ⟨none, 0, by rw [h1], by omega, fun h => absurd h hn⟩
    · exact ⟨_, cap, rfl, h2, fun h => absurd h hn⟩
/-- The j-th cell of the i-th element. -/
theorem RowAt.elem {α : Type} {c : α → List Value} {k : Nat} (hk : ∀ x, (c x).length = k) {w : World} {g : Nat} {xs : List α} (h : RowAt w g (flatC c xs)) (i : Nat) (hi : i < xs.length) (j : Nat) (hj : j < k) (u : Value) (hu : (c xs[i])[j]? = some u) : w.cell? ⟨g, i * k + j, none⟩ = some u ∧ w.frozen? ⟨g, i * k + j, none⟩ = false := by
  have hl : i * k + j < (flatC c xs).length := by
    rw [flatC_len hk]
    have : (i + 1) * k ≤ xs.length * k := Nat.mul_le_mul_right _ hi
    rw [Nat.add_mul] at this
    omega
  obtain ⟨h1, h2⟩ := h _ hl
  refine ⟨?_, h2⟩
  rw [h1, ← hu, ← flatC_at hk xs i hi j hj, List.getElem?_eq_getElem hl]

end Go.Proofs.YtgjhfmlncibpmaaGreatDoor

/- Spans of lines side by side, as data. No condition. -/
namespace Go.Proofs.YtgjhfmlncibpmaaGreatDoor
open Go.RowKit

/-- A line and what it is on the other side. -/
def insL (l : List (List UInt8 × List UInt8)) : Nat := (l.map fun p => p.1.length + 1).sum
def outsL (l : List (List UInt8 × List UInt8)) : Nat := (l.map fun p => p.2.length + 1).sum
theorem insL_app (a b : List (List UInt8 × List UInt8)) : insL (a ++ b) = insL a + insL b := by simp [insL]
theorem outsL_app (a b : List (List UInt8 × List UInt8)) : outsL (a ++ b) = outsL a + outsL b := by simp [outsL]
theorem insL_succ {l : List (List UInt8 × List UInt8)} {k : Nat} (h : k < l.length) : insL (l.take (k + 1)) = insL (l.take k) + (l[k].1.length + 1) := by
  rw [List.take_succ_eq_append_getElem h, insL_app]; simp [insL]
theorem outsL_succ {l : List (List UInt8 × List UInt8)} {k : Nat} (h : k < l.length) : outsL (l.take (k + 1)) = outsL (l.take k) + (l[k].2.length + 1) := by
  rw [List.take_succ_eq_append_getElem h, outsL_app]; simp [outsL]
theorem insL_mono (l : List (List UInt8 × List UInt8)) {a b : Nat} (h : a ≤ b) : insL (l.take a) ≤ insL (l.take b) := by
  obtain ⟨t, ht⟩ := (List.take_prefix_take_left h : l.take a <+: l.take b)
  rw [← ht, insL_app]; omega
theorem outsL_mono (l : List (List UInt8 × List UInt8)) {a b : Nat} (h : a ≤ b) : outsL (l.take a) ≤ outsL (l.take b) := by
  obtain ⟨t, ht⟩ := (List.take_prefix_take_left h : l.take a <+: l.take b)
  rw [← ht, outsL_app]; omega
theorem insL_le (l : List (List UInt8 × List UInt8)) (a : Nat) : insL (l.take a) ≤ insL l := by
  have := insL_mono l (Nat.le_max_left a l.length)
  rw [List.take_of_length_le (Nat.le_max_right a l.length)] at this
  exact this
theorem outsL_le (l : List (List UInt8 × List UInt8)) (a : Nat) : outsL (l.take a) ≤ outsL l := by
  have := outsL_mono l (Nat.le_max_left a l.length)
  rw [List.take_of_length_le (Nat.le_max_right a l.length)] at this
  exact this
theorem sum_flat (xs : List (List UInt8)) : ((xs.map (· ++ [59])).flatten).length = (xs.map fun x => x.length + 1).sum := by
  induction xs with
  | nil => rfl
  | cons x r ih => simp [ih]; omega
theorem lines_sum (s : List UInt8) : ((linesL s).map fun x => x.length + 1).sum ≤ s.length := by
  have h : (flatL (linesF s)).length = s.length := by rw [flatL_lines]
  unfold flatL at h
  rw [List.length_append, sum_flat] at h
  unfold linesL
  omega
theorem zip_ins (xs ys : List (List UInt8)) : insL (xs.zip ys) ≤ (xs.map fun x => x.length + 1).sum := by
  induction xs generalizing ys with
  | nil => simp [insL]
  | cons x r ih =>
    cases ys with
    | nil => simp [insL]
    | cons y t => have := ih t; simp [insL] at this ⊢; omega
theorem zip_outs (xs ys : List (List UInt8)) : outsL (xs.zip ys) ≤ (ys.map fun x => x.length + 1).sum := by
  induction xs generalizing ys with
  | nil => simp [outsL]
  | cons x r ih =>
    cases ys with
    | nil => simp [outsL]
    | cons y t => have := ih t; simp [outsL] at this ⊢; omega

/-- A span: from, to, out at, out to, plain. -/
def spAt (l : List (List UInt8 × List UInt8)) (k : Nat) : Nat × Nat × Nat × Nat × Bool :=
  (insL (l.take k), insL (l.take (k + 1)), outsL (l.take k), outsL (l.take (k + 1)), decide ((l[k]?.getD ([], [])).2 = (l[k]?.getD ([], [])).1))
def spansL (l : List (List UInt8 × List UInt8)) : List (Nat × Nat × Nat × Nat × Bool) := (List.range l.length).map (spAt l)
theorem spansL_len (l : List (List UInt8 × List UInt8)) : (spansL l).length = l.length := by simp [spansL]
theorem spansL_at (l : List (List UInt8 × List UInt8)) (k : Nat) (h : k < (spansL l).length) : (spansL l)[k] = spAt l k := by simp [spansL]
theorem spansL_succ {l : List (List UInt8 × List UInt8)} {k : Nat} (h : k < l.length) : (spansL l).take (k + 1) = (spansL l).take k ++ [spAt l k] := by
  rw [List.take_succ_eq_append_getElem (by rw [spansL_len]; exact h), spansL_at]
/-- The cells of a span. -/
def spC (p : Nat × Nat × Nat × Nat × Bool) : List Value := [.int .i64 p.1, .int .i64 p.2.1, .int .i64 p.2.2.1, .int .i64 p.2.2.2.1, .bool p.2.2.2.2]
theorem spC_len (p : Nat × Nat × Nat × Nat × Bool) : (spC p).length = 5 := rfl
theorem spC_one (p : Nat × Nat × Nat × Nat × Bool) : ∀ u ∈ spC p, u.oneCell' = true := by
  intro u hu
  simp [spC] at hu
  rcases hu with rfl | rfl | rfl | rfl | rfl <;> rfl
/-- A line lies here. -/
def pairsL (s far : List UInt8) : List (List UInt8 × List UInt8) := (linesL s).zip (linesL far)
theorem pairsL_ins (s far : List UInt8) : insL (pairsL s far) ≤ s.length := Nat.le_trans (zip_ins _ _) (lines_sum s)
theorem pairsL_outs (s far : List UInt8) : outsL (pairsL s far) ≤ far.length := Nat.le_trans (zip_outs _ _) (lines_sum far)
theorem insL_ge (l : List (List UInt8 × List UInt8)) : l.length ≤ insL l := by
  induction l with
  | nil => simp [insL]
  | cons x r ih => simp [insL] at ih ⊢; omega

/-- How many of n places are not yet past what is looked for. -/
theorem count_at (p : Nat → Bool) (n k : Nat) (hk : k ≤ n) (h0 : ∀ i, i < k → p i = false) (h1 : ∀ i, k ≤ i → i < n → p i = true) : (List.range n).countP (fun i => !p i) = k := by
  obtain ⟨d, rfl⟩ : ∃ d, n = k + d := ⟨n - k, by omega⟩
  rw [List.range_add, List.countP_append, List.countP_eq_length.2, List.countP_eq_zero.2]
  · simp
  · intro x hx
    simp only [List.mem_map, List.mem_range] at hx
    obtain ⟨y, hy, rfl⟩ := hx
    rw [h1 (k + y) (by omega) (by omega)]; simp
  · intro x hx
    rw [List.mem_range] at hx
    rw [h0 x hx]; rfl
/-- Which line stands at a place here, and which one at a place there. -/
def pIn (l : List (List UInt8 × List UInt8)) (a : Int) (i : Nat) : Bool := decide (a < ((insL (l.take (i + 1)) : Nat) : Int))
def pOut (l : List (List UInt8 × List UInt8)) (a : Int) (i : Nat) : Bool := decide (a < ((outsL (l.take (i + 1)) : Nat) : Int))
theorem pIn_mono (l : List (List UInt8 × List UInt8)) (a : Int) (n : Nat) : ∀ i j, i ≤ j → j < n → pIn l a i = true → pIn l a j = true := by
  intro i j h _ h1
  have := insL_mono l (show i + 1 ≤ j + 1 by omega)
  simp [pIn] at h1 ⊢; omega
theorem pOut_mono (l : List (List UInt8 × List UInt8)) (a : Int) (n : Nat) : ∀ i j, i ≤ j → j < n → pOut l a i = true → pOut l a j = true := by
  intro i j h _ h1
  have := outsL_mono l (show i + 1 ≤ j + 1 by omega)
  simp [pOut] at h1 ⊢; omega
def kIn (l : List (List UInt8 × List UInt8)) (a : Int) : Nat := (List.range l.length).countP (fun i => !pIn l a i)
def kOut (l : List (List UInt8 × List UInt8)) (a : Int) : Nat := (List.range l.length).countP (fun i => !pOut l a i)
theorem kIn_le (l : List (List UInt8 × List UInt8)) (a : Int) : kIn l a ≤ l.length := by
  have := List.countP_le_length (p := fun i => !pIn l a i) (l := List.range l.length)
  simpa [kIn] using this
theorem kOut_le (l : List (List UInt8 × List UInt8)) (a : Int) : kOut l a ≤ l.length := by
  have := List.countP_le_length (p := fun i => !pOut l a i) (l := List.range l.length)
  simpa [kOut] using this
theorem kIn_at {l : List (List UInt8 × List UInt8)} {a : Int} {k : Nat} (hk : k < l.length) (h0 : ∀ i, i < k → pIn l a i = false) (h1 : pIn l a k = true) : kIn l a = k :=
  count_at _ _ _ (by omega) h0 (fun i h h2 => pIn_mono l a l.length k i h h2 h1)
theorem kOut_at {l : List (List UInt8 × List UInt8)} {a : Int} {k : Nat} (hk : k < l.length) (h0 : ∀ i, i < k → pOut l a i = false) (h1 : pOut l a k = true) : kOut l a = k :=
  count_at _ _ _ (by omega) h0 (fun i h h2 => pOut_mono l a l.length k i h h2 h1)
theorem kIn_all {l : List (List UInt8 × List UInt8)} {a : Int} (h0 : ∀ i, i < l.length → pIn l a i = false) : kIn l a = l.length := count_at _ _ _ (Nat.le_refl _) h0 (fun i h h2 => by omega)
theorem kOut_all {l : List (List UInt8 × List UInt8)} {a : Int} (h0 : ∀ i, i < l.length → pOut l a i = false) : kOut l a = l.length := count_at _ _ _ (Nat.le_refl _) h0 (fun i h h2 => by omega)
/-- PosOut by these lines. -/
def outI (l : List (List UInt8 × List UInt8)) (a : Int) : Int := ((outsL (l.take (kIn l a)) : Nat) : Int)
/-- PosBack and PosThere by these lines. -/
def backI (l : List (List UInt8 × List UInt8)) (a : Int) : Int :=
  if kOut l a < l.length ∧ (spAt l (kOut l a)).2.2.2.2 = true ∧ ((outsL (l.take (kOut l a)) : Nat) : Int) < a then ((insL (l.take (kOut l a)) : Nat) : Int) + a - ((outsL (l.take (kOut l a)) : Nat) : Int)
  else ((insL (l.take (kOut l a)) : Nat) : Int)

end Go.Proofs.YtgjhfmlncibpmaaGreatDoor

/- Spans in memory: the last one of some, and one more behind them. Condition: at most 2^22 spans. -/
namespace Go.Proofs.YtgjhfmlncibpmaaGreatDoor
open Go.RowKit

theorem infoSpan : (Tryz.prog.info? 48).map (fun i => (i.zero, i.size, i.bytes)) = some (some (.agg #[.int .i64 0, .int .i64 0, .int .i64 0, .int .i64 0, .bool false]), 5, 40) := by kernel_rfl
/-- A list of spans of the call's own. -/
def OwnSp (w : World) (B : Nat) (v : Value) (xs : List (Nat × Nat × Nat × Nat × Bool)) : Prop := w.ownsRow B 48 5 v xs.length (flatC spC xs)
def RdSp (w : World) (v : Value) (xs : List (Nat × Nat × Nat × Nat × Bool)) : Prop := RdC spC w v xs
theorem OwnSp.rd {w : World} {B : Nat} {v : Value} {xs : List (Nat × Nat × Nat × Nat × Bool)} (h : OwnSp w B v xs) : RdSp w v xs := RdC.of_own spC_len (by decide) h
theorem RdSp.below {w w' : World} {v : Value} {xs : List (Nat × Nat × Nat × Nat × Bool)} (h : RdSp w v xs) (hb : Below w.heap.size w w') : RdSp w' v xs := RdC.below spC_len (by decide) h hb
theorem OwnSp.below {w w' : World} {B : Nat} {v : Value} {xs : List (Nat × Nat × Nat × Nat × Bool)} (h : OwnSp w B v xs) (hb : Below w.heap.size w w') : OwnSp w' B v xs := by
  refine ⟨h.1, ?_⟩
  rcases h.2 with h2 | ⟨g, cap, cur, hv, hB, hg, h2, h3, hs, ht⟩
  · exact Or.inl h2
  · exact Or.inr ⟨g, cap, cur, hv, hB, (hb.block g (Array.getElem?_eq_some_iff.1 hg).1).trans hg, h2, h3, hs, ht⟩
theorem OwnSp.mono {w : World} {B B' : Nat} {v : Value} {xs : List (Nat × Nat × Nat × Nat × Bool)} (h : OwnSp w B v xs) (hB : B' ≤ B) : OwnSp w B' v xs := by
  refine ⟨h.1, ?_⟩
  rcases h.2 with h2 | ⟨g, cap, cur, hv, hb, r⟩
  · exact Or.inl h2
  · exact Or.inr ⟨g, cap, cur, hv, by omega, r⟩
theorem OwnSp.form {w : World} {B : Nat} {v : Value} {xs : List (Nat × Nat × Nat × Nat × Bool)} (h : OwnSp w B v xs) : ∃ a cap, v = .slice a xs.length cap := by
  obtain ⟨a, cap, e, _⟩ := h.rd
  exact ⟨a, cap, e⟩
theorem OwnSp.nil (w : World) (B : Nat) : OwnSp w B (.slice none 0 0) [] := by
  unfold OwnSp
  exact ⟨rfl, Or.inl ⟨rfl, rfl⟩⟩
/-- The last span; nothing, if there are none. -/
def lastS (xs : List (Nat × Nat × Nat × Nat × Bool)) : Nat × Nat × Nat × Nat × Bool := xs.getLast?.getD (0, 0, 0, 0, false)

set_option maxRecDepth 100000 in
set_option maxHeartbeats 1600000 in
theorem last_any (v : Value) (xs : List (Nat × Nat × Nat × Nat × Bool)) (w : World) (hn : xs.length ≤ 4194304) (h : RdSp w v xs) :
    Calls Tryz.prog 53 #[v] w fun e w' => e = .returned (.agg #[.int .i64 (lastS xs).1, .int .i64 (lastS xs).2.1, .int .i64 (lastS xs).2.2.1, .int .i64 (lastS xs).2.2.2.1, .bool (lastS xs).2.2.2.2]) ∧ Below w.heap.size w w' := by
  obtain ⟨a, cap, rfl, hcap, hr⟩ := h
  rcases Nat.eq_zero_or_pos xs.length with h0 | h0
  · have he : xs = [] := List.eq_nil_of_length_eq_zero h0
    subst he
    clear hr h0 hcap hn
    go_enter Tryz.func53, Tryz.ntmps53
    go_wp2_with fail
    refine bodyPost_ret (v := .agg #[.int .i64 0, .int .i64 0, .int .i64 0, .int .i64 0, .bool false]) (by simp [results, Tryz.results53, go_sem]) rfl ⟨rfl, ?_⟩
    exact (Below.refl _ _).alloc (Nat.le_refl _) _
  · obtain ⟨g, rfl, hrow⟩ := hr h0
    obtain ⟨k, hk⟩ : ∃ k, xs.length = k + 1 := ⟨xs.length - 1, by omega⟩
    have hlt : k < xs.length := by omega
    have hl : lastS xs = xs[k] := by
      unfold lastS
      rw [List.getLast?_eq_getElem?, show xs.length - 1 = k by omega, List.getElem?_eq_getElem hlt]; rfl
    obtain ⟨p, hp⟩ : ∃ p, p = xs[k] := ⟨_, rfl⟩
    have q0 := (hrow.elem spC_len k hlt 0 (by decide) (.int .i64 p.1) (by rw [← hp]; rfl)).1
    have q1 := (hrow.elem spC_len k hlt 1 (by decide) (.int .i64 p.2.1) (by rw [← hp]; rfl)).1
    have q2 := (hrow.elem spC_len k hlt 2 (by decide) (.int .i64 p.2.2.1) (by rw [← hp]; rfl)).1
    have q3 := (hrow.elem spC_len k hlt 3 (by decide) (.int .i64 p.2.2.2.1) (by rw [← hp]; rfl)).1
    have q4 := (hrow.elem spC_len k hlt 4 (by decide) (.bool p.2.2.2.2) (by rw [← hp]; rfl)).1
    have hg := World.block_lt_of_cell? w _ q0
    simp only [Nat.add_zero] at q0
    simp only at hg
    rw [hl, ← hp]
    obtain ⟨pf, pt, po, pu, pp⟩ := p
    simp only at q0 q1 q2 q3 q4 ⊢
    have K0 : ∀ o, (w.alloc o).cell? ⟨g, k * 5, none⟩ = some (.int .i64 pf) := fun o => by rw [cell_alloc_lt hg]; exact q0
    have K1 : ∀ o, (w.alloc o).cell? ⟨g, k * 5 + 1, none⟩ = some (.int .i64 pt) := fun o => by rw [cell_alloc_lt hg]; exact q1
    have K2 : ∀ o, (w.alloc o).cell? ⟨g, k * 5 + 2, none⟩ = some (.int .i64 po) := fun o => by rw [cell_alloc_lt hg]; exact q2
    have K3 : ∀ o, (w.alloc o).cell? ⟨g, k * 5 + 3, none⟩ = some (.int .i64 pu) := fun o => by rw [cell_alloc_lt hg]; exact q3
    have K4 : ∀ o, (w.alloc o).cell? ⟨g, k * 5 + 4, none⟩ = some (.bool pp) := fun o => by rw [cell_alloc_lt hg]; exact q4
    have hki : (xs.length : Int) - 1 = (k : Int) := by omega
    have hk0 : ((xs.length : Int) == 0) = false := by rw [beq_eq_false_iff_ne]; omega
    have hk2 : (k : Int) ≤ (cap : Int) := by omega
    have hk3 : (k : Int) < (xs.length : Int) := by omega
    clear hrow hr hp hl q0 q1 q2 q3 q4 hlt
    go_enter Tryz.func53, Tryz.ntmps53
    go_wp2_with fail
    refine bodyPost_ret (v := .agg #[.int .i64 pf, .int .i64 pt, .int .i64 po, .int .i64 pu, .bool pp]) (by simp [results, Tryz.results53, go_sem]) rfl ⟨rfl, ?_⟩
    exact (Below.refl _ _).alloc (Nat.le_refl _) _

end Go.Proofs.YtgjhfmlncibpmaaGreatDoor

/- One span more behind some. Conditions: at most 2^22 spans, texts of at most 2^21 bytes, places of at most 2^22. -/
namespace Go.Proofs.YtgjhfmlncibpmaaGreatDoor
open Go.RowKit

theorem str_beq (x y : List UInt8) : (((⟨x.toArray⟩ : ByteArray).toList) == ((⟨y.toArray⟩ : ByteArray).toList)) = decide (y = x) := by
  rw [Lib.toList_data, Lib.toList_data]
  by_cases h : y = x
  · subst h; simp
  · rw [decide_eq_false h]
    simp
    intro e; exact h e.symm

theorem lastS_take (l : List (List UInt8 × List UInt8)) {k : Nat} (h : k ≤ l.length) : (lastS ((spansL l).take k)).2.1 = insL (l.take k) ∧ (lastS ((spansL l).take k)).2.2.2.1 = outsL (l.take k) := by
  cases k with
  | zero => exact ⟨rfl, rfl⟩
  | succ k =>
    rw [spansL_succ (by omega)]
    unfold lastS
    simp only [List.getLast?_append, List.getLast?_singleton, Option.some_or, Option.getD_some]
    exact ⟨rfl, rfl⟩
theorem spAt_next {l : List (List UInt8 × List UInt8)} {k : Nat} (h : k < l.length) : spAt l k = (insL (l.take k), insL (l.take k) + l[k].1.length + 1, outsL (l.take k), outsL (l.take k) + l[k].2.length + 1, decide (l[k].2 = l[k].1)) := by
  unfold spAt
  rw [insL_succ h, outsL_succ h, List.getElem?_eq_getElem h]
  rfl

set_option maxRecDepth 100000 in
set_option maxHeartbeats 3200000 in
theorem with_any (B : Nat) (v : Value) (xs : List (Nat × Nat × Nat × Nat × Bool)) (x y : ByteArray) (w : World) (hn : xs.length ≤ 4194303) (hB : B ≤ w.heap.size) (ho : OwnSp w B v xs) (hx : x.size ≤ 2097152) (hy : y.size ≤ 2097152) (h1 : (lastS xs).2.1 ≤ 4194304) (h2 : (lastS xs).2.2.2.1 ≤ 4194304) :
    Calls Tryz.prog 49 #[v, .string x, .string y] w fun e w' => ∃ v', e = .returned v' ∧ OwnSp w' B v' (xs ++ [((lastS xs).2.1, (lastS xs).2.1 + x.size + 1, (lastS xs).2.2.2.1, (lastS xs).2.2.2.1 + y.size + 1, (x.toList == y.toList))]) ∧ Below B w w' := by
  obtain ⟨i0, hi, hz0, hz1, hz2⟩ := info_parts infoSpan
  have HL := Lib.hid (last_any v xs w (by omega) ho.rd)
  obtain ⟨a, cap, rfl⟩ := ho.form
  have HO := Lib.hid ho
  obtain ⟨⟨pf, pt, po, pu, pp⟩, hp⟩ : ∃ p, p = lastS xs := ⟨_, rfl⟩
  rw [← hp] at HL h1 h2 ⊢
  simp only at h1 h2 HL ⊢
  obtain ⟨q, hq⟩ : ∃ q, q = (x.toList == y.toList) := ⟨_, rfl⟩
  rw [← hq]
  have HQ := Lib.hid hq
  clear hp ho hq
  go_enter Tryz.func49, Tryz.ntmps49
  go_wp2_with fail
  (go_at_call 53; refine HL.out.mono ?_; rintro e w1 ⟨rfl, b1⟩; have B1 := Lib.hid b1; have O1 := Lib.hid (HO.out.below b1); have z1 := b1.size; clear b1 HL HO)
  go_wp2_with (at_builtin; refine wpList_append_own _ rfl (.tmp 10) (.tmp 31) 51 rfl B 48 i0 (.agg #[.int .i64 0, .int .i64 0, .int .i64 0, .int .i64 0, .bool false]) 5 40 Tryz.underlying51 hi hz0 hz1 hz2 rfl (by decide) _ _ _ rfl ((O1.out.alloc _).alloc _) ⟨w1.heap.size + 1, 0, none⟩ 1 1 [.int .i64 pt, .int .i64 ((pt : Int) + x.size + 1), .int .i64 pu, .int .i64 ((pu : Int) + y.size + 1), .bool (x.toList == y.toList)] rfl rfl ?c1 ?c2 ?c3 ?c4 ?c5 ?_)
  case c1 => exact World.news_of_block (cs := #[.int .i64 pt, .int .i64 ((pt : Int) + x.size + 1), .int .i64 pu, .int .i64 ((pu : Int) + y.size + 1), .bool (x.toList == y.toList)]) (t := 48) (by have := heap_alloc_new (w1.alloc (.cells #[.int .i64 pf, .int .i64 pt, .int .i64 po, .int .i64 pu, .bool pp] 48)) (.cells #[.int .i64 pt, .int .i64 ((pt : Int) + x.size + 1), .int .i64 pu, .int .i64 ((pu : Int) + y.size + 1), .bool (x.toList == y.toList)] 48); simpa using this)
  case c2 => intro u hu; simp at hu; rcases hu with rfl | rfl | rfl | rfl | rfl <;> rfl
  case c3 => unfold maxLen; omega
  case c4 => omega
  case c5 => simp; omega
  · intro v' w2 hown hgrow _
    have HW := Lib.hid hown
    have HB : Hid (Below B w w2) := (((B1.out.mono hB).alloc (by omega) _).alloc (by simp; omega) _).grown hgrow (by simp; omega) (fun k hk => by obtain ⟨h1, _⟩ := (O1.out.lt k hk); exact h1)
    clear hown hgrow
    go_wp2_with fail
    go_ret
    refine ⟨_, rfl, ?_, HB.out⟩
    have := HW.out
    rw [HQ.out]
    unfold OwnSp
    rw [flatC_app, List.length_append]
    exact this

end Go.Proofs.YtgjhfmlncibpmaaGreatDoor

/- PosPairs of the specification: the spans of two texts' lines, in memory of the call's own. Condition: each text has at most 2^21 bytes. -/
namespace Go.Proofs.YtgjhfmlncibpmaaGreatDoor
open Go.RowKit

theorem heap_lastP (w : World) (o : Obj) : (w.alloc o).heap[w.heap.size]? = some o := by
  show (w.heap.push o)[w.heap.size]? = _
  simp

set_option maxRecDepth 100000 in
set_option maxHeartbeats 3200000 in
theorem specPairs4_any (l : List (List UInt8 × List UInt8)) (v1 v2 : Value) (xs ys : List (List UInt8)) (w : World) (hl : l = xs.zip ys) (hxl : xs.length ≤ 2097152) (hyl : ys.length ≤ 2097152) (hlx : ∀ x ∈ xs, x.length ≤ 2097152) (hly : ∀ x ∈ ys, x.length ≤ 2097152) (hi0 : insL l ≤ 2097152) (ho0 : outsL l ≤ 2097152) (r1 : RdV w v1 (xs.map strV)) (r2 : RdV w v2 (ys.map strV)) :
    Calls Tryz.prog 58 #[v1, v2] w fun e w' => ∃ v, e = .returned v ∧ OwnSp w' w.heap.size v (spansL l) ∧ Below w.heap.size w w' := by
  have hn : l.length = min xs.length ys.length := by rw [hl, List.length_zip]
  have hnx : l.length ≤ xs.length := by omega
  have hny : l.length ≤ ys.length := by omega
  obtain ⟨i0, hi, hz0, hz1, hz2⟩ := info_parts infoSpan
  obtain ⟨a1, c1, rfl, hr1⟩ := r1
  obtain ⟨a2, c2, rfl, hr2⟩ := r2
  rw [List.length_map] at hr1 hr2
  simp only [List.length_map]
  have HLX := Lib.hid hlx
  have HLY := Lib.hid hly
  have HL := Lib.hid hl
  have HN := Lib.hid hn
  have R1 := Lib.hid hr1
  have R2 := Lib.hid hr2
  have HO0 : Hid (∀ wx : World, OwnSp (wx.alloc (.cells #[] 48)) wx.heap.size (.slice (some ⟨wx.heap.size, 0, none⟩) 0 0) []) := fun wx => by
    have := World.ownsRow_made (base := wx.heap.size) (e := 48) (size := 5) wx #[] 0 (Nat.le_refl _) (Nat.zero_le _) rfl
    simpa [OwnSp, flatC] using this
  clear hlx hly hl hr1 hr2 hn
  go_enter Tryz.func58, Tryz.ntmps58
  go_wp2_with fail
  go_loopw [5, 6, 7, 8] (fun sp ia io i wr => ∃ (k : Nat) (a : Nat) (b : Nat) (g : Nat) (c : Nat), k ≤ l.length ∧ i = .int .i64 k ∧ sp = .slice (some ⟨g, 0, none⟩) k c ∧ ia = .int .i64 a ∧ io = .int .i64 b ∧ insL (l.take k) = a ∧ outsL (l.take k) = b ∧ OwnSp wr w.heap.size (.slice (some ⟨g, 0, none⟩) k c) ((spansL l).take k) ∧ Below w.heap.size w wr) (fun _ _ _ i _ => l.length - (intOf i).toNat)
  case atStart => exact ⟨0, 0, 0, _, 0, Nat.zero_le _, rfl, rfl, rfl, rfl, rfl, rfl, HO0.out w, (Below.refl _ _).alloc (Nat.le_refl _) _⟩
  case round =>
    obtain ⟨k, a, b, g, c, hk, rfl, rfl, rfl, rfl, hab, hbb, own, hb⟩ := hrel
    have HA := Lib.hid hab
    have HBB := Lib.hid hbb
    have OW := Lib.hid own
    have hsz := hb.size
    have HB := Lib.hid hb
    clear hab hbb own hb
    have ha : a ≤ 2097152 := by have := insL_le l k; have := HA.out; omega
    have hbo : b ≤ 2097152 := by have := outsL_le l k; have := HBB.out; omega
    by_cases hlt : k < l.length
    · obtain ⟨gx, rfl, rowx⟩ := R1.out (by omega)
      obtain ⟨gy, rfl, rowy⟩ := R2.out (by omega)
      have hkx : k < xs.length := by omega
      have hky : k < ys.length := by omega
      obtain ⟨x, hx⟩ : ∃ x, x = xs[k] := ⟨_, rfl⟩
      obtain ⟨y, hy⟩ : ∃ y, y = ys[k] := ⟨_, rfl⟩
      have hlk : l[k] = (x, y) := by rw [hx, hy]; simp only [HL.out, List.getElem_zip]
      have hgx : gx < w.heap.size := rowx.lt (by simp; omega)
      have hgy : gy < w.heap.size := rowy.lt (by simp; omega)
      have cX : wr.cell? ⟨gx, k, none⟩ = some (.string ⟨x.toArray⟩) := by
        rw [HB.out.cell (p := ⟨gx, k, none⟩) hgx, (rowx k (by simpa using hkx)).1]; simp [hx, strV]
      have cY : wr.cell? ⟨gy, k, none⟩ = some (.string ⟨y.toArray⟩) := by
        rw [HB.out.cell (p := ⟨gy, k, none⟩) hgy, (rowy k (by simpa using hky)).1]; simp [hy, strV]
      have hxn0 : x.length ≤ 2097152 := HLX.out x (by rw [hx]; exact List.getElem_mem _)
      have hyn0 : y.length ≤ 2097152 := HLY.out y (by rw [hy]; exact List.getElem_mem _)
      have HNX : Hid ((spansL l).take (k + 1) = (spansL l).take k ++ [(a, a + x.length + 1, b, b + y.length + 1, decide (y = x))]) := by
        show _ = _
        rw [spansL_succ hlt, spAt_next hlt, hlk, HA.out, HBB.out]
      have HIN : Hid (insL (l.take (k + 1)) = a + x.length + 1 ∧ outsL (l.take (k + 1)) = b + y.length + 1) := by
        rw [insL_succ hlt, outsL_succ hlt, hlk, HA.out, HBB.out]; exact ⟨by simp; omega, by simp; omega⟩
      obtain ⟨X, hX⟩ : ∃ X : ByteArray, X = ⟨x.toArray⟩ := ⟨_, rfl⟩
      obtain ⟨Y, hY⟩ : ∃ Y : ByteArray, Y = ⟨y.toArray⟩ := ⟨_, rfl⟩
      have hXs : X.size = x.length := by rw [hX]; simp [ByteArray.size]
      have hYs : Y.size = y.length := by rw [hY]; simp [ByteArray.size]
      have HE : Hid ((Y.toList == X.toList) = decide (y = x)) := by
        show _ = _
        rw [hX, hY, str_beq]
        exact decide_eq_decide.2 ⟨Eq.symm, Eq.symm⟩
      rw [← hX] at cX
      rw [← hY] at cY
      have HXS := Lib.hid hXs
      have HYS := Lib.hid hYs
      have hxn : X.size ≤ 2097152 := by omega
      have hyn : Y.size ≤ 2097152 := by omega
      have hkl : ((spansL l).take k).length = k := by rw [List.length_take, spansL_len]; omega
      have own3 : Hid (∀ o, (wr.alloc o).ownsRow w.heap.size 48 5 (.slice (some ⟨g, 0, none⟩) k c) k (flatC spC ((spansL l).take k))) := fun o => by
        have := OW.out.below ((Below.refl _ wr).alloc (Nat.le_refl _) o)
        unfold OwnSp at this
        rwa [hkl] at this
      have own2 : Hid (∀ o, (wr.alloc o).drew.ownsRow w.heap.size 48 5 (.slice (some ⟨g, 0, none⟩) k c) k (flatC spC ((spansL l).take k))) := fun o => (own3.out o).drew
      have own1 : Hid (∀ o, (wr.drew.alloc o).ownsRow w.heap.size 48 5 (.slice (some ⟨g, 0, none⟩) k c) k (flatC spC ((spansL l).take k))) := fun o => by
        have := OW.out.below (((Below.refl _ wr).drew).alloc (Nat.le_refl _) o)
        unfold OwnSp at this
        rwa [hkl] at this
      have hk2 : (k : Int) ≤ (c1 : Int) ∨ True := .inr trivial
      have hgB : w.heap.size ≤ g := by
        have := ((OW.out.lt g (by rfl))).1
        exact this
      clear rowx rowy hx hy hlk hX hY hXs hYs hkl hxn0 hyn0
      go_upto_region 8 with fail
      have hs1 : ∀ o, (wr.alloc o).heap[wr.heap.size]? = some o := fun o => heap_lastP wr o
      have H1 := Lib.hid hs1
      have HWA : Hid (IntKind.i64.wrap (IntKind.i64.wrap ((a : Int) + X.size) + 1) = ((a + X.size + 1 : Nat) : Int)) := by
        show _ = _
        rw [IntWalk.i64_in ((a : Int) + X.size) (by omega), IntWalk.i64_in ((a : Int) + X.size + 1) (by omega)]; omega
      have HWB : Hid (IntKind.i64.wrap (IntKind.i64.wrap ((b : Int) + Y.size) + 1) = ((b + Y.size + 1 : Nat) : Int)) := by
        show _ = _
        rw [IntWalk.i64_in ((b : Int) + Y.size) (by omega), IntWalk.i64_in ((b : Int) + Y.size + 1) (by omega)]; omega
      clear hs1
      go_cut [5] (fun s wx => ∃ g' c', s = .slice (some ⟨g', 0, none⟩) (k + 1) c' ∧ OwnSp wx w.heap.size (.slice (some ⟨g', 0, none⟩) (k + 1) c') ((spansL l).take (k + 1)) ∧ Below w.heap.size w wx)
      case first =>
        go_region_law (first
          | (refine step_append_lies _ rfl (.tmp 27) (.tmp 50) 26 rfl w.heap.size 48 i0 (.agg #[.int .i64 0, .int .i64 0, .int .i64 0, .int .i64 0, .bool false]) 5 40 Tryz.underlying26 hi hz0 hz1 hz2 rfl (by decide) (.slice (some ⟨g, 0, none⟩) k c) k (flatC spC ((spansL l).take k)) (by rfl) (by first | exact own3.out _ | exact own2.out _ | exact own1.out _) ⟨wr.heap.size, 0, none⟩ 1 1 [.int .i64 a, .int .i64 (IntKind.i64.wrap (IntKind.i64.wrap ((a : Int) + X.size) + 1)), .int .i64 b, .int .i64 (IntKind.i64.wrap (IntKind.i64.wrap ((b : Int) + Y.size) + 1)), .bool (Y.toList == X.toList)] (by rfl) (by rfl) (World.news_of_block (cs := #[.int .i64 a, .int .i64 (IntKind.i64.wrap (IntKind.i64.wrap ((a : Int) + X.size) + 1)), .int .i64 b, .int .i64 (IntKind.i64.wrap (IntKind.i64.wrap ((b : Int) + Y.size) + 1)), .bool (Y.toList == X.toList)]) (t := 48) (by exact H1.out _)) (by intro u hu; simp at hu; rcases hu with rfl | rfl | rfl | rfl | rfl <;> rfl) (by decide) (by unfold maxLen; omega) (by omega) (by simp; omega) _ rfl ?_
             intro g1 c1' w1 hown1 hgrow1 _ _
             have O1 := Lib.hid hown1
             have HB1 : Hid (Below w.heap.size w w1) := by
               first
                 | exact (HB.out.alloc hsz _).grown hgrow1 (by simp; omega) (fun k hk => by simp [Value.ownBlock] at hk; omega)
                 | exact ((HB.out.alloc hsz _).drew).grown hgrow1 (by simp; omega) (fun k hk => by simp [Value.ownBlock] at hk; omega)
                 | exact ((HB.out.drew).alloc hsz _).grown hgrow1 (by simp; omega) (fun k hk => by simp [Value.ownBlock] at hk; omega)
             clear hown1 hgrow1))
        all_goals
          go_wp2_with fail
          go_meet
          refine ⟨g1, c1', rfl, ?_, HB1.out⟩
          have := O1.out
          rw [HWA.out, HWB.out] at this
          rw [HNX.out]
          unfold OwnSp
          rw [flatC_app, List.length_append, List.length_take, spansL_len, Nat.min_eq_left hk, ← HE.out, ← HXS.out, ← HYS.out]
          exact this
      case rest =>
        obtain ⟨g', c', rfl, o', b'⟩ := hcut
        have OW' := Lib.hid o'
        have HB' := Lib.hid b'
        have cX' : wc.cell? ⟨gx, k, none⟩ = some (.string X) := by
          rw [HB'.out.cell (p := ⟨gx, k, none⟩) hgx, ← HB.out.cell (p := ⟨gx, k, none⟩) hgx]; exact cX
        clear o' b' own1 own2 own3 H1 OW HO0 HNX
        go_wp2_with fail
        go_roundw
        case rel => exact ⟨k + 1, a + X.size + 1, b + Y.size + 1, g', c', by omega, by go_num, rfl, by go_num, by go_num, by rw [HIN.out.1, HXS.out], by rw [HIN.out.2, HYS.out], OW'.out, HB'.out⟩
        case measure => simp [intOf]; omega
    · have hke : k = l.length := by omega
      have HF : Hid (OwnSp wr w.heap.size (.slice (some ⟨g, 0, none⟩) k c) (spansL l)) := by
        have := OW.out
        rw [List.take_of_length_le (by rw [spansL_len]; omega)] at this
        exact this
      subst hke
      clear OW HO0
      by_cases hlt1 : l.length < xs.length
      · have hge : ¬ ((l.length : Int) < (ys.length : Int)) := by have := HN.out; omega
        have hlt2 : (l.length : Int) < (xs.length : Int) := by omega
        go_wp2_with fail
        go_ret
        exact ⟨_, rfl, HF.out, HB.out⟩
      · have hge : ¬ ((l.length : Int) < (xs.length : Int)) := by omega
        go_wp2_with fail
        go_ret
        exact ⟨_, rfl, HF.out, HB.out⟩

set_option maxRecDepth 100000 in
set_option maxHeartbeats 1600000 in
theorem specBoth_any (s far : ByteArray) (w : World) (hs : s.size ≤ 2097152) (hf : far.size ≤ 2097152) :
    Calls Tryz.prog 38 #[.string s, .string far] w fun e w' => ∃ v, e = .returned v ∧ OwnSp w' w.heap.size v (spansL (pairsL s.data.toList far.data.toList)) ∧ Below w.heap.size w w' := by
  have hi0 := pairsL_ins s.data.toList far.data.toList
  have ho0 := pairsL_outs s.data.toList far.data.toList
  rw [len_list] at hi0 ho0
  have HI : Hid (∀ w, Calls Tryz.prog 35 #[.string s] w fun e w' => ∃ v, e = .returned (.tuple #[v, .string ⟨(restL s.data.toList).toArray⟩]) ∧ w'.ownsRow w.heap.size 9 1 v (linesL s.data.toList).length ((linesL s.data.toList).map strV) ∧ Below w.heap.size w w') := fun w => specLines_any s w hs
  have HF : Hid (∀ w, Calls Tryz.prog 35 #[.string far] w fun e w' => ∃ v, e = .returned (.tuple #[v, .string ⟨(restL far.data.toList).toArray⟩]) ∧ w'.ownsRow w.heap.size 9 1 v (linesL far.data.toList).length ((linesL far.data.toList).map strV) ∧ Below w.heap.size w w') := fun w => specLines_any far w hf
  have hlx : ∀ x ∈ linesL s.data.toList, x.length ≤ 2097152 := fun x hx => by have := line_len hx; rw [len_list] at this; omega
  have hly : ∀ x ∈ linesL far.data.toList, x.length ≤ 2097152 := fun x hx => by have := line_len hx; rw [len_list] at this; omega
  have hl1 := lines_len s.data.toList
  have hl2 := lines_len far.data.toList
  rw [len_list] at hl1 hl2
  have HP : Hid (∀ v1 v2 w, RdV w v1 ((linesL s.data.toList).map strV) → RdV w v2 ((linesL far.data.toList).map strV) → Calls Tryz.prog 58 #[v1, v2] w fun e w' => ∃ v, e = .returned v ∧ OwnSp w' w.heap.size v (spansL (pairsL s.data.toList far.data.toList)) ∧ Below w.heap.size w w') :=
    fun v1 v2 w h1 h2 => specPairs4_any _ v1 v2 _ _ w rfl (by omega) (by omega) hlx hly (by omega) (by omega) h1 h2
  obtain ⟨rs, hrs⟩ : ∃ rs, rs = (restL s.data.toList).toArray := ⟨_, rfl⟩
  obtain ⟨rf, hrf⟩ : ∃ rf, rf = (restL far.data.toList).toArray := ⟨_, rfl⟩
  obtain ⟨sp, hsp⟩ : ∃ sp, sp = spansL (pairsL s.data.toList far.data.toList) := ⟨_, rfl⟩
  obtain ⟨xs, hxs⟩ : ∃ xs, xs = linesL s.data.toList := ⟨_, rfl⟩
  obtain ⟨ys, hys⟩ : ∃ ys, ys = linesL far.data.toList := ⟨_, rfl⟩
  rw [← hsp] at HP ⊢
  rw [← hxs] at HI HP
  rw [← hys] at HF HP
  rw [← hrs] at HI
  rw [← hrf] at HF
  clear hlx hly hxs hys hrs hrf hl1 hl2 hsp hi0 ho0
  go_enter Tryz.func38, Tryz.ntmps38
  go_wp2_with fail
  (go_at_call 35; refine (HI.out _).mono ?_; rintro e w1 ⟨v1, rfl, own1, b1⟩; have B1 := Lib.hid b1; have R1 := Lib.hid (RdV.of_own own1).1; have z1 := b1.size; clear own1 b1)
  go_wp2_with fail
  (go_at_call 35; refine (HF.out _).mono ?_; rintro e w2 ⟨v2, rfl, own2, b2⟩; have B2 : Hid (Below w.heap.size w w2) := B1.out.trans (b2.mono z1); have R2 := Lib.hid (R1.out.below b2); have S2 := Lib.hid (RdV.of_own own2).1; have z2 := b2.size; clear own2 b2 R1 B1 HI HF)
  go_wp2_with fail
  (go_at_call 58; refine (HP.out _ _ _ R2.out S2.out).mono ?_; rintro e w3 ⟨v3, rfl, own3, b3⟩; have B3 : Hid (Below w.heap.size w w3) := B2.out.trans (b3.mono (by omega)); have O3 := Lib.hid (own3.mono (show w.heap.size ≤ w2.heap.size by omega)); clear own3 b3)
  go_wp2_with fail
  go_ret
  exact ⟨_, rfl, O3.out, B3.out⟩

end Go.Proofs.YtgjhfmlncibpmaaGreatDoor

/- StrLines of the program: the lines of a text as a list of its own, and what is behind the last sign. Condition: the text has at most 2^21 bytes. -/
namespace Go.Proofs.YtgjhfmlncibpmaaGreatDoor
open Go.RowKit Go.Shelf

set_option maxRecDepth 100000 in
set_option maxHeartbeats 2000000 in
theorem append_in (n : Nat) (hn : 3 ≤ n) (s : ByteArray) (hs : s.size ≤ 2097152) (Bn : Nat) (w : World) (hBn : Bn < w.heap.size) (hc : w.cell? ⟨Bn, 0, none⟩ = some (.string s)) :
    CallsIn Fence.wide n Tryz.prog 85 #[.slice none 0 0, .func (.func 65) #[] #[.pointer (some ⟨Bn, 0, none⟩)]] w fun e w' => ∃ v, e = .returned v ∧ w'.ownsRow w.heap.size 9 1 v (linesL s.data.toList).length ((linesL s.data.toList).map strV) ∧ Below w.heap.size w w' := by
  have h1 : 1 ≤ n := by omega
  have hll := lines_len s.data.toList
  rw [len_list] at hll
  obtain ⟨i0, hi, hz0, hz1, hz2⟩ := info_parts infoStr
  refine callsIn_of_wp_marks Tryz.func85 rfl trivial ?_ rfl
  simp only [Tryz.ntmps85, List.size_toArray, List.length_cons, List.length_nil, Nat.reduceAdd, Nat.reduceSub, Array.replicate_succ, Array.replicate_zero, List.push_toArray, List.append_toArray, List.nil_append, List.cons_append]
  gi_wp2
  have bO := Boxed.new w 57 (.slice none 0 0)
  have hB0 : Below w.heap.size w (w.alloc (.cells #[.slice none 0 0] 57)) := (Below.refl _ w).alloc (Nat.le_refl _) _
  refine wpIn_rangeFunc_ownG rfl h1 (gf := 65) (lb := #[.pointer (some ⟨Bn, 0, none⟩)]) rfl trivial (enters_of Tryz.func65 (by kernel_rfl) rfl)
    (tell_stops (n - 1) (by omega) Bn s hs (w.alloc (.cells #[.slice none 0 0] 57)) (by simp; omega) ((hB0.cell (p := ⟨Bn, 0, none⟩) hBn).trans hc)) (fun _ _ => trivial) (fun _ _ _ _ _ _ _ _ => trivial) (Below.refl _ _) (fun _ => rfl)
    (fun pre W => (∃ v, Boxed W w.heap.size 57 v ∧ W.ownsRow w.heap.size 9 1 v pre.length (pre.map strV) ∧ True) ∧ Below w.heap.size w W)
    (fun _ _ _ => False)
    (OwnFrom.and (Own.from (holdsRow_own w.heap.size w.heap.size 57 9 1 (fun pre : List (List UInt8) => pre.length) (fun pre => pre.map strV) (fun _ _ => True)) _) (ownFrom_below (Nat.le_refl _) (by simp)))
    (fun _ _ _ _ _ hs _ _ => hs)
    ⟨⟨_, bO, World.ownsRow_nil _ _ _ _, trivial⟩, hB0⟩
    (fun x => { tmps := #[.slice none 0 0, .func (.func 65) #[] #[.pointer (some ⟨Bn, 0, none⟩)], .pointer (some ⟨w.heap.size, 0, none⟩), undef, .slice none 0 0, .string ⟨x.toArray⟩, .func (.func 65) #[] #[.pointer (some ⟨Bn, 0, none⟩)], .string ⟨x.toArray⟩, undef, undef, undef, undef, undef], defers := [] }) ?assign ?body ?done ?stop
  case assign =>
    intro l x W K hK
    gi_wp2_with (rw [Oper.semAt_eq _ _ _ (fun c h => by cases h)]; go_simp; try go_bits)
    exact hK
  case body =>
    rintro l pre x W ⟨⟨v, hv, hrow, _⟩, hB⟩ hlt
    have hc := hv.cell
    have hpl : (pre.map strV).length = pre.length := List.length_map _
    gi_wp2_with (first
      | (gi_at_builtin; refine wpListIn_append_own _ rfl _ _ 57 rfl w.heap.size 9 i0 (.string ⟨#[]⟩) 1 16 Tryz.underlying57 hi hz0 hz1 hz2 rfl (by decide) _ _ _ rfl (hrow.alloc _) ⟨W.heap.size, 0, none⟩ 1 1 [.string ⟨x.toArray⟩] rfl rfl (cell_one_new _ _ _) (by simp [Value.oneCell']) (by unfold maxLen; omega) (by omega) (by have := hB.size; simp; omega) ?_; intro v' w1 hown' hgrow _; obtain ⟨g', cap', rfl⟩ := ownsRow_succ hown'; obtain ⟨hv1, hv2, hr2, hk2, hb2⟩ := hv.appended (by decide) hrow hB.size (Nat.le_refl _) hown' hgrow; have hc1 := hv1.cell; have hf1 := hv1.frozen)
      | (rw [Oper.semAt_eq _ _ _ (fun c h => by cases h)]; go_simp; try go_bits))
    exact ⟨hk2.from _, trivial, ⟨_, hv2, by simpa [strV] using hr2, trivial⟩, hB.trans hb2⟩
  case done =>
    rintro D ys W hD rfl ⟨⟨v, hv, hrow, _⟩, hB⟩ hK
    have hc := hv.cell
    gi_wp2
    refine ⟨by simp, .inl ⟨_, _, rfl, run_takeDeferred hK, ?_⟩⟩
    exact ⟨_, results_tmp rfl _ _ _, v, rfl, ownsRow_putObj hrow _ hK rfl, hB.trans (belowK_b (w := w) (Nat.le_refl _) W D _ _ (by simp at hD; omega) hK rfl rfl)⟩
  case stop =>
    rintro D c pre W _ _ h _
    exact h.elim

set_option maxRecDepth 100000 in
set_option maxHeartbeats 800000 in
theorem collect_any (s : ByteArray) (hs : s.size ≤ 2097152) (Bn : Nat) (w : World) (hBn : Bn < w.heap.size) (hc : w.cell? ⟨Bn, 0, none⟩ = some (.string s)) :
    Calls Tryz.prog 72 #[.func (.func 65) #[] #[.pointer (some ⟨Bn, 0, none⟩)]] w fun e w' => ∃ v, e = .returned v ∧ w'.ownsRow w.heap.size 9 1 v (linesL s.data.toList).length ((linesL s.data.toList).map strV) ∧ Below w.heap.size w w' := by
  have HA := Lib.hid (callsIn_wide.1 (append_in 3 (by omega) s hs Bn w hBn hc))
  clear hc
  go_enter Tryz.func72, Tryz.ntmps72
  go_wp2_with (go_at_call 85; refine HA.out.mono ?_; rintro e w' ⟨v, rfl, ho, hb⟩)
  obtain ⟨a1, cap1, rfl⟩ := own_form ho
  go_ret
  exact ⟨_, rfl, ho, hb⟩

set_option maxRecDepth 100000 in
set_option maxHeartbeats 800000 in
theorem implLines_any (s : ByteArray) (w : World) (hs : s.size ≤ 2097152) :
    Calls Tryz.prog 48 #[.string s] w fun e w' => ∃ v, e = .returned (.tuple #[v, .string ⟨(restL s.data.toList).toArray⟩]) ∧ w'.ownsRow w.heap.size 9 1 v (linesL s.data.toList).length ((linesL s.data.toList).map strV) ∧ Below w.heap.size w w' := by
  go_enter Tryz.func48, Tryz.ntmps48
  go_wp2_with (first
    | (go_at_call 43; refine (linesOf_any _ _).mono ?_; rintro e w' ⟨rfl, rfl⟩)
    | (go_at_call 72; refine (collect_any s hs w.heap.size _ (by simp) (by simp)).mono ?_; rintro e w1 ⟨v, rfl, ho, hb⟩; obtain ⟨a1, cap1, rfl⟩ := own_form ho)
    | (go_at_call 62; refine (rest_any _ _ (by omega)).mono ?_; rintro e w2 ⟨rfl, rfl⟩))
  go_ret2
  exact ⟨_, rfl, own_base ho (by simp), below_box hb⟩

end Go.Proofs.YtgjhfmlncibpmaaGreatDoor

/- PosPairs of the program: the spans of two texts' lines, in memory of the call's own. Condition: each text has at most 2^21 bytes. -/
namespace Go.Proofs.YtgjhfmlncibpmaaGreatDoor
open Go.RowKit

set_option maxRecDepth 100000 in
set_option maxHeartbeats 3200000 in
theorem implPairs_any (s far : ByteArray) (w : World) (hs : s.size ≤ 2097152) (hf : far.size ≤ 2097152) :
    Calls Tryz.prog 25 #[.string s, .string far] w fun e w' => ∃ v, e = .returned v ∧ OwnSp w' w.heap.size v (spansL (pairsL s.data.toList far.data.toList)) ∧ Below w.heap.size w w' := by
  have hi0 := pairsL_ins s.data.toList far.data.toList
  have ho0 := pairsL_outs s.data.toList far.data.toList
  rw [len_list] at hi0 ho0
  have HI : Hid (∀ w, Calls Tryz.prog 48 #[.string s] w fun e w' => ∃ v, e = .returned (.tuple #[v, .string ⟨(restL s.data.toList).toArray⟩]) ∧ w'.ownsRow w.heap.size 9 1 v (linesL s.data.toList).length ((linesL s.data.toList).map strV) ∧ Below w.heap.size w w') := fun w => implLines_any s w hs
  have HF : Hid (∀ w, Calls Tryz.prog 48 #[.string far] w fun e w' => ∃ v, e = .returned (.tuple #[v, .string ⟨(restL far.data.toList).toArray⟩]) ∧ w'.ownsRow w.heap.size 9 1 v (linesL far.data.toList).length ((linesL far.data.toList).map strV) ∧ Below w.heap.size w w') := fun w => implLines_any far w hf
  have hlx : ∀ x ∈ linesL s.data.toList, x.length ≤ 2097152 := fun x hx => by have := line_len hx; rw [len_list] at this; omega
  have hly : ∀ x ∈ linesL far.data.toList, x.length ≤ 2097152 := fun x hx => by have := line_len hx; rw [len_list] at this; omega
  have hl1 := lines_len s.data.toList
  have hl2 := lines_len far.data.toList
  rw [len_list] at hl1 hl2
  obtain ⟨rs, hrs⟩ : ∃ rs, rs = (restL s.data.toList).toArray := ⟨_, rfl⟩
  obtain ⟨rf, hrf⟩ : ∃ rf, rf = (restL far.data.toList).toArray := ⟨_, rfl⟩
  obtain ⟨l, hl⟩ : ∃ l, l = pairsL s.data.toList far.data.toList := ⟨_, rfl⟩
  rw [← hl] at hi0 ho0 ⊢
  unfold pairsL at hl
  obtain ⟨xs, hxs⟩ : ∃ xs, xs = linesL s.data.toList := ⟨_, rfl⟩
  obtain ⟨ys, hys⟩ : ∃ ys, ys = linesL far.data.toList := ⟨_, rfl⟩
  rw [← hxs] at HI hlx hl1 hl
  rw [← hys] at HF hly hl2 hl
  rw [← hrs] at HI
  rw [← hrf] at HF
  have hxl : xs.length ≤ 2097152 := by omega
  have hyl : ys.length ≤ 2097152 := by omega
  have hn : l.length = min xs.length ys.length := by rw [hl, List.length_zip]
  have HLX := Lib.hid hlx
  have HLY := Lib.hid hly
  have HL := Lib.hid hl
  clear hlx hly hl hxs hys hrs hrf hl1 hl2
  go_enter Tryz.func25, Tryz.ntmps25
  go_wp2_with fail
  (go_at_call 48; refine (HI.out _).mono ?_; rintro e w1 ⟨v1, rfl, own1, b1⟩; obtain ⟨a1, c1, rfl⟩ := own_form own1; have B1 := Lib.hid b1; have OX1 := Lib.hid own1; have z1 := b1.size; clear own1 b1)
  go_wp2_with fail
  (go_at_call 48; refine (HF.out _).mono ?_; rintro e w2 ⟨v2, rfl, own2, b2⟩; obtain ⟨a2, c2, rfl⟩ := own_form own2; have B2 : Hid (Below w.heap.size w w2) := B1.out.trans (b2.mono z1); have OX := Lib.hid (own_below OX1.out b2); have OY := Lib.hid own2; have z2 := b2.size; clear own2 b2 OX1 B1 HI HF)
  go_wp2_with fail
  rw [show min (xs.length : Int) (ys.length : Int) = (l.length : Int) by omega]
  have hnx : l.length ≤ xs.length := by omega
  have hny : l.length ≤ ys.length := by omega
  clear hn
  go_loopw [9, 26] (fun sp i wr => ∃ (k : Nat) (v : Value), k ≤ l.length ∧ i = .int .i64 k ∧ v = sp ∧ OwnSp wr w2.heap.size v ((spansL l).take k) ∧ Below w2.heap.size w2 wr) (fun _ i _ => l.length - (intOf i).toNat)
  case atStart => exact ⟨0, _, Nat.zero_le _, rfl, rfl, OwnSp.nil _ _, Below.refl _ _⟩
  case round =>
    obtain ⟨k, v, hk, rfl, rfl, own, hb⟩ := hrel
    have hsz := hb.size
    have hkl : ((spansL l).take k).length = k := by rw [List.length_take, spansL_len]; omega
    by_cases hlt : k < l.length
    · obtain ⟨gx, cx, ex, _, hgx, hcx, cellx⟩ := own_cells OX.out (by omega)
      obtain ⟨gy, cy, ey, _, hgy, hcy, celly⟩ := own_cells OY.out (by omega)
      simp at ex ey
      obtain ⟨rfl, rfl⟩ := ex
      obtain ⟨rfl, rfl⟩ := ey
      have hkx : k < xs.length := by omega
      have hky : k < ys.length := by omega
      obtain ⟨x, hx⟩ : ∃ x, x = xs[k] := ⟨_, rfl⟩
      obtain ⟨y, hy⟩ : ∃ y, y = ys[k] := ⟨_, rfl⟩
      have hlk : l[k] = (x, y) := by rw [hx, hy]; simp only [HL.out, List.getElem_zip]
      have cX : wr.cell? ⟨gx, k, none⟩ = some (.string ⟨x.toArray⟩) := by
        rw [hb.cell (p := ⟨gx, k, none⟩) hgx, (cellx k (by simpa using hkx)).1]; simp [hx, strV]
      have cY : wr.cell? ⟨gy, k, none⟩ = some (.string ⟨y.toArray⟩) := by
        rw [hb.cell (p := ⟨gy, k, none⟩) hgy, (celly k (by simpa using hky)).1]; simp [hy, strV]
      have hxn : x.length ≤ 2097152 := HLX.out x (by rw [hx]; exact List.getElem_mem _)
      have hyn : y.length ≤ 2097152 := HLY.out y (by rw [hy]; exact List.getElem_mem _)
      obtain ⟨e1, e2⟩ := lastS_take l hk
      have hi1 := insL_le l k
      have ho1 := outsL_le l k
      have HN : Hid ((spansL l).take (k + 1) = (spansL l).take k ++ [(insL (l.take k), insL (l.take k) + x.length + 1, outsL (l.take k), outsL (l.take k) + y.length + 1, decide (y = x))]) := by
        show _ = _
        rw [spansL_succ hlt, spAt_next hlt, hlk]
      have HW : Hid (∀ wx, Below wr.heap.size wr wx → Calls Tryz.prog 49 #[v, .string ⟨x.toArray⟩, .string ⟨y.toArray⟩] wx fun e w' => ∃ v', e = .returned v' ∧ OwnSp w' w2.heap.size v' ((spansL l).take (k + 1)) ∧ Below w2.heap.size w2 w') := fun wx hbx => by
        refine (with_any w2.heap.size v ((spansL l).take k) ⟨x.toArray⟩ ⟨y.toArray⟩ wx (by omega) (Nat.le_trans hsz hbx.size) (own.below hbx) (by simpa [ByteArray.size] using hxn) (by simpa [ByteArray.size] using hyn) (by rw [e1]; omega) (by rw [e2]; omega)).mono ?_
        rintro e w' ⟨v', rfl, h1, h2⟩
        refine ⟨v', rfl, ?_, (hb.trans (hbx.mono hsz)).trans h2⟩
        rw [HN.out, ← str_beq]
        rw [e1, e2] at h1
        simpa [ByteArray.size] using h1
      have hk2 : (k : Int) ≤ (c1 : Int) := by omega
      have hk3 : (k : Int) ≤ (c2 : Int) := by omega
      clear cellx celly hx hy hlk own e1 e2 HN hkl hi1 ho1
      go_wp2_with fail
      go_region_with (go_at_call 49; refine (HW.out _ (by first | exact Below.refl _ _ | exact (Below.refl _ _).drew)).mono ?_; rintro e w' ⟨v', rfl, h1, h2⟩; have H1 := Lib.hid h1; have H2 := Lib.hid h2; clear h1 h2)
      all_goals
        go_wp2_with fail
        go_roundw
        case rel => exact ⟨k + 1, _, by omega, by go_num, rfl, H1.out, H2.out⟩
        case measure => simp [intOf]; omega
    · have hke : k = l.length := by omega
      subst hke
      have HO : Hid (OwnSp wr w2.heap.size v (spansL l)) := by
        rw [List.take_of_length_le (by rw [spansL_len]; omega)] at own
        exact own
      clear own hlt
      go_wp2_with fail
      go_ret
      exact ⟨_, rfl, HO.out.mono (by omega), B2.out.trans (hb.mono (by omega))⟩

end Go.Proofs.YtgjhfmlncibpmaaGreatDoor

/- PosSpans of the specification, and of the program: the spans of a stream's lines as they go outside by a table. Conditions: at most 2^22 ends; the text has at most 2^21 bytes. -/
namespace Go.Proofs.YtgjhfmlncibpmaaGreatDoor
open Go.RowKit Go.Sort

theorem strE_len (ls : List (List UInt8)) (n : Nat) (hx : ∀ x ∈ ls, x.length ≤ n) (T : List (Int × Int) × List UInt8) : (ls.foldl strF T).2.length ≤ T.2.length + ls.length * (n + 21) := by
  induction ls generalizing T with
  | nil => simp
  | cons l r ih =>
    have h1 := ih (fun x h => hx x (List.mem_cons_of_mem _ h)) (strF T l)
    have h2 : (strF T l).2.length ≤ T.2.length + (n + 21) := by
      have h3 := lineE_len T.1 l
      have h4 := hx l (List.mem_cons_self ..)
      simp only [strF, List.length_append, List.length_cons, List.length_nil]
      omega
    simp only [List.foldl_cons, List.length_cons]
    rw [Nat.add_mul]
    omega
/-- The lines of a stream, and what they are outside. -/
def posL (es : List (Int × Int)) (s : List UInt8) : List (List UInt8 × List UInt8) := pairsL s (strA es s).2
theorem strA_len (es : List (Int × Int)) (s : List UInt8) : (strA es s).2.length ≤ 2097152 := by
  unfold strA
  split
  · rename_i h
    have h1 : s.length ≤ 120 := by have := h.2; unfold strB at this; simp at this; exact this.1.1
    have hl := lines_len s
    have := strE_len (linesL s) 120 (fun x hx => by have := line_len hx; omega) (es, [])
    unfold streamE
    have h3 : (linesL s).length * (120 + 21) ≤ 120 * (120 + 21) := Nat.mul_le_mul_right _ (by omega)
    simp only [List.length_nil] at this
    omega
  · simp
theorem posL_not {es : List (Int × Int)} {s : List UInt8} (h : (mapB es && strB s) = false) : posL es s = [] := by
  have : strA es s = ([], []) := by
    unfold strA
    rw [if_neg (fun hh => by rw [hh.1, hh.2] at h; cases h)]
  unfold posL pairsL
  rw [this]
  show (linesL s).zip (linesL []) = []
  have : linesL [] = [] := rfl
  rw [this, List.zip_nil_right]
theorem posL_ok {es : List (Int × Int)} {s : List UInt8} (h1 : mapB es = true) (h2 : strB s = true) : posL es s = pairsL s (streamE es (linesL s)).2 := by
  unfold posL strA
  rw [if_pos ⟨h1, h2⟩]

set_option maxRecDepth 100000 in
set_option maxHeartbeats 1600000 in
theorem implSpans_any (v : Value) (es : List (Int × Int)) (s : ByteArray) (w : World) (hn : es.length ≤ 4194304) (hs : s.size ≤ 2097152) (hwf : wfE es) (ht : TabAt w v es) (hv : VarsOk w) :
    Calls Tryz.prog 9 #[.agg #[v], .string s] w fun e w' => ∃ v, e = .returned v ∧ OwnSp w' w.heap.size v (spansL (posL es s.data.toList)) ∧ Below w.heap.size w w' := by
  have hlen := strA_len es s.data.toList
  have HT := Lib.hid ht
  obtain ⟨ad, cap, rfl, _, _⟩ := ht
  obtain ⟨us, hus⟩ : ∃ us, us = (strA es s.data.toList).1 := ⟨_, rfl⟩
  obtain ⟨far, hfar⟩ : ∃ far : ByteArray, far = ⟨(strA es s.data.toList).2.toArray⟩ := ⟨_, rfl⟩
  have HI : Hid (∀ w, TabAt w (.slice ad es.length cap) es → VarsOk w → Calls Tryz.prog 24 #[.agg #[.slice ad es.length cap], .string s] w fun e w' => ∃ g c, e = .returned (.tuple #[.agg #[.slice g us.length c], .string far]) ∧ FreshTab w' w.heap.size (.slice g us.length c) us ∧ Below w.heap.size w w') := fun w ht hv => by rw [hus, hfar]; exact implStrA _ es s w hn hs hwf ht hv
  have hfl : far.data.toList = (strA es s.data.toList).2 := by rw [hfar]
  have hfs : far.size ≤ 2097152 := by rw [← len_list, hfl]; exact hlen
  have HP : Hid (∀ w, Calls Tryz.prog 25 #[.string s, .string far] w fun e w' => ∃ v, e = .returned v ∧ OwnSp w' w.heap.size v (spansL (posL es s.data.toList)) ∧ Below w.heap.size w w') := fun w => by
    have := implPairs_any s far w hs hfs
    rw [hfl] at this
    exact this
  obtain ⟨sp, hsp⟩ : ∃ sp, sp = spansL (posL es s.data.toList) := ⟨_, rfl⟩
  rw [← hsp] at HP ⊢
  have HV : Hid (∀ w', Below w.heap.size w w' → VarsOk w') := fun w' h => hv.below h
  clear hsp hus hfar hfl hfs hlen hwf hv
  go_enter Tryz.func9, Tryz.ntmps9
  go_wp2_with fail
  (go_at_call 24; refine (HI.out _ (HT.out.below ((Below.refl _ _).alloc (Nat.le_refl _) _)) (HV.out _ ((Below.refl _ _).alloc (Nat.le_refl _) _))).mono ?_; rintro e w1 ⟨g, c, rfl, _, b1⟩; have B1 : Hid (Below w.heap.size w w1) := ((Below.refl _ _).alloc (Nat.le_refl _) _).trans (b1.mono (by simp)); have z1 : w.heap.size + 1 ≤ w1.heap.size := (by have := b1.size; simpa using this); clear b1)
  go_wp2_with fail
  (go_at_call 25; refine (HP.out _).mono ?_; rintro e w2 ⟨v2, rfl, o2, b2⟩; have B2 : Hid (Below w.heap.size w w2) := (B1.out.alloc (by omega) _).trans (b2.mono (by simp; omega)); have O2 : Hid (OwnSp w2 w.heap.size v2 sp) := o2.mono (by simp; omega); clear o2 b2)
  go_wp2_with fail
  go_ret
  exact ⟨_, rfl, O2.out, B2.out⟩

set_option maxRecDepth 100000 in
set_option maxHeartbeats 1600000 in
theorem spec4Spans_any (B : Nat) (ad : Addr) (cap : Nat) (es : List (Int × Int)) (s : ByteArray) (w : World) (hm : mapB es = true) (hst : strB s.data.toList = true) (hs : s.size ≤ 2097152) (hB : B ≤ w.heap.size) (ho : OwnTab w B (.slice (some ad) es.length cap) es) :
    Calls Tryz.prog 22 #[.agg #[.slice (some ad) es.length cap], .string s] w fun e w' => ∃ v, e = .returned v ∧ OwnSp w' w.heap.size v (spansL (posL es s.data.toList)) ∧ Below w.heap.size w w' := by
  have hlen := strA_len es s.data.toList
  have hstr : strA es s.data.toList = streamE es (linesL s.data.toList) := by unfold strA; rw [if_pos ⟨hm, hst⟩]
  rw [hstr] at hlen
  have HO := Lib.hid ho
  obtain ⟨us, hus⟩ : ∃ us, us = (streamE es (linesL s.data.toList)).1 := ⟨_, rfl⟩
  obtain ⟨far, hfar⟩ : ∃ far : ByteArray, far = ⟨(streamE es (linesL s.data.toList)).2.toArray⟩ := ⟨_, rfl⟩
  have HI : Hid (∀ w, B ≤ w.heap.size → OwnTab w B (.slice (some ad) es.length cap) es → Calls Tryz.prog 37 #[.agg #[.slice (some ad) es.length cap], .string s] w fun e w' => ∃ g c, e = .returned (.tuple #[.agg #[.slice (some g) us.length c], .string far]) ∧ OwnTab w' B (.slice (some g) us.length c) us ∧ Below w.heap.size w w') := fun w h1 h2 => by rw [hus, hfar]; exact specStream_any B ad cap es s w hm hs h1 h2
  have hfl : far.data.toList = (streamE es (linesL s.data.toList)).2 := by rw [hfar]
  have hfs : far.size ≤ 2097152 := by rw [← len_list, hfl]; exact hlen
  have HP : Hid (∀ w, Calls Tryz.prog 38 #[.string s, .string far] w fun e w' => ∃ v, e = .returned v ∧ OwnSp w' w.heap.size v (spansL (posL es s.data.toList)) ∧ Below w.heap.size w w') := fun w => by
    have := specBoth_any s far w hs hfs
    rw [hfl, ← posL_ok hm hst] at this
    exact this
  obtain ⟨sp, hsp⟩ : ∃ sp, sp = spansL (posL es s.data.toList) := ⟨_, rfl⟩
  rw [← hsp] at HP ⊢
  clear hsp hus hfar hfl hfs hlen hstr hm hst ho
  go_enter Tryz.func22, Tryz.ntmps22
  go_wp2_with fail
  (go_at_call 37; refine (HI.out _ (by simp; omega) (HO.out.below ((Below.refl _ _).alloc (Nat.le_refl _) _))).mono ?_; rintro e w1 ⟨g, c, rfl, _, b1⟩; have B1 : Hid (Below w.heap.size w w1) := ((Below.refl _ _).alloc (Nat.le_refl _) _).trans (b1.mono (by simp)); have z1 : w.heap.size + 1 ≤ w1.heap.size := (by have := b1.size; simpa using this); clear b1)
  go_wp2_with fail
  (go_at_call 38; refine (HP.out _).mono ?_; rintro e w2 ⟨v2, rfl, o2, b2⟩; have B2 : Hid (Below w.heap.size w w2) := (B1.out.alloc (by omega) _).trans (b2.mono (by simp; omega)); have O2 : Hid (OwnSp w2 w.heap.size v2 sp) := o2.mono (by simp; omega); clear o2 b2)
  go_wp2_with fail
  go_ret
  exact ⟨_, rfl, O2.out, B2.out⟩

set_option maxRecDepth 100000 in
set_option maxHeartbeats 1600000 in
theorem specSpans_any (B : Nat) (ad : Addr) (cap : Nat) (es : List (Int × Int)) (s : ByteArray) (w : World) (hn : es.length ≤ 4194304) (hs : s.size ≤ 2097152) (hB : B ≤ w.heap.size) (ho : OwnTab w B (.slice (some ad) es.length cap) es) :
    Calls Tryz.prog 7 #[.agg #[.slice (some ad) es.length cap], .string s] w fun e w' => ∃ v, e = .returned v ∧ OwnSp w' w.heap.size v (spansL (posL es s.data.toList)) ∧ Below w.heap.size w w' := by
  have HO := Lib.hid ho
  have hM : Hid (∀ w, OwnTab w B (.slice (some ad) es.length cap) es → Calls Tryz.prog 20 #[.agg #[.slice (some ad) es.length cap]] w fun e w' => e = .returned (.bool (mapB es)) ∧ Below w.heap.size w w') := fun w h => specMapOk_any _ es w hn h.tab
  have hL : Hid (∀ w, Calls Tryz.prog 21 #[.string s] w fun e w' => e = .returned (.bool (strB s.data.toList)) ∧ Below w.heap.size w w') := fun w => specStr_any s w hs
  have HZ : Hid (∀ wx : World, w.heap.size ≤ wx.heap.size → OwnSp (wx.alloc (.cells #[] 48)) w.heap.size (.slice (some ⟨wx.heap.size, 0, none⟩) 0 0) []) := fun wx h => by
    have := World.ownsRow_made (base := w.heap.size) (e := 48) (size := 5) wx #[] 0 h (Nat.zero_le _) rfl
    simpa [OwnSp, flatC] using this
  by_cases hm : mapB es = true
  · by_cases hi : strB s.data.toList = true
    · have HX : Hid (∀ w, B ≤ w.heap.size → OwnTab w B (.slice (some ad) es.length cap) es → Calls Tryz.prog 22 #[.agg #[.slice (some ad) es.length cap], .string s] w fun e w' => ∃ v, e = .returned v ∧ OwnSp w' w.heap.size v (spansL (posL es s.data.toList)) ∧ Below w.heap.size w w') := fun w h1 h2 => spec4Spans_any B ad cap es s w hm hi hs h1 h2
      obtain ⟨sp, hsp⟩ : ∃ sp, sp = spansL (posL es s.data.toList) := ⟨_, rfl⟩
      rw [← hsp] at HX ⊢
      rw [hm] at hM
      rw [hi] at hL
      clear hm hi hsp ho HZ
      go_enter Tryz.func7, Tryz.ntmps7
      go_wp2_with fail
      (go_at_call 20; refine (hM.out _ (HO.out.below ((Below.refl _ _).alloc (Nat.le_refl _) _))).mono ?_; rintro e w1 ⟨rfl, b1⟩; have t0 : w1.cell? ⟨w.heap.size, 0, none⟩ = some (.slice (some ad) es.length cap) := (by rw [b1.cell (by simp)]; simp); have B1 : Hid (Below w.heap.size w w1) := ((Below.refl _ _).alloc (Nat.le_refl _) _).trans (b1.mono (by simp)); have z1 : w.heap.size + 1 ≤ w1.heap.size := (by have := b1.size; simpa using this); clear b1)
      go_wp2_with fail
      (go_at_call 21; refine (hL.out _).mono ?_; rintro e w2 ⟨rfl, b2⟩; have t2 := box_below t0 b2; have B2 : Hid (Below w.heap.size w w2) := B1.out.trans (b2.mono (by omega)); have z2 : w.heap.size + 1 ≤ w2.heap.size := (by have := b2.size; omega); clear b2)
      go_wp2_with fail
      (go_at_call 22; refine (HX.out _ (by omega) (HO.out.below B2.out)).mono ?_; rintro e w3 ⟨v3, rfl, o3, b3⟩; have O3 : Hid (OwnSp w3 w.heap.size v3 sp) := o3.mono (by omega); have B3 : Hid (Below w.heap.size w w3) := B2.out.trans (b3.mono (by omega)); clear o3 b3)
      go_wp2_with fail
      go_ret
      exact ⟨_, rfl, O3.out, B3.out⟩
    · have hi' : strB s.data.toList = false := by simpa using hi
      have hp : posL es s.data.toList = [] := posL_not (by rw [hi', Bool.and_false])
      rw [hp]
      show Calls _ _ _ _ fun e w' => ∃ v, e = .returned v ∧ OwnSp w' w.heap.size v [] ∧ Below w.heap.size w w'
      rw [hm] at hM
      rw [hi'] at hL
      clear hm hi hi' hp ho
      go_enter Tryz.func7, Tryz.ntmps7
      go_wp2_with fail
      (go_at_call 20; refine (hM.out _ (HO.out.below ((Below.refl _ _).alloc (Nat.le_refl _) _))).mono ?_; rintro e w1 ⟨rfl, b1⟩; have B1 : Hid (Below w.heap.size w w1) := ((Below.refl _ _).alloc (Nat.le_refl _) _).trans (b1.mono (by simp)); have z1 : w.heap.size + 1 ≤ w1.heap.size := (by have := b1.size; simpa using this); clear b1)
      go_wp2_with fail
      (go_at_call 21; refine (hL.out _).mono ?_; rintro e w2 ⟨rfl, b2⟩; have B2 : Hid (Below w.heap.size w w2) := B1.out.trans (b2.mono (by omega)); have z2 : w.heap.size + 1 ≤ w2.heap.size := (by have := b2.size; omega); clear b2)
      go_wp2_with fail
      go_ret
      exact ⟨_, rfl, HZ.out w2 (by omega), B2.out.alloc (by omega) _⟩
  · have hm' : mapB es = false := by simpa using hm
    have hp : posL es s.data.toList = [] := posL_not (by rw [hm', Bool.false_and])
    rw [hp]
    show Calls _ _ _ _ fun e w' => ∃ v, e = .returned v ∧ OwnSp w' w.heap.size v [] ∧ Below w.heap.size w w'
    rw [hm'] at hM
    clear hm hm' hp ho
    go_enter Tryz.func7, Tryz.ntmps7
    go_wp2_with fail
    (go_at_call 20; refine (hM.out _ (HO.out.below ((Below.refl _ _).alloc (Nat.le_refl _) _))).mono ?_; rintro e w1 ⟨rfl, b1⟩; have B1 : Hid (Below w.heap.size w w1) := ((Below.refl _ _).alloc (Nat.le_refl _) _).trans (b1.mono (by simp)); have z1 : w.heap.size + 1 ≤ w1.heap.size := (by have := b1.size; simpa using this); clear b1)
    go_wp2_with fail
    go_ret
    exact ⟨_, rfl, HZ.out w1 (by omega), B1.out.alloc (by omega) _⟩

end Go.Proofs.YtgjhfmlncibpmaaGreatDoor

/- How the law compares lists of spans, marks them and finds the marks again. Conditions: at most 2^22 spans. -/
namespace Go.Proofs.YtgjhfmlncibpmaaGreatDoor
open Go.RowKit

set_option maxRecDepth 100000 in
set_option maxHeartbeats 1600000 in
theorem eqSpan_same (f t o u : Int) (p : Bool) (w : World) :
    Calls Tryz.prog 26 #[.agg #[.int .i64 f, .int .i64 t, .int .i64 o, .int .i64 u, .bool p], .agg #[.int .i64 f, .int .i64 t, .int .i64 o, .int .i64 u, .bool p]] w fun e w' => e = .returned (.bool true) ∧ Below w.heap.size w w' := by
  go_enter Tryz.func26, Tryz.ntmps26
  go_wp2
  go_ret
  exact ⟨rfl, ((Below.refl _ _).alloc (Nat.le_refl _) _).alloc (by simp) _⟩

/-- The five cells of an element. -/
theorem RowAt.five {w : World} {g : Nat} {xs : List (Nat × Nat × Nat × Nat × Bool)} (h : RowAt w g (flatC spC xs)) (i : Nat) (hi : i < xs.length) (f t o u : Nat) (p : Bool) (hp : (f, t, o, u, p) = xs[i]) :
    (w.cell? ⟨g, i * 5, none⟩ = some (.int .i64 f) ∧ w.cell? ⟨g, i * 5 + 1, none⟩ = some (.int .i64 t) ∧ w.cell? ⟨g, i * 5 + 2, none⟩ = some (.int .i64 o) ∧ w.cell? ⟨g, i * 5 + 3, none⟩ = some (.int .i64 u) ∧ w.cell? ⟨g, i * 5 + 4, none⟩ = some (.bool p)) ∧
    (w.frozen? ⟨g, i * 5, none⟩ = false ∧ w.frozen? ⟨g, i * 5 + 1, none⟩ = false ∧ w.frozen? ⟨g, i * 5 + 2, none⟩ = false ∧ w.frozen? ⟨g, i * 5 + 3, none⟩ = false ∧ w.frozen? ⟨g, i * 5 + 4, none⟩ = false) := by
  have e0 := h.elem spC_len i hi 0 (by decide) (.int .i64 f) (by rw [← hp]; rfl)
  have e1 := h.elem spC_len i hi 1 (by decide) (.int .i64 t) (by rw [← hp]; rfl)
  have e2 := h.elem spC_len i hi 2 (by decide) (.int .i64 o) (by rw [← hp]; rfl)
  have e3 := h.elem spC_len i hi 3 (by decide) (.int .i64 u) (by rw [← hp]; rfl)
  have e4 := h.elem spC_len i hi 4 (by decide) (.bool p) (by rw [← hp]; rfl)
  exact ⟨⟨e0.1, e1.1, e2.1, e3.1, e4.1⟩, ⟨e0.2, e1.2, e2.2, e3.2, e4.2⟩⟩

set_option maxRecDepth 100000 in
set_option maxHeartbeats 1600000 in
theorem eqSpans_same (v1 v2 : Value) (xs : List (Nat × Nat × Nat × Nat × Bool)) (w : World) (hn : xs.length ≤ 4194304) (h1 : RdSp w v1 xs) (h2 : RdSp w v2 xs) :
    Calls Tryz.prog 10 #[v1, v2] w fun e w' => e = .returned (.bool true) ∧ Below w.heap.size w w' := by
  obtain ⟨a1, cap1, rfl, hc1, r1⟩ := h1
  obtain ⟨a2, cap2, rfl, hc2, r2⟩ := h2
  have R1 := Lib.hid r1
  have R2 := Lib.hid r2
  clear r1 r2
  go_enter Tryz.func10, Tryz.ntmps10
  go_wp2
  go_loopw [5] (fun i wr => ∃ k : Nat, k ≤ xs.length ∧ i = .int .i64 k ∧ Below w.heap.size w wr) (fun i _ => xs.length - (intOf i).toNat)
  case atStart => exact ⟨0, Nat.zero_le _, rfl, Below.refl _ _⟩
  case round =>
    obtain ⟨k, hk, rfl, hb⟩ := hrel
    by_cases hlt : k < xs.length
    · obtain ⟨g1, rfl, q1⟩ := R1.out (by omega)
      obtain ⟨g2, rfl, q2⟩ := R2.out (by omega)
      have hl : 0 < (flatC spC xs).length := by rw [flatC_len spC_len]; omega
      obtain ⟨⟨f, t, o, u, p⟩, hp⟩ : ∃ p, p = xs[k] := ⟨_, rfl⟩
      obtain ⟨⟨p0, p1, p2, p3, p4⟩, _⟩ := (q1.below hb (q1.lt hl)).five k hlt f t o u p hp
      obtain ⟨⟨s0, s1, s2, s3, s4⟩, _⟩ := (q2.below hb (q2.lt hl)).five k hlt f t o u p hp
      have HC : Hid (∀ w, Calls Tryz.prog 26 #[.agg #[.int .i64 f, .int .i64 t, .int .i64 o, .int .i64 u, .bool p], .agg #[.int .i64 f, .int .i64 t, .int .i64 o, .int .i64 u, .bool p]] w fun e w' => e = .returned (.bool true) ∧ Below w.heap.size w w') := fun w => eqSpan_same f t o u p w
      have HB := Lib.hid hb
      have hsz := hb.size
      have hk2 : (k : Int) ≤ (cap1 : Int) := by omega
      have hk3 : (k : Int) ≤ (cap2 : Int) := by omega
      clear hp q1 q2 R1 R2 hb
      go_wp2_with fail
      go_region_with (go_at_call 26; refine (HC.out _).mono ?_; rintro e w1 ⟨rfl, b1⟩; have BB : Hid (Below w.heap.size w w1) := (by first | exact HB.out.trans ((((Below.refl _ _).drew).trans b1).mono hsz) | exact HB.out.trans (b1.mono hsz)); clear b1)
      all_goals
        go_wp2
        go_roundw
        case rel => exact ⟨k + 1, by omega, by go_num, BB.out⟩
        case measure => simp [intOf]; omega
    · go_wp2
      go_ret
      exact ⟨rfl, hb⟩

/-- n marks of spans, from k on. -/
def marksS (k n : Nat) : List (Nat × Nat × Nat × Nat × Bool) := (List.range n).map fun i => (k + 5 * i, k + 5 * i + 1, k + 5 * i + 2, k + 5 * i + 3, decide ((k + 5 * i + 4) % 3 = 0))
theorem marksS_len (k n : Nat) : (marksS k n).length = n := by simp [marksS]
theorem marksS_at (k n i : Nat) (h : i < (marksS k n).length) : (marksS k n)[i] = (k + 5 * i, k + 5 * i + 1, k + 5 * i + 2, k + 5 * i + 3, decide ((k + 5 * i + 4) % 3 = 0)) := by simp [marksS]
theorem set_right {α : Type} (X Y : List α) (i : Nat) (v : α) : (X ++ Y).set (X.length + i) v = X ++ Y.set i v := by
  rw [List.set_append_right _ _ (by omega)]; congr 2; omega
theorem flat_set5 (A C : List (Nat × Nat × Nat × Nat × Bool)) (o p : Nat × Nat × Nat × Nat × Bool) :
    (((((flatC spC (A ++ o :: C)).set (A.length * 5) (.int .i64 p.1)).set (A.length * 5 + 1) (.int .i64 p.2.1)).set (A.length * 5 + 2) (.int .i64 p.2.2.1)).set (A.length * 5 + 3) (.int .i64 p.2.2.2.1)).set (A.length * 5 + 4) (.bool p.2.2.2.2) = flatC spC (A ++ p :: C) := by
  have hX := flatC_len spC_len A
  rw [flatC_app, flatC_app]
  obtain ⟨X, hx⟩ : ∃ X, X = flatC spC A := ⟨_, rfl⟩
  rw [← hx] at hX ⊢
  rw [← hX]
  have h0 := set_right X (flatC spC (o :: C)) 0 (.int .i64 p.1)
  simp only [Nat.add_zero] at h0
  rw [h0, set_right, set_right, set_right, set_right]
  rfl
theorem marks_next {k : Nat} {xs : List (Nat × Nat × Nat × Nat × Bool)} {j : Nat} (h : j < xs.length) :
    (marksS k xs.length).take j ++ xs.drop j = (marksS k xs.length).take j ++ xs[j] :: xs.drop (j + 1) ∧
    (marksS k xs.length).take (j + 1) ++ xs.drop (j + 1) = (marksS k xs.length).take j ++ (k + 5 * j, k + 5 * j + 1, k + 5 * j + 2, k + 5 * j + 3, decide ((k + 5 * j + 4) % 3 = 0)) :: xs.drop (j + 1) := by
  refine ⟨by rw [List.drop_eq_getElem_cons h], ?_⟩
  rw [List.take_succ_eq_append_getElem (by rw [marksS_len]; exact h), marksS_at]
  simp

theorem RowAt.mark5 {w : World} {g j : Nat} {A C : List (Nat × Nat × Nat × Nat × Bool)} {o : Nat × Nat × Nat × Nat × Bool} (h : RowAt w g (flatC spC (A ++ o :: C))) (hj : A.length = j) (p : Nat × Nat × Nat × Nat × Bool) (v0 v1 v2 v3 v4 : Value) (hv : spC p = [v0, v1, v2, v3, v4]) :
    RowAt (((((w.setCell ⟨g, j * 5, none⟩ v0).setCell ⟨g, j * 5 + 1, none⟩ v1).setCell ⟨g, j * 5 + 2, none⟩ v2).setCell ⟨g, j * 5 + 3, none⟩ v3).setCell ⟨g, j * 5 + 4, none⟩ v4) g (flatC spC (A ++ p :: C)) := by
  subst hj
  have hl : (flatC spC (A ++ o :: C)).length = (A.length + (C.length + 1)) * 5 := by rw [flatC_len spC_len]; simp
  simp only [spC, List.cons.injEq, and_true] at hv
  obtain ⟨rfl, rfl, rfl, rfl, rfl⟩ := hv
  rw [← flat_set5 A C o p]
  exact ((((h.set (by omega) _).set (by simp only [List.length_set]; omega) _).set (by simp only [List.length_set]; omega) _).set (by simp only [List.length_set]; omega) _).set (by simp only [List.length_set]; omega) _

set_option maxRecDepth 100000 in
set_option maxHeartbeats 3200000 in
theorem markSpans_any (k g cap B : Nat) (xs : List (Nat × Nat × Nat × Nat × Bool)) (w : World) (hn : k + 5 * xs.length ≤ 1000000000000000) (hcap : xs.length ≤ cap) (hr : RowAt w g (flatC spC xs)) (hg : g < w.heap.size) (hB : B ≤ g) :
    Calls Tryz.prog 13 #[.slice (some ⟨g, 0, none⟩) xs.length cap, .int .i64 k] w fun e w' => e = .returned (.int .i64 (k + 5 * xs.length : Nat)) ∧ RowAt w' g (flatC spC (marksS k xs.length)) ∧ Below B w w' := by
  have HR := Lib.hid hr
  clear hr
  go_enter Tryz.func13, Tryz.ntmps13
  go_wp2
  go_loopw [1, 5] (fun m i wr => ∃ (j q : Nat), j ≤ xs.length ∧ i = .int .i64 j ∧ m = .int .i64 q ∧ q = k + 5 * j ∧ RowAt wr g (flatC spC ((marksS k xs.length).take j ++ xs.drop j)) ∧ Below B w wr) (fun _ i _ => xs.length - (intOf i).toNat)
  case atStart => exact ⟨0, k, Nat.zero_le _, rfl, rfl, rfl, by simpa using HR.out, Below.refl _ _⟩
  case round =>
    obtain ⟨j, q, hj, rfl, rfl, hq, hrow, hb⟩ := hrel
    have HQ := Lib.hid hq
    have hq1 : q ≤ 1000000000000000 := by omega
    have HB := Lib.hid hb
    have hgl : g < wr.heap.size := by have := hb.size; omega
    by_cases hlt : j < xs.length
    · have hl : ((marksS k xs.length).take j ++ xs.drop j).length = xs.length := by simp [marksS_len]; omega
      obtain ⟨⟨oa, ob, oc, od, op⟩, hp⟩ : ∃ p, p = ((marksS k xs.length).take j ++ xs.drop j)[j]'(by rw [hl]; exact hlt) := ⟨_, rfl⟩
      obtain ⟨⟨a0, a1, a2, a3, a4⟩, ⟨f0, f1, f2, f3, f4⟩⟩ := hrow.five j (by rw [hl]; exact hlt) oa ob oc od op hp
      have HRow := Lib.hid hrow
      have hk2 : (j : Int) ≤ (cap : Int) := by omega
      clear hrow hq hb hp hl
      go_wp2
      go_roundw
      case rel =>
        obtain ⟨e1, e2⟩ := marks_next (k := k) hlt
        have h := HRow.out
        rw [e1] at h
        have hA : ((marksS k xs.length).take j).length = j := by rw [List.length_take, marksS_len]; omega
        refine ⟨j + 1, q + 5, by omega, by go_num, by go_num, by have := HQ.out; omega, ?_, ?_⟩
        · rw [e2, ← HQ.out]
          refine h.mark5 hA _ _ _ _ _ _ ?_
          have hb : (((q : Int) + 1 + 1 + 1 + 1) % 3 == 0) = decide ((q + 4) % 3 = 0) := by
            rw [Bool.eq_iff_iff]
            simp
            omega
          rw [hb]
          simp only [spC]
          refine congr (congrArg _ (congrArg _ ?_)) (congr (congrArg _ (congrArg _ ?_)) (congr (congrArg _ (congrArg _ ?_)) (congr (congrArg _ (congrArg _ ?_)) rfl))) <;> omega
        · exact ((((HB.out.setCell hB _).setCell hB _).setCell hB _).setCell hB _).setCell hB _
      case measure => simp [intOf]; omega
    · have hjn : j = xs.length := by omega
      have HE : Hid (RowAt wr g (flatC spC (marksS k xs.length))) := by
        rw [hjn, List.take_of_length_le (by rw [marksS_len]; omega), List.drop_of_length_le (by omega), List.append_nil] at hrow
        exact hrow
      have HQE : Hid ((q : Int) = ((k + 5 * xs.length : Nat) : Int)) := by show _ = _; rw [hq, hjn]
      clear hrow hq hjn HQ
      go_wp2
      go_ret
      exact ⟨ret_int HQE.out, HE.out, HB.out⟩

set_option maxRecDepth 100000 in
set_option maxHeartbeats 3200000 in
theorem heldSpans_any (k : Nat) (v : Value) (n : Nat) (w : World) (hn : k + 5 * n ≤ 1000000000000000) (hr : RdSp w v (marksS k n)) :
    Calls Tryz.prog 14 #[v, .int .i64 k] w fun e w' => e = .returned (.int .i64 (k + 5 * n : Nat)) ∧ Below w.heap.size w w' := by
  have HR := Lib.hid hr
  obtain ⟨a, cap, rfl, hcap, hrow0⟩ := hr
  rw [marksS_len] at hcap hrow0 ⊢
  have HR0 := Lib.hid hrow0
  clear hrow0 HR
  go_enter Tryz.func14, Tryz.ntmps14
  go_wp2
  go_loopw [1, 5] (fun m i wr => ∃ (j q : Nat), j ≤ n ∧ i = .int .i64 j ∧ m = .int .i64 q ∧ q = k + 5 * j ∧ Below w.heap.size w wr) (fun _ i _ => n - (intOf i).toNat)
  case atStart => exact ⟨0, k, Nat.zero_le _, rfl, rfl, rfl, Below.refl _ _⟩
  case round =>
    obtain ⟨j, q, hj, rfl, rfl, hq, hb⟩ := hrel
    have HQ := Lib.hid hq
    have hq1 : q ≤ 1000000000000000 := by omega
    have HB := Lib.hid hb
    by_cases hlt : j < n
    · obtain ⟨g, rfl, hrow⟩ := HR0.out (by omega)
      have hl : j < (marksS k n).length := by rw [marksS_len]; exact hlt
      obtain ⟨⟨a0, a1, a2, a3, a4⟩, _⟩ := (hrow.below hb (hrow.lt (by rw [flatC_len spC_len, marksS_len]; omega))).five j hl q (q + 1) (q + 2) (q + 3) (decide ((q + 4) % 3 = 0)) (by rw [marksS_at, ← hq])
      have hb : decide ((q + 4) % 3 = 0) = (((q : Int) + 1 + 1 + 1 + 1) % 3 == 0) := by
        rw [Bool.eq_iff_iff]
        simp
        omega
      rw [hb] at a4
      rw [show ((q + 1 : Nat) : Int) = (q : Int) + 1 from by omega] at a1
      rw [show ((q + 2 : Nat) : Int) = (q : Int) + 1 + 1 from by omega] at a2
      rw [show ((q + 3 : Nat) : Int) = (q : Int) + 1 + 1 + 1 from by omega] at a3
      have hk2 : (j : Int) ≤ (cap : Int) := by omega
      clear hrow hq hb hl HR0
      go_wp2
      go_roundw
      case rel => exact ⟨j + 1, q + 5, by omega, by go_num, by go_num, by have := HQ.out; omega, HB.out⟩
      case measure => simp [intOf]; omega
    · have hjn : j = n := by omega
      have HQE : Hid ((q : Int) = ((k + 5 * n : Nat) : Int)) := by show _ = _; rw [hq, hjn]
      clear hq hjn HQ
      go_wp2
      go_ret
      exact ⟨ret_int HQE.out, HB.out⟩

set_option maxRecDepth 100000 in
set_option maxHeartbeats 800000 in
theorem markSpans_zero (k cap : Nat) (a : Option Addr) (w : World) :
    Calls Tryz.prog 13 #[.slice a 0 cap, .int .i64 k] w fun e w' => e = .returned (.int .i64 k) ∧ w = w' := by
  go_enter Tryz.func13, Tryz.ntmps13
  go_wp2
  go_loop [1, 5] (fun m i => m = .int .i64 k ∧ i = .int .i64 0) (fun _ _ => 0)
  case atStart => exact ⟨rfl, rfl⟩
  case round =>
    obtain ⟨rfl, rfl⟩ := hrel
    go_wp2
    go_ret
    exact ⟨rfl, rfl⟩

/-- A list of the call's own, marked: what it then holds, and that older blocks stay as they were. -/
theorem markSpans_own (k B : Nat) (v : Value) (xs : List (Nat × Nat × Nat × Nat × Bool)) (w : World) (hn : k + 5 * xs.length ≤ 1000000000000000) (ho : OwnSp w B v xs) :
    Calls Tryz.prog 13 #[v, .int .i64 k] w fun e w' => e = .returned (.int .i64 (k + 5 * xs.length : Nat)) ∧ RdSp w' v (marksS k xs.length) ∧ Below B w w' := by
  by_cases hz : 0 < xs.length
  · obtain ⟨g, cap, rfl, hc, hB, hg, hr⟩ := RowAt.of_own ho (by rw [flatC_len spC_len]; omega)
    refine (markSpans_any k g cap B xs w hn hc hr hg hB).mono ?_
    rintro e w' ⟨rfl, h1, h2⟩
    exact ⟨rfl, ⟨_, cap, by rw [marksS_len], by rw [marksS_len]; exact hc, fun _ => ⟨g, rfl, h1⟩⟩, h2⟩
  · obtain ⟨a, cap, rfl, hc, _⟩ := ho.rd
    have h0 : xs.length = 0 := by omega
    rw [h0]
    refine (markSpans_zero k cap a w).mono ?_
    rintro e w' ⟨rfl, rfl⟩
    exact ⟨rfl, ⟨a, cap, rfl, Nat.zero_le _, fun h => by simp [marksS] at h⟩, Below.refl _ _⟩

end Go.Proofs.YtgjhfmlncibpmaaGreatDoor

/- The laying of the library's sort.Search at this dump. No condition. -/
namespace Go.Proofs
open Go.Shelf
def Tryz.laysO16_ren : Go.Shelf.Ren := ⟨fun | 16 => 51 | n => n, fun | 3 => 3 | 4 => 4 | 35 => 84 | 38 => 103 | n => n, fun | n => n⟩
theorem Tryz.laysO16 : SlLaysO.n16 Tryz.prog Tryz.laysO16_ren := {
  mixed := by kernel_rfl
  f16 := Tryz.func51.trans (congrArg some (by kernel_rfl))
  t3 := Tryz.underlying3
  a3 := Tryz.isAgg3
  z3 := Tryz.sizeOf3
  v3 := Tryz.zeroValue3
  t4 := Tryz.underlying4
  a4 := Tryz.isAgg4
  z4 := Tryz.sizeOf4
  v4 := Tryz.zeroValue4
  t35 := Tryz.underlying84
  a35 := Tryz.isAgg84
  z35 := Tryz.sizeOf84
  v35 := Tryz.zeroValue84
  t38 := Tryz.underlying103
  a38 := Tryz.isAgg103
  z38 := Tryz.sizeOf103
  v38 := Tryz.zeroValue103 }
end Go.Proofs

/- Places found among spans by halves: there of the program. Conditions: at most 2^22 spans, places of at most 2^22 in them. -/
namespace Go.Proofs.YtgjhfmlncibpmaaGreatDoor
open Go.RowKit Go.Shelf Go.Sort

set_option maxRecDepth 100000 in
set_option maxHeartbeats 1600000 in
theorem thereTest_any (ba bx g n cap i : Nat) (a : Int) (u : Nat) (W : World) (hi : i < n) (ha : W.cell? ⟨ba, 0, none⟩ = some (.slice (some ⟨g, 0, none⟩) n cap)) (hx : W.cell? ⟨bx, 0, none⟩ = some (.int .i64 a)) (hc : W.cell? ⟨g, i * 5 + 3, none⟩ = some (.int .i64 u)) :
    Calls Tryz.prog 54 (#[.int .i64 i] ++ #[.pointer (some ⟨bx, 0, none⟩), .pointer (some ⟨ba, 0, none⟩)]) W fun e w' => e = .returned (.bool (decide (a < (u : Int)))) ∧ ∃ q, w' = W.drewN q := by
  have hiz : (i : Int) < (n : Int) := by omega
  go_enter Tryz.func54, Tryz.ntmps54
  go_wp2
  go_region
  all_goals go_wp2
  all_goals go_ret
  all_goals exact ⟨by first | rfl | simp, 1, rfl⟩

theorem search_there (ba bx cap : Nat) (ad : Option Addr) (l : List (List UInt8 × List UInt8)) (a : Int) (W : World) (hn : l.length ≤ 4194304)
    (ha : W.cell? ⟨ba, 0, none⟩ = some (.slice ad l.length cap)) (hx : W.cell? ⟨bx, 0, none⟩ = some (.int .i64 a)) (hr : 0 < l.length → ∃ g, ad = some ⟨g, 0, none⟩ ∧ RowAt W g (flatC spC (spansL l))) :
    Calls Tryz.prog 51 #[.int .i64 l.length, .func (.func 54) #[] #[.pointer (some ⟨bx, 0, none⟩), .pointer (some ⟨ba, 0, none⟩)]] W fun e w' => e = .returned (.int .i64 (kOut l a : Nat)) ∧ Below W.heap.size W w' := by
  have eg : ∀ args w, (callFunc 54 args).run Tryz.prog w = .ok (.enter 54 args) w := enters_of Tryz.func54 (by kernel_rfl) rfl
  have hba : ba < W.heap.size := World.block_lt_of_cell? W _ ha
  have hbx : bx < W.heap.size := World.block_lt_of_cell? W _ hx
  have hS := Any.sort_Search Tryz.laysO16 54 #[.pointer (some ⟨bx, 0, none⟩), .pointer (some ⟨ba, 0, none⟩)] l.length (pOut l a) W eg (by omega)
    (fun m os i hi => by
      obtain ⟨g, rfl, hc⟩ := hr (by omega)
      have hg : g < W.heap.size := hc.lt (by rw [flatC_len spC_len, spansL_len]; omega)
      exact (thereTest_any ba bx g l.length cap i a (outsL (l.take (i + 1))) _ hi (_root_.Go.cell_grown hba ha m os) (_root_.Go.cell_grown hbx hx m os) (_root_.Go.cell_grown hg ((hc.five i (by rw [spansL_len]; exact hi) (insL (l.take i)) (insL (l.take (i + 1))) (outsL (l.take i)) (outsL (l.take (i + 1))) (spAt l i).2.2.2.2 (by rw [spansL_at]; rfl)).1.2.2.2.1) m os)).mono
        fun _ _ ⟨he, q, hq⟩ => ⟨he, q, #[], by rw [hq, grow_empty]⟩)
    (pOut_mono l a l.length)
  refine hS.mono ?_
  rintro e w' ⟨rfl, q, os, rfl⟩
  exact ⟨rfl, below_grown_sl _ _ _ _ (Nat.le_refl _)⟩

theorem lastS_all (l : List (List UInt8 × List UInt8)) : (lastS (spansL l)).2.1 = insL l ∧ (lastS (spansL l)).2.2.2.1 = outsL l := by
  have := lastS_take l (k := l.length) (Nat.le_refl _)
  rwa [List.take_of_length_le (by rw [spansL_len]; omega), List.take_of_length_le (Nat.le_refl _)] at this

set_option maxRecDepth 100000 in
set_option maxHeartbeats 3200000 in
theorem there_any (v : Value) (l : List (List UInt8 × List UInt8)) (a : Int) (w : World) (ha : -9223372036854775808 ≤ a ∧ a ≤ 9223372036854775807) (hn : l.length ≤ 4194304) (hi : insL l ≤ 4194304) (ho : outsL l ≤ 4194304) (hr : RdSp w v (spansL l)) :
    Calls Tryz.prog 32 #[v, .int .i64 a] w fun e w' => e = .returned (.int .i64 (backI l a)) ∧ Below w.heap.size w w' := by
  have HR := Lib.hid hr
  obtain ⟨ad, cap, rfl, hcap, hrow0⟩ := hr
  have HS : Hid (∀ ba bx W, W.cell? ⟨ba, 0, none⟩ = some (.slice ad l.length cap) → W.cell? ⟨bx, 0, none⟩ = some (.int .i64 a) → (0 < l.length → ∃ g, ad = some ⟨g, 0, none⟩ ∧ RowAt W g (flatC spC (spansL l))) → Calls Tryz.prog 51 #[.int .i64 l.length, .func (.func 54) #[] #[.pointer (some ⟨bx, 0, none⟩), .pointer (some ⟨ba, 0, none⟩)]] W fun e w' => e = .returned (.int .i64 (kOut l a : Nat)) ∧ Below W.heap.size W w') := fun ba bx W h1 h2 h3 => search_there ba bx cap ad l a W hn h1 h2 h3
  have hke := kOut_le l a
  have HV : Hid (backI l a = if kOut l a < l.length ∧ (spAt l (kOut l a)).2.2.2.2 = true ∧ ((outsL (l.take (kOut l a)) : Nat) : Int) < a then ((insL (l.take (kOut l a)) : Nat) : Int) + a - ((outsL (l.take (kOut l a)) : Nat) : Int)
  else ((insL (l.take (kOut l a)) : Nat) : Int)) := by show _ = _; rfl
  obtain ⟨k, hk⟩ : ∃ k, k = kOut l a := ⟨_, rfl⟩
  obtain ⟨z, hz⟩ : ∃ z, z = backI l a := ⟨_, rfl⟩
  rw [← hk] at HS hke HV
  rw [← hz] at HV ⊢
  have hkP : k < l.length → a < ((outsL (l.take (k + 1)) : Nat) : Int) := fun h => by
    by_cases hh : pOut l a k = true
    · simpa [pOut] using hh
    · exfalso
      have h1 : k + 1 ≤ kOut l a := by
        unfold kOut
        have hall : ∀ i, i < k + 1 → (!pOut l a i) = true := fun i hi2 => by
          by_cases h3 : pOut l a i = true
          · exact absurd (pOut_mono l a l.length i k (by omega) h h3) hh
          · simpa using h3
        obtain ⟨d, hd⟩ : ∃ d, l.length = (k + 1) + d := ⟨l.length - (k + 1), by omega⟩
        rw [hd, List.range_add, List.countP_append, List.countP_eq_length.2 (fun x hx => hall x (List.mem_range.1 hx))]
        simp
      omega
  clear hrow0 hk hz
  rw [spansL_len] at hcap ⊢
  have HT : Hid (∀ W, RdSp W (.slice ad l.length cap) (spansL l) → Calls Tryz.prog 53 #[.slice ad l.length cap] W fun e w' => e = .returned (.agg #[.int .i64 (lastS (spansL l)).1, .int .i64 (insL l : Nat), .int .i64 (lastS (spansL l)).2.2.1, .int .i64 (lastS (spansL l)).2.2.2.1, .bool (lastS (spansL l)).2.2.2.2]) ∧ Below W.heap.size W w') := fun W h => by
    have := last_any (.slice ad l.length cap) (spansL l) W (by rw [spansL_len]; exact hn) h
    rwa [(lastS_all l).1] at this
  rw [spansL_len] at HR
  go_enter Tryz.func32, Tryz.ntmps32
  have C0 : Hid (∀ W0 : World, W0 = (w.alloc (.cells #[.slice ad l.length cap] 51)).alloc (.cells #[.int .i64 a] 3) → W0.cell? ⟨w.heap.size, 0, none⟩ = some (.slice ad l.length cap) ∧ W0.cell? ⟨w.heap.size + 1, 0, none⟩ = some (.int .i64 a) ∧ Below w.heap.size w W0 ∧ W0.heap.size = w.heap.size + 2) := fun W0 h => by
    subst h
    refine ⟨?_, ?_, ((Below.refl _ _).alloc (Nat.le_refl _) _).alloc (by simp) _, by simp⟩
    · rw [cell_alloc_lt (by simp)]; exact (cell_new w _ _ 0).1
    · simp
  go_wp2_with fail
  (go_at_call 51; obtain ⟨h0, h1, B0, z0⟩ := C0.out _ rfl; refine (HS.out w.heap.size (w.heap.size + 1) _ h0 h1 (fun h => by obtain ⟨ad', cap', e, _, hr⟩ := HR.out.below B0; simp at e; rw [spansL_len] at hr; obtain ⟨g, e2, h3⟩ := hr h; exact ⟨g, e.1.trans e2, h3⟩)).mono ?_; rintro e w1 ⟨rfl, b1⟩; have t0 : w1.cell? ⟨w.heap.size, 0, none⟩ = some (.slice ad l.length cap) := (by rw [b1.cell (by rw [z0]; simp <;> omega)]; exact h0); have p0 : w1.cell? ⟨w.heap.size + 1, 0, none⟩ = some (.int .i64 a) := (by rw [b1.cell (by rw [z0]; simp <;> omega)]; exact h1); have B1 : Hid (Below w.heap.size w w1) := B0.trans (b1.mono (by omega)); have z1 : w.heap.size + 2 ≤ w1.heap.size := (by rw [← z0]; exact b1.size); clear h0 h1 B0 z0 b1 HS C0)
  have HR1 := Lib.hid (HR.out.below B1.out)
  by_cases hkl : k = l.length
  · subst hkl
    have HZ : Hid (z = ((insL l : Nat) : Int)) := by
      show _ = _
      rw [HV.out, if_neg (fun h => by omega), List.take_of_length_le (Nat.le_refl _)]
    clear hkP HV
    have hfd : ∀ (f t o u : Int) (p : Bool) (w : World), (Instr.field 48 (.agg #[.int .i64 f, .int .i64 t, .int .i64 o, .int .i64 u, .bool p]) 1).run Tryz.prog w = .ok (.int .i64 t) w := fun _ _ _ _ _ _ => by kernel_rfl
    go_wp2_with fail
    (go_at_call 53; refine (HT.out _ HR1.out).mono ?_; rintro e w2 ⟨rfl, b2⟩)
    go_wp2_with fail
    go_ret
    exact ⟨ret_int HZ.out.symm, B1.out.trans (b2.mono (by omega))⟩
  · have hlt : k < l.length := by omega
    have hkb : ((k : Int) == (l.length : Int)) = false := by rw [beq_eq_false_iff_ne]; omega
    obtain ⟨ad', cap', e, _, hr⟩ := HR1.out
    simp [spansL_len] at e
    obtain ⟨rfl, rfl⟩ := e
    obtain ⟨g, e2, hrow⟩ := hr (by rw [spansL_len]; omega)
    subst e2
    have hl : k < (spansL l).length := by rw [spansL_len]; exact hlt
    obtain ⟨⟨f, t, o, u, p⟩, hp⟩ : ∃ p, p = (spansL l)[k] := ⟨_, rfl⟩
    obtain ⟨⟨a0, a1, a2, a3, a4⟩, _⟩ := hrow.five k hl f t o u p hp
    have hgw : g < w1.heap.size := World.block_lt_of_cell? w1 _ a0
    rw [spansL_at] at hp
    have hi1 := insL_le l k
    have hi2 := insL_le l (k + 1)
    have ho1 := outsL_le l k
    have ho2 := outsL_le l (k + 1)
    have e1 : f = insL (l.take k) := by have := congrArg (·.1) hp; exact this
    have e3 : o = outsL (l.take k) := by have := congrArg (·.2.2.1) hp; exact this
    have e5 : p = (spAt l k).2.2.2.2 := by have := congrArg (·.2.2.2.2) hp; exact this
    have hau := hkP hlt
    have ha2 : a < 4194304 := by omega
    have hfn : f ≤ 4194304 := by omega
    have hon : o ≤ 4194304 := by omega
    rw [← e1, ← e3, ← e5] at HV
    have hk2 : (k : Int) ≤ (cap : Int) := by omega
    have hk3 : (k : Int) < (l.length : Int) := by omega
    have K0 : ∀ x, (w1.alloc x).cell? ⟨g, k * 5, none⟩ = some (.int .i64 f) := fun x => by rw [cell_alloc_lt hgw]; exact a0
    have K1 : ∀ x, (w1.alloc x).cell? ⟨g, k * 5 + 1, none⟩ = some (.int .i64 t) := fun x => by rw [cell_alloc_lt hgw]; exact a1
    have K2 : ∀ x, (w1.alloc x).cell? ⟨g, k * 5 + 2, none⟩ = some (.int .i64 o) := fun x => by rw [cell_alloc_lt hgw]; exact a2
    have K3 : ∀ x, (w1.alloc x).cell? ⟨g, k * 5 + 3, none⟩ = some (.int .i64 u) := fun x => by rw [cell_alloc_lt hgw]; exact a3
    have K4 : ∀ x, (w1.alloc x).cell? ⟨g, k * 5 + 4, none⟩ = some (.bool p) := fun x => by rw [cell_alloc_lt hgw]; exact a4
    have P0 : ∀ x, (w1.alloc x).cell? ⟨w.heap.size + 1, 0, none⟩ = some (.int .i64 a) := fun x => by rw [cell_alloc_lt (by omega)]; exact p0
    have BZ : Hid (∀ x, Below w.heap.size w (w1.alloc x)) := fun x => B1.out.alloc (by omega) x
    clear hrow hr hp hl hi1 hi2 ho1 ho2 e1 e3 e5 hkP hau HT HR1 HR
    by_cases hpl : p = true
    · subst hpl
      by_cases hgo : a ≤ (o : Int)
      · have HZ : Hid (z = (f : Int)) := by show _ = _; rw [HV.out, if_neg (fun h => by have := h.2.2; omega)]
        clear HV
        go_wp2_with fail
        go_ret
        exact ⟨ret_int HZ.out.symm, BZ.out _⟩
      · have HZ : Hid (z = (f : Int) + a - (o : Int)) := by show _ = _; rw [HV.out, if_pos ⟨hlt, rfl, by omega⟩]
        clear HV
        go_wp2_with fail
        go_ret
        exact ⟨ret_int HZ.out.symm, BZ.out _⟩
    · have hpf : p = false := by simpa using hpl
      subst hpf
      have HZ : Hid (z = (f : Int)) := by show _ = _; rw [HV.out, if_neg (fun h => by simp at h)]
      clear HV
      go_wp2_with fail
      go_ret
      exact ⟨ret_int HZ.out.symm, BZ.out _⟩

end Go.Proofs.YtgjhfmlncibpmaaGreatDoor

/- Places found among spans by halves: out of the program. Conditions: at most 2^22 spans, places of at most 2^22 in them. -/
namespace Go.Proofs.YtgjhfmlncibpmaaGreatDoor
open Go.RowKit Go.Shelf Go.Sort

set_option maxRecDepth 100000 in
set_option maxHeartbeats 1600000 in
theorem outTest_any (ba bx g n cap i : Nat) (a : Int) (u : Nat) (W : World) (hi : i < n) (ha : W.cell? ⟨ba, 0, none⟩ = some (.slice (some ⟨g, 0, none⟩) n cap)) (hx : W.cell? ⟨bx, 0, none⟩ = some (.int .i64 a)) (hc : W.cell? ⟨g, i * 5 + 1, none⟩ = some (.int .i64 u)) :
    Calls Tryz.prog 52 (#[.int .i64 i] ++ #[.pointer (some ⟨bx, 0, none⟩), .pointer (some ⟨ba, 0, none⟩)]) W fun e w' => e = .returned (.bool (decide (a < (u : Int)))) ∧ ∃ q, w' = W.drewN q := by
  have hiz : (i : Int) < (n : Int) := by omega
  go_enter Tryz.func52, Tryz.ntmps52
  go_wp2
  go_region
  all_goals go_wp2
  all_goals go_ret
  all_goals exact ⟨by first | rfl | simp, 1, rfl⟩

theorem search_out (ba bx cap : Nat) (ad : Option Addr) (l : List (List UInt8 × List UInt8)) (a : Int) (W : World) (hn : l.length ≤ 4194304)
    (ha : W.cell? ⟨ba, 0, none⟩ = some (.slice ad l.length cap)) (hx : W.cell? ⟨bx, 0, none⟩ = some (.int .i64 a)) (hr : 0 < l.length → ∃ g, ad = some ⟨g, 0, none⟩ ∧ RowAt W g (flatC spC (spansL l))) :
    Calls Tryz.prog 51 #[.int .i64 l.length, .func (.func 52) #[] #[.pointer (some ⟨bx, 0, none⟩), .pointer (some ⟨ba, 0, none⟩)]] W fun e w' => e = .returned (.int .i64 (kIn l a : Nat)) ∧ Below W.heap.size W w' := by
  have eg : ∀ args w, (callFunc 52 args).run Tryz.prog w = .ok (.enter 52 args) w := enters_of Tryz.func52 (by kernel_rfl) rfl
  have hba : ba < W.heap.size := World.block_lt_of_cell? W _ ha
  have hbx : bx < W.heap.size := World.block_lt_of_cell? W _ hx
  have hS := Any.sort_Search Tryz.laysO16 52 #[.pointer (some ⟨bx, 0, none⟩), .pointer (some ⟨ba, 0, none⟩)] l.length (pIn l a) W eg (by omega)
    (fun m os i hi => by
      obtain ⟨g, rfl, hc⟩ := hr (by omega)
      have hg : g < W.heap.size := hc.lt (by rw [flatC_len spC_len, spansL_len]; omega)
      exact (outTest_any ba bx g l.length cap i a (insL (l.take (i + 1))) _ hi (_root_.Go.cell_grown hba ha m os) (_root_.Go.cell_grown hbx hx m os) (_root_.Go.cell_grown hg ((hc.five i (by rw [spansL_len]; exact hi) (insL (l.take i)) (insL (l.take (i + 1))) (outsL (l.take i)) (outsL (l.take (i + 1))) (spAt l i).2.2.2.2 (by rw [spansL_at]; rfl)).1.2.1) m os)).mono
        fun _ _ ⟨he, q, hq⟩ => ⟨he, q, #[], by rw [hq, grow_empty]⟩)
    (pIn_mono l a l.length)
  refine hS.mono ?_
  rintro e w' ⟨rfl, q, os, rfl⟩
  exact ⟨rfl, below_grown_sl _ _ _ _ (Nat.le_refl _)⟩

set_option maxRecDepth 100000 in
set_option maxHeartbeats 3200000 in
theorem out_any (v : Value) (l : List (List UInt8 × List UInt8)) (a : Int) (w : World) (hn : l.length ≤ 4194304) (hr : RdSp w v (spansL l)) :
    Calls Tryz.prog 30 #[v, .int .i64 a] w fun e w' => e = .returned (.int .i64 (outI l a)) ∧ Below w.heap.size w w' := by
  have HR := Lib.hid hr
  obtain ⟨ad, cap, rfl, hcap, hrow0⟩ := hr
  have HS : Hid (∀ ba bx W, W.cell? ⟨ba, 0, none⟩ = some (.slice ad l.length cap) → W.cell? ⟨bx, 0, none⟩ = some (.int .i64 a) → (0 < l.length → ∃ g, ad = some ⟨g, 0, none⟩ ∧ RowAt W g (flatC spC (spansL l))) → Calls Tryz.prog 51 #[.int .i64 l.length, .func (.func 52) #[] #[.pointer (some ⟨bx, 0, none⟩), .pointer (some ⟨ba, 0, none⟩)]] W fun e w' => e = .returned (.int .i64 (kIn l a : Nat)) ∧ Below W.heap.size W w') := fun ba bx W h1 h2 h3 => search_out ba bx cap ad l a W hn h1 h2 h3
  have hke := kIn_le l a
  have HV : Hid (outI l a = ((outsL (l.take (kIn l a)) : Nat) : Int)) := by show _ = _; rfl
  obtain ⟨k, hk⟩ : ∃ k, k = kIn l a := ⟨_, rfl⟩
  obtain ⟨z, hz⟩ : ∃ z, z = outI l a := ⟨_, rfl⟩
  rw [← hk] at HS hke HV
  rw [← hz] at HV ⊢
  clear hrow0 hk hz
  rw [spansL_len] at hcap ⊢
  have HT : Hid (∀ W, RdSp W (.slice ad l.length cap) (spansL l) → Calls Tryz.prog 53 #[.slice ad l.length cap] W fun e w' => e = .returned (.agg #[.int .i64 (lastS (spansL l)).1, .int .i64 (lastS (spansL l)).2.1, .int .i64 (lastS (spansL l)).2.2.1, .int .i64 (outsL l : Nat), .bool (lastS (spansL l)).2.2.2.2]) ∧ Below W.heap.size W w') := fun W h => by
    have := last_any (.slice ad l.length cap) (spansL l) W (by rw [spansL_len]; exact hn) h
    rwa [(lastS_all l).2] at this
  rw [spansL_len] at HR
  go_enter Tryz.func30, Tryz.ntmps30
  have C0 : Hid (∀ W0 : World, W0 = (w.alloc (.cells #[.slice ad l.length cap] 51)).alloc (.cells #[.int .i64 a] 3) → W0.cell? ⟨w.heap.size, 0, none⟩ = some (.slice ad l.length cap) ∧ W0.cell? ⟨w.heap.size + 1, 0, none⟩ = some (.int .i64 a) ∧ Below w.heap.size w W0 ∧ W0.heap.size = w.heap.size + 2) := fun W0 h => by
    subst h
    refine ⟨?_, ?_, ((Below.refl _ _).alloc (Nat.le_refl _) _).alloc (by simp) _, by simp⟩
    · rw [cell_alloc_lt (by simp)]; exact (cell_new w _ _ 0).1
    · simp
  go_wp2_with fail
  (go_at_call 51; obtain ⟨h0, h1, B0, z0⟩ := C0.out _ rfl; refine (HS.out w.heap.size (w.heap.size + 1) _ h0 h1 (fun h => by obtain ⟨ad', cap', e, _, hr⟩ := HR.out.below B0; simp at e; rw [spansL_len] at hr; obtain ⟨g, e2, h3⟩ := hr h; exact ⟨g, e.1.trans e2, h3⟩)).mono ?_; rintro e w1 ⟨rfl, b1⟩; have t0 : w1.cell? ⟨w.heap.size, 0, none⟩ = some (.slice ad l.length cap) := (by rw [b1.cell (by rw [z0]; simp <;> omega)]; exact h0); have p0 : w1.cell? ⟨w.heap.size + 1, 0, none⟩ = some (.int .i64 a) := (by rw [b1.cell (by rw [z0]; simp <;> omega)]; exact h1); have B1 : Hid (Below w.heap.size w w1) := B0.trans (b1.mono (by omega)); have z1 : w.heap.size + 2 ≤ w1.heap.size := (by rw [← z0]; exact b1.size); clear h0 h1 B0 z0 b1 HS C0)
  have HR1 := Lib.hid (HR.out.below B1.out)
  by_cases hkl : k = l.length
  · subst hkl
    have HZ : Hid (z = ((outsL l : Nat) : Int)) := by
      show _ = _
      rw [HV.out, List.take_of_length_le (Nat.le_refl _)]
    clear HV
    have hfd : ∀ (f t o u : Int) (p : Bool) (w : World), (Instr.field 48 (.agg #[.int .i64 f, .int .i64 t, .int .i64 o, .int .i64 u, .bool p]) 3).run Tryz.prog w = .ok (.int .i64 u) w := fun _ _ _ _ _ _ => by kernel_rfl
    go_wp2_with fail
    (go_at_call 53; refine (HT.out _ HR1.out).mono ?_; rintro e w2 ⟨rfl, b2⟩)
    go_wp2_with fail
    go_ret
    exact ⟨ret_int HZ.out.symm, B1.out.trans (b2.mono (by omega))⟩
  · have hlt : k < l.length := by omega
    have hkb : ((k : Int) == (l.length : Int)) = false := by rw [beq_eq_false_iff_ne]; omega
    obtain ⟨ad', cap', e, _, hr⟩ := HR1.out
    simp [spansL_len] at e
    obtain ⟨rfl, rfl⟩ := e
    obtain ⟨g, e2, hrow⟩ := hr (by rw [spansL_len]; omega)
    subst e2
    have hl : k < (spansL l).length := by rw [spansL_len]; exact hlt
    obtain ⟨⟨f, t, o, u, p⟩, hp⟩ : ∃ p, p = (spansL l)[k] := ⟨_, rfl⟩
    obtain ⟨⟨_, _, a2, _, _⟩, _⟩ := hrow.five k hl f t o u p hp
    rw [spansL_at] at hp
    have e3 : o = outsL (l.take k) := by have := congrArg (·.2.2.1) hp; exact this
    rw [← e3] at HV
    have hk2 : (k : Int) ≤ (cap : Int) := by omega
    have hk3 : (k : Int) < (l.length : Int) := by omega
    clear hrow hr hp hl e3 HT HR1 HR
    go_wp2_with fail
    go_ret
    exact ⟨ret_int HV.out.symm, B1.out⟩

end Go.Proofs.YtgjhfmlncibpmaaGreatDoor

/- Places found among spans by the specification: l4Back. Conditions: at most 2^22 spans, places of at most 2^22 in them. -/
namespace Go.Proofs.YtgjhfmlncibpmaaGreatDoor
open Go.RowKit

theorem pOut_next {l : List (List UInt8 × List UInt8)} {k : Nat} (h : k < l.length) (a : Int) : pOut l a k = decide (a < ((outsL (l.take k) + l[k].2.length + 1 : Nat) : Int)) := by
  unfold pOut
  rw [outsL_succ h]; rfl
theorem pIn_next {l : List (List UInt8 × List UInt8)} {k : Nat} (h : k < l.length) (a : Int) : pIn l a k = decide (a < ((insL (l.take k) + l[k].1.length + 1 : Nat) : Int)) := by
  unfold pIn
  rw [insL_succ h]; rfl

set_option maxRecDepth 100000 in
set_option maxHeartbeats 3200000 in
theorem specBack_any (v : Value) (l : List (List UInt8 × List UInt8)) (a : Int) (w : World) (ha : -9223372036854775808 ≤ a ∧ a ≤ 9223372036854775807) (hn : l.length ≤ 4194304) (hi : insL l ≤ 4194304) (ho : outsL l ≤ 4194304) (hr : RdSp w v (spansL l)) :
    Calls Tryz.prog 31 #[v, .int .i64 a] w fun e w' => e = .returned (.int .i64 (backI l a)) ∧ Below w.heap.size w w' := by
  obtain ⟨ad, cap, rfl, hcap, hrow0⟩ := hr
  have HR0 := Lib.hid hrow0
  clear hrow0
  rw [spansL_len] at hcap HR0 ⊢
  go_enter Tryz.func31, Tryz.ntmps31
  go_wp2
  go_loopw [5, 6] (fun nn i wr => ∃ (k b : Nat), k ≤ l.length ∧ i = .int .i64 k ∧ nn = .int .i64 b ∧ b = insL (l.take k) ∧ (∀ i, i < k → pOut l a i = false) ∧ Below w.heap.size w wr) (fun _ i _ => l.length - (intOf i).toNat)
  case atStart => exact ⟨0, 0, Nat.zero_le _, rfl, rfl, rfl, fun i h => by omega, Below.refl _ _⟩
  case round =>
    obtain ⟨k, b, hk, rfl, rfl, hbb, hall, hb⟩ := hrel
    have HA := Lib.hid hall
    have HB := Lib.hid hb
    have HBB := Lib.hid hbb
    have hsz := hb.size
    have hbn : b ≤ 4194304 := by have := insL_le l k; omega
    by_cases hlt : k < l.length
    · obtain ⟨g, rfl, hrow⟩ := HR0.out (by omega)
      have hl : k < (spansL l).length := by rw [spansL_len]; exact hlt
      have hgl : g < w.heap.size := hrow.lt (by rw [flatC_len spC_len, spansL_len]; omega)
      obtain ⟨⟨f, t, o, u, p⟩, hp⟩ : ∃ p, p = (spansL l)[k] := ⟨_, rfl⟩
      obtain ⟨⟨a0, a1, a2, a3, a4⟩, _⟩ := (hrow.below hb hgl).five k hl f t o u p hp
      have hgw : g < wr.heap.size := by omega
      rw [spansL_at] at hp
      have hi1 := insL_le l k
      have hi2 := insL_le l (k + 1)
      have ho1 := outsL_le l k
      have ho2 := outsL_le l (k + 1)
      have e1 : f = insL (l.take k) := by have := congrArg (·.1) hp; exact this
      have e2 : t = insL (l.take (k + 1)) := by have := congrArg (·.2.1) hp; exact this
      have e3 : o = outsL (l.take k) := by have := congrArg (·.2.2.1) hp; exact this
      have e4 : u = outsL (l.take (k + 1)) := by have := congrArg (·.2.2.2.1) hp; exact this
      have e5 : p = (spAt l k).2.2.2.2 := by have := congrArg (·.2.2.2.2) hp; exact this
      have hfn : f ≤ 4194304 := by omega
      have hon : o ≤ 4194304 := by omega
      have hun : u ≤ 4194304 := by omega
      have hP : pOut l a k = decide (a < (u : Int)) := by unfold pOut; rw [← e4]
      have hk2 : (k : Int) ≤ (cap : Int) := by omega
      have K0 : ∀ x, (wr.alloc x).cell? ⟨g, k * 5, none⟩ = some (.int .i64 f) := fun x => by rw [cell_alloc_lt hgw]; exact a0
      have K1 : ∀ x, (wr.alloc x).cell? ⟨g, k * 5 + 1, none⟩ = some (.int .i64 t) := fun x => by rw [cell_alloc_lt hgw]; exact a1
      have K2 : ∀ x, (wr.alloc x).cell? ⟨g, k * 5 + 2, none⟩ = some (.int .i64 o) := fun x => by rw [cell_alloc_lt hgw]; exact a2
      have K3 : ∀ x, (wr.alloc x).cell? ⟨g, k * 5 + 3, none⟩ = some (.int .i64 u) := fun x => by rw [cell_alloc_lt hgw]; exact a3
      have K4 : ∀ x, (wr.alloc x).cell? ⟨g, k * 5 + 4, none⟩ = some (.bool p) := fun x => by rw [cell_alloc_lt hgw]; exact a4
      have HE2 := Lib.hid e2
      by_cases hge : (u : Int) ≤ a
      · have HA2 : Hid (∀ i, i < k + 1 → pOut l a i = false) := by
          intro i hi
          rcases Nat.lt_or_ge i k with h | h
          · exact HA.out i h
          · rw [show i = k by omega, hP]; simp; omega
        clear hrow hp hall hb hbb e1 e2 e3 e4 e5 hP hi1 hi2 ho1 ho2 HR0 hl
        go_wp2
        go_roundw
        case rel => exact ⟨k + 1, t, by omega, by go_num, rfl, HE2.out, HA2.out, HB.out.alloc hsz _⟩
        case measure => simp [intOf]; omega
      · have hkO : kOut l a = k := kOut_at hlt hall (by rw [hP]; simp; omega)
        by_cases hpl : p = true
        · subst hpl
          by_cases hgo : (o : Int) < a
          · have ha2 : a < 4194304 := by omega
            have HV : Hid (backI l a = (f : Int) + a - (o : Int)) := by
              show _ = _
              unfold backI
              rw [hkO, if_pos ⟨hlt, e5.symm, by rw [← e3]; exact hgo⟩, ← e1, ← e3]
            clear hrow hp hall hb hbb e1 e2 e3 e4 e5 hP hi1 hi2 ho1 ho2 HR0 hl hkO
            go_wp2
            go_ret
            exact ⟨ret_int HV.out.symm, HB.out.alloc hsz _⟩
          · have HV : Hid (backI l a = (f : Int)) := by
              show _ = _
              unfold backI
              rw [hkO, if_neg (fun h => hgo (by rw [e3]; exact h.2.2)), ← e1]
            clear hrow hp hall hb hbb e1 e2 e3 e4 e5 hP hi1 hi2 ho1 ho2 HR0 hl hkO
            go_wp2
            go_ret
            exact ⟨ret_int HV.out.symm, HB.out.alloc hsz _⟩
        · have hpf : p = false := by simpa using hpl
          subst hpf
          have HV : Hid (backI l a = (f : Int)) := by
            show _ = _
            unfold backI
            rw [hkO, if_neg (fun h => by rw [← e5] at h; simp at h), ← e1]
          clear hrow hp hall hb hbb e1 e2 e3 e4 e5 hP hi1 hi2 ho1 ho2 HR0 hl hkO
          go_wp2
          go_ret
          exact ⟨ret_int HV.out.symm, HB.out.alloc hsz _⟩
    · have hke : k = l.length := by omega
      have HV : Hid (backI l a = (b : Int)) := by
        show _ = _
        have hk0 : kOut l a = l.length := kOut_all (by rw [← hke]; exact hall)
        unfold backI
        rw [hk0, if_neg (fun h => by omega), hbb, hke]
      clear hall hbb hke HR0
      go_wp2
      go_ret
      exact ⟨ret_int HV.out.symm, HB.out⟩

end Go.Proofs.YtgjhfmlncibpmaaGreatDoor

/- Places found among spans by the specification: l4Out. Conditions: at most 2^22 spans, places of at most 2^22 in them. -/
namespace Go.Proofs.YtgjhfmlncibpmaaGreatDoor
open Go.RowKit

set_option maxRecDepth 100000 in
set_option maxHeartbeats 3200000 in
theorem specOut_any (v : Value) (l : List (List UInt8 × List UInt8)) (a : Int) (w : World) (hn : l.length ≤ 4194304) (hr : RdSp w v (spansL l)) :
    Calls Tryz.prog 29 #[v, .int .i64 a] w fun e w' => e = .returned (.int .i64 (outI l a)) ∧ w = w' := by
  obtain ⟨ad, cap, rfl, hcap, hrow0⟩ := hr
  have HR0 := Lib.hid hrow0
  clear hrow0
  rw [spansL_len] at hcap HR0 ⊢
  go_enter Tryz.func29, Tryz.ntmps29
  go_wp2
  go_loop [5, 6] (fun nn i => ∃ (k b : Nat), k ≤ l.length ∧ i = .int .i64 k ∧ nn = .int .i64 b ∧ b = outsL (l.take k) ∧ (∀ i, i < k → pIn l a i = false)) (fun _ i => l.length - (intOf i).toNat)
  case atStart => exact ⟨0, 0, Nat.zero_le _, rfl, rfl, rfl, fun i h => by omega⟩
  case round =>
    obtain ⟨k, b, hk, rfl, rfl, hbb, hall⟩ := hrel
    have HA := Lib.hid hall
    have HBB := Lib.hid hbb
    by_cases hlt : k < l.length
    · obtain ⟨g, rfl, hrow⟩ := HR0.out (by omega)
      have hl : k < (spansL l).length := by rw [spansL_len]; exact hlt
      obtain ⟨⟨f, t, o, u, p⟩, hp⟩ : ∃ p, p = (spansL l)[k] := ⟨_, rfl⟩
      obtain ⟨⟨_, a1, a2, a3, _⟩, _⟩ := hrow.five k hl f t o u p hp
      rw [spansL_at] at hp
      have e2 : t = insL (l.take (k + 1)) := by have := congrArg (·.2.1) hp; exact this
      have e3 : o = outsL (l.take k) := by have := congrArg (·.2.2.1) hp; exact this
      have e4 : u = outsL (l.take (k + 1)) := by have := congrArg (·.2.2.2.1) hp; exact this
      have hP : pIn l a k = decide (a < (t : Int)) := by unfold pIn; rw [← e2]
      have hk2 : (k : Int) ≤ (cap : Int) := by omega
      have HE4 := Lib.hid e4
      by_cases hge : a < (t : Int)
      · have hkO : kIn l a = k := kIn_at hlt hall (by rw [hP]; simp; omega)
        have HV : Hid (outI l a = (o : Int)) := by
          show _ = _
          unfold outI
          rw [hkO, ← e3]
        clear hrow hp hall hbb e2 e3 e4 hP HR0 hl hkO
        go_wp2
        go_ret
        exact ⟨ret_int HV.out.symm, rfl⟩
      · have HA2 : Hid (∀ i, i < k + 1 → pIn l a i = false) := by
          intro i hi
          rcases Nat.lt_or_ge i k with h | h
          · exact HA.out i h
          · rw [show i = k by omega, hP]; simp; omega
        clear hrow hp hall hbb e2 e3 e4 hP HR0 hl
        go_wp2
        go_round
        case rel => exact ⟨k + 1, u, by omega, by go_num, rfl, HE4.out, HA2.out⟩
        case measure => simp [intOf]; omega
    · have hke : k = l.length := by omega
      have HV : Hid (outI l a = (b : Int)) := by
        show _ = _
        have hk0 : kIn l a = l.length := kIn_all (by rw [← hke]; exact hall)
        unfold outI
        rw [hk0, hbb, hke]
      clear hall hbb hke HR0
      go_wp2
      go_ret
      exact ⟨ret_int HV.out.symm, rfl⟩

end Go.Proofs.YtgjhfmlncibpmaaGreatDoor

/- PosOut and PosBack of the specification, and of the program. Conditions: at most 2^22 ends; the text has at most 2^21 bytes. -/
namespace Go.Proofs.YtgjhfmlncibpmaaGreatDoor
open Go.RowKit Go.Sort

set_option maxRecDepth 100000 in
set_option maxHeartbeats 1600000 in
theorem implPosOut_any (v : Value) (es : List (Int × Int)) (s : ByteArray) (a : Int) (w : World) (hn : es.length ≤ 4194304) (hs : s.size ≤ 2097152) (hwf : wfE es) (_ : -9223372036854775808 ≤ a ∧ a ≤ 9223372036854775807) (ht : TabAt w v es) (hv : VarsOk w) :
    Calls Tryz.prog 16 #[.agg #[v], .string s, .int .i64 a] w fun e w' => e = .returned (.int .i64 (outI (posL es s.data.toList) a)) ∧ Below w.heap.size w w' := by
  have h1 := insL_ge (pairsL s.data.toList (strA es s.data.toList).2)
  have h2 := pairsL_ins s.data.toList (strA es s.data.toList).2
  have h3 := pairsL_outs s.data.toList (strA es s.data.toList).2
  have h4 := strA_len es s.data.toList
  rw [len_list] at h2
  have HT := Lib.hid ht
  obtain ⟨ad, cap, rfl, _, _⟩ := ht
  have HP : Hid (∀ w, TabAt w (.slice ad es.length cap) es → VarsOk w → Calls Tryz.prog 9 #[.agg #[.slice ad es.length cap], .string s] w fun e w' => ∃ v, e = .returned v ∧ OwnSp w' w.heap.size v (spansL (posL es s.data.toList)) ∧ Below w.heap.size w w') := fun w h1 h2 => implSpans_any _ es s w hn hs hwf h1 h2
  have HV : Hid (∀ w', Below w.heap.size w w' → VarsOk w') := fun w' h => hv.below h
  have HX : Hid (∀ v w, RdSp w v (spansL (posL es s.data.toList)) → Calls Tryz.prog 30 #[v, .int .i64 a] w fun e w' => e = .returned (.int .i64 (outI (posL es s.data.toList) a)) ∧ Below w.heap.size w w') := fun v w h => by
    unfold posL at h ⊢
    exact out_any v _ a w (by omega) h
  obtain ⟨z, hz⟩ : ∃ z, z = outI (posL es s.data.toList) a := ⟨_, rfl⟩
  obtain ⟨sp, hsp⟩ : ∃ sp, sp = spansL (posL es s.data.toList) := ⟨_, rfl⟩
  rw [← hz] at HX ⊢
  rw [← hsp] at HX HP
  clear hz hsp h1 h2 h3 h4 hwf hv
  go_enter Tryz.func16, Tryz.ntmps16
  go_wp2_with fail
  (go_at_call 9; refine (HP.out _ (HT.out.below ((Below.refl _ _).alloc (Nat.le_refl _) _)) (HV.out _ ((Below.refl _ _).alloc (Nat.le_refl _) _))).mono ?_; rintro e w1 ⟨v1, rfl, o1, b1⟩; have R1 := Lib.hid o1.rd; have B1 : Hid (Below w.heap.size w w1) := ((Below.refl _ _).alloc (Nat.le_refl _) _).trans (b1.mono (by simp)); have z1 : w.heap.size + 1 ≤ w1.heap.size := (by have := b1.size; simpa using this); clear o1 b1)
  go_wp2_with fail
  (go_at_call 30; refine (HX.out v1 _ R1.out).mono ?_; rintro e w2 ⟨rfl, b2⟩)
  go_wp2_with fail
  go_ret
  exact ⟨rfl, B1.out.trans (b2.mono (by omega))⟩

set_option maxRecDepth 100000 in
set_option maxHeartbeats 1600000 in
theorem specPosOut_any (B : Nat) (ad : Addr) (cap : Nat) (es : List (Int × Int)) (s : ByteArray) (a : Int) (w : World) (hn : es.length ≤ 4194304) (hs : s.size ≤ 2097152) (_ : -9223372036854775808 ≤ a ∧ a ≤ 9223372036854775807) (hB : B ≤ w.heap.size) (ho : OwnTab w B (.slice (some ad) es.length cap) es) :
    Calls Tryz.prog 15 #[.agg #[.slice (some ad) es.length cap], .string s, .int .i64 a] w fun e w' => e = .returned (.int .i64 (outI (posL es s.data.toList) a)) ∧ Below w.heap.size w w' := by
  have h1 := insL_ge (pairsL s.data.toList (strA es s.data.toList).2)
  have h2 := pairsL_ins s.data.toList (strA es s.data.toList).2
  have h3 := pairsL_outs s.data.toList (strA es s.data.toList).2
  have h4 := strA_len es s.data.toList
  rw [len_list] at h2
  have HT := Lib.hid ho
  have HP : Hid (∀ w, B ≤ w.heap.size → OwnTab w B (.slice (some ad) es.length cap) es → Calls Tryz.prog 7 #[.agg #[.slice (some ad) es.length cap], .string s] w fun e w' => ∃ v, e = .returned v ∧ OwnSp w' w.heap.size v (spansL (posL es s.data.toList)) ∧ Below w.heap.size w w') := fun w h1 h2 => specSpans_any B ad cap es s w hn hs h1 h2
  have HX : Hid (∀ v w, RdSp w v (spansL (posL es s.data.toList)) → Calls Tryz.prog 29 #[v, .int .i64 a] w fun e w' => e = .returned (.int .i64 (outI (posL es s.data.toList) a)) ∧ Below w.heap.size w w') := fun v w h => by
    unfold posL at h ⊢
    exact (specOut_any v _ a w (by omega) h).mono (fun e w' hh => ⟨hh.1, hh.2 ▸ Below.refl _ _⟩)
  obtain ⟨z, hz⟩ : ∃ z, z = outI (posL es s.data.toList) a := ⟨_, rfl⟩
  obtain ⟨sp, hsp⟩ : ∃ sp, sp = spansL (posL es s.data.toList) := ⟨_, rfl⟩
  rw [← hz] at HX ⊢
  rw [← hsp] at HX HP
  clear hz hsp h1 h2 h3 h4 ho
  go_enter Tryz.func15, Tryz.ntmps15
  go_wp2_with fail
  (go_at_call 7; refine (HP.out _ (by simp; omega) (HT.out.below ((Below.refl _ _).alloc (Nat.le_refl _) _))).mono ?_; rintro e w1 ⟨v1, rfl, o1, b1⟩; have R1 := Lib.hid o1.rd; have B1 : Hid (Below w.heap.size w w1) := ((Below.refl _ _).alloc (Nat.le_refl _) _).trans (b1.mono (by simp)); have z1 : w.heap.size + 1 ≤ w1.heap.size := (by have := b1.size; simpa using this); clear o1 b1)
  go_wp2_with fail
  (go_at_call 29; refine (HX.out v1 _ R1.out).mono ?_; rintro e w2 ⟨rfl, b2⟩)
  go_wp2_with fail
  go_ret
  exact ⟨rfl, B1.out.trans (b2.mono (by omega))⟩

set_option maxRecDepth 100000 in
set_option maxHeartbeats 1600000 in
theorem implPosBack_any (v : Value) (es : List (Int × Int)) (s : ByteArray) (a : Int) (w : World) (hn : es.length ≤ 4194304) (hs : s.size ≤ 2097152) (hwf : wfE es) (ha : -9223372036854775808 ≤ a ∧ a ≤ 9223372036854775807) (ht : TabAt w v es) (hv : VarsOk w) :
    Calls Tryz.prog 18 #[.agg #[v], .string s, .int .i64 a] w fun e w' => e = .returned (.int .i64 (backI (posL es s.data.toList) a)) ∧ Below w.heap.size w w' := by
  have h1 := insL_ge (pairsL s.data.toList (strA es s.data.toList).2)
  have h2 := pairsL_ins s.data.toList (strA es s.data.toList).2
  have h3 := pairsL_outs s.data.toList (strA es s.data.toList).2
  have h4 := strA_len es s.data.toList
  rw [len_list] at h2
  have HT := Lib.hid ht
  obtain ⟨ad, cap, rfl, _, _⟩ := ht
  have HP : Hid (∀ w, TabAt w (.slice ad es.length cap) es → VarsOk w → Calls Tryz.prog 9 #[.agg #[.slice ad es.length cap], .string s] w fun e w' => ∃ v, e = .returned v ∧ OwnSp w' w.heap.size v (spansL (posL es s.data.toList)) ∧ Below w.heap.size w w') := fun w h1 h2 => implSpans_any _ es s w hn hs hwf h1 h2
  have HV : Hid (∀ w', Below w.heap.size w w' → VarsOk w') := fun w' h => hv.below h
  have HX : Hid (∀ v w, RdSp w v (spansL (posL es s.data.toList)) → Calls Tryz.prog 32 #[v, .int .i64 a] w fun e w' => e = .returned (.int .i64 (backI (posL es s.data.toList) a)) ∧ Below w.heap.size w w') := fun v w h => by
    unfold posL at h ⊢
    exact there_any v _ a w ha (by omega) (by omega) (by omega) h
  obtain ⟨z, hz⟩ : ∃ z, z = backI (posL es s.data.toList) a := ⟨_, rfl⟩
  obtain ⟨sp, hsp⟩ : ∃ sp, sp = spansL (posL es s.data.toList) := ⟨_, rfl⟩
  rw [← hz] at HX ⊢
  rw [← hsp] at HX HP
  clear hz hsp h1 h2 h3 h4 hwf hv
  go_enter Tryz.func18, Tryz.ntmps18
  go_wp2_with fail
  (go_at_call 9; refine (HP.out _ (HT.out.below ((Below.refl _ _).alloc (Nat.le_refl _) _)) (HV.out _ ((Below.refl _ _).alloc (Nat.le_refl _) _))).mono ?_; rintro e w1 ⟨v1, rfl, o1, b1⟩; have R1 := Lib.hid o1.rd; have B1 : Hid (Below w.heap.size w w1) := ((Below.refl _ _).alloc (Nat.le_refl _) _).trans (b1.mono (by simp)); have z1 : w.heap.size + 1 ≤ w1.heap.size := (by have := b1.size; simpa using this); clear o1 b1)
  go_wp2_with fail
  (go_at_call 32; refine (HX.out v1 _ R1.out).mono ?_; rintro e w2 ⟨rfl, b2⟩)
  go_wp2_with fail
  go_ret
  exact ⟨rfl, B1.out.trans (b2.mono (by omega))⟩

set_option maxRecDepth 100000 in
set_option maxHeartbeats 1600000 in
theorem specPosBack_any (B : Nat) (ad : Addr) (cap : Nat) (es : List (Int × Int)) (s : ByteArray) (a : Int) (w : World) (hn : es.length ≤ 4194304) (hs : s.size ≤ 2097152) (ha : -9223372036854775808 ≤ a ∧ a ≤ 9223372036854775807) (hB : B ≤ w.heap.size) (ho : OwnTab w B (.slice (some ad) es.length cap) es) :
    Calls Tryz.prog 17 #[.agg #[.slice (some ad) es.length cap], .string s, .int .i64 a] w fun e w' => e = .returned (.int .i64 (backI (posL es s.data.toList) a)) ∧ Below w.heap.size w w' := by
  have h1 := insL_ge (pairsL s.data.toList (strA es s.data.toList).2)
  have h2 := pairsL_ins s.data.toList (strA es s.data.toList).2
  have h3 := pairsL_outs s.data.toList (strA es s.data.toList).2
  have h4 := strA_len es s.data.toList
  rw [len_list] at h2
  have HT := Lib.hid ho
  have HP : Hid (∀ w, B ≤ w.heap.size → OwnTab w B (.slice (some ad) es.length cap) es → Calls Tryz.prog 7 #[.agg #[.slice (some ad) es.length cap], .string s] w fun e w' => ∃ v, e = .returned v ∧ OwnSp w' w.heap.size v (spansL (posL es s.data.toList)) ∧ Below w.heap.size w w') := fun w h1 h2 => specSpans_any B ad cap es s w hn hs h1 h2
  have HX : Hid (∀ v w, RdSp w v (spansL (posL es s.data.toList)) → Calls Tryz.prog 31 #[v, .int .i64 a] w fun e w' => e = .returned (.int .i64 (backI (posL es s.data.toList) a)) ∧ Below w.heap.size w w') := fun v w h => by
    unfold posL at h ⊢
    exact specBack_any v _ a w ha (by omega) (by omega) (by omega) h
  obtain ⟨z, hz⟩ : ∃ z, z = backI (posL es s.data.toList) a := ⟨_, rfl⟩
  obtain ⟨sp, hsp⟩ : ∃ sp, sp = spansL (posL es s.data.toList) := ⟨_, rfl⟩
  rw [← hz] at HX ⊢
  rw [← hsp] at HX HP
  clear hz hsp h1 h2 h3 h4 ho
  go_enter Tryz.func17, Tryz.ntmps17
  go_wp2_with fail
  (go_at_call 7; refine (HP.out _ (by simp; omega) (HT.out.below ((Below.refl _ _).alloc (Nat.le_refl _) _))).mono ?_; rintro e w1 ⟨v1, rfl, o1, b1⟩; have R1 := Lib.hid o1.rd; have B1 : Hid (Below w.heap.size w w1) := ((Below.refl _ _).alloc (Nat.le_refl _) _).trans (b1.mono (by simp)); have z1 : w.heap.size + 1 ≤ w1.heap.size := (by have := b1.size; simpa using this); clear o1 b1)
  go_wp2_with fail
  (go_at_call 31; refine (HX.out v1 _ R1.out).mono ?_; rintro e w2 ⟨rfl, b2⟩)
  go_wp2_with fail
  go_ret
  exact ⟨rfl, B1.out.trans (b2.mono (by omega))⟩

end Go.Proofs.YtgjhfmlncibpmaaGreatDoor

/- An argument's table, wherever it lies: how its ends become the program's. Condition: at most 2^22 ends. -/
namespace Go.Proofs.YtgjhfmlncibpmaaGreatDoor
open Go.RowKit Go.Sort

theorem Addr.add_block' (a : Addr) (i : Nat) : (a.add i).block = a.block := by unfold Addr.add; split <;> rfl
theorem add_add' (a : Addr) (i j : Nat) : (a.add i).add j = a.add (i + j) := by
  unfold Addr.add; split <;> split <;> simp_all <;> omega
theorem add_one' (a : Addr) : a.add 1 = ⟨a.block, a.off + 1, none⟩ := rfl
/-- A slice of ends lies in the world, at any address. -/
def ArgTab (w : World) (v : Value) (es : List (Int × Int)) : Prop := ∃ a cap, v = .slice a es.length cap ∧ (es.length ≤ cap ∧ (a = none → cap = 0)) ∧ (0 < es.length → ∃ x, a = some x ∧ x.block < w.heap.size ∧ ∀ i (hi : i < es.length), w.cell? (x.add (i * 2)) = some (.int .i64 es[i].1) ∧ w.cell? (x.add (i * 2 + 1)) = some (.int .i64 es[i].2))
theorem ArgTab.below {w w' : World} {v : Value} {es : List (Int × Int)} (h : ArgTab w v es) (hb : Below w.heap.size w w') : ArgTab w' v es := by
  obtain ⟨a, cap, rfl, hc, hr⟩ := h
  refine ⟨a, cap, rfl, hc, fun h => ?_⟩
  obtain ⟨x, rfl, hx, hrow⟩ := hr h
  exact ⟨x, rfl, Nat.lt_of_lt_of_le hx hb.size, fun i hi => by
    rw [hb.cell (p := x.add (i * 2)) (by rw [Addr.add_block']; exact hx), hb.cell (p := x.add (i * 2 + 1)) (by rw [Addr.add_block']; exact hx)]; exact hrow i hi⟩

set_option maxRecDepth 100000 in
set_option maxHeartbeats 800000 in
theorem toEndsArg (v : Value) (es : List (Int × Int)) (w : World) (hn : es.length ≤ 4194304) (ht : ArgTab w v es) :
    Calls Tryz.prog 23 #[v] w fun e w' => ∃ u, e = .returned u ∧ TabRoom w' w.heap.size u es ∧ Below w.heap.size w w' := by
  obtain ⟨ad, cap, rfl, hcap, hr⟩ := ht
  obtain ⟨i0, hi, hz0, hz1, hz2⟩ := info_parts infoEnd
  have HR := Lib.hid hr
  clear hr
  go_enter Tryz.func23, Tryz.ntmps23
  go_wp2_with (at_make; refine wpList_make_full _ rfl (.tmp 6) (.tmp 6) 28 rfl w.heap.size 55 i0 (.agg #[.int .i64 0, .int .i64 0]) 2 (by rfl) hi hz0 hz1 .i64 .i64 (es.length : Int) (es.length : Int) es.length (by rfl) (by rfl) rfl rfl (by rw [hz2]; omega) (by unfold maxLen; omega) (Nat.le_refl _) ?_; intro w1 hown hgrow)
  have R1 : Hid (Room w1 w.heap.size (es.length * 2) ∧ w.heap.size ≤ w.heap.size ∧ w.heap.size < w1.heap.size) := own_room hown
  have B1 : Hid (Below w.heap.size w w1) := (Below.refl _ _).grown hgrow (Nat.le_refl _) (fun k hk => by cases hk)
  clear hown hgrow
  go_loopw [4] (fun i wr => ∃ k : Nat, k ≤ es.length ∧ i = .int .i64 k ∧ EndsAt wr w.heap.size (es.take k) ∧ Room wr w.heap.size (es.length * 2) ∧ Below w.heap.size w wr ∧ w.heap.size < wr.heap.size) (fun i _ => es.length - (intOf i).toNat)
  case atStart => exact ⟨0, Nat.zero_le _, rfl, fun i hi => by simp at hi, R1.out.1, B1.out, R1.out.2.2⟩
  case round =>
    obtain ⟨k, hk, rfl, he, hro, hb, hsz⟩ := hrel
    have HE := Lib.hid he
    have HO := Lib.hid hro
    clear he hro
    by_cases hlt : k < es.length
    · obtain ⟨x, rfl, hx, hrow⟩ := HR.out (by omega)
      obtain ⟨r0, r1⟩ := hrow k hlt
      rw [← hb.cell (p := x.add (k * 2)) (by rw [Addr.add_block']; exact hx)] at r0
      rw [← hb.cell (p := x.add (k * 2 + 1)) (by rw [Addr.add_block']; exact hx)] at r1
      rw [← add_add', add_one'] at r1
      obtain ⟨⟨a, p⟩, hap⟩ : ∃ x, x = es[k] := ⟨_, rfl⟩
      rw [← hap] at r0 r1
      simp only at r0 r1
      have HA := Lib.hid hap
      have hk2 : (k : Int) ≤ (cap : Int) := by have := hcap.1; omega
      clear hrow hap
      go_wp2_with (go_at_call 39; refine (toEnd_any a p _).mono ?_; rintro e w2 ⟨rfl, b2⟩; have hr2 := HO.out.below b2 hsz; obtain ⟨x0, hx0⟩ := (hr2 (k * 2) (by omega)).1; have f0 := (hr2 (k * 2) (by omega)).2; obtain ⟨x1, hx1⟩ := (hr2 (k * 2 + 1) (by omega)).1; have f1 := (hr2 (k * 2 + 1) (by omega)).2)
      go_roundw
      case rel =>
        refine ⟨k + 1, by omega, by go_num, EndsAt.push (es := es) (m := es.length * 2) (by simp; omega) (by rw [List.take_take, Nat.min_eq_left (by omega)]) hk (fun h => by rw [HA.out]; simp) (HE.out.below b2 hsz) hr2 (by omega), (hr2.set (by omega) _).set (by omega) _, ?_, ?_⟩
        · exact ((hb.trans (b2.mono (by omega))).setCell (by simp) _).setCell (by simp) _
        · have := b2.size; simp; omega
      case measure => simp [intOf]; omega
    · have hkn : k = es.length := by omega
      subst hkn
      go_wp2
      go_ret
      refine ⟨_, rfl, ⟨w.heap.size, es.length, rfl, Nat.le_refl _, Nat.le_refl _, hsz, by simpa using HE.out, HO.out⟩, hb⟩

set_option maxRecDepth 100000 in
set_option maxHeartbeats 800000 in
theorem toTabArg (v : Value) (es : List (Int × Int)) (w : World) (hn : es.length ≤ 4194304) (ht : ArgTab w v es) :
    Calls Tryz.prog 8 #[.agg #[v]] w fun e w' => ∃ u, e = .returned (.agg #[u]) ∧ TabRoom w' w.heap.size u es ∧ Below w.heap.size w w' := by
  have HT := Lib.hid ht
  obtain ⟨ad, cap, rfl, hcap, hr⟩ := ht
  clear hr
  go_enter Tryz.func8, Tryz.ntmps8
  go_wp2_with (go_at_call 23; refine (toEndsArg _ es _ hn (HT.out.below ((((Below.refl _ _).alloc (Nat.le_refl _) _).alloc (by simp) _).alloc (by simp; omega) _))).mono ?_; rintro e w1 ⟨u, rfl, hu, b1⟩; obtain ⟨cA, cB, cC, b01, z1⟩ := cell_three b1; have t0 := (cA 0).1; have r0 := (cB 0).1; have g0 := (cB 0).2; have o0 := (cC 0).1; have p0 := (cC 0).2; simp at t0 r0 o0; obtain ⟨gu, cu, rfl, hu'⟩ : ∃ g c, u = .slice (some ⟨g, 0, none⟩) es.length c ∧ TabRoom w1 (w.heap.size + 3) u es := (by obtain ⟨g, c, q, hh⟩ := hu; exact ⟨g, c, q, TabRoom.mono ⟨g, c, q, hh⟩ (by simp)⟩); have HU := Lib.hid hu'; clear hu hu' cA cB cC)
  have q0 : (w1.setCell ⟨w.heap.size + 1 + 1, 0, none⟩ (.slice (some ⟨gu, 0, none⟩) es.length cu)).cell? ⟨w.heap.size + 1, 0, none⟩ = some (.slice none 0 0) := by
    rw [World.cell?_setCell_far _ ⟨w.heap.size + 1 + 1, 0, none⟩ ⟨w.heap.size + 1, 0, none⟩ _ (by show w.heap.size + 1 + 1 ≠ w.heap.size + 1; omega)]; exact r0
  refine bodyPost_ret (v := .agg #[.slice (some ⟨gu, 0, none⟩) es.length cu]) (by simp [results, Tryz.results8, go_sem, World.cell?_setCell_same _ _ _ q0]) rfl ⟨_, rfl, ?_, ?_⟩
  · exact ((HU.out.setCell (a := ⟨w.heap.size + 1 + 1, 0, none⟩) (by simp) _).setCell (a := ⟨w.heap.size + 1, 0, none⟩) (by simp) _).mono (by omega)
  · exact (b01.setCell (by simp; omega) _).setCell (by simp) _

theorem lawSzSArg (ad : Option Addr) (n cap : Nat) (left : Int) (w : World) (hn : n ≤ 9223372036854775807) (h0 : 0 ≤ left) (h1 : left ≤ 4194304) :
    Calls Tryz.prog 19 #[.slice ad n cap, .int .i64 left] w fun e w' => e = .returned (.int .i64 (if left < (n : Int) then -1 else left - n)) ∧ w = w' := by
  by_cases h : left < (n : Int)
  all_goals
    go_enter Tryz.func19, Tryz.ntmps19
    go_wp2
    go_ret
    exact ⟨ret_int (by first | rfl | (rw [if_pos h]; rfl) | (rw [if_neg (by omega)]) | (rw [if_neg (by omega)]; rfl)), rfl⟩

theorem lawSzArg (v : Value) (es : List (Int × Int)) (left : Int) (w : World) (hn : es.length ≤ 9223372036854775807) (h0 : 0 ≤ left) (h1 : left ≤ 4194304) (ht : ArgTab w v es) :
    Calls Tryz.prog 6 #[.agg #[v], .int .i64 left] w fun e w' => e = .returned (.int .i64 (if left < (es.length : Int) then -1 else left - es.length)) ∧ Below w.heap.size w w' := by
  obtain ⟨ad, cap, rfl, _, _⟩ := ht
  by_cases h : left < (es.length : Int)
  · have hc : ∀ w, Calls Tryz.prog 19 #[.slice ad es.length cap, .int .i64 left] w fun e w' => e = .returned (.int .i64 (-1)) ∧ w = w' := fun w => by
      have := lawSzSArg ad es.length cap left w hn h0 h1
      rwa [if_pos h] at this
    have HC := Lib.hid hc
    clear hc
    rw [if_pos h]
    clear h
    go_enter Tryz.func6, Tryz.ntmps6
    go_wp2_with (go_at_call 19; refine (HC.out _).mono ?_; rintro e w' ⟨rfl, rfl⟩)
    go_ret
    exact ⟨rfl, (Below.refl _ _).alloc (Nat.le_refl _) _⟩
  · obtain ⟨q, hq⟩ : ∃ q : Int, q = left - es.length := ⟨_, rfl⟩
    have hc : ∀ w, Calls Tryz.prog 19 #[.slice ad es.length cap, .int .i64 left] w fun e w' => e = .returned (.int .i64 q) ∧ w = w' := fun w => by
      have := lawSzSArg ad es.length cap left w hn h0 h1
      rwa [if_neg h, ← hq] at this
    have HC := Lib.hid hc
    have h0q : 0 ≤ q := by omega
    clear hc
    rw [if_neg h, ← hq]
    clear h hq
    go_enter Tryz.func6, Tryz.ntmps6
    go_wp2_with (go_at_call 19; refine (HC.out _).mono ?_; rintro e w' ⟨rfl, rfl⟩)
    go_ret
    exact ⟨rfl, (Below.refl _ _).alloc (Nat.le_refl _) _⟩

end Go.Proofs.YtgjhfmlncibpmaaGreatDoor

/- An argument's table, wherever it lies, as the program's: it lies in a block of ends alone. Condition: at most 2^22 ends. -/
namespace Go.Proofs.YtgjhfmlncibpmaaGreatDoor
open Go.RowKit Go.Sort

/-- A block of ends with m cells. -/
def Shape (w : World) (g m : Nat) : Prop := ∃ l : List Value, w.heap[g]? = some (.cells ⟨l⟩ 55) ∧ l.length = m
theorem Shape.below {w w' : World} {g m : Nat} (h : Shape w g m) (hb : Below w.heap.size w w') : Shape w' g m := by
  obtain ⟨l, h1, h2⟩ := h
  exact ⟨l, (hb.block g (Array.getElem?_eq_some_iff.1 h1).1).trans h1, h2⟩
theorem Shape.set {w : World} {g m : Nat} (h : Shape w g m) (j : Nat) (u : Value) : Shape (w.setCell ⟨g, j, none⟩ u) g m := by
  obtain ⟨l, h1, h2⟩ := h
  refine ⟨l.set j u, ?_, by simpa using h2⟩
  show (w.heap.modify g _)[g]? = _
  rw [Array.getElem?_modify]
  simp [h1]
theorem shape_own {w : World} {B g n : Nat} {xs : List Value} (h : w.ownsRow B 55 2 (.slice (some ⟨g, 0, none⟩) n n) n xs) : Shape w g (n * 2) := by
  rcases h.2 with ⟨h0, _⟩ | ⟨g', cap', cur, hv, hB, hg, h2, _, hs, ht⟩
  · cases h0
  · simp at hv
    obtain ⟨rfl, rfl⟩ := hv
    obtain ⟨l⟩ := cur
    exact ⟨l, hg, by simpa using hs⟩
theorem Shape.own {w : World} {B g : Nat} {es : List (Int × Int)} (h : Shape w g (es.length * 2)) (he : EndsAt w g es) (hB : B ≤ g) (hm : es.length ≤ maxLen) : OwnTab w B (.slice (some ⟨g, 0, none⟩) es.length es.length) es := by
  obtain ⟨l, h1, h2⟩ := h
  refine ⟨flatE_len es, Or.inr ⟨g, es.length, ⟨l⟩, rfl, hB, h1, Nat.le_refl _, hm, by simpa using h2, ?_⟩⟩
  rw [List.take_of_length_le (by show l.length ≤ _; omega)]
  apply List.ext_getElem?
  intro j
  by_cases hj : j < (flatE es).length
  · have hc := he.flat j (flatE es)[j] (List.getElem?_eq_getElem hj)
    rw [List.getElem?_eq_getElem hj, ← hc]
    simp [World.cell?, h1]
  · rw [List.getElem?_eq_none (by rw [flatE_len] at hj; show l.length ≤ j; omega), List.getElem?_eq_none (by omega)]

set_option maxRecDepth 100000 in
set_option maxHeartbeats 800000 in
theorem toEndsOwn (v : Value) (es : List (Int × Int)) (w : World) (hn : es.length ≤ 4194304) (ht : ArgTab w v es) :
    Calls Tryz.prog 23 #[v] w fun e w' => ∃ u, e = .returned u ∧ (TabRoom w' w.heap.size u es ∧ OwnTab w' w.heap.size u es) ∧ Below w.heap.size w w' := by
  obtain ⟨ad, cap, rfl, hcap, hr⟩ := ht
  obtain ⟨i0, hi, hz0, hz1, hz2⟩ := info_parts infoEnd
  have HR := Lib.hid hr
  clear hr
  go_enter Tryz.func23, Tryz.ntmps23
  go_wp2_with (at_make; refine wpList_make_full _ rfl (.tmp 6) (.tmp 6) 28 rfl w.heap.size 55 i0 (.agg #[.int .i64 0, .int .i64 0]) 2 (by rfl) hi hz0 hz1 .i64 .i64 (es.length : Int) (es.length : Int) es.length (by rfl) (by rfl) rfl rfl (by rw [hz2]; omega) (by unfold maxLen; omega) (Nat.le_refl _) ?_; intro w1 hown hgrow)
  have R1 : Hid (Room w1 w.heap.size (es.length * 2) ∧ w.heap.size ≤ w.heap.size ∧ w.heap.size < w1.heap.size) := own_room hown
  have S1 : Hid (Shape w1 w.heap.size (es.length * 2)) := shape_own hown
  have B1 : Hid (Below w.heap.size w w1) := (Below.refl _ _).grown hgrow (Nat.le_refl _) (fun k hk => by cases hk)
  clear hown hgrow
  go_loopw [4] (fun i wr => ∃ k : Nat, k ≤ es.length ∧ i = .int .i64 k ∧ EndsAt wr w.heap.size (es.take k) ∧ Room wr w.heap.size (es.length * 2) ∧ Shape wr w.heap.size (es.length * 2) ∧ Below w.heap.size w wr ∧ w.heap.size < wr.heap.size) (fun i _ => es.length - (intOf i).toNat)
  case atStart => exact ⟨0, Nat.zero_le _, rfl, fun i hi => by simp at hi, R1.out.1, S1.out, B1.out, R1.out.2.2⟩
  case round =>
    obtain ⟨k, hk, rfl, he, hro, hsh, hb, hsz⟩ := hrel
    have HE := Lib.hid he
    have HO := Lib.hid hro
    have HSH := Lib.hid hsh
    clear he hro hsh
    by_cases hlt : k < es.length
    · obtain ⟨x, rfl, hx, hrow⟩ := HR.out (by omega)
      obtain ⟨r0, r1⟩ := hrow k hlt
      rw [← hb.cell (p := x.add (k * 2)) (by rw [Addr.add_block']; exact hx)] at r0
      rw [← hb.cell (p := x.add (k * 2 + 1)) (by rw [Addr.add_block']; exact hx)] at r1
      rw [← add_add', add_one'] at r1
      obtain ⟨⟨a, p⟩, hap⟩ : ∃ x, x = es[k] := ⟨_, rfl⟩
      rw [← hap] at r0 r1
      simp only at r0 r1
      have HA := Lib.hid hap
      have hk2 : (k : Int) ≤ (cap : Int) := by have := hcap.1; omega
      clear hrow hap
      go_wp2_with (go_at_call 39; refine (toEnd_any a p _).mono ?_; rintro e w2 ⟨rfl, b2⟩; have hr2 := HO.out.below b2 hsz; obtain ⟨x0, hx0⟩ := (hr2 (k * 2) (by omega)).1; have f0 := (hr2 (k * 2) (by omega)).2; obtain ⟨x1, hx1⟩ := (hr2 (k * 2 + 1) (by omega)).1; have f1 := (hr2 (k * 2 + 1) (by omega)).2)
      go_roundw
      case rel =>
        refine ⟨k + 1, by omega, by go_num, EndsAt.push (es := es) (m := es.length * 2) (by simp; omega) (by rw [List.take_take, Nat.min_eq_left (by omega)]) hk (fun h => by rw [HA.out]; simp) (HE.out.below b2 hsz) hr2 (by omega), (hr2.set (by omega) _).set (by omega) _, ((HSH.out.below b2).set _ _).set _ _, ?_, ?_⟩
        · exact ((hb.trans (b2.mono (by omega))).setCell (by simp) _).setCell (by simp) _
        · have := b2.size; simp; omega
      case measure => simp [intOf]; omega
    · have hkn : k = es.length := by omega
      subst hkn
      go_wp2
      go_ret
      refine ⟨_, rfl, ⟨⟨w.heap.size, es.length, rfl, Nat.le_refl _, Nat.le_refl _, hsz, by simpa using HE.out, HO.out⟩, HSH.out.own (by simpa using HE.out) (Nat.le_refl _) (by unfold maxLen; omega)⟩, hb⟩

set_option maxRecDepth 100000 in
set_option maxHeartbeats 800000 in
theorem toTabOwn (v : Value) (es : List (Int × Int)) (w : World) (hn : es.length ≤ 4194304) (ht : ArgTab w v es) :
    Calls Tryz.prog 8 #[.agg #[v]] w fun e w' => ∃ u, e = .returned (.agg #[u]) ∧ (TabRoom w' w.heap.size u es ∧ OwnTab w' w.heap.size u es) ∧ Below w.heap.size w w' := by
  have HT := Lib.hid ht
  obtain ⟨ad, cap, rfl, hcap, hr⟩ := ht
  clear hr
  go_enter Tryz.func8, Tryz.ntmps8
  go_wp2_with (go_at_call 23; refine (toEndsOwn _ es _ hn (HT.out.below ((((Below.refl _ _).alloc (Nat.le_refl _) _).alloc (by simp) _).alloc (by simp; omega) _))).mono ?_; rintro e w1 ⟨u, rfl, hu, b1⟩; obtain ⟨cA, cB, cC, b01, z1⟩ := cell_three b1; have t0 := (cA 0).1; have r0 := (cB 0).1; have g0 := (cB 0).2; have o0 := (cC 0).1; have p0 := (cC 0).2; simp at t0 r0 o0; obtain ⟨gu, cu, rfl, hu'⟩ : ∃ g c, u = .slice (some ⟨g, 0, none⟩) es.length c ∧ TabRoom w1 (w.heap.size + 3) u es := (by obtain ⟨g, c, q, hh⟩ := hu.1; exact ⟨g, c, q, TabRoom.mono ⟨g, c, q, hh⟩ (by simp)⟩); have HU := Lib.hid hu'; have HW : Hid (OwnTab w1 (w.heap.size + 3) (.slice (some ⟨gu, 0, none⟩) es.length cu) es) := hu.2.mono (by simp); clear hu hu' cA cB cC)
  have q0 : (w1.setCell ⟨w.heap.size + 1 + 1, 0, none⟩ (.slice (some ⟨gu, 0, none⟩) es.length cu)).cell? ⟨w.heap.size + 1, 0, none⟩ = some (.slice none 0 0) := by
    rw [World.cell?_setCell_far _ ⟨w.heap.size + 1 + 1, 0, none⟩ ⟨w.heap.size + 1, 0, none⟩ _ (by show w.heap.size + 1 + 1 ≠ w.heap.size + 1; omega)]; exact r0
  refine bodyPost_ret (v := .agg #[.slice (some ⟨gu, 0, none⟩) es.length cu]) (by simp [results, Tryz.results8, go_sem, World.cell?_setCell_same _ _ _ q0]) rfl ⟨_, rfl, ?_, ?_⟩
  · refine ⟨((HU.out.setCell (a := ⟨w.heap.size + 1 + 1, 0, none⟩) (by simp) _).setCell (a := ⟨w.heap.size + 1, 0, none⟩) (by simp) _).mono (by omega), OwnTab.mono (B := w.heap.size + 3) ?_ (by omega)⟩
    exact ownsRow_setCell_below (a := ⟨w.heap.size + 1, 0, none⟩) (ownsRow_setCell_below (a := ⟨w.heap.size + 1 + 1, 0, none⟩) HW.out (by simp) _) (by simp) _
  · exact (b01.setCell (by simp; omega) _).setCell (by simp) _

end Go.Proofs.YtgjhfmlncibpmaaGreatDoor

/- The law of PosBack. Conditions: the argument's ends lie in the machine's memory, at any address; the variables that are read hold what they are laid with. -/
namespace Go.Proofs.YtgjhfmlncibpmaaGreatDoor
open Go.RowKit Go.Sort

set_option maxRecDepth 100000 in
set_option maxHeartbeats 3200000 in
theorem lawPosBack_any (v : Value) (es : List (Int × Int)) (s : ByteArray) (a : Int) (w : World) (hL : es.length ≤ 9223372036854775807) (ht : ArgTab w v es) (hwf : wfE es) (_ : s.size ≤ maxLen) (ha : -9223372036854775808 ≤ a ∧ a ≤ 9223372036854775807) (hv : VarsOk w) :
    Calls Tryz.prog 5 #[.agg #[v], .string s, .int .i64 a] w fun e w' => e = .returned (.bool true) ∧ Below w.heap.size w w' := by
  have HT := Lib.hid ht
  obtain ⟨ad, cap, rfl, _, _⟩ := ht
  rcases Nat.lt_or_ge 1048576 s.size with hz | hz
  · clear hv hwf
    go_enter Tryz.func5, Tryz.ntmps5
    go_wp2_with fail
    go_ret
    exact ⟨rfl, (Below.refl _ _).alloc (Nat.le_refl _) _⟩
  have hz2 : (s.size : Int) ≤ 1048576 := by omega
  rcases Nat.lt_or_ge 1048576 es.length with h | h
  · have HS : Hid (∀ w, ArgTab w (.slice ad es.length cap) es → Calls Tryz.prog 6 #[.agg #[.slice ad es.length cap], .int .i64 1048576] w fun e w' => e = .returned (.int .i64 (-1)) ∧ Below w.heap.size w w') := fun w ht => by
      have := lawSzArg _ es 1048576 w hL (by decide) (by decide) ht
      rwa [if_pos (by omega)] at this
    clear hwf hv
    go_enter Tryz.func5, Tryz.ntmps5
    go_wp2_with (go_at_call 6; refine (HS.out _ (HT.out.below ((Below.refl _ _).alloc (Nat.le_refl _) _))).mono ?_; rintro e w1 ⟨rfl, b1⟩)
    go_ret
    exact ⟨rfl, ((Below.refl _ _).alloc (Nat.le_refl _) _).trans (b1.mono (by simp))⟩
  · have hn : es.length ≤ 4194304 := by omega
    obtain ⟨q0, hq0⟩ : ∃ q0 : Int, q0 = 1048576 - es.length := ⟨_, rfl⟩
    have hq1 : 0 ≤ q0 := by omega
    have HS : Hid (∀ w, ArgTab w (.slice ad es.length cap) es → Calls Tryz.prog 6 #[.agg #[.slice ad es.length cap], .int .i64 1048576] w fun e w' => e = .returned (.int .i64 q0) ∧ Below w.heap.size w w') := fun w ht => by
      have := lawSzArg _ es 1048576 w hL (by decide) (by decide) ht
      rw [if_neg (by omega)] at this
      rwa [hq0]
    have HTo : Hid (∀ w, ArgTab w (.slice ad es.length cap) es → Calls Tryz.prog 8 #[.agg #[.slice ad es.length cap]] w fun e w' => ∃ g c, e = .returned (.agg #[.slice (some ⟨g, 0, none⟩) es.length c]) ∧ (TabRoom w' w.heap.size (.slice (some ⟨g, 0, none⟩) es.length c) es ∧ OwnTab w' w.heap.size (.slice (some ⟨g, 0, none⟩) es.length c) es) ∧ Below w.heap.size w w') := fun w ht => by
      refine (toTabOwn _ es w hn ht).mono ?_
      rintro e w' ⟨u, rfl, ⟨hu, ho⟩, hb⟩
      obtain ⟨g, c, rfl, _⟩ := id hu
      exact ⟨g, c, rfl, ⟨hu, ho⟩, hb⟩
    obtain ⟨z, hz⟩ : ∃ z, z = backI (posL es s.data.toList) a := ⟨_, rfl⟩
    have HM : Hid (∀ B g cap w, B ≤ w.heap.size → OwnTab w B (.slice (some g) es.length cap) es → Calls Tryz.prog 17 #[.agg #[.slice (some g) es.length cap], .string s, .int .i64 a] w fun e w' => e = .returned (.int .i64 z) ∧ Below w.heap.size w w') := fun B g cap w h1 h2 => by rw [hz]; exact specPosBack_any B g cap es s a w hn (by omega) ha h1 h2
    have HI : Hid (∀ v w, TabAt w v es → VarsOk w → Calls Tryz.prog 18 #[.agg #[v], .string s, .int .i64 a] w fun e w' => e = .returned (.int .i64 z) ∧ Below w.heap.size w w') := fun v w ht hv => by rw [hz]; exact implPosBack_any v es s a w hn (by omega) hwf ha ht hv
    have HE : Hid (∀ u v w, TabAt w u es → TabAt w v es → Calls Tryz.prog 11 #[.agg #[u], .agg #[v]] w fun e w' => e = .returned (.bool true) ∧ Below w.heap.size w w') := fun u v w h1 h2 => eqTab_same u v es w hn h1 h2
    have HV : Hid (∀ w', Below w.heap.size w w' → VarsOk w') := fun w' h => hv.below h
    clear hz hq0 hL hwf hv
    go_enter Tryz.func5, Tryz.ntmps5
    go_wp2_with fail
    (go_at_call 6; refine (HS.out _ (HT.out.below ((Below.refl _ _).alloc (Nat.le_refl _) _))).mono ?_; rintro e w1 ⟨rfl, b1⟩; have t1 : w1.cell? ⟨w.heap.size, 0, none⟩ = some (.slice ad es.length cap) := (by rw [b1.cell (by simp)]; simp); have B1 : Hid (Below w.heap.size w w1) := (((Below.refl _ _).alloc (Nat.le_refl _) _).trans (b1.mono (by simp))); have z1 : w.heap.size < w1.heap.size := (by have := b1.size; simp at this; omega); clear b1)
    go_wp2_with fail
    (go_at_call 8; refine (HTo.out _ (HT.out.below B1.out)).mono ?_; rintro e w2 ⟨ga, ca, rfl, ⟨_, oa⟩, b2⟩; have OA := Lib.hid oa; clear oa)
    go_wp2_with fail
    (go_at_call 17; refine (HM.out w1.heap.size _ _ _ b2.size OA.out).mono ?_; rintro e w3 ⟨rfl, b3⟩)
    have c3 : Below w1.heap.size w1 w3 := b2.trans (b3.mono b2.size)
    have t3 : w3.cell? ⟨w.heap.size, 0, none⟩ = some (.slice ad es.length cap) := box_below t1 c3
    have mk3 : Hid (∀ w', Below w3.heap.size w3 w' → w'.cell? ⟨w.heap.size, 0, none⟩ = some (.slice ad es.length cap) ∧ True ∧ ArgTab w' (.slice ad es.length cap) es ∧ Below w.heap.size w w' ∧ VarsOk w') := fun w' hb => by
      have h1 : Below w.heap.size w w' := B1.out.trans ((c3.trans (hb.mono c3.size)).mono (by omega))
      exact ⟨box_below t3 hb, trivial, HT.out.below h1, h1, HV.out _ h1⟩
    have C3 : Below w3.heap.size w3 w3 := Below.refl _ _
    have A3 := Lib.hid (mk3.out _ C3).2.2.1
    clear c3 b2 b3 OA t1
    go_wp2_with fail
    (go_at_call 8; refine (HTo.out _ A3.out).mono ?_; rintro e w6 ⟨gx, cx, rfl, ⟨rx, _⟩, b6⟩; have RX6 := Lib.hid rx; clear rx)
    obtain ⟨W7, hW7⟩ : ∃ W7, W7 = w6.alloc (.cells #[.slice (some ⟨gx, 0, none⟩) es.length cx] 30) := ⟨_, rfl⟩
    obtain ⟨bX, hbX⟩ : ∃ bX, bX = w6.heap.size := ⟨_, rfl⟩
    have x7 : W7.cell? ⟨bX, 0, none⟩ = some (.slice (some ⟨gx, 0, none⟩) es.length cx) := by rw [hW7, hbX]; exact (cell_new w6 _ _ 0).1
    have z7 : bX < W7.heap.size := by rw [hW7, hbX]; simp
    have C7 : Hid (Below w3.heap.size w3 W7) := by rw [hW7]; exact b6.alloc b6.size _
    have RX7 : Hid (TabRoom W7 w3.heap.size (.slice (some ⟨gx, 0, none⟩) es.length cx) es) := by rw [hW7]; exact RX6.out.below ((Below.refl _ _).alloc (Nat.le_refl _) _)
    have gxl : w3.heap.size ≤ gx ∧ gx < bX := by
      obtain ⟨g, c, e1, _, h1, h2, _⟩ := RX6.out
      simp at e1
      obtain ⟨rfl, rfl⟩ := e1
      rw [hbX]
      exact ⟨h1, h2⟩
    have z37 : w3.heap.size ≤ W7.heap.size := C7.out.size
    have HI7 : Hid (Calls Tryz.prog 18 #[.agg #[.slice (some ⟨gx, 0, none⟩) es.length cx], .string s, .int .i64 a] (w6.alloc (.cells #[.slice (some ⟨gx, 0, none⟩) es.length cx] 30)) fun e w' => e = .returned (.int .i64 z) ∧ Below W7.heap.size W7 w') := by
      rw [← hW7]; exact HI.out _ _ RX7.out.tab (mk3.out _ C7.out).2.2.2.2
    clear RX6 C3 b6 hW7 A3
    go_wp2_with fail
    rw [← hbX]
    clear hbX
    (go_at_call 18; refine HI7.out.mono ?_; rintro e w7 ⟨rfl, b7⟩)
    have C3 : Below w3.heap.size w3 w7 := C7.out.trans (b7.mono z37)
    have xX := box_below x7 b7
    have RX := Lib.hid (RX7.out.below b7)
    have tT := (mk3.out _ C3).1
    clear RX7 C7 HI7 x7 b7
    go_upto_region 12 with fail
    go_cut [37] (fun s wx => s = .bool false ∧ Below w7.heap.size w7 wx)
    case first =>
      have mk9 : Hid (∀ w', Below w7.heap.size w7 w' → w'.cell? ⟨bX, 0, none⟩ = some (.slice (some ⟨gx, 0, none⟩) es.length cx) ∧ w'.cell? ⟨w.heap.size, 0, none⟩ = some (.slice ad es.length cap) ∧ Below w7.heap.size w7 w') := fun w' hb => ⟨box_below xX hb, box_below tT hb, hb⟩
      go_region_held3 (fun w' => w'.cell? ⟨bX, 0, none⟩ = some (.slice (some ⟨gx, 0, none⟩) es.length cx) ∧ w'.cell? ⟨w.heap.size, 0, none⟩ = some (.slice ad es.length cap) ∧ Below w7.heap.size w7 w')
        (first | exact mk9.out _ (Below.refl _ _).drew | exact mk9.out _ cc | (trace_state; fail))
        (first
          | (go_at_call 8; have hS := (by assumption : _ ∧ _ ∧ Below w7.heap.size w7 _); refine (HTo.out _ (mk3.out _ (C3.trans (hS.2.2.mono C3.size))).2.2.1).mono ?_; rintro e wN ⟨gy, cy, rfl, ⟨ry, _⟩, bN⟩; have RY := Lib.hid ry.tab; have cc : Below w7.heap.size w7 wN := hS.2.2.trans (bN.mono hS.2.2.size))
          | (go_at_call 11; have hS := (by assumption : _ ∧ _ ∧ Below w7.heap.size w7 _); refine (HE.out _ _ _ (RX.out.tab.below hS.2.2) RY.out).mono ?_; rintro e wN ⟨rfl, bN⟩; have cc : Below w7.heap.size w7 wN := hS.2.2.trans (bN.mono hS.2.2.size)))
      all_goals (go_wp2_with fail; go_meet; exact ⟨rfl, cc⟩)
    case rest =>
      obtain ⟨rfl, c10⟩ := hcut
      obtain ⟨w10, hw10⟩ : ∃ w10, w10 = wc := ⟨_, rfl⟩
      rw [← hw10] at c10 ⊢
      clear hw10
      replace C3 := C3.trans (c10.mono C3.size)
      go_wp2_with fail
      go_ret
      exact ⟨rfl, (mk3.out _ C3).2.2.2.1⟩

end Go.Proofs.YtgjhfmlncibpmaaGreatDoor

/- An argument that is a table of ends, as the frame of a law hands it in: its ends lie in the machine's memory, at any address. No condition. -/
namespace Go.Proofs.YtgjhfmlncibpmaaGreatDoor
open Go.ChangeShapes Go.WideShapes Go.ChangeAt Go.RowKit Go.Deep

theorem array1 {α : Type} {cs : Array α} (h : cs.size = 1) : ∃ c0, cs = #[c0] := by
  obtain ⟨l⟩ := cs
  match l, h with
  | [c0], _ => exact ⟨c0, rfl⟩

theorem cellsTabL : Tryz.prog.cellsOf 24 = 1 := by kernel_rfl
theorem cellsRowL : Tryz.prog.cellsOf 22 = 1 := by kernel_rfl
theorem cellsEndL : Tryz.prog.cellsOf 61 = 2 := by kernel_rfl
theorem cellsIntL : Tryz.prog.cellsOf 3 = 1 := by kernel_rfl
set_option maxRecDepth 100000 in
theorem tab_in {H : Type} {enc : TypeId × Value → H} {W : World} {base : Nat} {v : Value} {d : DataW H} {p : List MemPlace} (hv : Value.okWide Tryz.prog W .any base 24 v)
    (h : DataW.Trod enc Tryz.prog W 0 (fun _ => true) true 24 v d p) : ∃ (u : Value) (es : List (Int × Int)), v = .agg #[u] ∧ ArgTab W u es ∧ es.length ≤ 9223372036854775807 ∧ wfE es := by
  obtain ⟨cs, rfl, hsz⟩ := okWide_struct Tryz.underlying24 hv
  obtain ⟨c0, rfl⟩ := array1 (hsz.trans cellsTabL)
  obtain ⟨fuel, hf⟩ := h
  obtain ⟨y0, n, _, _, h0⟩ := trod_struct1 Tryz.underlying24 hf
  have h1 : DataW.trod enc Tryz.prog W 0 (fun _ => true) true n 22 [c0] = some y0 := by
    simpa [Value.cells, cellsRowL] using h0
  rcases open_slice_pairs Tryz.underlying22 Tryz.underlying61 cellsEndL rfl rfl cellsIntL cellsIntL h1 with ⟨hcs, _⟩ | ⟨a, len, cap, m, n', V0, V1, D0, D1, P0, P1, hcs, _, hl, hm, hmm, _, hcell⟩
  · simp at hcs
    subst hcs
    exact ⟨_, [], rfl, ⟨none, 0, rfl, ⟨by simp, fun _ => rfl⟩, fun h => by simp at h⟩, by simp, fun e he => by cases he⟩
  · simp at hcs
    subst hcs
    have hm2 : m = cap := by simpa using hmm
    refine ⟨_, (List.range len).map fun i => (intOf (V0 i), intOf (V1 i)), rfl, ⟨some a, cap, by simp, ⟨by simpa using hl, by simp⟩, fun hpos => ?_⟩, by have hm' : cap ≤ 9223372036854775807 := hm; simpa using Nat.le_trans hl hm', fun e he => ?_⟩
    rotate_left
    · obtain ⟨i, hi, rfl⟩ := List.mem_map.1 he
      have hi' : i < len := List.mem_range.1 hi
      obtain ⟨k0, k1, t0, t1⟩ := hcell i (by omega)
      obtain ⟨z0, e0, _, w0⟩ := DataW.trod_int Tryz.underlying3 t0
      obtain ⟨z1, e1, _, w1⟩ := DataW.trod_int Tryz.underlying3 t1
      simp at e0 e1
      rw [e0, e1]
      exact ⟨w0, w1⟩
    have each : ∀ i, i < len → W.cell? (a.add (i * 2)) = some (.int .i64 (intOf (V0 i))) ∧ W.cell? (a.add (i * 2 + 1)) = some (.int .i64 (intOf (V1 i))) := by
      intro i hi
      obtain ⟨k0, k1, t0, t1⟩ := hcell i (by omega)
      obtain ⟨z0, e0, _, _⟩ := DataW.trod_int Tryz.underlying3 t0
      obtain ⟨z1, e1, _, _⟩ := DataW.trod_int Tryz.underlying3 t1
      simp at e0 e1
      rw [e0] at k0 ⊢
      rw [e1] at k1 ⊢
      exact ⟨k0, k1⟩
    refine ⟨a, rfl, ?_, fun i hi => ?_⟩
    · have := World.block_lt_of_cell? W _ (each 0 (by simpa using hpos)).1
      rwa [Addr.add_block'] at this
    · have := each i (by simpa using hi)
      simpa using this

end Go.Proofs.YtgjhfmlncibpmaaGreatDoor

/- PosBack of the program answers as PosBack of the specification, at every argument; the arguments stay as they were. The card: the variables that are read are tied to the program's text. No condition beside what the law sets aside and the card says. -/
namespace Go.Proofs.YtgjhfmlncibpmaaGreatDoor
open Go.ChangeShapes Go.WideShapes Go.ChangeAt Go.RowKit Go.Joins Go.WideMaps Go.WideElems
open Go.ChangeMaps (open_string shut_string)

theorem laidOutPosBack : laidOutB Tryz.prog = true := by kernel_rfl

theorem ownPosBack : ownKnob Tryz.prog.godebug = none := by kernel_rfl
theorem starErr : "*errors.errorString" = "*" ++ "errors.errorString" := by decide
theorem rowErr (u : TypeId) (h : Tryz.prog.typeName? 3 u = some "*errors.errorString") : u = 151 :=
  typeName_ptr_named (nm := "errors.errorString") (by rw [← starErr]; kernel_rfl) (by kernel_rfl) (by decide) u (by rw [← starErr]; exact h)

/-- What the row's list gives a walk. -/
theorem vars_of_laid {W : World} (h : laidMetH Tryz.prog Rows.fnExactPosBackRow.laid W) :
    VarsOk W ∧ (∃ t a, W.var? Tryz.prog "loop.example/hatchway/impl.errNoEnd" = some #[.iface t (.pointer (some a))]) ∧ (∃ t a, W.var? Tryz.prog "loop.example/hatchway/impl.errNoNumber" = some #[.iface t (.pointer (some a))]) := by
  rw [MakeChecks.laidMetH_plain _ _ _ (by kernel_rfl)] at h
  have h3 := laidMet.tail (laidMet.tail h)
  have ht : laidMet Tryz.prog (("internal/strconv.uint64pow10", Lib.tabData .u64 Lib.pow10Tab) :: _) W := h3
  have tab : TabOk W := Lib.tabIs_of_head (g := 3) (t := 133) (e := 126) (n := 20) (by kernel_rfl) (by kernel_rfl) Tryz.underlying133 Tryz.underlying126 (by kernel_rfl) (by kernel_rfl) ht
  have h4 := laidMet.tail h3
  obtain ⟨a1, _, v1, _⟩ := laid_sentinel (g := 5) (tp := 151) (te := 153) (ts := 9) h4 (by kernel_rfl) (by kernel_rfl) Tryz.underlying75 rowErr Tryz.underlying151 Tryz.underlying153 rfl rfl Tryz.underlying9 (by kernel_rfl) (by kernel_rfl)
  have h5 := laidMet.tail h4
  obtain ⟨a2, _, v2, _⟩ := laid_sentinel (g := 4) (tp := 151) (te := 153) (ts := 9) h5 (by kernel_rfl) (by kernel_rfl) Tryz.underlying75 rowErr Tryz.underlying151 Tryz.underlying153 rfl rfl Tryz.underlying9 (by kernel_rfl) (by kernel_rfl)
  have h6 := laidMet.tail h5
  obtain ⟨a3, _, v3, _⟩ := laid_sentinel (g := 2) (tp := 151) (te := 153) (ts := 9) h6 (by kernel_rfl) (by kernel_rfl) Tryz.underlying75 rowErr Tryz.underlying151 Tryz.underlying153 rfl rfl Tryz.underlying9 (by kernel_rfl) (by kernel_rfl)
  have h7 := laidMet.tail h6
  obtain ⟨a4, _, v4, _⟩ := laid_sentinel (g := 1) (tp := 151) (te := 153) (ts := 9) h7 (by kernel_rfl) (by kernel_rfl) Tryz.underlying75 rowErr Tryz.underlying151 Tryz.underlying153 rfl rfl Tryz.underlying9 (by kernel_rfl) (by kernel_rfl)
  have c3 := World.var?_cell (g := 2) (by kernel_rfl) v3 0
  have c4 := World.var?_cell (g := 1) (by kernel_rfl) v4 0
  exact ⟨⟨tab, ⟨_, _, v2⟩, ⟨_, _, v1⟩, ⟨_, _, by simpa using c3⟩, ⟨_, _, by simpa using c4⟩⟩, ⟨_, _, v4⟩, ⟨_, _, v3⟩⟩

/-- The two variables of the program's, read as tokens. -/
theorem vars_read {H : Type} (enc : TypeId × Value → H) {W : World} {x0 x1 : Value} (h0 : W.var? Tryz.prog "loop.example/hatchway/impl.errNoEnd" = some #[x0]) (h1 : W.var? Tryz.prog "loop.example/hatchway/impl.errNoNumber" = some #[x1]) (i0 : IsIface x0) (i1 : IsIface x1) (sp : Nat → Bool) :
    DataW.TrodVars enc Tryz.prog W sp ["loop.example/hatchway/impl.errNoEnd", "loop.example/hatchway/impl.errNoNumber"] [tok enc x0, tok enc x1] [.cell 1 0, .cell 2 0] :=
  vars_read2 enc (g0 := 1) (g1 := 2) (by kernel_rfl) (by kernel_rfl) Tryz.underlying75 h0 i0 (by kernel_rfl) (by kernel_rfl) Tryz.underlying75 h1 i1 sp

/-- The heap that the variables' own initialisers leave meets the condition. -/
theorem doorPosBack (os : Os) (args : Array Value) : laidMetH Tryz.prog Rows.fnExactPosBackRow.laid ((World.doorLaid Tryz.prog 400 os).forCall (fun _ _ => 0) ⟨#[], args, []⟩).memory :=
  laidMetH_of_parts3 (fuel := 8) (laidMet_of_run' 8 (by kernel_rfl) (by kernel_rfl)) (by kernel_rfl) (by kernel_rfl)

theorem int_in {a : Int} (h : (Lit.int .i64 a).wf = true) : -9223372036854775808 ≤ a ∧ a ≤ 9223372036854775807 := by
  simp [Lit.wf, IntKind.min, IntKind.max, IntKind.signed, IntKind.bits] at h
  omega
set_option maxRecDepth 100000 in
theorem liftedPosBack (os : Os) (started : os.Started) (H : Type) (enc : TypeId × Value → H) :
    ReturnsInHanded {} Tryz.checked os 5 .any (fun w args => (Rows.fnExactPosBackSpec.pre enc Tryz.prog Tryz.f5 [] false w args ∧ laidMetH Tryz.prog Rows.fnExactPosBackRow.laid w) ∧ sizedMet enc Tryz.prog Tryz.f5 (OpenSpec.ofChange Rows.fnExactPosBackSpec) false w args)
      (Rows.fnExactPosBackSpec.post enc Tryz.prog Tryz.f5 false true false false) := by
  refine returnsInHanded_of_change_and (C := Tryz.checked) (X := fun w _ => laidMetH Tryz.prog Rows.fnExactPosBackRow.laid w) (fun _ _ _ hh h => h.of_heap hh) ownPosBack started (by kernel_rfl) Tryz.func5
    (ChangeSpec.witness_shaped (enc := enc) (C := Tryz.checked) (os := os) (X := fun w _ => laidMetH Tryz.prog Rows.fnExactPosBackRow.laid w) false (World.doorLaid Tryz.prog 400 os) #[.agg #[.slice none 0 0], .string ⟨#[]⟩, .int .i64 0] 8 rfl (World.shaped_of_RefB (by kernel_rfl) (by kernel_rfl)) (by kernel_rfl) (by kernel_rfl) (by kernel_rfl) (doorPosBack os _)) ?_
  intro W base args ds gs before hval0 hW _ _ hL _
  have hval : ∀ (j : Nat) t v, Tryz.f5.params[j]? = some t → args[j]? = some v → Value.okWide Tryz.prog W .any base t v := hval0
  have hW' := hW
  obtain ⟨p, q, hA0, hV0, rfl, _, _⟩ := hW
  have hA : DataW.TrodAll enc Tryz.prog W 0 (fun _ => true) true Tryz.f5.params.toList args.toList ds p := hA0
  have hV : DataW.TrodVars enc Tryz.prog W (fun _ => true) ["loop.example/hatchway/impl.errNoEnd", "loop.example/hatchway/impl.errNoNumber"] gs q := hV0
  rw [Tryz.params5] at hA hval
  obtain ⟨v0, vs0, d0, ds0, p0, q0, hargs, rfl, rfl, h0, r0⟩ := trodAll_cons hA
  obtain ⟨v1, vs1, d1, ds1, p1, q1, rfl, rfl, rfl, h1, r1⟩ := trodAll_cons r0
  obtain ⟨v2, vs2, d2, ds2, p2, q2, rfl, rfl, rfl, h2, r2⟩ := trodAll_cons r1
  obtain ⟨rfl, rfl, rfl⟩ := trodAll_nil r2
  obtain rfl : args = #[v0, v1, v2] := by cases args; simp_all
  have k0 := h0
  have lt0 : ∀ x ∈ p0, x.block < W.heap.size := by obtain ⟨m, hm⟩ := k0; exact DataW.trod_lt m _ _ _ hm
  obtain ⟨u0, es0, rfl, ht0, hl0, hw0⟩ := tab_in (hval 0 24 v0 rfl rfl) h0
  have k1 := h1
  have lt1 : ∀ x ∈ p1, x.block < W.heap.size := by obtain ⟨m, hm⟩ := k1; exact DataW.trod_lt m _ _ _ hm
  obtain ⟨s1, rfl, _, _, ws1⟩ := open_string Tryz.underlying9 (hval 1 9 v1 rfl rfl) h1
  have k2 := h2
  have lt2 : ∀ x ∈ p2, x.block < W.heap.size := by obtain ⟨m, hm⟩ := k2; exact DataW.trod_lt m _ _ _ hm
  obtain ⟨n2, rfl, _, _, wn2⟩ := open_int Tryz.underlying3 (hval 2 3 v2 rfl rfl) h2
  obtain ⟨hok, ⟨t4, a4, hv4⟩, ⟨t3, a3, hv3⟩⟩ := vars_of_laid hL
  obtain ⟨rfl, rfl⟩ := hV.unique (vars_read enc hv4 hv3 trivial trivial _)
  clear hA0 hV0 hval0
  have key := lawPosBack_any u0 es0 s1 n2 W hl0 ht0 hw0 ws1 (int_in wn2) hok
  refine key.mono fun e W' ⟨he, bel⟩ => ?_
  subst he
  exact ⟨_, rfl, _, _, _, [], _, [.cell 1 0, .cell 2 0], hW', trodAll_mk1 (shut_bool Tryz.underlying4 true), (trodAll_cons_mk (Below.trod laidOutPosBack (by kernel_rfl) (of_decide_eq_true (by kernel_rfl)) k0 bel lt0) (trodAll_cons_mk (Below.trod laidOutPosBack (by kernel_rfl) (of_decide_eq_true (by kernel_rfl)) k1 bel lt1) (trodAll_cons_mk (Below.trod laidOutPosBack (by kernel_rfl) (of_decide_eq_true (by kernel_rfl)) k2 bel lt2) trodAll_mk0))),
    vars_read enc (var_stays (g := 1) (by kernel_rfl) hv4 bel (Nat.le_refl _)) (var_stays (g := 2) (by kernel_rfl) hv3 bel (Nat.le_refl _)) trivial trivial _, bel.frame _, fun h => by cases h⟩

theorem fnExactPosBack_row : Rows.FnExactPosBackSaid :=
  OpenClaim.holds_of_wide 5 Tryz.f5 rfl rfl rfl rfl rfl rfl rfl ⟨rfl, rfl, rfl, rfl, rfl⟩ rfl rfl rfl rfl rfl (by kernel_rfl) Tryz.func5 (by kernel_rfl)
    (of_decide_eq_true (by kernel_rfl)) (by unfold Func.isWrapper; rw [if_neg (of_decide_eq_false (by kernel_rfl))]; exact ⟨rfl, rfl⟩)
    (fun os started H enc _ => liftedPosBack os started H enc)

theorem fnExactPosBack_holds : Rows.FnExactPosBackCardSaid :=
  Claim7.holds_tied_plain_at .later [] Rows.fnExactPosBackCard.laidKinds true Rows.fnExactPosBackCard.stood.harness true
    fnExactPosBack_row (fun _ h => by cases h) (by kernel_rfl) (fun _ h => by cases h) fnExactPosBack_row_tie rfl ⟨rfl, rfl⟩ (by kernel_rfl) rfl
    (fun f fn hf hfn => by
      obtain rfl : f = 5 := Option.some.inj ((show Tryz.prog.funcNamed "loop.example/hatchway/laws.FnExactPosBack" = some 5 by kernel_rfl).symm.trans hf) |>.symm
      obtain rfl : fn = Tryz.f5 := (Option.some.inj (Tryz.func5.symm.trans hfn)).symm
      exact ⟨by kernel_rfl, fun j t ht => by
        rw [Tryz.params5] at ht
        have hm : t ∈ [24, 9, 3] := by
          have := Array.mem_of_getElem? ht
          simpa using this
        have hall : ([24, 9, 3].all fun u => !Tryz.prog.wantsStandIn u) = true := by kernel_rfl
        exact (show Tryz.prog.wantsStandIn t = false by simpa using List.all_eq_true.1 hall t hm)⟩)
    (by kernel_rfl)

end Go.Proofs.YtgjhfmlncibpmaaGreatDoor
