/- RwrStream of the program answers as RwrStream of the specification, at every argument; the arguments stay as they were. The card: the variables that are read are tied to the program's text. No condition beside what the law sets aside and the card says. (Several texts, joined: SLin, SBak, SRwr, EqEnd, LawTab, ToEnd, ToTab, MarkTab, Fresh, Box, IRwr, SLine, SStr, IStrm, SStrL, IStrmA, ArgTab, LawRwrStream, OpenTab, HoldRwrStream.) -/
import Derived.Test.YtpilmldcmpbabaaGreatDoorGen
import Derived.Test.YtpilmldcmpbabaaGreatDoorLines
import Derived.Test.YtpilmldcmpbabaaGreatDoorSSays
import Derived.Test.YtpilmldcmpbabaaGreatDoorSPuts
import Derived.Test.YtpilmldcmpbabaaGreatDoorCell2
import Derived.Test.YtpilmldcmpbabaaGreatDoorBase
import Derived.Test.YtpilmldcmpbabaaGreatDoorSMap
import Derived.Test.YtpilmldcmpbabaaGreatDoorOwnEnds
import Derived.OwnWalk
import Derived.Deep.RegionHeld
import Derived.Test.YtpilmldcmpbabaaGreatDoorIGive
import Derived.Test.YtpilmldcmpbabaaGreatDoorIMapO
import Derived.Test.YtpilmldcmpbabaaGreatDoorISays
import Derived.Test.YtpilmldcmpbabaaGreatDoorILin
import Derived.Deep.RegionHeld3
import Derived.Deep.DeepCutAuto
import Derived.Test.YtpilmldcmpbabaaGreatDoorISeqS
import Derived.Test.YtpilmldcmpbabaaGreatDoorIBuild
import Derived.Test.YtpilmldcmpbabaaGreatDoorIStr
import Derived.RangeFuncWrites
import Derived.Deep.SlicePairs
import Derived.Lib.SmallJoins
import Derived.ChangeSame
import Derived.Test.YtpilmldcmpbabaaGreatDoorCards
import Derived.Test.YtpilmldcmpbabaaGreatDoorTie
import Derived.ProofKit
import Derived.JoinedOf
import Derived.JoinedAt
import Derived.RowKit3
import Derived.RowKitTokens
import Derived.LaidMore
import Derived.Stop.LaidErr
import Derived.Stop.Joined
import Derived.SevenTiedAt
import Derived.OpenShut
import Derived.ShutString
import Derived.ChangeOld
import Derived.Below
import Derived.Carry

/- LinOk of the specification, at every text. Condition: the text has at most 2^48 bytes. -/
namespace Go.Proofs.YtpilmldcmpbabaaGreatDoor
open Go.RowKit

set_option maxRecDepth 100000 in
set_option maxHeartbeats 800000 in
theorem specByte_any (c : UInt8) (w : World) :
    Calls Tryz.prog 36 #[.int .u8 (c.toNat : Int)] w fun e w' => e = .returned (.bool (byteB c)) ∧ w = w' := by
  by_cases h1 : 97 ≤ c.toNat <;> by_cases h2 : c.toNat ≤ 122 <;> by_cases h3 : 48 ≤ c.toNat <;> by_cases h4 : c.toNat ≤ 57 <;> by_cases h5 : c.toNat = 32 <;>
    first
    | (exfalso; omega)
    | (have h6 : ((c.toNat : Int) == 32) = decide (c.toNat = 32) := by (rw [Bool.eq_iff_iff]; simp; omega)
       simp only [h5, decide_true, decide_false] at h6
       go_enter Tryz.func36, Tryz.ntmps36
       go_wp2
       go_ret
       exact ⟨by (simp [byteB, h1, h2, h3, h4, h5] <;> omega), rfl⟩)

set_option maxRecDepth 100000 in
set_option maxHeartbeats 800000 in
theorem specLin_any (s : ByteArray) (w : World) (hs : s.size ≤ 281474976710656) :
    Calls Tryz.prog 16 #[.string s] w fun e w' => e = .returned (.bool (linB s.data.toList)) ∧ w = w' := by
  by_cases h16 : 16 < s.size
  · go_enter Tryz.func16, Tryz.ntmps16
    go_wp2_with fail
    go_ret
    exact ⟨ret_bool (by unfold linB; rw [len_list, decide_eq_false (by omega)]; rfl), rfl⟩
  · go_enter Tryz.func16, Tryz.ntmps16
    go_wp2_with fail
    go_loop [3] (fun i => ∃ k : Nat, k ≤ s.size ∧ i = .int .i64 k ∧ (∀ c ∈ s.data.toList.take k, byteB c = true)) (fun i => s.size - (intOf i).toNat)
    case atStart => exact ⟨0, Nat.zero_le _, rfl, by simp⟩
    case round =>
      obtain ⟨k, hk, rfl, hd⟩ := hrel
      have HD := Lib.hid hd
      clear hd
      by_cases hlt : k < s.size
      · have HT : Hid (s.data.toList.take (k + 1) = s.data.toList.take k ++ [s[k]]) := take_snoc s k hlt
        by_cases hb : byteB s[k] = true
        · have HB := Lib.hid hb
          go_wp2_with (go_at_call 36; refine (specByte_any _ _).mono ?_; rintro e w' ⟨rfl, rfl⟩)
          go_round
          case rel =>
            refine ⟨k + 1, by omega, by go_num, ?_⟩
            rw [HT.out]; intro c hc
            rcases List.mem_append.1 hc with hc | hc
            · exact HD.out c hc
            · simp at hc; subst hc; exact HB.out
          case measure => simp [intOf]; omega
        · have HB : Hid (linB s.data.toList = false) := by
            unfold linB
            have : s.data.toList.all byteB = false := by
              rw [List.all_eq_false]; exact ⟨s[k], mem_at s k hlt, hb⟩
            show (_ && _) = false
            rw [this]; simp
          go_wp2_with (go_at_call 36; refine (specByte_any _ _).mono ?_; rintro e w' ⟨rfl, rfl⟩)
          go_ret
          exact ⟨ret_bool HB.out.symm, rfl⟩
      · have HL : Hid (linB s.data.toList = true) := by
          have he : s.data.toList.take k = s.data.toList := List.take_of_length_le (by rw [len_list]; omega)
          show (_ && _) = true
          rw [len_list, decide_eq_true (by omega), ← he, List.all_eq_true.2 HD.out]; rfl
        go_wp2_with fail
        go_ret
        exact ⟨ret_bool HL.out.symm, rfl⟩

end Go.Proofs.YtpilmldcmpbabaaGreatDoor

/- BakLine of the specification: a line as it goes inside, by a table. Conditions: at most 2^22 ends; the text has at most 2^21 bytes. -/
namespace Go.Proofs.YtpilmldcmpbabaaGreatDoor
open Go.RowKit

/-- A line as it goes inside; nothing of what is no table or no line. -/
def backE (es : List (Int × Int)) (l : List UInt8) : List UInt8 := match boxE l with | none => l | some p => match endI es p with | none => l | some (a, q) => lpL a q
def bakE (es : List (Int × Int)) (l : List UInt8) : List UInt8 := if mapB es = true ∧ linB l = true then backE es l else []
theorem str_same (s : ByteArray) : (⟨s.data.toList.toArray⟩ : ByteArray) = s := Lib.mk_data s
theorem box1 {w w1 : World} {v : Value} {t : TypeId} (hb : Below (w.alloc (.cells #[v] t)).heap.size (w.alloc (.cells #[v] t)) w1) : w1.cell? ⟨w.heap.size, 0, none⟩ = some v := by
  rw [hb.cell (p := ⟨w.heap.size, 0, none⟩) (by simp), (cell_new w #[v] t 0).1]; rfl

end Go.Proofs.YtpilmldcmpbabaaGreatDoor

/- l3Line of the specification: a line as it goes outside, and the table then. Conditions: at most 2^22 ends; the text has at most 2^21 bytes. -/
namespace Go.Proofs.YtpilmldcmpbabaaGreatDoor
open Go.RowKit Go.Sort

def noneL : List UInt8 := [110, 111, 110, 101]
/-- A line as it goes outside, and the table then. -/
def lineE (es : List (Int × Int)) (l : List UInt8) : List (Int × Int) × List UInt8 := match saysE l with | none => (es, l) | some e => if (putE es e).2 = 0 then ((putE es e).1, noneL) else ((putE es e).1, lpL 50 (putE es e).2)

theorem specPut_new_or (ad : Addr) (cap : Nat) (es : List (Int × Int)) (a p : Int) (w : World) (hn : es.length ≤ 4194304) (ht : TabAt w (.slice (some ad) es.length cap) es) :
    Calls Tryz.prog 38 #[.agg #[.slice (some ad) es.length cap], .agg #[.int .i64 a, .int .i64 p]] w fun e w' => ∃ g c, e = .returned (.tuple #[.agg #[.slice (some g) (putE es (a, p)).1.length c], .int .i64 (putE es (a, p)).2]) ∧ ((g = ad ∧ c = cap ∧ (putE es (a, p)).1 = es) ∨ OwnTab w' w.heap.size (.slice (some g) (putE es (a, p)).1.length c) (putE es (a, p)).1) ∧ Below w.heap.size w w' := by
  by_cases h : 0 < portI es (a, p)
  · rw [show putE es (a, p) = (es, portI es (a, p)) from if_pos h]
    refine (specPut_has ad cap es a p w hn ht h).mono ?_
    rintro e w' ⟨rfl, hb⟩
    exact ⟨_, _, rfl, .inl ⟨rfl, rfl, rfl⟩, hb⟩
  · have h0 := portI_zero h
    by_cases h6 : es.length = 6
    · rw [show putE es (a, p) = (es, 0) from by unfold putE; rw [if_neg h, if_pos h6]]
      refine (specPut_full ad cap es a p w hn ht h0 h6).mono ?_
      rintro e w' ⟨rfl, hb⟩
      exact ⟨_, _, rfl, .inl ⟨rfl, rfl, rfl⟩, hb⟩
    · rw [show putE es (a, p) = (es ++ [(a, p)], 500 + (es.length : Int)) from by unfold putE; rw [if_neg h, if_neg h6]]
      refine (specPut_new ad cap es a p w hn ht h0 h6).mono ?_
      rintro e w' ⟨g, c, rfl, h1, hb⟩
      exact ⟨g, c, by simp, .inr (by simpa using h1), hb⟩

set_option maxRecDepth 100000 in
set_option maxHeartbeats 1600000 in
theorem specLine_any (B : Nat) (ad : Addr) (cap : Nat) (es : List (Int × Int)) (s : ByteArray) (w : World) (hn : es.length ≤ 4194304) (hs : s.size ≤ 2097152) (hB : B ≤ w.heap.size) (ho : OwnTab w B (.slice (some ad) es.length cap) es) :
    Calls Tryz.prog 17 #[.agg #[.slice (some ad) es.length cap], .string s] w fun e w' => ∃ g c, e = .returned (.tuple #[.agg #[.slice (some g) (lineE es s.data.toList).1.length c], .string ⟨(lineE es s.data.toList).2.toArray⟩]) ∧ OwnTab w' B (.slice (some g) (lineE es s.data.toList).1.length c) (lineE es s.data.toList).1 ∧ Below w.heap.size w w' := by
  have HO := Lib.hid ho
  clear ho
  rcases hb : saysE s.data.toList with _ | ⟨a, p⟩
  · have HB : Hid (∀ w, Calls Tryz.prog 37 #[.string s] w fun e w' => e = .returned (.tuple #[.agg #[.int .i64 0, .int .i64 0], .bool false]) ∧ Below w.heap.size w w') := fun w => by have := specSays_any s w hs; rw [hb] at this; exact this
    have HE : Hid (lineE es s.data.toList = (es, s.data.toList)) := by show lineE _ _ = _; unfold lineE; rw [hb]
    clear hb
    rw [HE.out, str_same]
    go_enter Tryz.func17, Tryz.ntmps17
    go_wp2_with fail
    (go_at_call 37; refine (HB.out _).mono ?_; rintro e w1 ⟨rfl, b1⟩; obtain ⟨cA, cB, b01, z1⟩ := cell_two b1; have t0 := (cA 0).1; have r0 := (cB 0).1; have g0 := (cB 0).2; simp at t0 r0; have B1 := Lib.hid b01; clear cA cB b1 b01)
    have t1 : (w1.alloc (.cells #[.int .i64 0, .int .i64 0] 63)).cell? ⟨w.heap.size, 0, none⟩ = some (.slice (some ad) es.length cap) := (by rw [cell_alloc_lt (by omega)]; exact t0)
    have r1 : (w1.alloc (.cells #[.int .i64 0, .int .i64 0] 63)).cell? ⟨w.heap.size + 1, 0, none⟩ = some (.slice none 0 0) := (by rw [cell_alloc_lt (by omega)]; exact r0)
    have g1 : (w1.alloc (.cells #[.int .i64 0, .int .i64 0] 63)).frozen? ⟨w.heap.size + 1, 0, none⟩ = false := (by rw [frozen_alloc_lt (by omega)]; exact g0)
    go_wp2_with fail
    refine bodyPost_ret (v := .tuple #[.agg #[.slice (some ad) es.length cap], .string s]) (by simp [results, Tryz.results17, go_sem, World.cell?_setCell_same _ _ _ r1]) rfl ?_
    exact ⟨_, _, rfl, HO.out.below ((B1.out.alloc B1.out.size _).setCell (by simp) _), (B1.out.alloc B1.out.size _).setCell (by simp) _⟩
  · obtain ⟨us, hus⟩ : ∃ us, us = (putE es (a, p)).1 := ⟨_, rfl⟩
    obtain ⟨q, hq⟩ : ∃ q, q = (putE es (a, p)).2 := ⟨_, rfl⟩
    have hP : Hid (∀ (w : World), TabAt w (.slice (some ad) es.length cap) es → Calls Tryz.prog 38 #[.agg #[.slice (some ad) es.length cap], .agg #[.int .i64 a, .int .i64 p]] w fun e w' => ∃ g c, e = .returned (.tuple #[.agg #[.slice (some g) us.length c], .int .i64 q]) ∧ ((g = ad ∧ c = cap ∧ us = es) ∨ OwnTab w' w.heap.size (.slice (some g) us.length c) us) ∧ Below w.heap.size w w') := fun w h => by rw [hus, hq]; exact specPut_new_or ad cap es a p w hn h
    have HB : Hid (∀ w, Calls Tryz.prog 37 #[.string s] w fun e w' => e = .returned (.tuple #[.agg #[.int .i64 a, .int .i64 p], .bool true]) ∧ Below w.heap.size w w') := fun w => by have := specSays_any s w hs; rw [hb] at this; exact this
    by_cases h0 : q = 0
    · have HE : Hid (lineE es s.data.toList = (us, noneL)) := by show lineE _ _ = _; unfold lineE; rw [hb]; simp only; rw [← hq, if_pos h0, hus]
      clear hb hus hq
      subst h0
      rw [HE.out]
      go_enter Tryz.func17, Tryz.ntmps17
      go_wp2_with fail
      (go_at_call 37; refine (HB.out _).mono ?_; rintro e w1 ⟨rfl, b1⟩; obtain ⟨cA, cB, b01, z1⟩ := cell_two b1; have t0 := (cA 0).1; have r0 := (cB 0).1; have g0 := (cB 0).2; simp at t0 r0; have B1 := Lib.hid b01; clear cA cB b1 b01)
      have t1 : (w1.alloc (.cells #[.int .i64 a, .int .i64 p] 63)).cell? ⟨w.heap.size, 0, none⟩ = some (.slice (some ad) es.length cap) := (by rw [cell_alloc_lt (by omega)]; exact t0)
      have r1 : (w1.alloc (.cells #[.int .i64 a, .int .i64 p] 63)).cell? ⟨w.heap.size + 1, 0, none⟩ = some (.slice none 0 0) := (by rw [cell_alloc_lt (by omega)]; exact r0)
      have g1 : (w1.alloc (.cells #[.int .i64 a, .int .i64 p] 63)).frozen? ⟨w.heap.size + 1, 0, none⟩ = false := (by rw [frozen_alloc_lt (by omega)]; exact g0)
      go_wp2_with fail
      (go_at_call 38; refine (hP.out _ (HO.out.tab.below (B1.out.alloc B1.out.size _))).mono ?_; rintro e w2 ⟨g2, c2, rfl, o2, b2⟩; have O2 := Lib.hid o2; have B2 := Lib.hid b2; clear o2 b2)
      have r2 : w2.cell? ⟨w.heap.size + 1, 0, none⟩ = some (.slice none 0 0) := (by rw [B2.out.cell (by simp; omega)]; exact r1)
      have g02 : w2.frozen? ⟨w.heap.size + 1, 0, none⟩ = false := (by rw [B2.out.frozen (by simp; omega)]; exact g1)
      have z2 := B2.out.size
      have z2 : w1.heap.size + 1 ≤ w2.heap.size := by simpa using z2
      have r3 : (w2.alloc (.cells #[.slice (some g2) us.length c2] 28)).cell? ⟨w.heap.size + 1, 0, none⟩ = some (.slice none 0 0) := (by rw [cell_alloc_lt (by show _ < _; omega)]; exact r2)
      have g03 : (w2.alloc (.cells #[.slice (some g2) us.length c2] 28)).frozen? ⟨w.heap.size + 1, 0, none⟩ = false := (by rw [frozen_alloc_lt (by show _ < _; omega)]; exact g02)
      go_wp2_with fail
      refine bodyPost_ret (v := .tuple #[.agg #[.slice (some g2) us.length c2], .string ⟨noneL.toArray⟩]) (by simp [results, Tryz.results17, go_sem, World.cell?_setCell_same _ _ _ r3, noneL]) rfl ?_
      have BF : Below w.heap.size w ((w2.alloc (.cells #[.slice (some g2) us.length c2] 28)).setCell ⟨w.heap.size + 1, 0, none⟩ (.slice (some g2) us.length c2)) := (((B1.out.alloc B1.out.size _).trans (B2.out.mono (by simp; omega))).alloc (by omega) _).setCell (by simp) _
      refine ⟨_, _, rfl, ?_, BF⟩
      rcases O2.out with ⟨rfl, rfl, rfl⟩ | o2
      · exact HO.out.below BF
      · exact OwnTab.mono (B := w1.heap.size) (ownsRow_setCell_below (OwnTab.below (OwnTab.mono o2 (by simp)) ((Below.refl _ _).alloc (Nat.le_refl _) _)) (by simp; omega) _) (by omega)
    · have HE : Hid (lineE es s.data.toList = (us, lpL 50 q)) := by show lineE _ _ = _; unfold lineE; rw [hb]; simp only; rw [← hq, if_neg h0, hus]
      clear hb hus hq
      rw [HE.out]
      go_enter Tryz.func17, Tryz.ntmps17
      go_wp2_with fail
      (go_at_call 37; refine (HB.out _).mono ?_; rintro e w1 ⟨rfl, b1⟩; obtain ⟨cA, cB, b01, z1⟩ := cell_two b1; have t0 := (cA 0).1; have r0 := (cB 0).1; have g0 := (cB 0).2; simp at t0 r0; have B1 := Lib.hid b01; clear cA cB b1 b01)
      have t1 : (w1.alloc (.cells #[.int .i64 a, .int .i64 p] 63)).cell? ⟨w.heap.size, 0, none⟩ = some (.slice (some ad) es.length cap) := (by rw [cell_alloc_lt (by omega)]; exact t0)
      have r1 : (w1.alloc (.cells #[.int .i64 a, .int .i64 p] 63)).cell? ⟨w.heap.size + 1, 0, none⟩ = some (.slice none 0 0) := (by rw [cell_alloc_lt (by omega)]; exact r0)
      have g1 : (w1.alloc (.cells #[.int .i64 a, .int .i64 p] 63)).frozen? ⟨w.heap.size + 1, 0, none⟩ = false := (by rw [frozen_alloc_lt (by omega)]; exact g0)
      go_wp2_with fail
      (go_at_call 38; refine (hP.out _ (HO.out.tab.below (B1.out.alloc B1.out.size _))).mono ?_; rintro e w2 ⟨g2, c2, rfl, o2, b2⟩; have O2 := Lib.hid o2; have B2 := Lib.hid b2; clear o2 b2)
      have r2 : w2.cell? ⟨w.heap.size + 1, 0, none⟩ = some (.slice none 0 0) := (by rw [B2.out.cell (by simp; omega)]; exact r1)
      have g02 : w2.frozen? ⟨w.heap.size + 1, 0, none⟩ = false := (by rw [B2.out.frozen (by simp; omega)]; exact g1)
      have z2 := B2.out.size
      have z2 : w1.heap.size + 1 ≤ w2.heap.size := by simpa using z2
      have r3 : (w2.alloc (.cells #[.slice (some g2) us.length c2] 28)).cell? ⟨w.heap.size + 1, 0, none⟩ = some (.slice none 0 0) := (by rw [cell_alloc_lt (by show _ < _; omega)]; exact r2)
      have g03 : (w2.alloc (.cells #[.slice (some g2) us.length c2] 28)).frozen? ⟨w.heap.size + 1, 0, none⟩ = false := (by rw [frozen_alloc_lt (by show _ < _; omega)]; exact g02)
      go_wp2_with fail
      have BF : Hid (Below w.heap.size w (w2.alloc (.cells #[.slice (some g2) us.length c2] 28))) := (((B1.out.alloc B1.out.size _).trans (B2.out.mono (by simp; omega))).alloc (by omega) _)
      have x3 : (w2.alloc (.cells #[.slice (some g2) us.length c2] 28)).cell? ⟨w2.heap.size, 0, none⟩ = some (.slice (some g2) us.length c2) := (cell_new _ _ _ 0).1
      have z3 : w2.heap.size + 1 ≤ (w2.alloc (.cells #[.slice (some g2) us.length c2] 28)).heap.size := by simp
      have O3 : Hid ((g2 = ad ∧ c2 = cap ∧ us = es) ∨ OwnTab (w2.alloc (.cells #[.slice (some g2) us.length c2] 28)) (w1.heap.size + 1) (.slice (some g2) us.length c2) us) := O2.out.imp id (fun o2 => OwnTab.below (OwnTab.mono o2 (by simp)) ((Below.refl _ _).alloc (Nat.le_refl _) _))
      obtain ⟨w3, hw3⟩ : ∃ w3, w3 = w2.alloc (.cells #[.slice (some g2) us.length c2] 28) := ⟨_, rfl⟩
      obtain ⟨k2, hk2⟩ : ∃ k2, k2 = w2.heap.size := ⟨_, rfl⟩
      rw [← hw3] at BF x3 z3 O3 r3 g03
      rw [← hk2] at x3 z3 z2
      rw [← hw3, ← hk2]
      clear hw3 hk2 r2 g02 O2 B2 B1 r0 t0 g0 t1 r1 g1
      go_region_with (go_at_call 39; refine (specLinPort_any 50 q _).mono ?_; rintro e w4 ⟨rfl, b4⟩; have B4 : Hid (Below w3.heap.size w3 w4) := ((Below.refl _ _).drew).trans b4; have x4 : w4.cell? ⟨k2, 0, none⟩ = some (.slice (some g2) us.length c2) := (by rw [B4.out.cell (by simp; omega)]; exact x3); have r4 : w4.cell? ⟨w.heap.size + 1, 0, none⟩ = some (.slice none 0 0) := (by rw [B4.out.cell (by simp; omega)]; exact r3); have g04 : w4.frozen? ⟨w.heap.size + 1, 0, none⟩ = false := (by rw [B4.out.frozen (by simp; omega)]; exact g03))
      all_goals
        go_wp2_with fail
        refine bodyPost_ret (v := .tuple #[.agg #[.slice (some g2) us.length c2], .string ⟨(lpL 50 q).toArray⟩]) (by simp [results, Tryz.results17, go_sem, World.cell?_setCell_same _ _ _ r4]) rfl ?_
        have BG : Below w.heap.size w (w4.setCell ⟨w.heap.size + 1, 0, none⟩ (.slice (some g2) us.length c2)) := (BF.out.trans (B4.out.mono BF.out.size)).setCell (by simp) _
        refine ⟨_, _, rfl, ?_, BG⟩
        rcases O3.out with ⟨rfl, rfl, rfl⟩ | o3
        · exact HO.out.below BG
        · exact OwnTab.mono (B := w1.heap.size) (ownsRow_setCell_below (OwnTab.below (OwnTab.mono o3 (by simp)) B4.out) (by simp; omega) _) (by omega)

end Go.Proofs.YtpilmldcmpbabaaGreatDoor

/- How the law compares two ends: of one end it says that it is the same. No condition. -/
namespace Go.Proofs.YtpilmldcmpbabaaGreatDoor
open Go.RowKit

set_option maxRecDepth 100000 in
set_option maxHeartbeats 800000 in
theorem eqEnd_same (a p : Int) (w : World) :
    Calls Tryz.prog 50 #[.agg #[.int .i64 a, .int .i64 p], .agg #[.int .i64 a, .int .i64 p]] w fun e w' => e = .returned (.bool true) ∧ Below w.heap.size w w' := by
  go_enter Tryz.func50, Tryz.ntmps50
  go_wp2
  go_ret
  exact ⟨rfl, ((Below.refl _ _).alloc (Nat.le_refl _) _).alloc (by simp) _⟩

end Go.Proofs.YtpilmldcmpbabaaGreatDoor

/- The laws' own words on tables of ends: their size, whether two are the same. Condition: at most 2^22 ends. -/
namespace Go.Proofs.YtpilmldcmpbabaaGreatDoor
open Go.RowKit Go.Sort

theorem lawSzS_any (ad : Option Addr) (n cap : Nat) (left : Int) (w : World) (hn : n ≤ 4611686018427387904) (h0 : 0 ≤ left) (h1 : left ≤ 4194304) :
    Calls Tryz.prog 14 #[.slice ad n cap, .int .i64 left] w fun e w' => e = .returned (.int .i64 (if left < (n : Int) then -1 else left - n)) ∧ w = w' := by
  by_cases h : left < (n : Int)
  all_goals
    go_enter Tryz.func14, Tryz.ntmps14
    go_wp2
    go_ret
    exact ⟨ret_int (by first | rfl | (rw [if_pos h]; rfl) | (rw [if_neg (by omega)]) | (rw [if_neg (by omega)]; rfl)), rfl⟩

theorem lawSz_any (v : Value) (es : List (Int × Int)) (left : Int) (w : World) (hn : es.length ≤ 4611686018427387904) (h0 : 0 ≤ left) (h1 : left ≤ 4194304) (ht : TabAt w v es) :
    Calls Tryz.prog 5 #[.agg #[v], .int .i64 left] w fun e w' => e = .returned (.int .i64 (if left < (es.length : Int) then -1 else left - es.length)) ∧ Below w.heap.size w w' := by
  obtain ⟨ad, cap, rfl, _, _⟩ := ht
  by_cases h : left < (es.length : Int)
  · have hc : ∀ w, Calls Tryz.prog 14 #[.slice ad es.length cap, .int .i64 left] w fun e w' => e = .returned (.int .i64 (-1)) ∧ w = w' := fun w => by
      have := lawSzS_any ad es.length cap left w hn h0 h1
      rwa [if_pos h] at this
    have HC := Lib.hid hc
    clear hc
    rw [if_pos h]
    clear h
    go_enter Tryz.func5, Tryz.ntmps5
    go_wp2_with (go_at_call 14; refine (HC.out _).mono ?_; rintro e w' ⟨rfl, rfl⟩)
    go_ret
    exact ⟨rfl, (Below.refl _ _).alloc (Nat.le_refl _) _⟩
  · obtain ⟨q, hq⟩ : ∃ q : Int, q = left - es.length := ⟨_, rfl⟩
    have hc : ∀ w, Calls Tryz.prog 14 #[.slice ad es.length cap, .int .i64 left] w fun e w' => e = .returned (.int .i64 q) ∧ w = w' := fun w => by
      have := lawSzS_any ad es.length cap left w hn h0 h1
      rwa [if_neg h, ← hq] at this
    have HC := Lib.hid hc
    have h0q : 0 ≤ q := by omega
    clear hc
    rw [if_neg h, ← hq]
    clear h hq
    go_enter Tryz.func5, Tryz.ntmps5
    go_wp2_with (go_at_call 14; refine (HC.out _).mono ?_; rintro e w' ⟨rfl, rfl⟩)
    go_ret
    exact ⟨rfl, (Below.refl _ _).alloc (Nat.le_refl _) _⟩

set_option maxRecDepth 100000 in
set_option maxHeartbeats 800000 in
theorem eqEnds_same (u v : Value) (es : List (Int × Int)) (w : World) (hn : es.length ≤ 4194304) (hu : TabAt w u es) (hv : TabAt w v es) :
    Calls Tryz.prog 25 #[u, v] w fun e w' => e = .returned (.bool true) ∧ Below w.heap.size w w' := by
  obtain ⟨ad, cap, rfl, hcap, hr⟩ := hu
  obtain ⟨bd, cbp, rfl, hcbp, hs⟩ := hv
  have HR := Lib.hid hr
  have HS := Lib.hid hs
  clear hr hs
  go_enter Tryz.func25, Tryz.ntmps25
  go_wp2_with fail
  go_loopw [5] (fun i wr => ∃ k : Nat, k ≤ es.length ∧ i = .int .i64 k ∧ Below w.heap.size w wr) (fun i _ => es.length - (intOf i).toNat)
  case atStart => exact ⟨0, Nat.zero_le _, rfl, Below.refl _ _⟩
  case round =>
    obtain ⟨k, hk, rfl, hb⟩ := hrel
    by_cases hlt : k < es.length
    · obtain ⟨g, rfl, hrow⟩ := HR.out (by omega)
      obtain ⟨g', rfl, hrow'⟩ := HS.out (by omega)
      obtain ⟨r0, r1⟩ := (hrow.below hb (hrow.lt (by omega))) k hlt
      obtain ⟨s0, s1⟩ := (hrow'.below hb (hrow'.lt (by omega))) k hlt
      obtain ⟨⟨a, p⟩, hap⟩ : ∃ x, x = es[k] := ⟨_, rfl⟩
      rw [← hap] at r0 r1 s0 s1
      simp only at r0 r1 s0 s1
      have K0 := cell_regrown r0
      have K1 := cell_regrown r1
      have K2 := cell_regrown s0
      have K3 := cell_regrown s1
      have cE : ∀ d os, Calls Tryz.prog 50 #[.agg #[.int .i64 a, .int .i64 p], .agg #[.int .i64 a, .int .i64 p]] (grow (redrawn wr d) os) fun e w'' => e = .returned (.bool true) ∧ ∃ q : Regrown, w'' = grow (redrawn wr q.d) q.os := fun d os => Calls.regrown_of (eqEnd_same a p _)
      have hk2 : (k : Int) ≤ (cap : Int) := by have := hcap.1; omega
      have hk3 : (k : Int) ≤ (cbp : Int) := by have := hcbp.1; omega
      clear hrow hrow' HR HS hap r0 r1 s0 s1
      go_wp2_with fail
      refine wp_region_quiet_below (by kernel_rfl) (by kernel_rfl) ?_
      repeat (first | go_big_quiet_skip | quiet_step (exact cE _ _))
      refine wpQuiet_nil ?_
      intro _ hw'
      obtain ⟨⟨dq, osq⟩, hw''⟩ := hw'
      subst hw''
      go_wp2
      go_roundw
      case rel => exact ⟨k + 1, by omega, by go_num, hb.trans ((below_regrown wr dq osq).mono hb.size)⟩
      case measure => simp [intOf]; omega
    · go_wp2
      go_ret
      exact ⟨rfl, hb⟩

theorem eqTab_same (u v : Value) (es : List (Int × Int)) (w : World) (hn : es.length ≤ 4194304) (hu : TabAt w u es) (hv : TabAt w v es) :
    Calls Tryz.prog 9 #[.agg #[u], .agg #[v]] w fun e w' => e = .returned (.bool true) ∧ Below w.heap.size w w' := by
  have HU := Lib.hid hu
  have HV := Lib.hid hv
  obtain ⟨ad, cap, rfl, _, _⟩ := hu
  obtain ⟨bd, cbp, rfl, _, _⟩ := hv
  go_enter Tryz.func9, Tryz.ntmps9
  go_wp2_with (go_at_call 25; refine (eqEnds_same _ _ es _ hn (HU.out.below (((Below.refl _ _).alloc (Nat.le_refl _) _).alloc (by simp) _)) (HV.out.below (((Below.refl _ _).alloc (Nat.le_refl _) _).alloc (by simp) _))).mono ?_; rintro e w1 ⟨rfl, b1⟩)
  go_ret
  exact ⟨rfl, (((Below.refl _ _).alloc (Nat.le_refl _) _).alloc (by simp) _).trans (b1.mono (by simp; omega))⟩

end Go.Proofs.YtpilmldcmpbabaaGreatDoor

/- An end as the law has it becomes an end of the program. No condition. -/
namespace Go.Proofs.YtpilmldcmpbabaaGreatDoor
open Go.RowKit

set_option maxRecDepth 100000 in
set_option maxHeartbeats 400000 in
theorem toEnd_any (a p : Int) (w : World) :
    Calls Tryz.prog 40 #[.agg #[.int .i64 a, .int .i64 p]] w fun e w' => e = .returned (.agg #[.int .i64 a, .int .i64 p]) ∧ Below w.heap.size w w' := by
  go_enter Tryz.func40, Tryz.ntmps40
  go_wp2
  refine bodyPost_ret (v := .agg #[.int .i64 a, .int .i64 p]) (by simp [results, Tryz.results40, go_sem]) rfl ⟨rfl, ?_⟩
  exact ((((Below.refl _ _).alloc (Nat.le_refl _) _).alloc (by simp) _).alloc (by simp; omega) _)

end Go.Proofs.YtpilmldcmpbabaaGreatDoor

/- The laws' own tables: how an argument becomes one of the program's, in new memory. Condition: at most 2^22 ends. -/
namespace Go.Proofs.YtpilmldcmpbabaaGreatDoor
open Go.RowKit Go.Sort

/-- m cells that may be written. -/
def Room (w : World) (g m : Nat) : Prop := ∀ i, i < m → (∃ u, w.cell? ⟨g, i, none⟩ = some u) ∧ w.frozen? ⟨g, i, none⟩ = false
theorem Room.below {w w' : World} {B g m : Nat} (h : Room w g m) (hb : Below B w w') (hg : g < B) : Room w' g m :=
  fun i hi => ⟨by rw [hb.cell (p := ⟨g, i, none⟩) hg]; exact (h i hi).1, (hb.frozen (p := ⟨g, i, none⟩) hg).trans (h i hi).2⟩
theorem Room.set {w : World} {g m j : Nat} (h : Room w g m) (hj : j < m) (u : Value) : Room (w.setCell ⟨g, j, none⟩ u) g m := by
  intro i hi
  refine ⟨?_, by rw [World.frozen?_setCell]; exact (h i hi).2⟩
  by_cases e : j = i
  · subst e
    obtain ⟨x, hx⟩ := (h j hj).1
    exact ⟨u, World.cell?_setCell_same _ _ _ hx⟩
  · obtain ⟨x, hx⟩ := (h i hi).1
    exact ⟨x, by rw [World.cell?_setCell_other _ _ _ u (by intro q; injection q with _ q2; exact e q2)]; exact hx⟩
theorem own_room {w : World} {B g n cap : Nat} {e : TypeId} {size : Nat} {xs : List Value} (h : w.ownsRow B e size (.slice (some ⟨g, 0, none⟩) n cap) n xs) : Room w g (n * size) ∧ B ≤ g ∧ g < w.heap.size := by
  rcases h.2 with ⟨h0, _⟩ | ⟨g', cap', cur, hv, hB, hg, h2, _, hs, ht⟩
  · cases h0
  · simp at hv
    obtain ⟨rfl, rfl⟩ := hv
    have hlt := (Array.getElem?_eq_some_iff.1 hg).1
    refine ⟨fun i hi => ⟨?_, by simp [World.frozen?, hg]⟩, hB, hlt⟩
    have hi' : i < cur.size := by rw [hs]; exact Nat.lt_of_lt_of_le hi (Nat.mul_le_mul_right _ h2)
    exact ⟨cur[i], by simp [World.cell?, hg, hi']⟩
/-- A table in cells that may be written. -/
def TabRoom (w : World) (B : Nat) (v : Value) (es : List (Int × Int)) : Prop := ∃ g cap, v = .slice (some ⟨g, 0, none⟩) es.length cap ∧ es.length ≤ cap ∧ B ≤ g ∧ g < w.heap.size ∧ EndsAt w g es ∧ Room w g (es.length * 2)
theorem TabRoom.tab {w : World} {B : Nat} {v : Value} {es : List (Int × Int)} (h : TabRoom w B v es) : TabAt w v es := by
  obtain ⟨g, cap, rfl, h1, _, _, h2, _⟩ := h
  exact ⟨_, cap, rfl, ⟨h1, by simp⟩, fun _ => ⟨g, rfl, h2⟩⟩

theorem addrs_ne {g i j : Nat} (h : i ≠ j) : (⟨g, i, none⟩ : Addr) ≠ ⟨g, j, none⟩ := by intro e; injection e with _ e2; exact h e2
/-- One end more is written. -/
theorem EndsAt.push {w : World} {g m k : Nat} {es fs : List (Int × Int)} {a p : Int} (hf : fs.length = k + 1) (ht : fs.take k = es.take k) (hk : k ≤ es.length) (hap : ∀ h : k < fs.length, (a, p) = fs[k]) (he : EndsAt w g (es.take k)) (hr : Room w g m) (hm : k * 2 + 1 < m) :
    EndsAt ((w.setCell ⟨g, k * 2, none⟩ (.int .i64 a)).setCell ⟨g, k * 2 + 1, none⟩ (.int .i64 p)) g fs := by
  intro i hi
  obtain ⟨x0, h0⟩ := (hr (k * 2) (by omega)).1
  obtain ⟨x1, h1⟩ := (hr (k * 2 + 1) (by omega)).1
  have h1' : (w.setCell ⟨g, k * 2, none⟩ (.int .i64 a)).cell? ⟨g, k * 2 + 1, none⟩ = some x1 := by rw [World.cell?_setCell_other _ _ _ _ (addrs_ne (by omega))]; exact h1
  by_cases e : i = k
  · subst e
    have hq := hap hi
    rw [← hq]
    refine ⟨?_, World.cell?_setCell_same _ _ _ h1'⟩
    rw [World.cell?_setCell_other _ _ _ _ (addrs_ne (by omega))]
    exact World.cell?_setCell_same _ _ _ h0
  · have hik : i < k := by omega
    have hg := he i (by simp; omega)
    have hq : fs[i] = (es.take k)[i]'(by simp; omega) := by
      have h2 : (fs.take k)[i]? = (es.take k)[i]? := by rw [ht]
      rw [List.getElem?_take_of_lt hik, List.getElem?_eq_getElem hi, List.getElem?_eq_getElem (by simp; omega)] at h2
      exact Option.some.inj h2
    rw [hq]
    refine ⟨?_, ?_⟩
    · rw [World.cell?_setCell_other _ _ _ _ (addrs_ne (by omega)), World.cell?_setCell_other _ _ _ _ (addrs_ne (by omega))]; exact hg.1
    · rw [World.cell?_setCell_other _ _ _ _ (addrs_ne (by omega)), World.cell?_setCell_other _ _ _ _ (addrs_ne (by omega))]; exact hg.2

set_option maxRecDepth 100000 in
set_option maxHeartbeats 800000 in
theorem toEnds_any (v : Value) (es : List (Int × Int)) (w : World) (hn : es.length ≤ 4194304) (ht : TabAt w v es) :
    Calls Tryz.prog 19 #[v] w fun e w' => ∃ u, e = .returned u ∧ TabRoom w' w.heap.size u es ∧ Below w.heap.size w w' := by
  obtain ⟨ad, cap, rfl, hcap, hr⟩ := ht
  obtain ⟨i0, hi, hz0, hz1, hz2⟩ := info_parts infoEnd
  have HR := Lib.hid hr
  clear hr
  go_enter Tryz.func19, Tryz.ntmps19
  go_wp2_with (at_make; refine wpList_make_full _ rfl (.tmp 6) (.tmp 6) 26 rfl w.heap.size 63 i0 (.agg #[.int .i64 0, .int .i64 0]) 2 (by rfl) hi hz0 hz1 .i64 .i64 (es.length : Int) (es.length : Int) es.length (by rfl) (by rfl) rfl rfl (by rw [hz2]; omega) (by unfold maxLen; omega) (Nat.le_refl _) ?_; intro w1 hown hgrow)
  have R1 : Hid (Room w1 w.heap.size (es.length * 2) ∧ w.heap.size ≤ w.heap.size ∧ w.heap.size < w1.heap.size) := own_room hown
  have B1 : Hid (Below w.heap.size w w1) := (Below.refl _ _).grown hgrow (Nat.le_refl _) (fun k hk => by cases hk)
  clear hown hgrow
  go_loopw [4] (fun i wr => ∃ k : Nat, k ≤ es.length ∧ i = .int .i64 k ∧ EndsAt wr w.heap.size (es.take k) ∧ Room wr w.heap.size (es.length * 2) ∧ Below w.heap.size w wr ∧ w.heap.size < wr.heap.size) (fun i _ => es.length - (intOf i).toNat)
  case atStart => exact ⟨0, Nat.zero_le _, rfl, fun i hi => by simp at hi, R1.out.1, B1.out, R1.out.2.2⟩
  case round =>
    obtain ⟨k, hk, rfl, he, hro, hb, hsz⟩ := hrel
    have HE := Lib.hid he
    have HO := Lib.hid hro
    clear he hro
    by_cases hlt : k < es.length
    · obtain ⟨g, rfl, hrow⟩ := HR.out (by omega)
      obtain ⟨r0, r1⟩ := (hrow.below hb (hrow.lt (by omega))) k hlt
      obtain ⟨⟨a, p⟩, hap⟩ : ∃ x, x = es[k] := ⟨_, rfl⟩
      rw [← hap] at r0 r1
      simp only at r0 r1
      have HA := Lib.hid hap
      have hk2 : (k : Int) ≤ (cap : Int) := by have := hcap.1; omega
      clear hrow hap
      go_wp2_with (go_at_call 40; refine (toEnd_any a p _).mono ?_; rintro e w2 ⟨rfl, b2⟩; have hr2 := HO.out.below b2 hsz; obtain ⟨x0, hx0⟩ := (hr2 (k * 2) (by omega)).1; have f0 := (hr2 (k * 2) (by omega)).2; obtain ⟨x1, hx1⟩ := (hr2 (k * 2 + 1) (by omega)).1; have f1 := (hr2 (k * 2 + 1) (by omega)).2)
      go_roundw
      case rel =>
        refine ⟨k + 1, by omega, by go_num, EndsAt.push (es := es) (m := es.length * 2) (by simp; omega) (by rw [List.take_take, Nat.min_eq_left (by omega)]) hk (fun h => by rw [HA.out]; simp) (HE.out.below b2 hsz) hr2 (by omega), (hr2.set (by omega) _).set (by omega) _, ?_, ?_⟩
        · exact ((hb.trans (b2.mono (by omega))).setCell (by simp) _).setCell (by simp) _
        · have := b2.size; simp; omega
      case measure => simp [intOf]; omega
    · have hkn : k = es.length := by omega
      subst hkn
      go_wp2
      go_ret
      refine ⟨_, rfl, ⟨w.heap.size, es.length, rfl, Nat.le_refl _, Nat.le_refl _, hsz, by simpa using HE.out, HO.out⟩, hb⟩

theorem TabRoom.setCell {w : World} {B : Nat} {v : Value} {es : List (Int × Int)} (h : TabRoom w B v es) {a : Addr} (ha : a.block < B) (u : Value) : TabRoom (w.setCell a u) B v es := by
  obtain ⟨g, cap, rfl, h1, h2, h3, h4, h5⟩ := h
  have hc : ∀ i, (w.setCell a u).cell? ⟨g, i, none⟩ = w.cell? ⟨g, i, none⟩ := fun i => World.cell?_setCell_other _ _ _ _ (by intro e; subst e; simp at ha; omega)
  refine ⟨g, cap, rfl, h1, h2, by simp; omega, fun i hi => ?_, fun i hi => ?_⟩
  · rw [hc, hc]; exact h4 i hi
  · rw [hc, World.frozen?_setCell]; exact h5 i hi
theorem TabRoom.mono {w : World} {B B' : Nat} {v : Value} {es : List (Int × Int)} (h : TabRoom w B v es) (hB : B' ≤ B) : TabRoom w B' v es := by
  obtain ⟨g, cap, rfl, h1, h2, h3, h4, h5⟩ := h
  exact ⟨g, cap, rfl, h1, by omega, h3, h4, h5⟩
theorem TabRoom.below {w w' : World} {B : Nat} {v : Value} {es : List (Int × Int)} (h : TabRoom w B v es) (hb : Below w.heap.size w w') : TabRoom w' B v es := by
  obtain ⟨g, cap, rfl, h1, h2, h3, h4, h5⟩ := h
  exact ⟨g, cap, rfl, h1, h2, Nat.lt_of_lt_of_le h3 hb.size, h4.below hb h3, h5.below hb h3⟩

set_option maxRecDepth 100000 in
set_option maxHeartbeats 800000 in
theorem toTab_any (v : Value) (es : List (Int × Int)) (w : World) (hn : es.length ≤ 4194304) (ht : TabAt w v es) :
    Calls Tryz.prog 7 #[.agg #[v]] w fun e w' => ∃ u, e = .returned (.agg #[u]) ∧ TabRoom w' w.heap.size u es ∧ Below w.heap.size w w' := by
  have HT := Lib.hid ht
  obtain ⟨ad, cap, rfl, hcap, hr⟩ := ht
  clear hr
  go_enter Tryz.func7, Tryz.ntmps7
  go_wp2_with (go_at_call 19; refine (toEnds_any _ es _ hn (HT.out.below ((((Below.refl _ _).alloc (Nat.le_refl _) _).alloc (by simp) _).alloc (by simp; omega) _))).mono ?_; rintro e w1 ⟨u, rfl, hu, b1⟩; obtain ⟨cA, cB, cC, b01, z1⟩ := cell_three b1; have t0 := (cA 0).1; have r0 := (cB 0).1; have g0 := (cB 0).2; have o0 := (cC 0).1; have p0 := (cC 0).2; simp at t0 r0 o0; obtain ⟨gu, cu, rfl, hu'⟩ : ∃ g c, u = .slice (some ⟨g, 0, none⟩) es.length c ∧ TabRoom w1 (w.heap.size + 3) u es := (by obtain ⟨g, c, q, hh⟩ := hu; exact ⟨g, c, q, TabRoom.mono ⟨g, c, q, hh⟩ (by simp)⟩); have HU := Lib.hid hu'; clear hu hu' cA cB cC)
  have q0 : (w1.setCell ⟨w.heap.size + 1 + 1, 0, none⟩ (.slice (some ⟨gu, 0, none⟩) es.length cu)).cell? ⟨w.heap.size + 1, 0, none⟩ = some (.slice none 0 0) := by
    rw [World.cell?_setCell_far _ ⟨w.heap.size + 1 + 1, 0, none⟩ ⟨w.heap.size + 1, 0, none⟩ _ (by show w.heap.size + 1 + 1 ≠ w.heap.size + 1; omega)]; exact r0
  refine bodyPost_ret (v := .agg #[.slice (some ⟨gu, 0, none⟩) es.length cu]) (by simp [results, Tryz.results7, go_sem, World.cell?_setCell_same _ _ _ q0]) rfl ⟨_, rfl, ?_, ?_⟩
  · exact ((HU.out.setCell (a := ⟨w.heap.size + 1 + 1, 0, none⟩) (by simp) _).setCell (a := ⟨w.heap.size + 1, 0, none⟩) (by simp) _).mono (by omega)
  · exact (b01.setCell (by simp; omega) _).setCell (by simp) _

end Go.Proofs.YtpilmldcmpbabaaGreatDoor

/- How the law marks a table's ends and finds the marks again. Conditions: the marks from 1 on, at most 10^15. -/
namespace Go.Proofs.YtpilmldcmpbabaaGreatDoor
open Go.RowKit Go.Sort

theorem grown_set {w w' : World} {b : Nat} (h : w.grownBy w' (some b)) (i : Nat) (v : Value) : w.grownBy (w'.setCell ⟨b, i, none⟩ v) (some b) :=
  ⟨h.os, h.tape, h.output, by simpa using h.size, fun k hk hne => by rw [Below.heap_setCell _ _ _ _ (fun e => hne (by rw [e]))]; exact h.block k hk hne⟩
theorem grown_below {w w' : World} {row : Option Nat} (h : Below w.heap.size w w') : w.grownBy w' row :=
  ⟨h.os, h.tape, h.output, h.size, fun k hk _ => h.block k hk⟩
/-- n marks of ends, from k on. -/
def marksE (k n : Nat) : List (Int × Int) := (List.range n).map fun i => (((k + 2 * i : Nat) : Int), ((k + 2 * i + 1 : Nat) : Int))
theorem marksE_len (k n : Nat) : (marksE k n).length = n := by simp [marksE]
theorem marksE_at (k n i : Nat) (h : i < (marksE k n).length) : (marksE k n)[i] = (((k + 2 * i : Nat) : Int), ((k + 2 * i + 1 : Nat) : Int)) := by simp [marksE]

set_option maxRecDepth 100000 in
set_option maxHeartbeats 800000 in
theorem markEnds_any (k n g cap : Nat) (w : World) (hn : k + 2 * n ≤ 1000000000000000) (hc : n ≤ cap) (hr : Room w g (n * 2)) :
    Calls Tryz.prog 26 #[.slice (some ⟨g, 0, none⟩) n cap, .int .i64 k] w fun e w' => e = .returned (.int .i64 (k + 2 * n : Nat)) ∧ EndsAt w' g (marksE k n) ∧ Room w' g (n * 2) ∧ w.grownBy w' (some g) := by
  have HR := Lib.hid hr
  clear hr
  go_enter Tryz.func26, Tryz.ntmps26
  go_wp2
  go_loopw [1, 5] (fun m i wr => ∃ j : Nat, j ≤ n ∧ i = .int .i64 j ∧ m = .int .i64 (k + 2 * j : Nat) ∧ EndsAt wr g ((marksE k n).take j) ∧ Room wr g (n * 2) ∧ w.grownBy wr (some g)) (fun _ i _ => n - (intOf i).toNat)
  case atStart => exact ⟨0, Nat.zero_le _, rfl, rfl, fun i hi => by simp at hi, HR.out, World.grownBy.refl _ _⟩
  case round =>
    obtain ⟨j, hj, rfl, rfl, he, hro, hb⟩ := hrel
    have HE := Lib.hid he
    have HO := Lib.hid hro
    have HB := Lib.hid hb
    clear he hb
    by_cases hlt : j < n
    · obtain ⟨x0, hx0⟩ := (hro (j * 2) (by omega)).1
      have f0 := (hro (j * 2) (by omega)).2
      obtain ⟨x1, hx1⟩ := (hro (j * 2 + 1) (by omega)).1
      have f1 := (hro (j * 2 + 1) (by omega)).2
      have hk2 : (j : Int) ≤ (cap : Int) := by omega
      clear hro
      go_wp2
      go_roundw
      case rel =>
        refine ⟨j + 1, by omega, by go_num, by rw [show (k : Int) + 2 * (j : Int) + 1 + 1 = ((k + 2 * (j + 1) : Nat) : Int) from by omega], EndsAt.push (es := marksE k n) (m := n * 2) (by simp [marksE_len]; omega) (by rw [List.take_take, Nat.min_eq_left (by omega)]) (by rw [marksE_len]; omega) (fun h => by rw [List.getElem_take, marksE_at]; simp) HE.out HO.out (by omega), (HO.out.set (by omega) _).set (by omega) _, grown_set (grown_set HB.out _ _) _ _⟩
      case measure => simp [intOf]; omega
    · have hjn : j = n := by omega
      subst hjn
      go_wp2
      go_ret
      refine ⟨rfl, ?_, HO.out, HB.out⟩
      have := HE.out
      rwa [List.take_of_length_le (by rw [marksE_len]; omega)] at this

set_option maxRecDepth 100000 in
set_option maxHeartbeats 800000 in
theorem heldEnds_any (k n g cap : Nat) (w : World) (hn : k + 2 * n ≤ 1000000000000000) (hc : n ≤ cap) (hr : EndsAt w g (marksE k n)) :
    Calls Tryz.prog 27 #[.slice (some ⟨g, 0, none⟩) n cap, .int .i64 k] w fun e w' => e = .returned (.int .i64 (k + 2 * n : Nat)) ∧ Below w.heap.size w w' := by
  have HR := Lib.hid hr
  clear hr
  go_enter Tryz.func27, Tryz.ntmps27
  go_wp2
  go_loopw [1, 5] (fun m i wr => ∃ j : Nat, j ≤ n ∧ i = .int .i64 j ∧ m = .int .i64 (k + 2 * j : Nat) ∧ Below w.heap.size w wr) (fun _ i _ => n - (intOf i).toNat)
  case atStart => exact ⟨0, Nat.zero_le _, rfl, rfl, Below.refl _ _⟩
  case round =>
    obtain ⟨j, hj, rfl, rfl, hb⟩ := hrel
    have HB := Lib.hid hb
    by_cases hlt : j < n
    · have hrow := (HR.out.below hb (HR.out.lt (by rw [marksE_len]; omega))) j (by rw [marksE_len]; omega)
      rw [marksE_at] at hrow
      obtain ⟨r0, r1⟩ := hrow
      simp only at r0 r1
      have hk2 : (j : Int) ≤ (cap : Int) := by omega
      clear hb
      go_wp2
      go_roundw
      case rel => exact ⟨j + 1, by omega, by go_num, by rw [show (k : Int) + 2 * (j : Int) + 1 + 1 = ((k + 2 * (j + 1) : Nat) : Int) from by omega], HB.out⟩
      case measure => simp [intOf]; omega
    · have hjn : j = n := by omega
      subst hjn
      go_wp2
      go_ret
      exact ⟨rfl, HB.out⟩

/-- A table in cells that may be written is marked. -/
theorem markTab_room (k B : Nat) (v : Value) (es : List (Int × Int)) (w : World) (hn : k + 2 * es.length ≤ 1000000000000000) (ht : TabRoom w B v es) :
    Calls Tryz.prog 10 #[.agg #[v], .int .i64 k] w fun e w' => e = .returned (.int .i64 (k + 2 * es.length : Nat)) ∧ TabRoom w' B v (marksE k es.length) ∧ w.grownBy w' v.ownBlock := by
  obtain ⟨g, cap, rfl, hc, hB, hg, he, hr⟩ := ht
  have HR : Hid (∀ o, Room (w.alloc o) g (es.length * 2) ∧ g < (w.alloc o).heap.size) := fun o => ⟨hr.below ((Below.refl _ _).alloc (Nat.le_refl _) o) hg, by simp; omega⟩
  have HC : ∀ w, Room w g (es.length * 2) → g < w.heap.size → Calls Tryz.prog 26 #[.slice (some ⟨g, 0, none⟩) es.length cap, .int .i64 k] w fun e w' => e = .returned (.int .i64 (k + 2 * es.length : Nat)) ∧ EndsAt w' g (marksE k es.length) ∧ Room w' g (es.length * 2) ∧ w.grownBy w' (some g) := fun w h1 _ => markEnds_any k es.length g cap w hn hc h1
  have HCh := Lib.hid HC
  obtain ⟨q, hq⟩ : ∃ q : Int, q = ((k + 2 * es.length : Nat) : Int) := ⟨_, rfl⟩
  rw [← hq] at HCh ⊢
  clear HC hr he hq
  go_enter Tryz.func10, Tryz.ntmps10
  go_wp2_with (go_at_call 26; refine (HCh.out _ (HR.out _).1 (HR.out _).2).mono ?_; rintro e w1 ⟨rfl, h1, h2, h3⟩)
  go_ret
  refine ⟨rfl, ⟨g, cap, by rw [marksE_len], by rw [marksE_len]; exact hc, hB, ?_, h1, by rw [marksE_len]; exact h2⟩, ?_⟩
  · have := h3.size; simp at this; omega
  · exact (World.grownBy_alloc w _ _).trans h3

theorem heldTab_room (k B : Nat) (v : Value) (n : Nat) (w : World) (hn : k + 2 * n ≤ 1000000000000000) (ht : TabRoom w B v (marksE k n)) :
    Calls Tryz.prog 11 #[.agg #[v], .int .i64 k] w fun e w' => e = .returned (.int .i64 (k + 2 * n : Nat)) ∧ Below w.heap.size w w' := by
  obtain ⟨g, cap, rfl, hc, hB, hg, he, hr⟩ := ht
  rw [marksE_len] at hc ⊢
  have HR : Hid (∀ o, EndsAt (w.alloc o) g (marksE k n)) := fun o => he.below ((Below.refl _ _).alloc (Nat.le_refl _) o) hg
  have HC : ∀ w, EndsAt w g (marksE k n) → Calls Tryz.prog 27 #[.slice (some ⟨g, 0, none⟩) n cap, .int .i64 k] w fun e w' => e = .returned (.int .i64 (k + 2 * n : Nat)) ∧ Below w.heap.size w w' := fun w h1 => heldEnds_any k n g cap w hn hc h1
  have HCh := Lib.hid HC
  obtain ⟨q, hq⟩ : ∃ q : Int, q = ((k + 2 * n : Nat) : Int) := ⟨_, rfl⟩
  have hq0 : 0 ≤ q := by omega
  rw [← hq] at HCh ⊢
  clear HC hr he hq
  go_enter Tryz.func11, Tryz.ntmps11
  go_wp2_with (go_at_call 27; refine (HCh.out _ (HR.out _)).mono ?_; rintro e w1 ⟨rfl, h1⟩)
  go_ret
  exact ⟨rfl, ((Below.refl _ _).alloc (Nat.le_refl _) _).trans (h1.mono (by simp))⟩

end Go.Proofs.YtpilmldcmpbabaaGreatDoor

/- An answer's table: in memory of its own, empty or in cells that may be written; how the law marks it and finds the marks again. -/
namespace Go.Proofs.YtpilmldcmpbabaaGreatDoor
open Go.RowKit Go.Sort

/-- A table that an answer holds: nothing at all, or a table in cells that may be written, behind B. -/
def FreshTab (w : World) (B : Nat) (v : Value) (us : List (Int × Int)) : Prop := (us = [] ∧ ∃ a cap, v = .slice a 0 cap ∧ (a = none → cap = 0)) ∨ TabRoom w B v us
theorem FreshTab.tab {w : World} {B : Nat} {v : Value} {us : List (Int × Int)} (h : FreshTab w B v us) : TabAt w v us := by
  rcases h with ⟨rfl, a, cap, rfl, hc⟩ | h
  · exact ⟨a, cap, rfl, ⟨by simp, hc⟩, fun h => by simp at h⟩
  · exact h.tab
theorem FreshTab.below {w w' : World} {B C : Nat} {v : Value} {us : List (Int × Int)} (h : FreshTab w B v us) (hC : w.heap.size ≤ C) (hb : Below C w w') : FreshTab w' B v us := by
  rcases h with h | ⟨g, cap, rfl, h1, h2, h3, h4, h5⟩
  · exact .inl h
  · exact .inr ⟨g, cap, rfl, h1, h2, Nat.lt_of_lt_of_le h3 hb.size, h4.below hb (by omega), h5.below hb (by omega)⟩
/-- A table that lies elsewhere stays, when one row is marked. -/
theorem EndsAt.grown {w w' : World} {g : Nat} {es : List (Int × Int)} {row : Option Nat} (h : EndsAt w g es) (hg : w.grownBy w' row) (hne : some g ≠ row) : EndsAt w' g es := by
  intro i hi
  have hlt := World.block_lt_of_cell? w _ (h i hi).1
  have hk := hg.block g hlt hne
  have c := h i hi
  simp only [World.cell?] at c ⊢
  rw [hk]; exact c

theorem markEmpty (a : Option Addr) (cap : Nat) (k : Nat) (w : World) :
    Calls Tryz.prog 26 #[.slice a 0 cap, .int .i64 k] w fun e w' => e = .returned (.int .i64 k) ∧ w = w' := by
  go_enter Tryz.func26, Tryz.ntmps26
  go_wp2
  go_loopw [1, 5] (fun m i wr => m = .int .i64 k ∧ i = .int .i64 0 ∧ w = wr) (fun _ _ _ => 0)
  case atStart => exact ⟨rfl, rfl, rfl⟩
  case round =>
    obtain ⟨rfl, rfl, rfl⟩ := hrel
    go_wp2
    go_ret
    exact ⟨rfl, rfl⟩
theorem heldEmpty (a : Option Addr) (cap : Nat) (k : Nat) (w : World) :
    Calls Tryz.prog 27 #[.slice a 0 cap, .int .i64 k] w fun e w' => e = .returned (.int .i64 k) ∧ w = w' := by
  go_enter Tryz.func27, Tryz.ntmps27
  go_wp2
  go_loopw [1, 5] (fun m i wr => m = .int .i64 k ∧ i = .int .i64 0 ∧ w = wr) (fun _ _ _ => 0)
  case atStart => exact ⟨rfl, rfl, rfl⟩
  case round =>
    obtain ⟨rfl, rfl, rfl⟩ := hrel
    go_wp2
    go_ret
    exact ⟨rfl, rfl⟩

theorem grown_none {w w' : World} {row : Option Nat} (h : w.grownBy w' none) : w.grownBy w' row :=
  ⟨h.os, h.tape, h.output, h.size, fun k hk _ => h.block k hk (by simp)⟩

/-- An answer's table is marked. -/
theorem markFresh (k B : Nat) (v : Value) (us : List (Int × Int)) (w : World) (hn : k + 2 * us.length ≤ 1000000000000000) (ht : FreshTab w B v us) :
    Calls Tryz.prog 10 #[.agg #[v], .int .i64 k] w fun e w' => e = .returned (.int .i64 (k + 2 * us.length : Nat)) ∧ FreshTab w' B v (marksE k us.length) ∧ w.grownBy w' v.ownBlock ∧ w.heap.size ≤ w'.heap.size := by
  rcases ht with ⟨rfl, a, cap, rfl, hc⟩ | ht
  · have HC : Hid (∀ w, Calls Tryz.prog 26 #[.slice a 0 cap, .int .i64 k] w fun e w' => e = .returned (.int .i64 k) ∧ w = w') := fun w => markEmpty a cap k w
    go_enter Tryz.func10, Tryz.ntmps10
    go_wp2_with (go_at_call 26; refine (HC.out _).mono ?_; rintro e w1 ⟨rfl, rfl⟩)
    go_ret
    exact ⟨rfl, .inl ⟨rfl, a, cap, rfl, hc⟩, grown_none (World.grownBy_alloc w _ _), by simp⟩
  · refine (markTab_room k B v us w hn ht).mono ?_
    rintro e w' ⟨rfl, h1, h2⟩
    exact ⟨rfl, .inr h1, h2, h2.size⟩

/-- What is marked is found again. -/
theorem heldFresh (k B : Nat) (v : Value) (n : Nat) (w : World) (hn : k + 2 * n ≤ 1000000000000000) (ht : FreshTab w B v (marksE k n)) :
    Calls Tryz.prog 11 #[.agg #[v], .int .i64 k] w fun e w' => e = .returned (.int .i64 (k + 2 * n : Nat)) ∧ Below w.heap.size w w' := by
  rcases ht with ⟨h0, a, cap, rfl, hc⟩ | ht
  · have h00 : n = 0 := by have := congrArg List.length h0; simpa [marksE_len] using this
    subst h00
    have hk2 : (0 : Int) ≤ (k : Int) := by omega
    have HC : Hid (∀ w, Calls Tryz.prog 27 #[.slice a 0 cap, .int .i64 k] w fun e w' => e = .returned (.int .i64 k) ∧ w = w') := fun w => heldEmpty a cap k w
    go_enter Tryz.func11, Tryz.ntmps11
    go_wp2_with (go_at_call 27; refine (HC.out _).mono ?_; rintro e w1 ⟨rfl, rfl⟩)
    go_ret
    exact ⟨rfl, (Below.refl _ _).alloc (Nat.le_refl _) _⟩
  · exact heldTab_room k B v n w hn ht

end Go.Proofs.YtpilmldcmpbabaaGreatDoor

/- Boxes and tables through calls, marks and stores: what stays. No condition. -/
namespace Go.Proofs.YtpilmldcmpbabaaGreatDoor
open Go.RowKit Go.Sort

/-- A box of one cell that a call finds new. -/
theorem fresh1 {W w : World} {x : Value} {t : TypeId} (h : Below (W.alloc (.cells #[x] t)).heap.size (W.alloc (.cells #[x] t)) w) : w.cell? ⟨W.heap.size, 0, none⟩ = some x ∧ w.frozen? ⟨W.heap.size, 0, none⟩ = false :=
  ⟨by rw [h.cell (by simp)]; simp, by rw [h.frozen (by simp)]; exact (cell_new W _ _ 0).2⟩
theorem fresh1d {W w : World} {x : Value} {t : TypeId} (h : Below (W.alloc (.cells #[x] t)).drew.heap.size (W.alloc (.cells #[x] t)).drew w) : w.cell? ⟨W.heap.size, 0, none⟩ = some x ∧ w.frozen? ⟨W.heap.size, 0, none⟩ = false :=
  fresh1 (((Below.refl _ _).drew).trans h)
theorem box_below {w w' : World} {b i : Nat} {v : Value} (h : w.cell? ⟨b, i, none⟩ = some v) (hb : Below w.heap.size w w') : w'.cell? ⟨b, i, none⟩ = some v := by
  rw [hb.cell (p := ⟨b, i, none⟩) (World.block_lt_of_cell? w _ h)]; exact h
theorem box_frozen {w w' : World} {b i : Nat} {v : Value} (h : w.cell? ⟨b, i, none⟩ = some v) (hf : w.frozen? ⟨b, i, none⟩ = false) (hb : Below w.heap.size w w') : w'.frozen? ⟨b, i, none⟩ = false := by
  rw [hb.frozen (p := ⟨b, i, none⟩) (World.block_lt_of_cell? w _ h)]; exact hf
theorem cell_grown {w w' : World} {b i : Nat} {v : Value} {row : Option Nat} (h : w.cell? ⟨b, i, none⟩ = some v) (hg : w.grownBy w' row) (hne : some b ≠ row) : w'.cell? ⟨b, i, none⟩ = some v := by
  have hk := hg.block b (World.block_lt_of_cell? w _ h) hne
  simp only [World.cell?] at h ⊢
  rw [hk]; exact h
theorem OwnTab.fresh {w : World} {B : Nat} {v : Value} {es : List (Int × Int)} (h : OwnTab w B v es) : FreshTab w B v es := by
  rcases h.2 with ⟨rfl, h0⟩ | ⟨g, cap, cur, rfl, hB, hg, h2, _, hs, ht⟩
  · exact .inl ⟨List.eq_nil_of_length_eq_zero h0, none, 0, rfl, fun _ => rfl⟩
  · have hlt := (Array.getElem?_eq_some_iff.1 hg).1
    have hh := h.tab
    by_cases he : es = []
    · subst he
      exact .inl ⟨rfl, _, cap, rfl, fun e => by cases e⟩
    · obtain ⟨a, c, e1, _, hrow⟩ := hh
      obtain ⟨g', e2, hat⟩ := hrow (List.length_pos_iff.2 he)
      simp at e1
      obtain ⟨rfl, rfl⟩ := e1
      simp at e2
      subst e2
      refine .inr ⟨g, cap, rfl, h2, hB, hlt, hat, fun i hi => ⟨?_, by simp [World.frozen?, hg]⟩⟩
      have hi' : i < cur.size := by rw [hs]; exact Nat.lt_of_lt_of_le hi (Nat.mul_le_mul_right _ h2)
      exact ⟨cur[i], by simp [World.cell?, hg, hi']⟩
theorem FreshTab.nil (w : World) (B : Nat) : FreshTab w B (.slice none 0 0) [] := .inl ⟨rfl, none, 0, rfl, fun _ => rfl⟩
theorem FreshTab.form {w : World} {B : Nat} {v : Value} {us : List (Int × Int)} (h : FreshTab w B v us) : ∃ a c, v = .slice a us.length c := by
  rcases h with ⟨rfl, a, cap, rfl, _⟩ | ⟨g, cap, rfl, _⟩
  · exact ⟨a, cap, rfl⟩
  · exact ⟨_, cap, rfl⟩
theorem FreshTab.mono {w : World} {B B' : Nat} {v : Value} {us : List (Int × Int)} (h : FreshTab w B v us) (hB : B' ≤ B) : FreshTab w B' v us := by
  rcases h with h | h
  · exact .inl h
  · exact .inr (h.mono hB)
theorem FreshTab.setCell {w : World} {B : Nat} {v : Value} {us : List (Int × Int)} (h : FreshTab w B v us) {a : Addr} (ha : a.block < B) (u : Value) : FreshTab (w.setCell a u) B v us := by
  rcases h with h | h
  · exact .inl h
  · exact .inr (h.setCell ha u)
theorem FreshTab.later {w w' : World} {B : Nat} {v : Value} {us : List (Int × Int)} (h : FreshTab w B v us) (hb : Below w.heap.size w w') : FreshTab w' B v us := h.below (Nat.le_refl _) hb
/-- What a table's own block is: none, or one behind B. -/
theorem FreshTab.block {w : World} {B : Nat} {v : Value} {us : List (Int × Int)} (h : FreshTab w B v us) (hu : us ≠ []) {k : Nat} (hk : v.ownBlock = some k) : B ≤ k ∧ k < w.heap.size := by
  rcases h with h | ⟨g, cap, rfl, _, hB, hl, _⟩
  · exact absurd h.1 hu
  · simp [Value.ownBlock] at hk
    subst hk
    exact ⟨hB, hl⟩
theorem TabRoom.fresh {w : World} {B : Nat} {v : Value} {es : List (Int × Int)} (h : TabRoom w B v es) : FreshTab w B v es := .inr h
/-- A table whose row lies elsewhere stays, when one row is marked. -/
theorem FreshTab.grown {w w' : World} {B : Nat} {v : Value} {us : List (Int × Int)} {row : Option Nat} (h : FreshTab w B v us) (hg : w.grownBy w' row) (hne : ∀ k, row = some k → k < B) : FreshTab w' B v us := by
  rcases h with h | ⟨g, cap, rfl, h1, h2, h3, h4, h5⟩
  · exact .inl h
  · have hn : some g ≠ row := fun e => by have := hne g e.symm; omega
    refine .inr ⟨g, cap, rfl, h1, h2, Nat.lt_of_lt_of_le h3 hg.size, h4.grown hg hn, fun i hi => ?_⟩
    obtain ⟨⟨u, hu⟩, hf⟩ := h5 i hi
    refine ⟨⟨u, cell_grown hu hg hn⟩, ?_⟩
    rw [World.frozen?_of_block (hg.block g h3 hn)]; exact hf
/-- Marks in a row that is behind B turn nothing below B. -/
theorem below_grown {w w' : World} {B : Nat} {row : Option Nat} (hg : w.grownBy w' row) (hr : ∀ k, row = some k → B ≤ k) (hB : B ≤ w.heap.size) : Below B w w' :=
  ⟨hg.os, hg.tape, hg.output, hg.size, fun k hk => hg.block k (Nat.lt_of_lt_of_le hk hB) fun e => by have := hr k e.symm; omega⟩

/-- An answer's table is marked: only a row of its own turns. -/
theorem markAny (k B : Nat) (v : Value) (us : List (Int × Int)) (w : World) (hn : k + 2 * us.length ≤ 1000000000000000) (ht : FreshTab w B v us) :
    Calls Tryz.prog 10 #[.agg #[v], .int .i64 k] w fun e w' => e = .returned (.int .i64 (k + 2 * us.length : Nat)) ∧ FreshTab w' B v (marksE k us.length) ∧ w.heap.size ≤ w'.heap.size ∧ ∃ row, w.grownBy w' row ∧ ∀ j, row = some j → v.ownBlock = some j ∧ B ≤ j ∧ j < w.heap.size ∧ us ≠ [] ∧ ∃ x, w.cell? ⟨j, 0, none⟩ = some (.int .i64 x) := by
  by_cases hu : us = []
  · subst hu
    rcases ht with ⟨_, a, cap, rfl, hc⟩ | ht
    · have HC : Hid (∀ w, Calls Tryz.prog 26 #[.slice a 0 cap, .int .i64 k] w fun e w' => e = .returned (.int .i64 k) ∧ w = w') := fun w => markEmpty a cap k w
      go_enter Tryz.func10, Tryz.ntmps10
      go_wp2_with (go_at_call 26; refine (HC.out _).mono ?_; rintro e w1 ⟨rfl, rfl⟩)
      go_ret
      exact ⟨rfl, .inl ⟨rfl, a, cap, rfl, hc⟩, by simp, none, World.grownBy_alloc w _ _, fun j hj => by cases hj⟩
    · obtain ⟨g, cap, rfl, _⟩ := ht
      have HC : Hid (∀ w, Calls Tryz.prog 26 #[.slice (some ⟨g, 0, none⟩) 0 cap, .int .i64 k] w fun e w' => e = .returned (.int .i64 k) ∧ w = w') := fun w => markEmpty _ cap k w
      simp only [List.length_nil]
      go_enter Tryz.func10, Tryz.ntmps10
      go_wp2_with (go_at_call 26; refine (HC.out _).mono ?_; rintro e w1 ⟨rfl, rfl⟩)
      go_ret
      exact ⟨rfl, .inl ⟨rfl, _, cap, rfl, fun e => by cases e⟩, by simp, none, World.grownBy_alloc w _ _, fun j hj => by cases hj⟩
  · refine (markFresh k B v us w hn ht).mono ?_
    rintro e w' ⟨rfl, h1, h2, h3⟩
    refine ⟨rfl, h1, h3, v.ownBlock, h2, fun j hj => ?_⟩
    obtain ⟨hB, hl⟩ := ht.block hu hj
    refine ⟨hj, hB, hl, hu, ?_⟩
    rcases ht with ht | ⟨g, cap, rfl, _, _, _, he, _⟩
    · exact absurd ht.1 hu
    · simp [Value.ownBlock] at hj
      subst hj
      exact ⟨_, (he 0 (List.length_pos_iff.2 hu)).1⟩

/-- .. from the mark 1 on. -/
theorem mark1 (m : Int) (B : Nat) (v : Value) (us : List (Int × Int)) (w : World) (hm : m = ((1 + 2 * us.length : Nat) : Int)) (hn : us.length ≤ 4194304) (ht : FreshTab w B v us) :
    Calls Tryz.prog 10 #[.agg #[v], .int .i64 1] w fun e w' => e = .returned (.int .i64 m) ∧ FreshTab w' B v (marksE 1 us.length) ∧ w.heap.size ≤ w'.heap.size ∧ ∃ row, w.grownBy w' row ∧ ∀ j, row = some j → v.ownBlock = some j ∧ B ≤ j ∧ j < w.heap.size ∧ us ≠ [] ∧ ∃ x, w.cell? ⟨j, 0, none⟩ = some (.int .i64 x) := by
  have := markAny 1 B v us w (by omega) ht
  rw [hm]
  exact this
theorem held1 (m : Int) (B : Nat) (v : Value) (n : Nat) (w : World) (hm : m = ((1 + 2 * n : Nat) : Int)) (hn : n ≤ 4194304) (ht : FreshTab w B v (marksE 1 n)) :
    Calls Tryz.prog 11 #[.agg #[v], .int .i64 1] w fun e w' => e = .returned (.int .i64 m) ∧ Below w.heap.size w w' := by
  have := heldFresh 1 B v n w (by omega) ht
  rw [hm]
  exact this

end Go.Proofs.YtpilmldcmpbabaaGreatDoor

/- A line as it goes outside, and RwrLine, of the program. Conditions: the table is ok; the text has at most 2^21 bytes; the variables that are read hold what they are laid with. -/
namespace Go.Proofs.YtpilmldcmpbabaaGreatDoor
open Go.RowKit Go.Sort

theorem says_ins {l : List UInt8} {a p : Int} (h : saysE l = some (a, p)) : insB a p = true := by
  unfold saysE at h
  split at h
  · split at h
    · split at h
      · rename_i hi
        simp at h
        obtain ⟨rfl, rfl⟩ := h
        exact hi
      · cases h
    · cases h
  · cases h
theorem lineE_none {es : List (Int × Int)} {l : List UInt8} (h : saysE l = none) : lineE es l = (es, l) := by unfold lineE; rw [h]
theorem lineE_some {es : List (Int × Int)} {l : List UInt8} {e : Int × Int} (h : saysE l = some e) : lineE es l = ((putE es e).1, if (putE es e).2 = 0 then noneL else lpL 50 (putE es e).2) := by
  unfold lineE
  rw [h]
  simp only
  split <;> rfl
theorem lineE_ok {es : List (Int × Int)} {l : List UInt8} (hm : mapB es = true) : mapB (lineE es l).1 = true := by
  rcases h : saysE l with _ | ⟨a, p⟩
  · rw [lineE_none h]; exact hm
  · rw [lineE_some h]; exact putE_ok hm (says_ins h)

set_option maxRecDepth 100000 in
set_option maxHeartbeats 1600000 in
theorem lineOutside_any (g1 g2 : Nat) (es : List (Int × Int)) (s : ByteArray) (w : World) (hs : s.size ≤ 2097152) (hb : Both w g1 g2 es) (hm : mapB es = true) (hv : ∀ w', Two g1 g2 w w' → VarsOk w') :
    Calls Tryz.prog 23 #[.agg #[.map (some g1), .map (some g2)], .string s] w fun e w' => e = .returned (.string ⟨(lineE es s.data.toList).2.toArray⟩) ∧ Both w' g1 g2 (lineE es s.data.toList).1 ∧ Two g1 g2 w w' := by
  have HBo : Hid (∀ w', Below w.heap.size w w' → Both w' g1 g2 es) := fun w' h => hb.later h
  have HV := Lib.hid hv
  have l1 := hb.lt.1
  have l2 := hb.lt.2
  clear hb hv
  rcases hx : saysE s.data.toList with _ | ⟨a, p⟩
  · have HB : Hid (∀ w, VarsOk w → Calls Tryz.prog 46 #[.string s] w fun e w' => e = .returned (.tuple #[.agg #[.int .i64 0, .int .i64 0], .bool false]) ∧ Below w.heap.size w w') := fun w hv => by have := implSays_any s w hs hv; rw [hx] at this; exact this
    have HE : Hid (lineE es s.data.toList = (es, s.data.toList)) := lineE_none hx
    rw [HE.out, str_same]
    clear hx HE hm
    go_enter Tryz.func23, Tryz.ntmps23
    go_wp2_with fail
    (go_at_call 46; refine (HB.out _ (HV.out _ (Two.of_below ((Below.refl _ _).alloc (Nat.le_refl _) _)))).mono ?_; rintro e w1 ⟨rfl, b1⟩; have B1 : Hid (Below w.heap.size w w1) := ((Below.refl _ _).alloc (Nat.le_refl _) _).trans (b1.mono (by simp)); clear b1)
    go_wp2_with fail
    go_ret
    have B2 : Below w.heap.size w (w1.alloc (.cells #[.int .i64 0, .int .i64 0] 63)) := B1.out.alloc B1.out.size _
    exact ⟨rfl, HBo.out _ B2, Two.of_below B2⟩
  · have HB : Hid (∀ w, VarsOk w → Calls Tryz.prog 46 #[.string s] w fun e w' => e = .returned (.tuple #[.agg #[.int .i64 a, .int .i64 p], .bool true]) ∧ Below w.heap.size w w') := fun w hv => by have := implSays_any s w hs hv; rw [hx] at this; exact this
    have hE := lineE_some (es := es) hx
    have hi := says_ins hx
    obtain ⟨us, hus⟩ : ∃ us, us = (putE es (a, p)).1 := ⟨_, rfl⟩
    obtain ⟨q, hq⟩ : ∃ q, q = (putE es (a, p)).2 := ⟨_, rfl⟩
    rw [← hus, ← hq] at hE
    have HG : Hid (∀ w, Both w g1 g2 es → Calls Tryz.prog 47 #[.agg #[.map (some g1), .map (some g2)], .agg #[.int .i64 a, .int .i64 p]] w fun e w' => e = .returned (.int .i64 q) ∧ Both w' g1 g2 us ∧ Two g1 g2 w w') := fun w h => by rw [hus, hq]; exact givePort_any g1 g2 es a p w h hm hi
    by_cases h0 : q = 0
    · rw [hE, if_pos h0]
      subst h0
      clear hE hx hus hq hm hi
      go_enter Tryz.func23, Tryz.ntmps23
      go_wp2_with fail
      (go_at_call 46; refine (HB.out _ (HV.out _ (Two.of_below ((Below.refl _ _).alloc (Nat.le_refl _) _)))).mono ?_; rintro e w1 ⟨rfl, b1⟩; have B1 : Hid (Below w.heap.size w w1) := ((Below.refl _ _).alloc (Nat.le_refl _) _).trans (b1.mono (by simp)); have t0 : ∀ o, (w1.alloc o).cell? ⟨w.heap.size, 0, none⟩ = some (.map (some g1)) := (fun o => by rw [cell_alloc_lt (by have := b1.size; simp at this; omega), b1.cell (by simp)]; simp); have t1 : ∀ o, (w1.alloc o).cell? ⟨w.heap.size, 1, none⟩ = some (.map (some g2)) := (fun o => by rw [cell_alloc_lt (by have := b1.size; simp at this; omega), b1.cell (by simp)]; simp); clear b1)
      have B2 : Hid (∀ o, Below w.heap.size w (w1.alloc o)) := fun o => B1.out.alloc B1.out.size o
      go_wp2_with fail
      (go_at_call 47; refine (HG.out _ (HBo.out _ (B2.out _))).mono ?_; rintro e w2 ⟨rfl, hb2, t2⟩; have HB2 := Lib.hid hb2; have T2 : Hid (Two g1 g2 w w2) := (Two.of_below (B2.out _)).trans t2; clear hb2 t2)
      go_wp2_with fail
      go_ret
      exact ⟨rfl, HB2.out, T2.out⟩
    · rw [hE, if_neg h0]
      have hqb : (q == 0) = false := by simpa using h0
      clear hE hx hus hq hm hi
      go_enter Tryz.func23, Tryz.ntmps23
      go_wp2_with fail
      (go_at_call 46; refine (HB.out _ (HV.out _ (Two.of_below ((Below.refl _ _).alloc (Nat.le_refl _) _)))).mono ?_; rintro e w1 ⟨rfl, b1⟩; have B1 : Hid (Below w.heap.size w w1) := ((Below.refl _ _).alloc (Nat.le_refl _) _).trans (b1.mono (by simp)); have t0 : ∀ o, (w1.alloc o).cell? ⟨w.heap.size, 0, none⟩ = some (.map (some g1)) := (fun o => by rw [cell_alloc_lt (by have := b1.size; simp at this; omega), b1.cell (by simp)]; simp); have t1 : ∀ o, (w1.alloc o).cell? ⟨w.heap.size, 1, none⟩ = some (.map (some g2)) := (fun o => by rw [cell_alloc_lt (by have := b1.size; simp at this; omega), b1.cell (by simp)]; simp); clear b1)
      have B2 : Hid (∀ o, Below w.heap.size w (w1.alloc o)) := fun o => B1.out.alloc B1.out.size o
      go_wp2_with fail
      (go_at_call 47; refine (HG.out _ (HBo.out _ (B2.out _))).mono ?_; rintro e w2 ⟨rfl, hb2, t2⟩; have HB2 := Lib.hid hb2; have T2 : Hid (Two g1 g2 w w2) := (Two.of_below (B2.out _)).trans t2; clear hb2 t2)
      go_wp2_with fail
      (go_at_call 48; refine (implLinPort_any 50 q _ (HV.out _ T2.out).tab).mono ?_; rintro e w3 ⟨rfl, b3⟩)
      go_wp2_with fail
      go_ret
      exact ⟨rfl, HB2.out.later b3, T2.out.trans (Two.of_below b3)⟩

/-- What RwrLine answers. -/
def rwrA (es : List (Int × Int)) (l : List UInt8) : List (Int × Int) × List UInt8 := if mapB es = true ∧ linB l = true then lineE es l else ([], [])

set_option maxRecDepth 100000 in
set_option maxHeartbeats 1600000 in
theorem implRwrLine_not (v : Value) (es : List (Int × Int)) (s : ByteArray) (w : World) (hn : es.length ≤ 4194304) (hs : s.size ≤ 2097152) (hwf : wfE es) (ht : TabAt w v es) (hno : (mapB es && linB s.data.toList) = false) :
    Calls Tryz.prog 8 #[.agg #[v], .string s] w fun e w' => e = .returned (.tuple #[.agg #[.slice none 0 0], .string ⟨#[]⟩]) ∧ Below w.heap.size w w' := by
  have HT := Lib.hid ht
  obtain ⟨ad, cap, rfl, hcap, hr⟩ := ht
  have hM : Hid (∀ w, TabAt w (.slice ad es.length cap) es → Calls Tryz.prog 20 #[.agg #[.slice ad es.length cap]] w fun e w' => e = .returned (.bool (mapB es)) ∧ Below w.heap.size w w') := fun w h => implMapOk_any _ es w hn hwf h
  have hL : Hid (∀ w, Calls Tryz.prog 21 #[.string s] w fun e w' => e = .returned (.bool (linB s.data.toList)) ∧ w = w') := fun w => implLin_any s w (by omega)
  clear hr hwf
  by_cases hm : mapB es = true
  · have hi : linB s.data.toList = false := by rw [hm] at hno; simpa using hno
    rw [hm] at hM
    rw [hi] at hL
    clear hno hm
    go_enter Tryz.func8, Tryz.ntmps8
    go_wp2_with (first
      | (go_at_call 20; refine (hM.out _ (HT.out.below (((Below.refl _ _).alloc (Nat.le_refl _) _).alloc (by simp) _))).mono ?_; rintro e w1 ⟨rfl, b1⟩; obtain ⟨_, cB, b01, z1⟩ := cell_two b1; have r0 := (cB 0).1; have g0 := (cB 0).2; simp at r0; clear cB)
      | (go_at_call 21; refine (hL.out _).mono ?_; rintro e w2 ⟨rfl, rfl⟩))
    refine bodyPost_ret (v := .tuple #[.agg #[.slice none 0 0], .string ⟨#[]⟩]) (by simp [results, Tryz.results8, go_sem, World.cell?_setCell_same _ _ _ r0]) rfl ⟨rfl, ?_⟩
    exact b01.setCell (by simp) _
  · have hm' : mapB es = false := by simpa using hm
    rw [hm'] at hM
    clear hno hm hm'
    go_enter Tryz.func8, Tryz.ntmps8
    go_wp2_with (go_at_call 20; refine (hM.out _ (HT.out.below (((Below.refl _ _).alloc (Nat.le_refl _) _).alloc (by simp) _))).mono ?_; rintro e w1 ⟨rfl, b1⟩; obtain ⟨_, cB, b01, z1⟩ := cell_two b1; have r0 := (cB 0).1; have g0 := (cB 0).2; simp at r0; clear cB)
    refine bodyPost_ret (v := .tuple #[.agg #[.slice none 0 0], .string ⟨#[]⟩]) (by simp [results, Tryz.results8, go_sem, World.cell?_setCell_same _ _ _ r0]) rfl ⟨rfl, ?_⟩
    exact b01.setCell (by simp) _

set_option maxRecDepth 100000 in
set_option maxHeartbeats 1600000 in
theorem implRwrLine_ok (v : Value) (es : List (Int × Int)) (s : ByteArray) (w : World) (hn : es.length ≤ 4194304) (hs : s.size ≤ 2097152) (ht : TabAt w v es) (hm : mapB es = true) (hl : linB s.data.toList = true) (hv : VarsOk w) :
    Calls Tryz.prog 8 #[.agg #[v], .string s] w fun e w' => ∃ g c, e = .returned (.tuple #[.agg #[.slice g (lineE es s.data.toList).1.length c], .string ⟨(lineE es s.data.toList).2.toArray⟩]) ∧ OwnTab w' w.heap.size (.slice g (lineE es s.data.toList).1.length c) (lineE es s.data.toList).1 ∧ Below w.heap.size w w' := by
  have HT := Lib.hid ht
  have hwf := mapB_wf hm
  obtain ⟨ad, cap, rfl, hcap, hr⟩ := ht
  have hM : Hid (∀ w, TabAt w (.slice ad es.length cap) es → Calls Tryz.prog 20 #[.agg #[.slice ad es.length cap]] w fun e w' => e = .returned (.bool true) ∧ Below w.heap.size w w') := fun w h => by rw [← hm]; exact implMapOk_any _ es w hn hwf h
  have hL : Hid (∀ w, Calls Tryz.prog 21 #[.string s] w fun e w' => e = .returned (.bool true) ∧ w = w') := fun w => by rw [← hl]; exact implLin_any s w (by omega)
  have HP : Hid (∀ w, TabAt w (.slice ad es.length cap) es → Calls Tryz.prog 22 #[.agg #[.slice ad es.length cap]] w fun e w' => ∃ g1 g2, e = .returned (.agg #[.map (some g1), .map (some g2)]) ∧ w.heap.size ≤ g1 ∧ w.heap.size ≤ g2 ∧ Both w' g1 g2 es ∧ Below w.heap.size w w') := fun w h => portsOf_any _ es w hn hwf h
  have HV : Hid (∀ w', Below w.heap.size w w' → VarsOk w') := fun w' h => hv.below h
  have hmu : mapB (lineE es s.data.toList).1 = true := lineE_ok hm
  obtain ⟨us, hus⟩ : ∃ us, us = (lineE es s.data.toList).1 := ⟨_, rfl⟩
  obtain ⟨q, hq⟩ : ∃ q, q = (lineE es s.data.toList).2.toArray := ⟨_, rfl⟩
  rw [← hus] at hmu
  have HG : Hid (∀ g1 g2 w, Both w g1 g2 es → (∀ w', Two g1 g2 w w' → VarsOk w') → Calls Tryz.prog 23 #[.agg #[.map (some g1), .map (some g2)], .string s] w fun e w' => e = .returned (.string ⟨q⟩) ∧ Both w' g1 g2 us ∧ Two g1 g2 w w') := fun g1 g2 w h h2 => by rw [hus, hq]; exact lineOutside_any g1 g2 es s w hs h hm h2
  have HO : Hid (∀ g1 g2 w, Both w g1 g2 us → Calls Tryz.prog 24 #[.agg #[.map (some g1), .map (some g2)]] w fun e w' => ∃ a c, e = .returned (.agg #[.slice a us.length c]) ∧ OwnTab w' w.heap.size (.slice a us.length c) us ∧ Below w.heap.size w w') := fun g1 g2 w h => tableOf_any g1 g2 us w h (valsL_ok hmu) (by have := mapB_le hmu; omega)
  rw [← hus, ← hq]
  clear hr hm hus hq hmu hwf hcap hn hl hs hv
  go_enter Tryz.func8, Tryz.ntmps8
  go_wp2_with fail
  (go_at_call 20; refine (hM.out _ (HT.out.below (((Below.refl _ _).alloc (Nat.le_refl _) _).alloc (by simp) _))).mono ?_; rintro e w1 ⟨rfl, b1⟩; obtain ⟨cA, cB, b01, z1⟩ := cell_two b1; have t0 := (cA 0).1; have r0 := (cB 0).1; have g0 := (cB 0).2; simp at t0 r0; have B1 := Lib.hid b01; clear cA cB b1 b01)
  go_wp2_with fail
  (go_at_call 21; refine (hL.out _).mono ?_; rintro e w2 ⟨rfl, rfl⟩)
  go_wp2_with fail
  (go_at_call 22; refine (HP.out _ (HT.out.below B1.out)).mono ?_; rintro e w3 ⟨g1, g2, rfl, l1, l2, hb, b3⟩; have z3 := b3.size; have m1 := hb.lt.1; have m2 := hb.lt.2; have HB : Hid (∀ o, Both (w3.alloc o) g1 g2 es) := (fun o => hb.later ((Below.refl _ _).alloc (Nat.le_refl _) o)); have B3 : Hid (Below w.heap.size w w3) := B1.out.trans (b3.mono (by omega)); have r3 : ∀ o, (w3.alloc o).cell? ⟨w.heap.size + 1, 0, none⟩ = some (.slice none 0 0) := (fun o => by rw [cell_alloc_lt (by omega), b3.cell (by simp; omega)]; exact r0); have g03 : ∀ o, (w3.alloc o).frozen? ⟨w.heap.size + 1, 0, none⟩ = false := (fun o => by rw [frozen_alloc_lt (by omega), b3.frozen (by simp; omega)]; exact g0); clear hb b3)
  have B4 : Hid (∀ o w', Two g1 g2 (w3.alloc o) w' → Below w.heap.size w w') := fun o w' h => (B3.out.alloc B3.out.size _).trans (h.below (by simp; omega) (by omega) (by omega))
  go_wp2_with fail
  (go_at_call 23; refine (HG.out g1 g2 _ (HB.out _) (fun w' h => HV.out _ (B4.out _ _ h))).mono ?_; rintro e w4 ⟨rfl, hb4, t4⟩; have HB4 := Lib.hid hb4; have z4 : w3.heap.size + 1 ≤ w4.heap.size := (by have := t4.size; simpa using this); have p0 : w4.cell? ⟨w3.heap.size, 0, none⟩ = some (.map (some g1)) := (by rw [t4.cell (by simp) (by omega) (by omega)]; simp); have p1 : w4.cell? ⟨w3.heap.size, 1, none⟩ = some (.map (some g2)) := (by rw [t4.cell (by simp) (by omega) (by omega)]; simp); have r4 : w4.cell? ⟨w.heap.size + 1, 0, none⟩ = some (.slice none 0 0) := (by rw [t4.cell (by simp; omega) (by omega) (by omega)]; exact r3 _); have g04 : w4.frozen? ⟨w.heap.size + 1, 0, none⟩ = false := (by rw [t4.frozen (by simp; omega) (by omega) (by omega)]; exact g03 _); have B5 : Hid (Below w.heap.size w w4) := B4.out _ _ t4; clear hb4 t4)
  go_wp2_with fail
  (go_at_call 24; refine (HO.out g1 g2 _ HB4.out).mono ?_; rintro e w5 ⟨g5, c5, rfl, o5, b5⟩; have O5 := Lib.hid o5; have r5 : w5.cell? ⟨w.heap.size + 1, 0, none⟩ = some (.slice none 0 0) := (by rw [b5.cell (by simp; omega)]; exact r4); have g05 : w5.frozen? ⟨w.heap.size + 1, 0, none⟩ = false := (by rw [b5.frozen (by simp; omega)]; exact g04); have B6 : Hid (Below w.heap.size w w5) := B5.out.trans (b5.mono (by omega)); clear o5 b5)
  go_wp2_with fail
  refine bodyPost_ret (v := .tuple #[.agg #[.slice g5 us.length c5], .string ⟨q⟩]) (by simp [results, Tryz.results8, go_sem, World.cell?_setCell_same _ _ _ r5]) rfl ⟨_, _, rfl, ?_, B6.out.setCell (by simp) _⟩
  exact OwnTab.mono (B := w4.heap.size) (ownsRow_setCell_below (a := ⟨w.heap.size + 1, 0, none⟩) O5.out (by simp; omega) _) (by omega)

end Go.Proofs.YtpilmldcmpbabaaGreatDoor

/- StrLines and StrOk of the specification, at every text. Condition: the text has at most 2^21 bytes. -/
namespace Go.Proofs.YtpilmldcmpbabaaGreatDoor
open Go.RowKit

set_option maxRecDepth 100000 in
set_option maxHeartbeats 800000 in
theorem specLines_any (s : ByteArray) (w : World) (hs : s.size ≤ 2097152) :
    Calls Tryz.prog 51 #[.string s] w fun e w' => ∃ v, e = .returned (.tuple #[v, .string ⟨(restL s.data.toList).toArray⟩]) ∧ w'.ownsRow w.heap.size 9 1 v (linesL s.data.toList).length ((linesL s.data.toList).map strV) ∧ Below w.heap.size w w' := by
  obtain ⟨i0, hi, hz0, hz1, hz2⟩ := info_parts infoStr
  go_enter Tryz.func51, Tryz.ntmps51
  go_wp2
  go_loopw [4, 5, 6] (fun v f i wr => ∃ (k m : Nat) (W0 : List (List UInt8) × List UInt8), k ≤ s.size ∧ i = .int .i64 k ∧ f = .int .i64 m ∧ m + W0.2.length = k ∧ W0 = linesF (s.data.toList.take k) ∧ wr.ownsRow w.heap.size 9 1 v W0.1.length (W0.1.map strV) ∧ Below w.heap.size w wr)
    (fun _ _ i _ => s.size - (intOf i).toNat)
  case atStart => exact ⟨0, 0, ([], []), Nat.zero_le _, rfl, rfl, rfl, rfl, World.ownsRow_made w #[] 0 (Nat.le_refl _) (Nat.zero_le _) rfl, (Below.refl _ _).alloc (Nat.le_refl _) _⟩
  case round =>
    obtain ⟨k, m, W0, hk, rfl, rfl, hm, hW, hown, hb⟩ := hrel
    have HW := Lib.hid hW
    have HM := Lib.hid hm
    have hlen : W0.1.length ≤ k := by
      have := lines_len (s.data.toList.take k)
      rw [hW]; simp [linesL] at this ⊢; omega
    have hmk : m ≤ k := by omega
    have hbs := hb.size
    clear hW hm
    by_cases hlt : k < s.size
    · have hsn : Hid (linesF (s.data.toList.take (k + 1)) = stl W0 s[k]) := by
        show linesF (s.data.toList.take (k + 1)) = stl W0 s[k]
        rw [take_snoc s k hlt, linesF_snoc, HW.out]
      by_cases h59 : s[k] = 59
      · have ht : (((s[k]).toNat : Int) == 59) = true := by rw [h59]; rfl
        have H59 : Hid (s[k] = 59) := h59
        have HX : Hid (s.extract m k = ⟨W0.2.toArray⟩) := by
          show s.extract m k = _
          have h1 := rest_drop (s.data.toList.take k)
          rw [show restL (s.data.toList.take k) = W0.2 by rw [HW.out]; rfl] at h1
          have h2 : (s.data.toList.take k).length - W0.2.length = m := by have := HM.out; simp; omega
          rw [h2] at h1
          rw [ext_list, ← h1]
        clear h59
        go_wp2_with (at_builtin; rw [HX.out]; refine wpList_append_own _ rfl (.tmp 18) (.tmp 23) 80 rfl w.heap.size 9 i0 (.string ⟨#[]⟩) 1 16 Tryz.underlying80 hi hz0 hz1 hz2 rfl (by decide) _ _ _ rfl (hown.alloc _) ⟨wr.heap.size, 0, none⟩ 1 1 [.string ⟨W0.2.toArray⟩] rfl rfl ?c1 ?c2 ?c3 ?c4 ?c5 ?_)
        case c1 =>
          intro j u hj
          match j, hj with
          | 0, hj => simp at hj; subst hj; simp [Addr.add]
        case c2 => intro u hu; simp at hu; subst hu; rfl
        case c3 => unfold maxLen; omega
        case c4 => omega
        case c5 => simp; omega
        · intro v' w1 hown' hgrow _
          go_wp2
          go_roundw
          case rel =>
            refine ⟨k + 1, k + 1, stl W0 s[k], by omega, by go_num, by go_num, ?_, hsn.out.symm, ?_, ?_⟩
            · rw [stl, if_pos H59.out]; simp
            · rw [stl, if_pos H59.out]; simpa [strV] using hown'
            · exact (hb.alloc hbs _).grown hgrow (by simp; omega) (fun k hk => (hown.lt k hk).1)
          case measure => simp [intOf]; omega
      · have ht : (((s[k]).toNat : Int) == 59) = false := by
          have e59 : (59 : UInt8).toNat = 59 := rfl
          simp; intro e; exact h59 (UInt8.toNat_inj.1 (by omega))
        have H59 : Hid (¬ s[k] = 59) := h59
        clear h59
        go_wp2
        go_roundw
        case rel =>
          refine ⟨k + 1, m, stl W0 s[k], by omega, by go_num, rfl, ?_, hsn.out.symm, ?_, hb⟩
          · have := HM.out
            rw [stl, if_neg H59.out]; simp; omega
          · rw [stl, if_neg H59.out]; exact hown
        case measure => simp [intOf]; omega
    · have HK : Hid (s.data.toList.take k = s.data.toList) := List.take_of_length_le (by rw [len_list]; omega)
      have HX : Hid (s.extract m s.size = ⟨(restL s.data.toList).toArray⟩) := by
        show s.extract m s.size = _
        have h1 := rest_drop s.data.toList
        have h0 : restL s.data.toList = W0.2 := by rw [HW.out, HK.out]; rfl
        have h2 : s.data.toList.length - (restL s.data.toList).length = m := by have := HM.out; rw [h0, len_list]; omega
        rw [h2] at h1
        rw [ext_list, List.take_of_length_le (by rw [len_list]; omega), ← h1]
      have HE : Hid (linesL s.data.toList = W0.1) := by
        show linesL s.data.toList = W0.1
        rw [HW.out, HK.out]; rfl
      have hm1 : (0 : Int) ≤ (m : Int) := by omega
      have hm2 : (m : Int) ≤ (s.size : Int) := by omega
      go_wp2_with fail
      go_region
      go_wp2
      go_ret2
      exact ⟨_, by rw [HX.out]; rfl, by rw [HE.out]; exact hown, hb.drew⟩

set_option maxRecDepth 100000 in
set_option maxHeartbeats 800000 in
theorem specStr_any (s : ByteArray) (w : World) (hs : s.size ≤ 2097152) :
    Calls Tryz.prog 28 #[.string s] w fun e w' => e = .returned (.bool (strB s.data.toList)) ∧ Below w.heap.size w w' := by
  by_cases h120 : 120 < s.size
  · go_enter Tryz.func28, Tryz.ntmps28
    go_wp2_with fail
    go_ret
    exact ⟨ret_bool (by unfold strB; rw [len_list, decide_eq_false (by omega)]; rfl), Below.refl _ _⟩
  · go_enter Tryz.func28, Tryz.ntmps28
    go_wp2_with (go_at_call 51; refine (specLines_any _ _ hs).mono ?_; rintro e w1 ⟨v, rfl, own1, b1⟩)
    obtain ⟨a1, cap1, rfl⟩ := own_form own1
    have hll := lines_len s.data.toList
    rw [len_list] at hll
    have sR : (⟨(restL s.data.toList).toArray⟩ : ByteArray).size ≤ 281474976710656 := by simp [ByteArray.size]; omega
    go_loop [5] (fun i => ∃ k : Nat, k ≤ (linesL s.data.toList).length ∧ i = .int .i64 k ∧ (∀ x ∈ (linesL s.data.toList).take k, linB x = true)) (fun i => (linesL s.data.toList).length - (intOf i).toNat)
    case atStart => exact ⟨0, Nat.zero_le _, rfl, by simp⟩
    case round =>
      obtain ⟨k, hk, rfl, hd⟩ := hrel
      have HD := Lib.hid hd
      clear hd
      by_cases hlt : k < (linesL s.data.toList).length
      · obtain ⟨g, cap, e1, gB, gl, hcap, hcells⟩ := own_cells own1 (by omega)
        obtain ⟨x, hx⟩ : ∃ x, x = (linesL s.data.toList)[k] := ⟨_, rfl⟩
        have hcell : w1.cell? ⟨g, k, none⟩ = some (strV x) := by
          rw [(hcells k (by simpa using hlt)).1]; simp [hx]
        have hxl : x.length ≤ s.size := by rw [← len_list]; exact line_len (by rw [hx]; exact List.getElem_mem _)
        have sX : (⟨x.toArray⟩ : ByteArray).size ≤ 281474976710656 := by simp [ByteArray.size]; omega
        simp at e1
        obtain ⟨rfl, rfl⟩ := e1
        have HX : Hid (x = (linesL s.data.toList)[k]) := hx
        clear hx hcells hxl
        unfold strV at hcell
        by_cases hb : linB x = true
        · have HB := Lib.hid hb
          go_wp2_with (go_at_call 16; refine (specLin_any _ _ sX).mono ?_; rintro e w' ⟨rfl, rfl⟩)
          go_round
          case rel =>
            refine ⟨k + 1, by omega, by go_num, ?_⟩
            rw [List.take_succ_eq_append_getElem hlt, ← HX.out]; intro y hy
            rcases List.mem_append.1 hy with hy | hy
            · exact HD.out y hy
            · simp at hy; subst hy; exact HB.out
          case measure => simp [intOf]; omega
        · have HB : Hid (strB s.data.toList = false) := by
            have : (linesL s.data.toList).all linB = false := by
              rw [List.all_eq_false]; exact ⟨x, by rw [HX.out]; exact List.getElem_mem _, hb⟩
            show (_ && _ && _) = false
            rw [this]; simp
          go_wp2_with (go_at_call 16; refine (specLin_any _ _ sX).mono ?_; rintro e w' ⟨rfl, rfl⟩)
          go_ret
          exact ⟨ret_bool HB.out.symm, b1⟩
      · have HS : Hid (strB s.data.toList = linB (restL s.data.toList)) := by
          have he : (linesL s.data.toList).take k = linesL s.data.toList := List.take_of_length_le (by omega)
          show (_ && _ && _) = _
          rw [len_list, decide_eq_true (by omega), ← he, List.all_eq_true.2 HD.out]; simp
        go_wp2_with (go_at_call 16; refine (specLin_any _ _ sR).mono ?_; rintro e w' ⟨rfl, rfl⟩)
        go_ret
        exact ⟨ret_bool (by rw [HS.out]), b1⟩

end Go.Proofs.YtpilmldcmpbabaaGreatDoor

/- l3Stream and RwrStream of the specification. Conditions: the table is ok; the text has at most 2^21 bytes. -/
namespace Go.Proofs.YtpilmldcmpbabaaGreatDoor
open Go.RowKit Go.Sort

theorem lpL_len' (a p : Int) : (lpL a p).length ≤ 20 := by
  unfold lpL
  split
  · rename_i h
    obtain ⟨h1, h2, h3, h4⟩ := end_bounds h
    have l1 := dec_len4 (k := a.toNat) (by omega)
    have l2 := dec_len4 (k := p.toNat) (by omega)
    simp [portL, endL]; omega
  · simp
theorem lineE_len (es : List (Int × Int)) (l : List UInt8) : (lineE es l).2.length ≤ l.length + 20 := by
  rcases h : saysE l with _ | e
  · rw [lineE_none h]
    simp
  · rw [lineE_some h]
    simp only
    split
    · simp [noneL]
    · have := lpL_len' 50 (putE es e).2
      omega
/-- One line more goes outside. -/
def strF (T : List (Int × Int) × List UInt8) (l : List UInt8) : List (Int × Int) × List UInt8 := ((lineE T.1 l).1, T.2 ++ (lineE T.1 l).2 ++ [59])
/-- Lines as they go outside, one behind the other, and the table then. -/
def streamE (es : List (Int × Int)) (ls : List (List UInt8)) : List (Int × Int) × List UInt8 := ls.foldl strF (es, [])
theorem streamE_snoc (es : List (Int × Int)) (ls : List (List UInt8)) (l : List UInt8) : streamE es (ls ++ [l]) = strF (streamE es ls) l := by simp [streamE]
theorem streamE_ok {es : List (Int × Int)} (hm : mapB es = true) (ls : List (List UInt8)) : mapB (streamE es ls).1 = true := by
  unfold streamE
  suffices h : ∀ (T : List (Int × Int) × List UInt8), mapB T.1 = true → mapB (ls.foldl strF T).1 = true from h _ hm
  induction ls with
  | nil => intro T h; exact h
  | cons l r ih => intro T h; exact ih _ (lineE_ok h)

/-- A block of cells of this type. -/
def Tag (w : World) (b : Nat) (t : TypeId) : Prop := ∃ cs fz, w.heap[b]? = some (.cells cs t fz)
theorem Tag.lt {w : World} {b : Nat} {t : TypeId} (h : Tag w b t) : b < w.heap.size := by
  obtain ⟨_, _, h⟩ := h
  exact (Array.getElem?_eq_some_iff.1 h).1
theorem Tag.later {w w' : World} {b : Nat} {t : TypeId} (h : Tag w b t) (hb : Below w.heap.size w w') : Tag w' b t := by
  have hl := h.lt
  obtain ⟨cs, fz, h⟩ := h
  exact ⟨cs, fz, (hb.block b hl).trans h⟩
theorem Tag.new (w : World) (cs : Array Value) (t : TypeId) : Tag (w.alloc (.cells cs t)) w.heap.size t := ⟨cs, _, heap_alloc_new w (.cells cs t)⟩
/-- A table that lies in a block of ends stays, when a cell of a block of another type is written. -/
theorem OwnTab.setTag {w : World} {B : Nat} {v : Value} {es : List (Int × Int)} {t : TypeId} (h : OwnTab w B v es) {a : Addr} (ht : Tag w a.block t) (hne : t ≠ 63) (u : Value) : OwnTab (w.setCell a u) B v es := by
  refine ⟨h.1, ?_⟩
  rcases h.2 with h2 | ⟨g, cap, cur, hv, hB, hg, r⟩
  · exact .inl h2
  · refine .inr ⟨g, cap, cur, hv, hB, ?_, r⟩
    rw [Below.heap_setCell _ _ _ _ fun e => ?_]
    · exact hg
    · obtain ⟨cs, fz, h1⟩ := ht
      rw [← e, hg] at h1
      injection h1 with h1
      injection h1 with _ h2 _
      exact hne h2.symm
theorem tab_ne : (28 : TypeId) ≠ 63 := by decide
theorem fresh1t {W w : World} {x : Value} {t : TypeId} (h : Below (W.alloc (.cells #[x] t)).heap.size (W.alloc (.cells #[x] t)) w) : Tag w W.heap.size t := (Tag.new W #[x] t).later h
theorem fresh1dt {W w : World} {x : Value} {t : TypeId} (h : Below (W.alloc (.cells #[x] t)).drew.heap.size (W.alloc (.cells #[x] t)).drew w) : Tag w W.heap.size t := fresh1t (((Below.refl _ _).drew).trans h)
theorem Tag.setCell {w : World} {b : Nat} {t : TypeId} (h : Tag w b t) (a : Addr) (u : Value) : Tag (w.setCell a u) b t := by
  obtain ⟨cs, fz, h⟩ := h
  by_cases e : b = a.block
  · subst e
    refine ⟨if a.spot.isSome then cs else cs.setIfInBounds a.off u, fz, ?_⟩
    show (w.heap.modify a.block _)[a.block]? = _
    rw [Array.getElem?_modify]
    simp [h]
  · exact ⟨cs, fz, (Below.heap_setCell _ _ _ _ e).trans h⟩

set_option maxRecDepth 100000 in
set_option maxHeartbeats 3200000 in
theorem specStream_any (B : Nat) (ad : Addr) (cap : Nat) (es : List (Int × Int)) (s : ByteArray) (w : World) (hm : mapB es = true) (hs : s.size ≤ 2097152) (hB : B ≤ w.heap.size) (ho : OwnTab w B (.slice (some ad) es.length cap) es) :
    Calls Tryz.prog 29 #[.agg #[.slice (some ad) es.length cap], .string s] w fun e w' => ∃ g c, e = .returned (.tuple #[.agg #[.slice (some g) (streamE es (linesL s.data.toList)).1.length c], .string ⟨(streamE es (linesL s.data.toList)).2.toArray⟩]) ∧ OwnTab w' B (.slice (some g) (streamE es (linesL s.data.toList)).1.length c) (streamE es (linesL s.data.toList)).1 ∧ Below w.heap.size w w' := by
  have HO := Lib.hid ho
  have HM := Lib.hid hm
  have hlz : ∀ x ∈ linesL s.data.toList, x.length ≤ 2097152 := fun x hx => by have := line_len hx; rw [len_list] at this; omega
  have hl0 := lines_len s.data.toList
  rw [len_list] at hl0
  have HL : Hid (∀ w, Calls Tryz.prog 51 #[.string s] w fun e w' => ∃ v, e = .returned (.tuple #[v, .string ⟨(restL s.data.toList).toArray⟩]) ∧ w'.ownsRow w.heap.size 9 1 v (linesL s.data.toList).length ((linesL s.data.toList).map strV) ∧ Below w.heap.size w w') := fun w => specLines_any s w hs
  obtain ⟨ls, hls⟩ : ∃ ls, ls = linesL s.data.toList := ⟨_, rfl⟩
  obtain ⟨rs, hrs⟩ : ∃ rs, rs = (restL s.data.toList).toArray := ⟨_, rfl⟩
  rw [← hls] at HL hlz hl0 ⊢
  rw [← hrs] at HL
  have hln : ls.length ≤ 2097152 := by omega
  have HLZ := Lib.hid hlz
  clear ho hm hls hrs hlz hl0
  go_enter Tryz.func29, Tryz.ntmps29
  go_wp2_with fail
  (go_at_call 51; refine (HL.out _).mono ?_; rintro e w1 ⟨vl, rfl, own1, b1⟩; obtain ⟨cA, cB, b01, z1⟩ := cell_two b1; have t0 := (cA 0).1; have f0 := (cA 0).2; have r0 := (cB 0).1; have g0 := (cB 0).2; simp at t0 r0; have own1 := own_base (B' := w.heap.size + 2) own1 (by simp <;> omega); obtain ⟨al, capl, rfl⟩ := own_form own1; have OWN1 := Lib.hid own1; have B1 := Lib.hid b01; have T0 : Hid (Tag w1 w.heap.size 28) := (⟨_, _, (b1.block w.heap.size (by simp <;> omega)).trans ((Below.heap_alloc _ _ _ (by simp <;> omega)).trans (heap_alloc_new w _))⟩ : Tag w1 w.heap.size 28); have T1 : Hid (Tag w1 (w.heap.size + 1) 28) := (by obtain ⟨cs, fz, hh⟩ := Tag.new (w.alloc (.cells #[.slice (some ad) es.length cap] 28)) #[.slice none 0 0] 28; simp only [World.size_alloc] at hh; exact ⟨cs, fz, (b1.block (w.heap.size + 1) (by simp)).trans hh⟩); clear cA cB b1 b01 own1)
  go_wp2_with fail
  go_loopw [8, 9, 10, 11] (fun o i _ _ wr => ∃ (k : Nat) (us : List (Int × Int)) (x : List UInt8) (g : Addr) (c : Nat), k ≤ ls.length ∧ i = .int .i64 k ∧ o = .string ⟨x.toArray⟩ ∧ (us, x) = streamE es (ls.take k) ∧ x.length ≤ k * 2097173 ∧ wr.cell? ⟨w.heap.size, 0, none⟩ = some (.slice (some g) us.length c) ∧ wr.frozen? ⟨w.heap.size, 0, none⟩ = false ∧ Tag wr w.heap.size 28 ∧ Tag wr (w.heap.size + 1) 28 ∧ OwnTab wr B (.slice (some g) us.length c) us ∧ wr.cell? ⟨w.heap.size + 1, 0, none⟩ = some (.slice none 0 0) ∧ wr.frozen? ⟨w.heap.size + 1, 0, none⟩ = false ∧ wr.ownsRow (w.heap.size + 2) 9 1 (.slice al ls.length capl) ls.length (ls.map strV) ∧ Below w.heap.size w wr ∧ w.heap.size + 2 ≤ wr.heap.size) (fun _ i _ _ _ => ls.length - (intOf i).toNat)
  case atStart => exact ⟨0, es, [], ad, cap, Nat.zero_le _, rfl, rfl, rfl, by simp, t0, f0, T0.out, T1.out, HO.out.below B1.out, r0, g0, OWN1.out, B1.out, z1⟩
  case round =>
    obtain ⟨k, us, x, g, c, hk, rfl, rfl, hT, hxk, t2, f2, tg, tg1, ho, r2, g2, own, hb, hz⟩ := hrel
    have HT := Lib.hid hT
    have HO2 := Lib.hid ho
    have HTG := Lib.hid tg
    have HTG1 := Lib.hid tg1
    clear tg1
    have HOW := Lib.hid own
    have HB := Lib.hid hb
    clear hT ho tg hb
    by_cases hlt : k < ls.length
    · obtain ⟨gl, cl, hv, hgB, hgl, hcl, hcells⟩ := own_cells own (by omega)
      simp at hv
      obtain ⟨rfl, rfl⟩ := hv
      obtain ⟨q0, _⟩ := hcells k (by simpa using hlt)
      simp only [List.getElem_map] at q0
      have hx := HLZ.out ls[k] (List.getElem_mem hlt)
      have HTK : Hid (ls.take (k + 1) = ls.take k ++ [ls[k]]) := List.take_succ_eq_append_getElem hlt
      obtain ⟨y, hy⟩ : ∃ y, y = ls[k] := ⟨_, rfl⟩
      rw [← hy] at q0 hx HTK
      have hul : us.length ≤ 6 := by
        have := mapB_le (streamE_ok HM.out (ls.take k))
        rw [← HT.out] at this
        exact this
      obtain ⟨us', hus⟩ : ∃ us', us' = (lineE us y).1 := ⟨_, rfl⟩
      obtain ⟨x', hx'⟩ : ∃ x', x' = (lineE us y).2 := ⟨_, rfl⟩
      have HN : Hid ((us', x ++ x' ++ [59]) = streamE es (ls.take (k + 1))) := by
        show _ = _
        rw [HTK.out, streamE_snoc, ← HT.out, hus, hx']; rfl
      have hxl : x'.length ≤ 2097172 := by have := lineE_len us y; rw [hx']; omega
      have hxb : x.length ≤ 4400000000000 := by have : k * 2097173 ≤ 2097152 * 2097173 := Nat.mul_le_mul_right _ (by omega); omega
      have hxn : (x ++ x' ++ [59]).length ≤ (k + 1) * 2097173 := by simp; omega
      have HXN := Lib.hid hxn
      clear hxn
      have HC : Hid (∀ w0, B ≤ w0.heap.size → OwnTab w0 B (.slice (some g) us.length c) us → Calls Tryz.prog 17 #[.agg #[.slice (some g) us.length c], strV y] w0 fun e w' => ∃ g c, e = .returned (.tuple #[.agg #[.slice (some g) us'.length c], .string ⟨x'.toArray⟩]) ∧ OwnTab w' B (.slice (some g) us'.length c) us' ∧ Below w0.heap.size w0 w') := fun w0 h1 h2 => by
        rw [hus, hx']
        exact specLine_any B g c us ⟨y.toArray⟩ w0 (by omega) (by show y.toArray.size ≤ _; simpa using hx) h1 h2
      have hk2 : (k : Int) ≤ (capl : Int) := by omega
      have hk3 : (k : Int) ≤ 2097152 := by omega
      have mk : Hid (∀ w', Below wr.heap.size wr w' → w'.cell? ⟨w.heap.size, 0, none⟩ = some (.slice (some g) us.length c) ∧ w'.cell? ⟨gl, k, none⟩ = some (strV y) ∧ Below wr.heap.size wr w') := fun w' h => ⟨box_below t2 h, box_below q0 h, h⟩
      clear hcells hy own hx hus hx'
      go_upto_region 6 with fail
      go_cut [10, 11] (fun s10 s11 wx => ∃ b g c, s10 = .pointer (some ⟨b, 0, none⟩) ∧ s11 = .string ⟨x'.toArray⟩ ∧ wx.cell? ⟨b, 0, none⟩ = some (.slice (some g) us'.length c) ∧ OwnTab wx B (.slice (some g) us'.length c) us' ∧ Below wr.heap.size wr wx)
      case first =>
        go_region_held3 (fun w' => w'.cell? ⟨w.heap.size, 0, none⟩ = some (.slice (some g) us.length c) ∧ w'.cell? ⟨gl, k, none⟩ = some (strV y) ∧ Below wr.heap.size wr w')
          (first
            | exact mk.out _ (Below.refl _ _).drew
            | exact mk.out _ cc
            | exact mk.out _ (cc.alloc cc.size _)
            | exact mk.out _ (cc.setCell (by first | (simp; done) | (simp; omega)) _)
            | exact mk.out _ (((Below.refl _ _).drew).alloc (Nat.le_refl _) _)
            | (trace_state; fail))
          (first | (go_at_call 17; have hS := (by assumption : _ ∧ _ ∧ Below wr.heap.size wr _); refine (HC.out _ (Nat.le_trans (by omega : B ≤ wr.heap.size) hS.2.2.size) (HO2.out.below hS.2.2)).mono ?_; rintro e wN ⟨gN, cN, rfl, oN, bN⟩; have ON := Lib.hid oN; have cc : Below wr.heap.size wr wN := hS.2.2.trans (bN.mono hS.2.2.size); (first | (have hk := fresh1 bN; obtain ⟨k0, kf⟩ := hk; have kt := fresh1t bN) | (have hk := fresh1d bN; obtain ⟨k0, kf⟩ := hk; have kt := fresh1dt bN) | skip)))
        all_goals (go_wp2_with fail; go_meet)
        all_goals (first | exact ⟨_, _, _, rfl, rfl, by simp, ON.out.below ((Below.refl _ _).alloc (Nat.le_refl _) _), cc.alloc cc.size _⟩ | exact ⟨_, _, _, rfl, rfl, World.cell?_setCell_same _ _ _ k0, ON.out.setTag kt tab_ne _, cc.setCell (by first | (simp; done) | (simp; omega)) _⟩ | (trace_state; fail))
      case rest =>
        obtain ⟨b, gN, cN, rfl, rfl, kN, oN, bN⟩ := hcut
        have ON := Lib.hid oN
        have BN := Lib.hid bN
        have t3 := box_below t2 bN
        have f3 := box_frozen t2 f2 bN
        have r3 := box_below r2 bN
        have g3 := box_frozen r2 g2 bN
        have TG3 := Lib.hid (HTG.out.later bN)
        have OW3 := Lib.hid (own_below HOW.out bN)
        have zN := bN.size
        have HSX : Hid ((⟨x.toArray⟩ : ByteArray) ++ ⟨x'.toArray⟩ ++ ⟨#[59]⟩ = ⟨(x ++ x' ++ [59]).toArray⟩) := by
          show _ = _
          apply ByteArray.ext
          apply Array.ext'
          simp
        clear oN bN t2 f2 r2 g2 q0
        clear hxk
        go_wp2_with fail
        go_roundw
        case rel =>
          refine ⟨k + 1, us', x ++ x' ++ [59], gN, cN, by omega, by go_num, by rw [HSX.out], HN.out, HXN.out, World.cell?_setCell_same _ _ _ t3, by rw [World.frozen?_setCell]; exact f3, TG3.out.setCell _ _, (HTG1.out.later BN.out).setCell _ _, ON.out.setTag TG3.out tab_ne _, ?_, by rw [World.frozen?_setCell]; exact g3, ownsRow_setCell_below OW3.out (by simp) _, ?_, by simp; omega⟩
          · rw [World.cell?_setCell_far _ ⟨w.heap.size, 0, none⟩ ⟨w.heap.size + 1, 0, none⟩ _ (by show w.heap.size ≠ w.heap.size + 1; omega)]; exact r3
          · exact (HB.out.trans (BN.out.mono (by omega))).setCell (by simp) _
        case measure => simp [intOf]; omega
    · have hke : k = ls.length := by omega
      have HTE : Hid ((us, x) = streamE es ls) := by show _ = _; rw [HT.out, hke, List.take_length]
      clear hlt
      go_wp2_with fail
      refine bodyPost_ret (v := .tuple #[.agg #[.slice (some g) us.length c], .string ⟨x.toArray⟩]) (by simp [results, Tryz.results29, go_sem, World.cell?_setCell_same _ _ _ r2]) rfl ?_
      rw [← HTE.out]
      refine ⟨g, c, rfl, HO2.out.setTag HTG1.out tab_ne _, HB.out.setCell (by simp) _⟩

end Go.Proofs.YtpilmldcmpbabaaGreatDoor

/- RwrStream of the program. Conditions: the table is ok; the text is a stream; the variables that are read hold what they are laid with. -/
namespace Go.Proofs.YtpilmldcmpbabaaGreatDoor
open Go.RowKit Go.Shelf Go.Sort
attribute [local go_sem] Oper.semAt_some

/-- What stays when a block that is no cells turns. -/
theorem heap_kept {w w' : World} {row : Option Nat} {b : Nat} {cs : Array Value} {t : TypeId} {fz : Nat × Nat} (h : w.heap[b]? = some (.cells cs t fz)) (hg : w.grownBy w' row) (hr : ∀ r, row = some r → ∃ o : Obj, w.heap[r]? = some o ∧ o.isCells = false) : w'.heap[b]? = some (.cells cs t fz) := by
  refine (hg.block b (Array.getElem?_eq_some_iff.1 h).1 fun e => ?_).trans h
  obtain ⟨o, ho, hc⟩ := hr b e.symm
  rw [h] at ho
  cases ho
  cases hc
theorem Bld.kept {w w' : World} {row : Option Nat} {B b : Nat} {l : List UInt8} (h : Bld B b l w) (hg : w.grownBy w' row) (hr : ∀ r, row = some r → ∃ o : Obj, w.heap[r]? = some o ∧ o.isCells = false) : Bld B b l w' := by
  have one : ∀ p, Lib.BuilderAtF 52 5 B b p (Lib.byteCells l) w → Lib.BuilderAtF 52 5 B b p (Lib.byteCells l) w' := by
    rintro p ⟨hB, v, hb, hown, hne⟩
    refine ⟨hB, v, heap_kept hb hg hr, ⟨hown.1, ?_⟩, hne⟩
    rcases hown.2 with h2 | ⟨g, cap, cur, fz, hv, hBg, hh, r⟩
    · exact .inl h2
    · exact .inr ⟨g, cap, cur, fz, hv, hBg, heap_kept hh hg hr, r⟩
  rcases h with h | h
  · exact .inl (one _ h)
  · exact .inr (one _ h)
theorem OwnTab.kept {w w' : World} {row : Option Nat} {B : Nat} {v : Value} {es : List (Int × Int)} (h : OwnTab w B v es) (hg : w.grownBy w' row) (hr : ∀ r, row = some r → ∃ o : Obj, w.heap[r]? = some o ∧ o.isCells = false) : OwnTab w' B v es := by
  refine ⟨h.1, ?_⟩
  rcases h.2 with h2 | ⟨g, cap, cur, hv, hB, hh, r⟩
  · exact .inl h2
  · exact .inr ⟨g, cap, cur, hv, hB, heap_kept hh hg hr, r⟩
theorem MapAt.kind {P : Program} {k : TypeId} {w : World} {b : Nat} {L : List (Value × Value)} (h : MapAt P k w b L) : ∃ o : Obj, w.heap[b]? = some o ∧ o.isCells = false ∧ ∀ c t fz, o ≠ .cells c t fz := by
  obtain ⟨es, clock, hb, _⟩ := h
  exact ⟨_, hb, rfl, fun _ _ _ e => by cases e⟩
/-- A builder stays one, when the two maps turn. -/
theorem Bld.two {w w' : World} {g1 g2 B b : Nat} {l : List UInt8} {us : List (Int × Int)} (h : Bld B b l w) (ht : Two g1 g2 w w') (hb : Both w g1 g2 us) : Bld B b l w' := by
  obtain ⟨o1, k1, c1, _⟩ := hb.1.kind
  obtain ⟨o2, k2, c2, _⟩ := hb.2.1.kind
  have keep : ∀ (c : Nat) (cs : Array Value) (t : TypeId) (fz : Nat × Nat), w.heap[c]? = some (.cells cs t fz) → w'.heap[c]? = some (.cells cs t fz) := fun c cs t fz hc => by
    refine (ht.block c (Array.getElem?_eq_some_iff.1 hc).1 (fun e => ?_) (fun e => ?_)).trans hc
    · rw [e, k1] at hc; cases hc; cases c1
    · rw [e, k2] at hc; cases hc; cases c2
  have one : ∀ p, Lib.BuilderAtF 52 5 B b p (Lib.byteCells l) w → Lib.BuilderAtF 52 5 B b p (Lib.byteCells l) w' := by
    rintro p ⟨hB, v, hb, hown, hne⟩
    refine ⟨hB, v, keep _ _ _ _ hb, ⟨hown.1, ?_⟩, hne⟩
    rcases hown.2 with h2 | ⟨g, cap, cur, fz, hv, hBg, hh, r⟩
    · exact .inl h2
    · exact .inr ⟨g, cap, cur, fz, hv, hBg, keep _ _ _ _ hh, r⟩
  rcases h with h | h
  · exact .inl (one _ h)
  · exact .inr (one _ h)
theorem Both.kept {w w' : World} {g1 g2 b : Nat} {us : List (Int × Int)} (h : Both w g1 g2 us) (hk : Kept b w w') (h1 : g1 ≠ b) (h2 : g2 ≠ b) : Both w' g1 g2 us := by
  obtain ⟨o1, k1, _, c1⟩ := h.1.kind
  obtain ⟨o2, k2, _, c2⟩ := h.2.1.kind
  exact ⟨h.1.same ((hk g1 o1 k1 (by simpa using h1) fun c fz => c1 c _ fz).trans k1.symm), h.2.1.same ((hk g2 o2 k2 (by simpa using h2) fun c fz => c2 c _ fz).trans k2.symm), h.2.2⟩
theorem heap_other {w w' : World} {b k : Nat} {cs : Array Value} {t : TypeId} {fz : Nat × Nat} (h : w.heap[k]? = some (.cells cs t fz)) (hk : Kept b w w') (hb : k ≠ b) (ht : t ≠ 5) : w'.heap[k]? = some (.cells cs t fz) :=
  hk k _ h (by simpa using hb) fun c fz' e => by injection e with _ e2 _; exact ht e2
theorem both_ne8 : (43 : TypeId) ≠ 5 := by decide
theorem tab_ne8 : (28 : TypeId) ≠ 5 := by decide
theorem keeps_two {B g1 g2 : Nat} {w w' : World} (h : Two g1 g2 w w') (h1 : g1 < B) (h2 : g2 < B) : KeepsFrom B w w' :=
  ⟨h.size, fun k o hB hk _ => (h.block k (Array.getElem?_eq_some_iff.1 hk).1 (by omega) (by omega)).trans hk⟩
theorem keeps_kept {B b : Nat} {w w' : World} (h : Kept b w w') (hs : w.heap.size ≤ w'.heap.size) (hb : b < B) : KeepsFrom B w w' :=
  ⟨hs, fun k o hB hk ho => h k o hk (by simp; omega) fun c fz e => by subst e; cases ho⟩
theorem cells_at {w : World} {b : Nat} {cs : Array Value} {t : TypeId} (h : w.heap[b]? = some (.cells cs t (0, 0))) (i : Nat) : w.cell? ⟨b, i, none⟩ = cs[i]? ∧ w.frozen? ⟨b, i, none⟩ = false :=
  ⟨by simp only [World.cell?, h]; simp, by simp only [World.frozen?, h]; simp⟩

theorem end_ne8 : (63 : TypeId) ≠ 5 := by decide
theorem OwnTab.other {w w' : World} {B b : Nat} {v : Value} {es : List (Int × Int)} (h : OwnTab w B v es) (hk : Kept b w w') (hb : b < B) : OwnTab w' B v es := by
  refine ⟨h.1, ?_⟩
  rcases h.2 with h2 | ⟨g, cap, cur, hv, hB, hh, r⟩
  · exact .inl h2
  · exact .inr ⟨g, cap, cur, hv, hB, heap_other hh hk (by omega) end_ne8, r⟩

/-- What a round finds: the table and the text of the lines that have gone. -/
def RoundOk (es : List (Int × Int)) (w0 : World) (s : ByteArray) (g1 g2 b3 r : Nat) (pre : List (LineOf s)) (W : World) : Prop :=
  ∃ us x, (us, x) = streamE es (pre.map Subtype.val) ∧ x.length ≤ pre.length * 2097173 ∧ Both W g1 g2 us ∧ Bld (b3 + 1) (b3 + 1) x W ∧ W.heap[b3]? = some (.cells #[.map (some g1), .map (some g2)] 43 (0, 0)) ∧ W.heap[r]? = some (.cells #[.slice none 0 0] 28 (0, 0)) ∧ Below w0.heap.size w0 W ∧ b3 + 3 ≤ W.heap.size
theorem roundOk_own (es : List (Int × Int)) (w0 : World) (s : ByteArray) (g1 g2 b3 r B : Nat) (h1 : g1 < B) (h2 : g2 < B) (hB : w0.heap.size ≤ B) : OwnFrom B (RoundOk es w0 s g1 g2 b3 r) := by
  rintro pre X Y row ⟨us, x, hT, hx, hb, hl, h3, hr3, hbl, hz⟩ hg hr
  have hr' : ∀ r, row = some r → ∃ o : Obj, X.heap[r]? = some o ∧ o.isCells = false := fun r e => (hr r e).2
  have hn : ∀ g, g < B → some g ≠ row := fun g hlt e => by have := (hr g e.symm).1; omega
  refine ⟨us, x, hT, hx, ⟨hb.1.same (hg.block g1 hb.1.lt (hn _ h1)), hb.2.1.same (hg.block g2 hb.2.1.lt (hn _ h2)), hb.2.2⟩, hl.kept hg hr', heap_kept h3 hg hr', heap_kept hr3 hg hr', hbl.grown hg hbl.size (fun k e => Nat.le_trans hB (hr k e).1), Nat.le_trans hz hg.size⟩

set_option maxRecDepth 100000 in
set_option maxHeartbeats 4000000 in
theorem implStream_in (n : Nat) (hn3 : 3 ≤ n) (v : Value) (es : List (Int × Int)) (s : ByteArray) (w : World) (hn : es.length ≤ 4194304) (hs : s.size ≤ 2097152) (ht : TabAt w v es) (hm : mapB es = true) (hl : strB s.data.toList = true) (hv : VarsOk w) :
    CallsIn Fence.wide n Tryz.prog 13 #[.agg #[v], .string s] w fun e w' => ∃ g c, e = .returned (.tuple #[.agg #[.slice g (streamE es (linesL s.data.toList)).1.length c], .string ⟨(streamE es (linesL s.data.toList)).2.toArray⟩]) ∧ OwnTab w' w.heap.size (.slice g (streamE es (linesL s.data.toList)).1.length c) (streamE es (linesL s.data.toList)).1 ∧ Below w.heap.size w w' := by
  have h1 : 1 ≤ n := by omega
  have HT := Lib.hid ht
  have hwf := mapB_wf hm
  obtain ⟨ad, cap, rfl, hcap, hr⟩ := ht
  have hM : Hid (∀ w, TabAt w (.slice ad es.length cap) es → Calls Tryz.prog 20 #[.agg #[.slice ad es.length cap]] w fun e w' => e = .returned (.bool true) ∧ Below w.heap.size w w') := fun w h => by rw [← hm]; exact implMapOk_any _ es w hn hwf h
  have hL : Hid (∀ w, Calls Tryz.prog 30 #[.string s] w fun e w' => e = .returned (.bool true) ∧ Below w.heap.size w w') := fun w => by rw [← hl]; exact implStr_any s w hs
  have HP : Hid (∀ w, TabAt w (.slice ad es.length cap) es → Calls Tryz.prog 22 #[.agg #[.slice ad es.length cap]] w fun e w' => ∃ g1 g2, e = .returned (.agg #[.map (some g1), .map (some g2)]) ∧ w.heap.size ≤ g1 ∧ w.heap.size ≤ g2 ∧ Both w' g1 g2 es ∧ Below w.heap.size w w') := fun w h => portsOf_any _ es w hn hwf h
  have HV : Hid (∀ w', Below w.heap.size w w' → VarsOk w') := fun w' h => hv.below h
  have HM := Lib.hid hm
  clear hr hm hwf hcap hn hl hv
  refine callsIn_of_wp_marks Tryz.func13 rfl trivial ?_ rfl
  simp only [Tryz.ntmps13, List.size_toArray, List.length_cons, List.length_nil, Nat.reduceAdd, Nat.reduceSub, Array.replicate_succ, Array.replicate_zero, List.push_toArray, List.append_toArray, List.nil_append, List.cons_append]
  gi_wp2_with (refine ⟨trivial, ?_⟩; first
    | (gi_at_call 20; refine (callsIn_wide.2 (hM.out _ (HT.out.below (((Below.refl _ _).alloc (Nat.le_refl _) _).alloc (by simp) _)))).mono ?_; rintro e w1 ⟨rfl, b1⟩; obtain ⟨cA, _, b01, z1⟩ := cell_two b1; have t0 := (cA 0).1; simp at t0; have hR1 : w1.heap[w.heap.size + 1]? = some (.cells #[.slice none 0 0] 28 (0, 0)) := (by have h := heap_alloc_new (w.alloc (.cells #[.slice ad es.length cap] 28)) (.cells #[.slice none 0 0] 28); simp only [World.size_alloc] at h; exact (b1.block (w.heap.size + 1) (by simp)).trans h); have HR1 := Lib.hid hR1; clear cA b1 hR1)
    | (gi_at_call 30; refine (callsIn_wide.2 (hL.out _)).mono ?_; rintro e w2 ⟨rfl, b2⟩; replace t0 := box_below t0 b2; replace HR1 := Lib.hid ((b2.block _ (by omega)).trans HR1.out); replace b01 := b01.trans (b2.mono (by omega)); replace z1 := Nat.le_trans z1 b2.size; clear b2)
    | (gi_at_call 22; refine (callsIn_wide.2 (HP.out _ (HT.out.below b01))).mono ?_; rintro e w3 ⟨g1, g2, rfl, l1, l2, hb, b3⟩; replace HR1 := Lib.hid ((b3.block _ (by omega)).trans HR1.out); have B3 := Lib.hid (b01.trans (b3.mono (by omega))); have z3 := b3.size; have m1 := hb.lt.1; have m2 := hb.lt.2; have HB := Lib.hid hb; clear b01 b3 hb t0)
    | (gi_at_call 31; refine (callsIn_wide.2 (linesOf_any _ _)).mono ?_; rintro e w' ⟨rfl, rfl⟩))
  obtain ⟨W0, hW0⟩ : ∃ W0, ((w3.alloc (.cells #[.map (some g1), .map (some g2)] 43)).alloc (.cells #[.pointer none, .slice none 0 0] 52)).alloc (.cells #[.string s] 9) = W0 := ⟨_, rfl⟩
  obtain ⟨b3, hb3⟩ : ∃ b3, b3 = w3.heap.size := ⟨_, rfl⟩
  have hs0 : W0.heap.size = b3 + 3 := by rw [← hW0, hb3]; simp
  have BW : Hid (Below w3.heap.size w3 W0) := by rw [← hW0]; exact (((Below.refl _ _).alloc (Nat.le_refl _) _).alloc (by simp) _).alloc (by simp; omega) _
  have hS : W0.cell? ⟨b3 + 2, 0, none⟩ = some (.string s) := by
    have := (cell_new ((w3.alloc (.cells #[.map (some g1), .map (some g2)] 43)).alloc (.cells #[.pointer none, .slice none 0 0] 52)) #[.string s] 9 0).1
    simp only [World.size_alloc] at this
    rw [← hW0, hb3]; exact this
  have I0 : RoundOk es w s g1 g2 b3 (w.heap.size + 1) [] W0 := by
    refine ⟨es, [], rfl, by simp, HB.out.later BW.out, ?_, ?_, ?_, B3.out.trans (BW.out.mono B3.out.size), by omega⟩
    · refine .inl ⟨Nat.le_refl _, .slice none 0 0, ?_, ⟨rfl, .inl ⟨rfl, rfl⟩⟩, fun e => by cases e⟩
      have := heap_alloc_new (w3.alloc (.cells #[.map (some g1), .map (some g2)] 43)) (.cells #[.pointer none, .slice none 0 0] 52)
      simp only [World.size_alloc] at this
      rw [← hW0, hb3, Below.heap_alloc _ _ _ (by simp)]
      exact this
    · rw [← hW0, hb3, Below.heap_alloc _ _ _ (by simp; omega), Below.heap_alloc _ _ _ (by simp)]
      exact heap_alloc_new w3 _
    · exact (BW.out.block _ (by omega)).trans HR1.out
  rw [hW0]
  rw [← hb3] at m1 m2 z3 ⊢
  have hs1 : W0.heap.size ≤ b3 + 3 := Nat.le_of_eq hs0
  have hs2 : b3 + 3 ≤ W0.heap.size := Nat.le_of_eq hs0.symm
  have hzw : w.heap.size + 2 ≤ b3 := by omega
  have HI0 := Lib.hid I0
  have HSt := Lib.hid hS
  have hln : (linesL s.data.toList).length ≤ 2097152 := by have := lines_len s.data.toList; rw [len_list] at this; omega
  clear hs0 hW0 hb3 I0 hS BW
  refine wpIn_rangeFunc_ownG rfl h1 (gf := 53) (lb := #[.pointer (some ⟨b3 + 1 + 1, 0, none⟩)]) rfl trivial (enters_of Tryz.func53 (by kernel_rfl) rfl)
    (tell_stopsS (n - 1) (by omega) (b3 + 2) s hs W0 (by omega) HSt.out) (fun _ _ => trivial) (fun _ _ _ _ _ _ _ _ => trivial) (Below.refl _ _) (fun _ => rfl)
    (RoundOk es w s g1 g2 b3 (w.heap.size + 1))
    (fun _ _ _ => False)
    (roundOk_own es w s g1 g2 b3 (w.heap.size + 1) W0.heap.size (by omega) (by omega) (by omega))
    (fun c => fun _ _ _ _ h _ _ => h.elim)
    HI0.out
    (fun x => { tmps := #[.agg #[.slice ad es.length cap], .string s, .pointer (some ⟨w.heap.size, 0, none⟩), undef, .pointer (some ⟨w.heap.size + 1, 0, none⟩), .string ⟨#[]⟩, .pointer (some ⟨b3, 0, none⟩), .pointer (some ⟨b3 + 1, 0, none⟩), .string ⟨x.1.toArray⟩, .agg #[.slice ad es.length cap], .bool true, .bool false, .bool false, .string s, .bool true, .bool false, .bool false, undef, .agg #[.slice ad es.length cap], .agg #[.map (some g1), .map (some g2)], .string s, .func (.func 53) #[] #[.pointer (some ⟨b3 + 1 + 1, 0, none⟩)], .string ⟨x.1.toArray⟩, undef, undef, undef, undef, undef, undef, undef, undef], defers := [] }) ?assign ?body ?done ?stop
  case assign =>
    intro l x W K hK
    gi_wp2
    exact hK
  case body =>
    rintro l pre x W ⟨us, y, hT, hy, hb, hbl, h3, hr3, hB, hz⟩ hpre
    have hmu : mapB us = true := by
      have := streamE_ok HM.out (pre.map Subtype.val)
      rw [← hT] at this
      exact this
    have hxl : x.1.length ≤ 2097152 := by have := line_len x.2; rw [len_list] at this; omega
    obtain ⟨us', hus⟩ : ∃ us', us' = (lineE us x.1).1 := ⟨_, rfl⟩
    obtain ⟨x', hx'⟩ : ∃ x', x' = (lineE us x.1).2 := ⟨_, rfl⟩
    have hx'l : x'.length ≤ 2097172 := by have := lineE_len us x.1; rw [hx']; omega
    have hyb : y.length ≤ 4400000000000 := by have : pre.length * 2097173 ≤ 2097152 * 2097173 := Nat.mul_le_mul_right _ (by omega); omega
    have HY : Hid ((y ++ (x' ++ [59])).length ≤ (pre ++ [x]).length * 2097173) := by show _ ≤ _; simp; omega
    have HN : Hid ((us', y ++ (x' ++ [59])) = streamE es ((pre ++ [x]).map Subtype.val)) := by
      show _ = _
      rw [List.map_append, List.map_singleton, streamE_snoc, ← hT, hus, hx']
      simp [strF]
    have HC : Hid (Calls Tryz.prog 23 #[.agg #[.map (some g1), .map (some g2)], .string ⟨x.1.toArray⟩] W fun e w' => e = .returned (.string ⟨x'.toArray⟩) ∧ Both w' g1 g2 us' ∧ Two g1 g2 W w') := by
      rw [hus, hx']
      exact lineOutside_any g1 g2 us ⟨x.1.toArray⟩ W (by show x.1.toArray.size ≤ _; simpa using hxl) hb hmu fun w' h => HV.out _ (hB.trans (h.below hB.size (by omega) (by omega)))
    have HW : Hid (∀ w, Bld (b3 + 1) (b3 + 1) y w → b3 + 1 ≤ w.heap.size → Calls Tryz.prog 32 #[.pointer (some ⟨b3 + 1, 0, none⟩), .string (⟨x'.toArray⟩ ++ ⟨#[59]⟩)] w fun e w' => e = .returned (.tuple #[.int .i64 ((x' ++ [59]).length : Int), .nilIface]) ∧ Bld (b3 + 1) (b3 + 1) (y ++ (x' ++ [59])) w' ∧ Below (b3 + 1) w w' ∧ Kept (b3 + 1) w w') := fun w h1 h2 => by
      rw [show (⟨x'.toArray⟩ ++ ⟨#[59]⟩ : ByteArray) = ⟨(x' ++ [59]).toArray⟩ from by apply ByteArray.ext; apply Array.ext'; simp]
      exact write_any (b3 + 1) (b3 + 1) y (x' ++ [59]) w h1 (by simp; omega) h2
    have p0 := (cells_at h3 0).1
    have p1 := (cells_at h3 1).1
    simp at p0 p1
    have HBo := Lib.hid hb
    have HBl := Lib.hid hbl
    have H3 := Lib.hid h3
    have HR3 := Lib.hid hr3
    have HB := Lib.hid hB
    have hd : 1 ≤ n - 1 - 1 := by omega
    clear hT hy hb hbl h3 hr3 hB hmu hus hx' hxl hyb
    gi_wp2_with (refine ⟨trivial, ?_⟩; first
      | (gi_at_call 23; refine (CallsIn.inRound l (callsIn_wide.2 HC.out)).mono ?_; rintro e W1 ⟨rfl, hb1, t1⟩; have HB1 := Lib.hid hb1; have T1 := Lib.hid t1; have zW := t1.size; clear hb1 t1)
      | (gi_at_call 32; refine (CallsIn.inRound l (callsIn_wide.2 (HW.out _ (HBl.out.two T1.out HBo.out) (by omega)))).mono ?_; rintro e W2 ⟨rfl, hl2, b2, k2⟩))
    have T1 := T1.out
    have e3 : W1.heap[b3]? = some (.cells #[.map (some g1), .map (some g2)] 43 (0, 0)) := (T1.block b3 (by omega) (by omega) (by omega)).trans H3.out
    have er : W1.heap[w.heap.size + 1]? = some (.cells #[.slice none 0 0] 28 (0, 0)) := (T1.block _ (by omega) (by omega) (by omega)).trans HR3.out
    exact ⟨(keeps_two T1 (by omega) (by omega)).trans (keeps_kept k2 b2.size (by omega)), trivial, us', y ++ (x' ++ [59]), HN.out, HY.out, HB1.out.kept k2 (by omega) (by omega), hl2, heap_other e3 k2 (by omega) both_ne8, heap_other er k2 (by omega) tab_ne8, (HB.out.trans (T1.below HB.out.size (by omega) (by omega))).trans (b2.mono (by omega)), by have := b2.size; omega⟩
  case done =>
    rintro D xs W hD hxs ⟨us, y, hT, hy, hb, hbl, h3, hr3, hB, hz⟩ hK
    rw [hxs] at hT
    have hmu : mapB us = true := by
      have := streamE_ok HM.out (linesL s.data.toList)
      rw [← hT] at this
      exact this
    have HO : Hid (Calls Tryz.prog 24 #[.agg #[.map (some g1), .map (some g2)]] W fun e w' => ∃ a c, e = .returned (.agg #[.slice a us.length c]) ∧ OwnTab w' W.heap.size (.slice a us.length c) us ∧ Below W.heap.size W w') := tableOf_any g1 g2 us W hb (valsL_ok hmu) (by have := mapB_le hmu; omega)
    have HS : Hid (∀ w, Bld (b3 + 1) (b3 + 1) y w → b3 + 1 ≤ w.heap.size → Calls Tryz.prog 33 #[.pointer (some ⟨b3 + 1, 0, none⟩)] w fun e w' => e = .returned (.string ⟨y.toArray⟩) ∧ Bld (b3 + 1) (b3 + 1) y w' ∧ Below (b3 + 1) w w' ∧ Kept (b3 + 1) w w') := fun w h1 h2 => buildString_any (b3 + 1) (b3 + 1) y w h1 h2
    have p0 := (cells_at h3 0).1
    have p1 := (cells_at h3 1).1
    simp at p0 p1
    have HBo := Lib.hid hb
    have HBl := Lib.hid hbl
    have HR3 := Lib.hid hr3
    have HB := Lib.hid hB
    have HK := Lib.hid hK
    have HTT := Lib.hid hT
    clear hT hy hb hbl h3 hr3 hB hmu hxs hK
    gi_wp2_with (refine ⟨trivial, ?_⟩; first
      | (gi_at_call 24; refine (callsIn_wide.2 HO.out).mono ?_; rintro e W1 ⟨ga, ca, rfl, o1, b1⟩; have O1 := Lib.hid o1; have B1 := Lib.hid b1; have zW := b1.size; clear o1 b1)
      | (gi_at_call 33; refine (callsIn_wide.2 (HS.out _ (HBl.out.two (Two.of_below B1.out) HBo.out) (by omega))).mono ?_; rintro e W2 ⟨rfl, _, b2, k2⟩; have z2 := b2.size; have hr2 := heap_other ((B1.out.block _ (by omega)).trans HR3.out) k2 (by omega) tab_ne8; have hc2 := (cells_at hr2 0).1; have hf2 := (cells_at hr2 0).2; simp at hc2; have HR2 := Lib.hid hr2; have B2 := Lib.hid b2; have K2 := Lib.hid k2; clear b2 k2 hr2))
    have hD2 : W2.heap[D]? = some (.deferred (some [])) := K2.out D _ ((B1.out.block D (Array.getElem?_eq_some_iff.1 HK.out).1).trans HK.out) (by simp; omega) (fun c fz e => by cases e)
    have hK' := (KeepsOthers.setCell W2 ⟨w.heap.size + 1, 0, none⟩ (.slice ga us.length ca)).same D _ hD2 rfl
    have O2 : OwnTab W2 W.heap.size (.slice ga us.length ca) us := O1.out.other K2.out (by omega)
    have BB : Below w.heap.size w W2 := (HB.out.trans (B1.out.mono (by omega))).trans (B2.out.mono (by omega))
    have hc3 : (W2.setCell ⟨w.heap.size + 1, 0, none⟩ (.slice ga us.length ca)).cell? ⟨w.heap.size + 1, 0, none⟩ = some (.slice ga us.length ca) := World.cell?_setCell_same _ _ _ hc2
    have hg := grownBy_putObj' (W2.setCell ⟨w.heap.size + 1, 0, none⟩ (.slice ga us.length ca)) D (.deferred none)
    have hrw : ∀ r, some D = some r → ∃ o : Obj, (W2.setCell ⟨w.heap.size + 1, 0, none⟩ (.slice ga us.length ca)).heap[r]? = some o ∧ o.isCells = false := fun r e => by cases e; exact ⟨_, hK', rfl⟩
    refine ⟨by simp, .inl ⟨_, _, rfl, run_takeDeferred hK', ?_⟩⟩
    have hc5 := cell_kept hc3 hg hrw
    refine ⟨.tuple #[.agg #[.slice ga us.length ca], .string ⟨y.toArray⟩], ?_, ga, ca, ?_, ?_, ?_⟩
    · simp [results, Tryz.results13, go_sem, hc5]
    · rw [← HTT.out]
    · rw [← HTT.out]
      exact OwnTab.kept (OwnTab.mono (B := W.heap.size) (ownsRow_setCell_below (a := ⟨w.heap.size + 1, 0, none⟩) O2 (by simp; omega) _) (by omega)) hg hrw
    · exact (BB.setCell (by simp) _).trans (belowK_b (w := w) (Nat.le_refl _) _ D _ _ (by omega) hK' rfl rfl)
  case stop =>
    intro D c pre W hD hpre hx
    exact hx.elim

end Go.Proofs.YtpilmldcmpbabaaGreatDoor

/- RwrStream of the specification. Conditions: at most 2^22 ends; the text has at most 2^21 bytes. -/
namespace Go.Proofs.YtpilmldcmpbabaaGreatDoor
open Go.RowKit Go.Sort

set_option maxRecDepth 100000 in
set_option maxHeartbeats 1600000 in
/-- RwrStream of what is no table, or of no line: nothing. -/
theorem specRwrStream_not (v : Value) (es : List (Int × Int)) (s : ByteArray) (w : World) (hn : es.length ≤ 4194304) (hs : s.size ≤ 2097152) (ht : TabAt w v es) (hno : (mapB es && strB s.data.toList) = false) :
    Calls Tryz.prog 12 #[.agg #[v], .string s] w fun e w' => e = .returned (.tuple #[.agg #[.slice none 0 0], .string ⟨#[]⟩]) ∧ Below w.heap.size w w' := by
  have HT := Lib.hid ht
  obtain ⟨ad, cap, rfl, hcap, hr⟩ := ht
  have hM : Hid (∀ w, TabAt w (.slice ad es.length cap) es → Calls Tryz.prog 15 #[.agg #[.slice ad es.length cap]] w fun e w' => e = .returned (.bool (mapB es)) ∧ Below w.heap.size w w') := fun w h => specMapOk_any _ es w hn h
  have hL : Hid (∀ w, Calls Tryz.prog 28 #[.string s] w fun e w' => e = .returned (.bool (strB s.data.toList)) ∧ Below w.heap.size w w') := fun w => specStr_any s w hs
  clear hr
  by_cases hm : mapB es = true
  · have hi : strB s.data.toList = false := by rw [hm] at hno; simpa using hno
    rw [hm] at hM
    rw [hi] at hL
    clear hno hm hi
    go_enter Tryz.func12, Tryz.ntmps12
    go_wp2_with (first
      | (go_at_call 15; refine (hM.out _ (HT.out.below (((Below.refl _ _).alloc (Nat.le_refl _) _).alloc (by simp) _))).mono ?_; rintro e w1 ⟨rfl, b1⟩; obtain ⟨cA, cB, b01, z1⟩ := cell_two b1; have r0 := (cB 0).1; have g0 := (cB 0).2; simp at r0; clear cA cB)
      | (go_at_call 28; refine (hL.out _).mono ?_; rintro e w2 ⟨rfl, b2⟩; replace g0 := box_frozen r0 g0 b2; replace r0 := box_below r0 b2; replace b01 := b01.trans (b2.mono (by omega))))
    refine bodyPost_ret (v := .tuple #[.agg #[.slice none 0 0], .string ⟨#[]⟩]) (by simp [results, Tryz.results12, go_sem, World.cell?_setCell_same _ _ _ r0]) rfl ⟨rfl, ?_⟩
    exact b01.setCell (by simp) _
  · have hm' : mapB es = false := by simpa using hm
    rw [hm'] at hM
    clear hno hm hm'
    go_enter Tryz.func12, Tryz.ntmps12
    go_wp2_with (go_at_call 15; refine (hM.out _ (HT.out.below (((Below.refl _ _).alloc (Nat.le_refl _) _).alloc (by simp) _))).mono ?_; rintro e w1 ⟨rfl, b1⟩; obtain ⟨cA, cB, b01, z1⟩ := cell_two b1; have r0 := (cB 0).1; have g0 := (cB 0).2; simp at r0; clear cA cB)
    refine bodyPost_ret (v := .tuple #[.agg #[.slice none 0 0], .string ⟨#[]⟩]) (by simp [results, Tryz.results12, go_sem, World.cell?_setCell_same _ _ _ r0]) rfl ⟨rfl, ?_⟩
    exact b01.setCell (by simp) _

set_option maxRecDepth 100000 in
set_option maxHeartbeats 1600000 in
/-- RwrStream of a table and a stream: the table then, in memory of the call's own, and the line. -/
theorem specRwrStream_ok (v : Value) (es : List (Int × Int)) (s : ByteArray) (w : World) (hn : es.length ≤ 4194304) (hs : s.size ≤ 2097152) (ht : TabAt w v es) (hm : mapB es = true) (hi : strB s.data.toList = true) :
    Calls Tryz.prog 12 #[.agg #[v], .string s] w fun e w' => ∃ g c, e = .returned (.tuple #[.agg #[.slice (some g) (streamE es (linesL s.data.toList)).1.length c], .string ⟨(streamE es (linesL s.data.toList)).2.toArray⟩]) ∧ OwnTab w' w.heap.size (.slice (some g) (streamE es (linesL s.data.toList)).1.length c) (streamE es (linesL s.data.toList)).1 ∧ Below w.heap.size w w' := by
  have HT := Lib.hid ht
  obtain ⟨ad, cap, rfl, hcap, hr⟩ := ht
  have hM : Hid (∀ w, TabAt w (.slice ad es.length cap) es → Calls Tryz.prog 15 #[.agg #[.slice ad es.length cap]] w fun e w' => e = .returned (.bool true) ∧ Below w.heap.size w w') := fun w h => by rw [← hm]; exact specMapOk_any _ es w hn h
  have hL : Hid (∀ w, Calls Tryz.prog 28 #[.string s] w fun e w' => e = .returned (.bool true) ∧ Below w.heap.size w w') := fun w => by rw [← hi]; exact specStr_any s w hs
  have hP0 : Hid (∀ (B : Nat) (ad : Addr) (cap : Nat) (w : World), B ≤ w.heap.size → OwnTab w B (.slice (some ad) es.length cap) es → Calls Tryz.prog 29 #[.agg #[.slice (some ad) es.length cap], .string s] w fun e w' => ∃ g c, e = .returned (.tuple #[.agg #[.slice (some g) (streamE es (linesL s.data.toList)).1.length c], .string ⟨(streamE es (linesL s.data.toList)).2.toArray⟩]) ∧ OwnTab w' B (.slice (some g) (streamE es (linesL s.data.toList)).1.length c) (streamE es (linesL s.data.toList)).1 ∧ Below w.heap.size w w') := fun B ad cap w h1 h2 => specStream_any B ad cap es s w hm hs h1 h2
  have hC : Hid (∀ wx, TabAt wx (.slice ad es.length cap) es → Calls Tryz.prog 18 #[.agg #[.slice ad es.length cap]] wx fun e w' => ∃ g c, e = .returned (.agg #[.slice (some g) es.length c]) ∧ OwnTab w' wx.heap.size (.slice (some g) es.length c) es ∧ Below wx.heap.size wx w') := fun wx h => specCopy_any _ es wx hn h
  obtain ⟨us, hus⟩ : ∃ us, us = (streamE es (linesL s.data.toList)).1 := ⟨_, rfl⟩
  obtain ⟨q, hq⟩ : ∃ q, q = (streamE es (linesL s.data.toList)).2.toArray := ⟨_, rfl⟩
  have hP : Hid (∀ (B : Nat) (ad : Addr) (cap : Nat) (w : World), B ≤ w.heap.size → OwnTab w B (.slice (some ad) es.length cap) es → Calls Tryz.prog 29 #[.agg #[.slice (some ad) es.length cap], .string s] w fun e w' => ∃ g c, e = .returned (.tuple #[.agg #[.slice (some g) us.length c], .string ⟨q⟩]) ∧ OwnTab w' B (.slice (some g) us.length c) us ∧ Below w.heap.size w w') := by rw [hus, hq]; exact hP0
  rw [← hus, ← hq]
  clear hr hm hi hus hq hP0
  go_enter Tryz.func12, Tryz.ntmps12
  go_upto_region 3 with (first
    | (go_at_call 15; refine (hM.out _ (HT.out.below (((Below.refl _ _).alloc (Nat.le_refl _) _).alloc (by simp) _))).mono ?_; rintro e w1 ⟨rfl, b1⟩; obtain ⟨cA, cB, b01, z1⟩ := cell_two b1; have t0 := (cA 0).1; have r0 := (cB 0).1; have g0 := (cB 0).2; simp at t0 r0; clear cA cB b1)
    | (go_at_call 28; refine (hL.out _).mono ?_; rintro e w2 ⟨rfl, b2⟩; replace t0 := box_below t0 b2; replace g0 := box_frozen r0 g0 b2; replace r0 := box_below r0 b2; replace b01 := b01.trans (b2.mono (by omega)); replace z1 := Nat.le_trans z1 b2.size))
  have B01 := Lib.hid b01
  clear b01
  go_wp2_with fail
  (go_at_call 18; refine (hC.out _ (HT.out.below B01.out)).mono ?_; rintro e w3 ⟨g3, c3, rfl, o3, b3⟩; have O3 := Lib.hid o3; have B3 := Lib.hid b3; clear o3 b3)
  have r3 : w3.cell? ⟨w.heap.size + 1, 0, none⟩ = some (.slice none 0 0) := (by rw [B3.out.cell (by simp; omega)]; exact r0)
  have g03 : w3.frozen? ⟨w.heap.size + 1, 0, none⟩ = false := (by rw [B3.out.frozen (by simp; omega)]; exact g0)
  have z3 := B3.out.size
  go_wp2_with fail
  (go_at_call 29; refine (hP.out w2.heap.size _ _ _ B3.out.size O3.out).mono ?_; rintro e w4 ⟨g4, c4, rfl, o4, b4⟩; have O4 := Lib.hid o4; have B4 := Lib.hid b4; clear o4 b4)
  have r4 : w4.cell? ⟨w.heap.size + 1, 0, none⟩ = some (.slice none 0 0) := (by rw [B4.out.cell (by simp; omega)]; exact r3)
  have g04 : w4.frozen? ⟨w.heap.size + 1, 0, none⟩ = false := (by rw [B4.out.frozen (by simp; omega)]; exact g03)
  go_wp2_with fail
  refine bodyPost_ret (v := .tuple #[.agg #[.slice (some g4) us.length c4], .string ⟨q⟩]) (by simp [results, Tryz.results12, go_sem, World.cell?_setCell_same _ _ _ r4]) rfl ⟨_, _, rfl, ?_, ?_⟩
  · exact OwnTab.mono (B := w2.heap.size) (ownsRow_setCell_below O4.out (by simp; omega) _) (by omega)
  · exact ((B01.out.trans (B3.out.mono (by omega))).trans (B4.out.mono (by omega))).setCell (by simp) _

end Go.Proofs.YtpilmldcmpbabaaGreatDoor

/- RwrStream of the program and of the specification, in one form. Conditions: at most 2^22 ends; all numbers are ints; the text has at most 2^21 bytes; the variables that are read hold what they are laid with. -/
namespace Go.Proofs.YtpilmldcmpbabaaGreatDoor
open Go.RowKit

/-- What RwrStream answers. -/
def strA (es : List (Int × Int)) (l : List UInt8) : List (Int × Int) × List UInt8 := if mapB es = true ∧ strB l = true then streamE es (linesL l) else ([], [])

set_option maxRecDepth 100000 in
set_option maxHeartbeats 1600000 in
theorem implRwrStream_not (v : Value) (es : List (Int × Int)) (s : ByteArray) (w : World) (hn : es.length ≤ 4194304) (hs : s.size ≤ 2097152) (hwf : wfE es) (ht : TabAt w v es) (hno : (mapB es && strB s.data.toList) = false) :
    Calls Tryz.prog 13 #[.agg #[v], .string s] w fun e w' => e = .returned (.tuple #[.agg #[.slice none 0 0], .string ⟨#[]⟩]) ∧ Below w.heap.size w w' := by
  have HT := Lib.hid ht
  obtain ⟨ad, cap, rfl, hcap, hr⟩ := ht
  have hM : Hid (∀ w, TabAt w (.slice ad es.length cap) es → Calls Tryz.prog 20 #[.agg #[.slice ad es.length cap]] w fun e w' => e = .returned (.bool (mapB es)) ∧ Below w.heap.size w w') := fun w h => implMapOk_any _ es w hn hwf h
  have hL : Hid (∀ w, Calls Tryz.prog 30 #[.string s] w fun e w' => e = .returned (.bool (strB s.data.toList)) ∧ Below w.heap.size w w') := fun w => implStr_any s w hs
  clear hr hwf
  by_cases hm : mapB es = true
  · have hi : strB s.data.toList = false := by rw [hm] at hno; simpa using hno
    rw [hm] at hM
    rw [hi] at hL
    clear hno hm
    go_enter Tryz.func13, Tryz.ntmps13
    go_wp2_with (first
      | (go_at_call 20; refine (hM.out _ (HT.out.below (((Below.refl _ _).alloc (Nat.le_refl _) _).alloc (by simp) _))).mono ?_; rintro e w1 ⟨rfl, b1⟩; obtain ⟨_, cB, b01, z1⟩ := cell_two b1; have r0 := (cB 0).1; have g0 := (cB 0).2; simp at r0; clear cB)
      | (go_at_call 30; refine (hL.out _).mono ?_; rintro e w2 ⟨rfl, b2⟩; replace g0 := box_frozen r0 g0 b2; replace r0 := box_below r0 b2; replace b01 := b01.trans (b2.mono (by omega))))
    refine bodyPost_ret (v := .tuple #[.agg #[.slice none 0 0], .string ⟨#[]⟩]) (by simp [results, Tryz.results13, go_sem, World.cell?_setCell_same _ _ _ r0]) rfl ⟨rfl, ?_⟩
    exact b01.setCell (by simp) _
  · have hm' : mapB es = false := by simpa using hm
    rw [hm'] at hM
    clear hno hm hm'
    go_enter Tryz.func13, Tryz.ntmps13
    go_wp2_with (go_at_call 20; refine (hM.out _ (HT.out.below (((Below.refl _ _).alloc (Nat.le_refl _) _).alloc (by simp) _))).mono ?_; rintro e w1 ⟨rfl, b1⟩; obtain ⟨_, cB, b01, z1⟩ := cell_two b1; have r0 := (cB 0).1; have g0 := (cB 0).2; simp at r0; clear cB)
    refine bodyPost_ret (v := .tuple #[.agg #[.slice none 0 0], .string ⟨#[]⟩]) (by simp [results, Tryz.results13, go_sem, World.cell?_setCell_same _ _ _ r0]) rfl ⟨rfl, ?_⟩
    exact b01.setCell (by simp) _

theorem implStream_ok (v : Value) (es : List (Int × Int)) (s : ByteArray) (w : World) (hn : es.length ≤ 4194304) (hs : s.size ≤ 2097152) (ht : TabAt w v es) (hm : mapB es = true) (hl : strB s.data.toList = true) (hv : VarsOk w) :
    Calls Tryz.prog 13 #[.agg #[v], .string s] w fun e w' => ∃ g c, e = .returned (.tuple #[.agg #[.slice g (streamE es (linesL s.data.toList)).1.length c], .string ⟨(streamE es (linesL s.data.toList)).2.toArray⟩]) ∧ OwnTab w' w.heap.size (.slice g (streamE es (linesL s.data.toList)).1.length c) (streamE es (linesL s.data.toList)).1 ∧ Below w.heap.size w w' :=
  callsIn_wide.1 (implStream_in 3 (by omega) v es s w hn hs ht hm hl hv)

theorem strA_yes {es : List (Int × Int)} {l : List UInt8} (h : (mapB es && strB l) = true) : strA es l = streamE es (linesL l) := if_pos (by simpa using h)
theorem strA_not {es : List (Int × Int)} {l : List UInt8} (h : (mapB es && strB l) = false) : strA es l = ([], []) := if_neg (by simpa using h)
theorem strA_le (es : List (Int × Int)) (l : List UInt8) : (strA es l).1.length ≤ 6 := by
  by_cases h : (mapB es && strB l) = true
  · rw [strA_yes h]
    exact mapB_le (streamE_ok (by simp at h; exact h.1) _)
  · rw [strA_not (by simpa using h)]
    simp

theorem specStrA (v : Value) (es : List (Int × Int)) (s : ByteArray) (w : World) (hn : es.length ≤ 4194304) (hs : s.size ≤ 2097152) (ht : TabAt w v es) :
    Calls Tryz.prog 12 #[.agg #[v], .string s] w fun e w' => ∃ g c, e = .returned (.tuple #[.agg #[.slice g (strA es s.data.toList).1.length c], .string ⟨(strA es s.data.toList).2.toArray⟩]) ∧ FreshTab w' w.heap.size (.slice g (strA es s.data.toList).1.length c) (strA es s.data.toList).1 ∧ Below w.heap.size w w' := by
  by_cases h : (mapB es && strB s.data.toList) = true
  · rw [strA_yes h]
    simp only [Bool.and_eq_true] at h
    refine (specRwrStream_ok v es s w hn hs ht h.1 h.2).mono ?_
    rintro e w' ⟨g, c, rfl, h1, h2⟩
    exact ⟨_, _, rfl, h1.fresh, h2⟩
  · have h' : (mapB es && strB s.data.toList) = false := by simpa using h
    rw [strA_not h']
    refine (specRwrStream_not v es s w hn hs ht h').mono ?_
    rintro e w' ⟨rfl, h2⟩
    exact ⟨_, _, rfl, FreshTab.nil _ _, h2⟩

theorem implStrA (v : Value) (es : List (Int × Int)) (s : ByteArray) (w : World) (hn : es.length ≤ 4194304) (hs : s.size ≤ 2097152) (hwf : wfE es) (ht : TabAt w v es) (hv : VarsOk w) :
    Calls Tryz.prog 13 #[.agg #[v], .string s] w fun e w' => ∃ g c, e = .returned (.tuple #[.agg #[.slice g (strA es s.data.toList).1.length c], .string ⟨(strA es s.data.toList).2.toArray⟩]) ∧ FreshTab w' w.heap.size (.slice g (strA es s.data.toList).1.length c) (strA es s.data.toList).1 ∧ Below w.heap.size w w' := by
  by_cases h : (mapB es && strB s.data.toList) = true
  · rw [strA_yes h]
    simp only [Bool.and_eq_true] at h
    refine (implStream_ok v es s w hn hs ht h.1 h.2 hv).mono ?_
    rintro e w' ⟨g, c, rfl, h1, h2⟩
    exact ⟨_, _, rfl, h1.fresh, h2⟩
  · have h' : (mapB es && strB s.data.toList) = false := by simpa using h
    rw [strA_not h']
    refine (implRwrStream_not v es s w hn hs hwf ht h').mono ?_
    rintro e w' ⟨rfl, h2⟩
    exact ⟨_, _, rfl, FreshTab.nil _ _, h2⟩

end Go.Proofs.YtpilmldcmpbabaaGreatDoor

/- An argument's table, wherever it lies: how its ends become the program's. Condition: at most 2^22 ends. -/
namespace Go.Proofs.YtpilmldcmpbabaaGreatDoor
open Go.RowKit Go.Sort

theorem Addr.add_block' (a : Addr) (i : Nat) : (a.add i).block = a.block := by unfold Addr.add; split <;> rfl
theorem add_add' (a : Addr) (i j : Nat) : (a.add i).add j = a.add (i + j) := by
  unfold Addr.add; split <;> split <;> simp_all <;> omega
theorem add_one' (a : Addr) : a.add 1 = ⟨a.block, a.off + 1, none⟩ := rfl
/-- A slice of ends lies in the world, at any address. -/
def ArgTab (w : World) (v : Value) (es : List (Int × Int)) : Prop := ∃ a cap, v = .slice a es.length cap ∧ (es.length ≤ cap ∧ (a = none → cap = 0)) ∧ (0 < es.length → ∃ x, a = some x ∧ x.block < w.heap.size ∧ ∀ i (hi : i < es.length), w.cell? (x.add (i * 2)) = some (.int .i64 es[i].1) ∧ w.cell? (x.add (i * 2 + 1)) = some (.int .i64 es[i].2))
theorem ArgTab.below {w w' : World} {v : Value} {es : List (Int × Int)} (h : ArgTab w v es) (hb : Below w.heap.size w w') : ArgTab w' v es := by
  obtain ⟨a, cap, rfl, hc, hr⟩ := h
  refine ⟨a, cap, rfl, hc, fun h => ?_⟩
  obtain ⟨x, rfl, hx, hrow⟩ := hr h
  exact ⟨x, rfl, Nat.lt_of_lt_of_le hx hb.size, fun i hi => by
    rw [hb.cell (p := x.add (i * 2)) (by rw [Addr.add_block']; exact hx), hb.cell (p := x.add (i * 2 + 1)) (by rw [Addr.add_block']; exact hx)]; exact hrow i hi⟩

set_option maxRecDepth 100000 in
set_option maxHeartbeats 800000 in
theorem toEndsArg (v : Value) (es : List (Int × Int)) (w : World) (hn : es.length ≤ 4194304) (ht : ArgTab w v es) :
    Calls Tryz.prog 19 #[v] w fun e w' => ∃ u, e = .returned u ∧ TabRoom w' w.heap.size u es ∧ Below w.heap.size w w' := by
  obtain ⟨ad, cap, rfl, hcap, hr⟩ := ht
  obtain ⟨i0, hi, hz0, hz1, hz2⟩ := info_parts infoEnd
  have HR := Lib.hid hr
  clear hr
  go_enter Tryz.func19, Tryz.ntmps19
  go_wp2_with (at_make; refine wpList_make_full _ rfl (.tmp 6) (.tmp 6) 26 rfl w.heap.size 63 i0 (.agg #[.int .i64 0, .int .i64 0]) 2 (by rfl) hi hz0 hz1 .i64 .i64 (es.length : Int) (es.length : Int) es.length (by rfl) (by rfl) rfl rfl (by rw [hz2]; omega) (by unfold maxLen; omega) (Nat.le_refl _) ?_; intro w1 hown hgrow)
  have R1 : Hid (Room w1 w.heap.size (es.length * 2) ∧ w.heap.size ≤ w.heap.size ∧ w.heap.size < w1.heap.size) := own_room hown
  have B1 : Hid (Below w.heap.size w w1) := (Below.refl _ _).grown hgrow (Nat.le_refl _) (fun k hk => by cases hk)
  clear hown hgrow
  go_loopw [4] (fun i wr => ∃ k : Nat, k ≤ es.length ∧ i = .int .i64 k ∧ EndsAt wr w.heap.size (es.take k) ∧ Room wr w.heap.size (es.length * 2) ∧ Below w.heap.size w wr ∧ w.heap.size < wr.heap.size) (fun i _ => es.length - (intOf i).toNat)
  case atStart => exact ⟨0, Nat.zero_le _, rfl, fun i hi => by simp at hi, R1.out.1, B1.out, R1.out.2.2⟩
  case round =>
    obtain ⟨k, hk, rfl, he, hro, hb, hsz⟩ := hrel
    have HE := Lib.hid he
    have HO := Lib.hid hro
    clear he hro
    by_cases hlt : k < es.length
    · obtain ⟨x, rfl, hx, hrow⟩ := HR.out (by omega)
      obtain ⟨r0, r1⟩ := hrow k hlt
      rw [← hb.cell (p := x.add (k * 2)) (by rw [Addr.add_block']; exact hx)] at r0
      rw [← hb.cell (p := x.add (k * 2 + 1)) (by rw [Addr.add_block']; exact hx)] at r1
      rw [← add_add', add_one'] at r1
      obtain ⟨⟨a, p⟩, hap⟩ : ∃ x, x = es[k] := ⟨_, rfl⟩
      rw [← hap] at r0 r1
      simp only at r0 r1
      have HA := Lib.hid hap
      have hk2 : (k : Int) ≤ (cap : Int) := by have := hcap.1; omega
      clear hrow hap
      go_wp2_with (go_at_call 40; refine (toEnd_any a p _).mono ?_; rintro e w2 ⟨rfl, b2⟩; have hr2 := HO.out.below b2 hsz; obtain ⟨x0, hx0⟩ := (hr2 (k * 2) (by omega)).1; have f0 := (hr2 (k * 2) (by omega)).2; obtain ⟨x1, hx1⟩ := (hr2 (k * 2 + 1) (by omega)).1; have f1 := (hr2 (k * 2 + 1) (by omega)).2)
      go_roundw
      case rel =>
        refine ⟨k + 1, by omega, by go_num, EndsAt.push (es := es) (m := es.length * 2) (by simp; omega) (by rw [List.take_take, Nat.min_eq_left (by omega)]) hk (fun h => by rw [HA.out]; simp) (HE.out.below b2 hsz) hr2 (by omega), (hr2.set (by omega) _).set (by omega) _, ?_, ?_⟩
        · exact ((hb.trans (b2.mono (by omega))).setCell (by simp) _).setCell (by simp) _
        · have := b2.size; simp; omega
      case measure => simp [intOf]; omega
    · have hkn : k = es.length := by omega
      subst hkn
      go_wp2
      go_ret
      refine ⟨_, rfl, ⟨w.heap.size, es.length, rfl, Nat.le_refl _, Nat.le_refl _, hsz, by simpa using HE.out, HO.out⟩, hb⟩

set_option maxRecDepth 100000 in
set_option maxHeartbeats 800000 in
theorem toTabArg (v : Value) (es : List (Int × Int)) (w : World) (hn : es.length ≤ 4194304) (ht : ArgTab w v es) :
    Calls Tryz.prog 7 #[.agg #[v]] w fun e w' => ∃ u, e = .returned (.agg #[u]) ∧ TabRoom w' w.heap.size u es ∧ Below w.heap.size w w' := by
  have HT := Lib.hid ht
  obtain ⟨ad, cap, rfl, hcap, hr⟩ := ht
  clear hr
  go_enter Tryz.func7, Tryz.ntmps7
  go_wp2_with (go_at_call 19; refine (toEndsArg _ es _ hn (HT.out.below ((((Below.refl _ _).alloc (Nat.le_refl _) _).alloc (by simp) _).alloc (by simp; omega) _))).mono ?_; rintro e w1 ⟨u, rfl, hu, b1⟩; obtain ⟨cA, cB, cC, b01, z1⟩ := cell_three b1; have t0 := (cA 0).1; have r0 := (cB 0).1; have g0 := (cB 0).2; have o0 := (cC 0).1; have p0 := (cC 0).2; simp at t0 r0 o0; obtain ⟨gu, cu, rfl, hu'⟩ : ∃ g c, u = .slice (some ⟨g, 0, none⟩) es.length c ∧ TabRoom w1 (w.heap.size + 3) u es := (by obtain ⟨g, c, q, hh⟩ := hu; exact ⟨g, c, q, TabRoom.mono ⟨g, c, q, hh⟩ (by simp)⟩); have HU := Lib.hid hu'; clear hu hu' cA cB cC)
  have q0 : (w1.setCell ⟨w.heap.size + 1 + 1, 0, none⟩ (.slice (some ⟨gu, 0, none⟩) es.length cu)).cell? ⟨w.heap.size + 1, 0, none⟩ = some (.slice none 0 0) := by
    rw [World.cell?_setCell_far _ ⟨w.heap.size + 1 + 1, 0, none⟩ ⟨w.heap.size + 1, 0, none⟩ _ (by show w.heap.size + 1 + 1 ≠ w.heap.size + 1; omega)]; exact r0
  refine bodyPost_ret (v := .agg #[.slice (some ⟨gu, 0, none⟩) es.length cu]) (by simp [results, Tryz.results7, go_sem, World.cell?_setCell_same _ _ _ q0]) rfl ⟨_, rfl, ?_, ?_⟩
  · exact ((HU.out.setCell (a := ⟨w.heap.size + 1 + 1, 0, none⟩) (by simp) _).setCell (a := ⟨w.heap.size + 1, 0, none⟩) (by simp) _).mono (by omega)
  · exact (b01.setCell (by simp; omega) _).setCell (by simp) _

theorem lawSzSArg (ad : Option Addr) (n cap : Nat) (left : Int) (w : World) (hn : n ≤ 9223372036854775807) (h0 : 0 ≤ left) (h1 : left ≤ 4194304) :
    Calls Tryz.prog 14 #[.slice ad n cap, .int .i64 left] w fun e w' => e = .returned (.int .i64 (if left < (n : Int) then -1 else left - n)) ∧ w = w' := by
  by_cases h : left < (n : Int)
  all_goals
    go_enter Tryz.func14, Tryz.ntmps14
    go_wp2
    go_ret
    exact ⟨ret_int (by first | rfl | (rw [if_pos h]; rfl) | (rw [if_neg (by omega)]) | (rw [if_neg (by omega)]; rfl)), rfl⟩

theorem lawSzArg (v : Value) (es : List (Int × Int)) (left : Int) (w : World) (hn : es.length ≤ 9223372036854775807) (h0 : 0 ≤ left) (h1 : left ≤ 4194304) (ht : ArgTab w v es) :
    Calls Tryz.prog 5 #[.agg #[v], .int .i64 left] w fun e w' => e = .returned (.int .i64 (if left < (es.length : Int) then -1 else left - es.length)) ∧ Below w.heap.size w w' := by
  obtain ⟨ad, cap, rfl, _, _⟩ := ht
  by_cases h : left < (es.length : Int)
  · have hc : ∀ w, Calls Tryz.prog 14 #[.slice ad es.length cap, .int .i64 left] w fun e w' => e = .returned (.int .i64 (-1)) ∧ w = w' := fun w => by
      have := lawSzSArg ad es.length cap left w hn h0 h1
      rwa [if_pos h] at this
    have HC := Lib.hid hc
    clear hc
    rw [if_pos h]
    clear h
    go_enter Tryz.func5, Tryz.ntmps5
    go_wp2_with (go_at_call 14; refine (HC.out _).mono ?_; rintro e w' ⟨rfl, rfl⟩)
    go_ret
    exact ⟨rfl, (Below.refl _ _).alloc (Nat.le_refl _) _⟩
  · obtain ⟨q, hq⟩ : ∃ q : Int, q = left - es.length := ⟨_, rfl⟩
    have hc : ∀ w, Calls Tryz.prog 14 #[.slice ad es.length cap, .int .i64 left] w fun e w' => e = .returned (.int .i64 q) ∧ w = w' := fun w => by
      have := lawSzSArg ad es.length cap left w hn h0 h1
      rwa [if_neg h, ← hq] at this
    have HC := Lib.hid hc
    have h0q : 0 ≤ q := by omega
    clear hc
    rw [if_neg h, ← hq]
    clear h hq
    go_enter Tryz.func5, Tryz.ntmps5
    go_wp2_with (go_at_call 14; refine (HC.out _).mono ?_; rintro e w' ⟨rfl, rfl⟩)
    go_ret
    exact ⟨rfl, (Below.refl _ _).alloc (Nat.le_refl _) _⟩

end Go.Proofs.YtpilmldcmpbabaaGreatDoor

/- The law of RwrStream. Conditions: the argument's ends lie in the machine's memory, at any address; the variables that are read hold what they are laid with. -/
namespace Go.Proofs.YtpilmldcmpbabaaGreatDoor
open Go.RowKit Go.Sort

set_option maxRecDepth 100000 in
set_option maxHeartbeats 3200000 in
theorem lawRwrStream_any (v : Value) (es : List (Int × Int)) (s : ByteArray) (w : World) (hL : es.length ≤ 9223372036854775807) (ht : ArgTab w v es) (hwf : wfE es) (_ : s.size ≤ maxLen) (hv : VarsOk w) :
    Calls Tryz.prog 4 #[.agg #[v], .string s] w fun e w' => e = .returned (.bool true) ∧ Below w.heap.size w w' := by
  have HT := Lib.hid ht
  obtain ⟨ad, cap, rfl, _, _⟩ := ht
  rcases Nat.lt_or_ge 1048576 s.size with hz | hz
  · clear hv hwf
    go_enter Tryz.func4, Tryz.ntmps4
    go_wp2_with fail
    go_ret
    exact ⟨rfl, (Below.refl _ _).alloc (Nat.le_refl _) _⟩
  have hz2 : (s.size : Int) ≤ 1048576 := by omega
  rcases Nat.lt_or_ge 1048576 es.length with h | h
  · have HS : Hid (∀ w, ArgTab w (.slice ad es.length cap) es → Calls Tryz.prog 5 #[.agg #[.slice ad es.length cap], .int .i64 1048576] w fun e w' => e = .returned (.int .i64 (-1)) ∧ Below w.heap.size w w') := fun w ht => by
      have := lawSzArg _ es 1048576 w hL (by decide) (by decide) ht
      rwa [if_pos (by omega)] at this
    clear hwf hv
    go_enter Tryz.func4, Tryz.ntmps4
    go_wp2_with (go_at_call 5; refine (HS.out _ (HT.out.below ((Below.refl _ _).alloc (Nat.le_refl _) _))).mono ?_; rintro e w1 ⟨rfl, b1⟩)
    go_ret
    exact ⟨rfl, ((Below.refl _ _).alloc (Nat.le_refl _) _).trans (b1.mono (by simp))⟩
  · have hn : es.length ≤ 4194304 := by omega
    obtain ⟨q0, hq0⟩ : ∃ q0 : Int, q0 = 1048576 - es.length := ⟨_, rfl⟩
    have hq1 : 0 ≤ q0 := by omega
    have HS : Hid (∀ w, ArgTab w (.slice ad es.length cap) es → Calls Tryz.prog 5 #[.agg #[.slice ad es.length cap], .int .i64 1048576] w fun e w' => e = .returned (.int .i64 q0) ∧ Below w.heap.size w w') := fun w ht => by
      have := lawSzArg _ es 1048576 w hL (by decide) (by decide) ht
      rw [if_neg (by omega)] at this
      rwa [hq0]
    have HTo : Hid (∀ w, ArgTab w (.slice ad es.length cap) es → Calls Tryz.prog 7 #[.agg #[.slice ad es.length cap]] w fun e w' => ∃ g c, e = .returned (.agg #[.slice (some ⟨g, 0, none⟩) es.length c]) ∧ TabRoom w' w.heap.size (.slice (some ⟨g, 0, none⟩) es.length c) es ∧ Below w.heap.size w w') := fun w ht => by
      refine (toTabArg _ es w hn ht).mono ?_
      rintro e w' ⟨u, rfl, hu, hb⟩
      obtain ⟨g, c, rfl, _⟩ := id hu
      exact ⟨g, c, rfl, hu, hb⟩
    have hul := strA_le es s.data.toList
    obtain ⟨us, hus⟩ : ∃ us, us = (strA es s.data.toList).1 := ⟨_, rfl⟩
    obtain ⟨q, hq⟩ : ∃ q, q = (strA es s.data.toList).2.toArray := ⟨_, rfl⟩
    have HM : Hid (∀ v w, TabAt w v es → Calls Tryz.prog 12 #[.agg #[v], .string s] w fun e w' => ∃ g c, e = .returned (.tuple #[.agg #[.slice g us.length c], .string ⟨q⟩]) ∧ FreshTab w' w.heap.size (.slice g us.length c) us ∧ Below w.heap.size w w') := fun v w ht => by rw [hus, hq]; exact specStrA v es s w hn (by omega) ht
    have HI : Hid (∀ v w, TabAt w v es → VarsOk w → Calls Tryz.prog 13 #[.agg #[v], .string s] w fun e w' => ∃ g c, e = .returned (.tuple #[.agg #[.slice g us.length c], .string ⟨q⟩]) ∧ FreshTab w' w.heap.size (.slice g us.length c) us ∧ Below w.heap.size w w') := fun v w ht hv => by rw [hus, hq]; exact implStrA v es s w hn (by omega) hwf ht hv
    rw [← hus] at hul
    have HE : Hid (∀ u v w, TabAt w u es → TabAt w v es → Calls Tryz.prog 9 #[.agg #[u], .agg #[v]] w fun e w' => e = .returned (.bool true) ∧ Below w.heap.size w w') := fun u v w h1 h2 => eqTab_same u v es w hn h1 h2
    have HU : Hid (∀ u v w, TabAt w u us → TabAt w v us → Calls Tryz.prog 9 #[.agg #[u], .agg #[v]] w fun e w' => e = .returned (.bool true) ∧ Below w.heap.size w w') := fun u v w h1 h2 => eqTab_same u v us w (by omega) h1 h2
    have HV : Hid (∀ w', Below w.heap.size w w' → VarsOk w') := fun w' h => hv.below h
    obtain ⟨mX, hmX⟩ : ∃ mX : Int, mX = ((1 + 2 * es.length : Nat) : Int) := ⟨_, rfl⟩
    have hmX0 : 0 ≤ mX := by omega
    have HKX : Hid (∀ B v w, FreshTab w B v es → Calls Tryz.prog 10 #[.agg #[v], .int .i64 1] w fun e w' => e = .returned (.int .i64 mX) ∧ FreshTab w' B v (marksE 1 es.length) ∧ w.heap.size ≤ w'.heap.size ∧ ∃ row, w.grownBy w' row ∧ ∀ j, row = some j → v.ownBlock = some j ∧ B ≤ j ∧ j < w.heap.size ∧ es ≠ [] ∧ ∃ x, w.cell? ⟨j, 0, none⟩ = some (.int .i64 x)) := fun B v w h => mark1 mX B v es w hmX hn h
    obtain ⟨mG, hmG⟩ : ∃ mG : Int, mG = ((1 + 2 * us.length : Nat) : Int) := ⟨_, rfl⟩
    have hmG0 : 0 ≤ mG := by omega
    have HKG : Hid (∀ B v w, FreshTab w B v us → Calls Tryz.prog 10 #[.agg #[v], .int .i64 1] w fun e w' => e = .returned (.int .i64 mG) ∧ FreshTab w' B v (marksE 1 us.length) ∧ w.heap.size ≤ w'.heap.size ∧ ∃ row, w.grownBy w' row ∧ ∀ j, row = some j → v.ownBlock = some j ∧ B ≤ j ∧ j < w.heap.size ∧ us ≠ [] ∧ ∃ x, w.cell? ⟨j, 0, none⟩ = some (.int .i64 x)) := fun B v w h => mark1 mG B v us w hmG (by omega) h
    have HHG : Hid (∀ B v w, FreshTab w B v (marksE 1 us.length) → Calls Tryz.prog 11 #[.agg #[v], .int .i64 1] w fun e w' => e = .returned (.int .i64 mG) ∧ Below w.heap.size w w') := fun B v w h => held1 mG B v us.length w hmG (by omega) h
    clear hus hq hq0 hL hwf hv hmX hmG
    go_enter Tryz.func4, Tryz.ntmps4
    go_wp2_with fail
    (go_at_call 5; refine (HS.out _ (HT.out.below ((Below.refl _ _).alloc (Nat.le_refl _) _))).mono ?_; rintro e w1 ⟨rfl, b1⟩; have t1 : w1.cell? ⟨w.heap.size, 0, none⟩ = some (.slice ad es.length cap) := (by rw [b1.cell (by simp)]; simp); have B1 : Hid (Below w.heap.size w w1) := (((Below.refl _ _).alloc (Nat.le_refl _) _).trans (b1.mono (by simp))); have z1 : w.heap.size < w1.heap.size := (by have := b1.size; simp at this; omega); clear b1)
    go_wp2_with fail
    (go_at_call 7; refine (HTo.out _ (HT.out.below B1.out)).mono ?_; rintro e w2 ⟨ga, ca, rfl, ra, b2⟩; have RA := Lib.hid ra.tab; clear ra)
    go_wp2_with fail
    (go_at_call 12; refine (HM.out _ _ RA.out).mono ?_; rintro e w3 ⟨gW, cW, rfl, fw, b3⟩; have FW := Lib.hid fw.tab; clear fw)
    obtain ⟨w5, hw5⟩ : ∃ w5, w5 = w3.alloc (.cells #[.slice gW us.length cW] 28) := ⟨_, rfl⟩
    obtain ⟨bW, hbW⟩ : ∃ bW, bW = w3.heap.size := ⟨_, rfl⟩
    have c3 : Below w1.heap.size w1 w3 := b2.trans (b3.mono b2.size)
    have kW : w5.cell? ⟨bW, 0, none⟩ = some (.slice gW us.length cW) := by rw [hw5, hbW]; exact (cell_new w3 _ _ 0).1
    have c5 : Below w1.heap.size w1 w5 := by rw [hw5]; exact c3.alloc c3.size _
    have tW : TabAt w5 (.slice gW us.length cW) us := by rw [hw5]; exact FW.out.below ((Below.refl _ _).alloc (Nat.le_refl _) _)
    have z5 : w1.heap.size ≤ w5.heap.size := c5.size
    have kWl : bW < w5.heap.size := by rw [hw5, hbW]; simp
    have tT : w5.cell? ⟨w.heap.size, 0, none⟩ = some (.slice ad es.length cap) := box_below t1 c5
    have mk5 : Hid (∀ w', Below w5.heap.size w5 w' → w'.cell? ⟨w.heap.size, 0, none⟩ = some (.slice ad es.length cap) ∧ w'.cell? ⟨bW, 0, none⟩ = some (.slice gW us.length cW) ∧ TabAt w' (.slice gW us.length cW) us ∧ ArgTab w' (.slice ad es.length cap) es ∧ Below w.heap.size w w' ∧ VarsOk w') := fun w' hb => by
      have h1 : Below w.heap.size w w' := B1.out.trans ((c5.trans (hb.mono z5)).mono (by omega))
      exact ⟨box_below tT hb, box_below kW hb, tW.below hb, HT.out.below h1, h1, HV.out _ h1⟩
    have C5 : Below w5.heap.size w5 w5 := Below.refl _ _
    have tTo : ∀ o, (w3.alloc o).cell? ⟨w.heap.size, 0, none⟩ = some (.slice ad es.length cap) := fun o => by rw [cell_alloc_lt (by have := c3.size; omega), c3.cell (by simp; omega)]; exact t1
    have HTo5 : Hid (ArgTab (w3.alloc (.cells #[.slice gW us.length cW] 28)) (.slice ad es.length cap) es) := by rw [← hw5]; exact (mk5.out _ C5).2.2.2.1
    clear kW tW c5 tT c3 b2 b3
    go_wp2_with fail
    rw [← hbW]
    (go_at_call 7; refine (HTo.out _ HTo5.out).mono ?_; rintro e w6 ⟨gx, cx, rfl, rx, b6⟩; rw [← hw5] at rx b6; have C6 := C5.trans (b6.mono C5.size); have RX6 := Lib.hid rx; clear rx)
    obtain ⟨W7, hW7⟩ : ∃ W7, W7 = w6.alloc (.cells #[.slice (some ⟨gx, 0, none⟩) es.length cx] 28) := ⟨_, rfl⟩
    obtain ⟨bX, hbX⟩ : ∃ bX, bX = w6.heap.size := ⟨_, rfl⟩
    have x7 : W7.cell? ⟨bX, 0, none⟩ = some (.slice (some ⟨gx, 0, none⟩) es.length cx) := by rw [hW7, hbX]; exact (cell_new w6 _ _ 0).1
    have z7 : bX < W7.heap.size := by rw [hW7, hbX]; simp
    have C7 : Hid (Below w5.heap.size w5 W7) := by rw [hW7]; exact C6.alloc C6.size _
    have RX7 : Hid (TabRoom W7 w5.heap.size (.slice (some ⟨gx, 0, none⟩) es.length cx) es) := by rw [hW7]; exact RX6.out.below ((Below.refl _ _).alloc (Nat.le_refl _) _)
    have gxl : w5.heap.size ≤ gx ∧ gx < bX := by
      obtain ⟨g, c, e1, _, h1, h2, _⟩ := RX6.out
      simp at e1
      obtain ⟨rfl, rfl⟩ := e1
      rw [hbX]
      exact ⟨h1, h2⟩
    have z57 : w5.heap.size ≤ W7.heap.size := C7.out.size
    have HI7 : Hid (Calls Tryz.prog 13 #[.agg #[.slice (some ⟨gx, 0, none⟩) es.length cx], .string s] (w6.alloc (.cells #[.slice (some ⟨gx, 0, none⟩) es.length cx] 28)) fun e w' => ∃ g c, e = .returned (.tuple #[.agg #[.slice g us.length c], .string ⟨q⟩]) ∧ FreshTab w' W7.heap.size (.slice g us.length c) us ∧ Below W7.heap.size W7 w') := by
      rw [← hW7]; exact HI.out _ _ RX7.out.tab (mk5.out _ C7.out).2.2.2.2.2
    clear RX6 C6 C5 b6 tTo HTo5 hbW hw5 t1
    go_wp2_with fail
    rw [← hbX]
    clear hbX
    (go_at_call 13; refine HI7.out.mono ?_; rintro e w7 ⟨gG, cG, rfl, fg, b7⟩; have FG7 := Lib.hid fg; clear fg)
    obtain ⟨w8, hw8⟩ : ∃ w8, w8 = w7.alloc (.cells #[.slice gG us.length cG] 28) := ⟨_, rfl⟩
    obtain ⟨bG, hbG⟩ : ∃ bG, bG = w7.heap.size := ⟨_, rfl⟩
    have lG : W7.heap.size ≤ bG := by rw [hbG]; exact b7.size
    have kG : w8.cell? ⟨bG, 0, none⟩ = some (.slice gG us.length cG) := by rw [hw8, hbG]; exact (cell_new w7 _ _ 0).1
    have FG : Hid (FreshTab w8 W7.heap.size (.slice gG us.length cG) us) := by rw [hw8]; exact FG7.out.later ((Below.refl _ _).alloc (Nat.le_refl _) _)
    have c8 : Below W7.heap.size W7 w8 := by rw [hw8]; exact b7.alloc b7.size _
    have C5 : Below w5.heap.size w5 w8 := C7.out.trans (c8.mono z57)
    have xX := box_below x7 c8
    have RX := Lib.hid (RX7.out.below c8)
    have kWo : ∀ o, (w7.alloc o).cell? ⟨bW, 0, none⟩ = some (.slice gW us.length cW) := fun o => by
      have h1 : Below w5.heap.size w5 (w7.alloc o) := C7.out.trans ((b7.alloc b7.size o).mono z57)
      exact (mk5.out _ h1).2.1
    have HU8 : Hid (Calls Tryz.prog 9 #[.agg #[.slice gG us.length cG], .agg #[.slice gW us.length cW]] (w7.alloc (.cells #[.slice gG us.length cG] 28)) fun e w' => e = .returned (.bool true) ∧ Below w8.heap.size w8 w') := by
      rw [← hw8]; exact HU.out _ _ _ FG.out.tab (mk5.out _ C5).2.2.1
    clear FG7 RX7 c8 C7 HI7 x7 b7 hW7
    go_wp2_with fail
    (go_at_call 9; refine HU8.out.mono ?_; rintro e w9 ⟨rfl, b9⟩; replace C5 := C5.trans ((b9).mono C5.size); replace kG := box_below kG b9; replace FG := Lib.hid (FG.out.later b9); replace xX := box_below xX b9; replace RX := Lib.hid (RX.out.below b9); obtain ⟨tT, kW, _⟩ := mk5.out _ C5; clear kWo hw8 HU8)
    rw [← hbG]
    clear hbG
    go_upto_region 12 with fail
    go_cut [52] (fun s wx => s = .bool false ∧ Below w9.heap.size w9 wx)
    case first =>
      have mk9 : Hid (∀ w', Below w9.heap.size w9 w' → w'.cell? ⟨bX, 0, none⟩ = some (.slice (some ⟨gx, 0, none⟩) es.length cx) ∧ w'.cell? ⟨w.heap.size, 0, none⟩ = some (.slice ad es.length cap) ∧ Below w9.heap.size w9 w') := fun w' hb => ⟨box_below xX hb, box_below tT hb, hb⟩
      go_region_held3 (fun w' => w'.cell? ⟨bX, 0, none⟩ = some (.slice (some ⟨gx, 0, none⟩) es.length cx) ∧ w'.cell? ⟨w.heap.size, 0, none⟩ = some (.slice ad es.length cap) ∧ Below w9.heap.size w9 w')
        (first | exact mk9.out _ (Below.refl _ _).drew | exact mk9.out _ cc | (trace_state; fail))
        (first
          | (go_at_call 7; have hS := (by assumption : _ ∧ _ ∧ Below w9.heap.size w9 _); refine (HTo.out _ (mk5.out _ (C5.trans (hS.2.2.mono C5.size))).2.2.2.1).mono ?_; rintro e wN ⟨gy, cy, rfl, ry, bN⟩; have RY := Lib.hid ry.tab; have cc : Below w9.heap.size w9 wN := hS.2.2.trans (bN.mono hS.2.2.size))
          | (go_at_call 9; have hS := (by assumption : _ ∧ _ ∧ Below w9.heap.size w9 _); refine (HE.out _ _ _ (RX.out.tab.below hS.2.2) RY.out).mono ?_; rintro e wN ⟨rfl, bN⟩; have cc : Below w9.heap.size w9 wN := hS.2.2.trans (bN.mono hS.2.2.size)))
      all_goals (go_wp2_with fail; go_meet; exact ⟨rfl, cc⟩)
    case rest =>
      obtain ⟨rfl, c10⟩ := hcut
      obtain ⟨w10, hw10⟩ : ∃ w10, w10 = wc := ⟨_, rfl⟩
      rw [← hw10] at c10 ⊢
      clear hw10
      replace C5 := C5.trans ((c10).mono C5.size); replace kG := box_below kG c10; replace FG := Lib.hid (FG.out.later c10); replace xX := box_below xX c10; replace RX := Lib.hid (RX.out.below c10); obtain ⟨tT, kW, _⟩ := mk5.out _ C5
      go_wp2_with fail
      (go_at_call 10; refine (HKX.out _ _ _ RX.out.fresh).mono ?_; rintro e w11 ⟨rfl, _, z11, row, hg, hrow⟩; replace hrow : ∀ j, row = some j → j = gx := (fun j hj => by have := (hrow j hj).1; simp [Value.ownBlock] at this; omega); replace C5 := C5.trans (below_grown hg (fun j hj => by have := hrow j hj; omega) C5.size); replace kG := cell_grown kG hg (fun e => by have := hrow _ e.symm; omega); replace FG := Lib.hid (FG.out.grown hg (fun j hj => by have := hrow j hj; omega)); obtain ⟨tT, kW, _⟩ := mk5.out _ C5; clear hg hrow xX RX)
      go_wp2_with fail
      (go_at_call 9; refine (HU.out _ _ _ FG.out.tab (mk5.out _ C5).2.2.1).mono ?_; rintro e w12 ⟨rfl, b12⟩; replace C5 := C5.trans ((b12).mono C5.size); replace kG := box_below kG b12; replace FG := Lib.hid (FG.out.later b12); obtain ⟨tT, kW, _⟩ := mk5.out _ C5)
      go_wp2_with fail
      (go_at_call 10; refine (HKG.out _ _ _ FG.out).mono ?_; rintro e w13 ⟨rfl, fg, z13, row, hg, hrow⟩; replace C5 := C5.trans (below_grown hg (fun j hj => by have := (hrow j hj).2.1; omega) C5.size); replace kG := cell_grown kG hg (fun e => by obtain ⟨_, _, _, _, x, hx⟩ := hrow _ e.symm; rw [kG] at hx; cases hx); replace FG := Lib.hid fg; obtain ⟨tT, kW, _⟩ := mk5.out _ C5; clear hg hrow fg)
      go_wp2_with fail
      (go_at_call 11; refine (HHG.out _ _ _ FG.out).mono ?_; rintro e w14 ⟨rfl, b14⟩; replace C5 := C5.trans ((b14).mono C5.size); replace kG := box_below kG b14; replace FG := Lib.hid (FG.out.later b14); obtain ⟨tT, kW, _⟩ := mk5.out _ C5)
      go_wp2_with fail
      (go_at_call 7; refine (HTo.out _ (mk5.out _ C5).2.2.2.1).mono ?_; rintro e w15 ⟨gy, cy, rfl, ry, b15⟩; replace C5 := C5.trans ((b15).mono C5.size); replace kG := box_below kG b15; replace FG := Lib.hid (FG.out.later b15); obtain ⟨tT, kW, _⟩ := mk5.out _ C5; have RY := Lib.hid ry.tab; clear ry)
      go_wp2_with fail
      (go_at_call 13; refine (HI.out _ _ RY.out (mk5.out _ C5).2.2.2.2.2).mono ?_; rintro e w16 ⟨gH, cH, rfl, fh, b16⟩; replace C5 := C5.trans ((b16).mono C5.size); replace kG := box_below kG b16; replace FG := Lib.hid (FG.out.later b16); obtain ⟨tT, kW, _⟩ := mk5.out _ C5; have FH := Lib.hid fh.tab; clear fh)
      have kWo : ∀ o, (w16.alloc o).cell? ⟨bW, 0, none⟩ = some (.slice gW us.length cW) := fun o => by rw [cell_alloc_lt (World.block_lt_of_cell? _ _ kW)]; exact kW
      have kGo : ∀ o, (w16.alloc o).cell? ⟨bG, 0, none⟩ = some (.slice gG us.length cG) := fun o => by rw [cell_alloc_lt (World.block_lt_of_cell? _ _ kG)]; exact kG
      have b17 : ∀ o, Below w16.heap.size w16 (w16.alloc o) := fun o => (Below.refl _ _).alloc (Nat.le_refl _) o
      have H17 : Hid (∀ o, TabAt (w16.alloc o) (.slice gH us.length cH) us ∧ TabAt (w16.alloc o) (.slice gW us.length cW) us) := fun o => ⟨FH.out.below (b17 o), (mk5.out _ (C5.trans ((b17 o).mono C5.size))).2.2.1⟩
      have B17 := Lib.hid b17
      clear b17
      go_wp2_with fail
      (go_at_call 9; refine (HU.out _ _ _ (H17.out _).1 (H17.out _).2).mono ?_; rintro e w18 ⟨rfl, b18⟩; have b18' : Below w16.heap.size w16 w18 := (B17.out _).trans (b18.mono (by simp)); replace C5 := C5.trans ((b18').mono C5.size); replace kG := box_below kG b18'; replace FG := Lib.hid (FG.out.later b18'); obtain ⟨tT, kW, _⟩ := mk5.out _ C5; clear kWo kGo)
      go_wp2_with fail
      (go_at_call 11; refine (HHG.out _ _ _ FG.out).mono ?_; rintro e w19 ⟨rfl, b19⟩; replace C5 := C5.trans ((b19).mono C5.size); replace kG := box_below kG b19; replace FG := Lib.hid (FG.out.later b19); obtain ⟨tT, kW, _⟩ := mk5.out _ C5)
      go_wp2_with fail
      go_ret
      exact ⟨rfl, (mk5.out _ C5).2.2.2.2.1⟩

end Go.Proofs.YtpilmldcmpbabaaGreatDoor

/- An argument that is a table of ends, as the frame of a law hands it in: its ends lie in the machine's memory, at any address. No condition. -/
namespace Go.Proofs.YtpilmldcmpbabaaGreatDoor
open Go.ChangeShapes Go.WideShapes Go.ChangeAt Go.RowKit Go.Deep

theorem array1 {α : Type} {cs : Array α} (h : cs.size = 1) : ∃ c0, cs = #[c0] := by
  obtain ⟨l⟩ := cs
  match l, h with
  | [c0], _ => exact ⟨c0, rfl⟩

theorem cellsTabL : Tryz.prog.cellsOf 24 = 1 := by kernel_rfl
theorem cellsRowL : Tryz.prog.cellsOf 22 = 1 := by kernel_rfl
theorem cellsEndL : Tryz.prog.cellsOf 72 = 2 := by kernel_rfl
theorem cellsIntL : Tryz.prog.cellsOf 3 = 1 := by kernel_rfl
set_option maxRecDepth 100000 in
theorem tab_in {H : Type} {enc : TypeId × Value → H} {W : World} {base : Nat} {v : Value} {d : DataW H} {p : List MemPlace} (hv : Value.okWide Tryz.prog W .any base 24 v)
    (h : DataW.Trod enc Tryz.prog W 0 (fun _ => true) true 24 v d p) : ∃ (u : Value) (es : List (Int × Int)), v = .agg #[u] ∧ ArgTab W u es ∧ es.length ≤ 9223372036854775807 ∧ wfE es := by
  obtain ⟨cs, rfl, hsz⟩ := okWide_struct Tryz.underlying24 hv
  obtain ⟨c0, rfl⟩ := array1 (hsz.trans cellsTabL)
  obtain ⟨fuel, hf⟩ := h
  obtain ⟨y0, n, _, _, h0⟩ := trod_struct1 Tryz.underlying24 hf
  have h1 : DataW.trod enc Tryz.prog W 0 (fun _ => true) true n 22 [c0] = some y0 := by
    simpa [Value.cells, cellsRowL] using h0
  rcases open_slice_pairs Tryz.underlying22 Tryz.underlying72 cellsEndL rfl rfl cellsIntL cellsIntL h1 with ⟨hcs, _⟩ | ⟨a, len, cap, m, n', V0, V1, D0, D1, P0, P1, hcs, _, hl, hm, hmm, _, hcell⟩
  · simp at hcs
    subst hcs
    exact ⟨_, [], rfl, ⟨none, 0, rfl, ⟨by simp, fun _ => rfl⟩, fun h => by simp at h⟩, by simp, fun e he => by cases he⟩
  · simp at hcs
    subst hcs
    have hm2 : m = cap := by simpa using hmm
    refine ⟨_, (List.range len).map fun i => (intOf (V0 i), intOf (V1 i)), rfl, ⟨some a, cap, by simp, ⟨by simpa using hl, by simp⟩, fun hpos => ?_⟩, by have hm' : cap ≤ 9223372036854775807 := hm; simpa using Nat.le_trans hl hm', fun e he => ?_⟩
    rotate_left
    · obtain ⟨i, hi, rfl⟩ := List.mem_map.1 he
      have hi' : i < len := List.mem_range.1 hi
      obtain ⟨k0, k1, t0, t1⟩ := hcell i (by omega)
      obtain ⟨z0, e0, _, w0⟩ := DataW.trod_int Tryz.underlying3 t0
      obtain ⟨z1, e1, _, w1⟩ := DataW.trod_int Tryz.underlying3 t1
      simp at e0 e1
      rw [e0, e1]
      exact ⟨w0, w1⟩
    have each : ∀ i, i < len → W.cell? (a.add (i * 2)) = some (.int .i64 (intOf (V0 i))) ∧ W.cell? (a.add (i * 2 + 1)) = some (.int .i64 (intOf (V1 i))) := by
      intro i hi
      obtain ⟨k0, k1, t0, t1⟩ := hcell i (by omega)
      obtain ⟨z0, e0, _, _⟩ := DataW.trod_int Tryz.underlying3 t0
      obtain ⟨z1, e1, _, _⟩ := DataW.trod_int Tryz.underlying3 t1
      simp at e0 e1
      rw [e0] at k0 ⊢
      rw [e1] at k1 ⊢
      exact ⟨k0, k1⟩
    refine ⟨a, rfl, ?_, fun i hi => ?_⟩
    · have := World.block_lt_of_cell? W _ (each 0 (by simpa using hpos)).1
      rwa [Addr.add_block'] at this
    · have := each i (by simpa using hi)
      simpa using this

end Go.Proofs.YtpilmldcmpbabaaGreatDoor

/- RwrStream of the program answers as RwrStream of the specification, at every argument; the arguments stay as they were. The card: the variables that are read are tied to the program's text. No condition beside what the law sets aside and the card says. -/
namespace Go.Proofs.YtpilmldcmpbabaaGreatDoor
open Go.ChangeShapes Go.WideShapes Go.ChangeAt Go.RowKit Go.Joins Go.WideMaps Go.WideElems
open Go.ChangeMaps (open_string shut_string)

theorem laidOutRwrStream : laidOutB Tryz.prog = true := by kernel_rfl

theorem ownRwrStream : ownKnob Tryz.prog.godebug = none := by kernel_rfl
theorem starErr : "*errors.errorString" = "*" ++ "errors.errorString" := by decide
theorem rowErr (u : TypeId) (h : Tryz.prog.typeName? 3 u = some "*errors.errorString") : u = 135 :=
  typeName_ptr_named (nm := "errors.errorString") (by rw [← starErr]; kernel_rfl) (by kernel_rfl) (by decide) u (by rw [← starErr]; exact h)

/-- What the row's list gives a walk. -/
theorem vars_of_laid {W : World} (h : laidMetH Tryz.prog Rows.fnExactRwrStreamRow.laid W) :
    VarsOk W ∧ (∃ t a, W.var? Tryz.prog "loop.example/hatchway/impl.errNoEnd" = some #[.iface t (.pointer (some a))]) ∧ (∃ t a, W.var? Tryz.prog "loop.example/hatchway/impl.errNoNumber" = some #[.iface t (.pointer (some a))]) := by
  rw [MakeChecks.laidMetH_plain _ _ _ (by kernel_rfl)] at h
  have h3 := laidMet.tail (laidMet.tail h)
  have ht : laidMet Tryz.prog (("internal/strconv.uint64pow10", Lib.tabData .u64 Lib.pow10Tab) :: _) W := h3
  have tab : TabOk W := Lib.tabIs_of_head (g := 3) (t := 117) (e := 110) (n := 20) (by kernel_rfl) (by kernel_rfl) Tryz.underlying117 Tryz.underlying110 (by kernel_rfl) (by kernel_rfl) ht
  have h4 := laidMet.tail h3
  obtain ⟨a1, _, v1, _⟩ := laid_sentinel (g := 5) (tp := 135) (te := 137) (ts := 9) h4 (by kernel_rfl) (by kernel_rfl) Tryz.underlying57 rowErr Tryz.underlying135 Tryz.underlying137 rfl rfl Tryz.underlying9 (by kernel_rfl) (by kernel_rfl)
  have h5 := laidMet.tail h4
  obtain ⟨a2, _, v2, _⟩ := laid_sentinel (g := 4) (tp := 135) (te := 137) (ts := 9) h5 (by kernel_rfl) (by kernel_rfl) Tryz.underlying57 rowErr Tryz.underlying135 Tryz.underlying137 rfl rfl Tryz.underlying9 (by kernel_rfl) (by kernel_rfl)
  have h6 := laidMet.tail h5
  obtain ⟨a3, _, v3, _⟩ := laid_sentinel (g := 2) (tp := 135) (te := 137) (ts := 9) h6 (by kernel_rfl) (by kernel_rfl) Tryz.underlying57 rowErr Tryz.underlying135 Tryz.underlying137 rfl rfl Tryz.underlying9 (by kernel_rfl) (by kernel_rfl)
  have h7 := laidMet.tail h6
  obtain ⟨a4, _, v4, _⟩ := laid_sentinel (g := 1) (tp := 135) (te := 137) (ts := 9) h7 (by kernel_rfl) (by kernel_rfl) Tryz.underlying57 rowErr Tryz.underlying135 Tryz.underlying137 rfl rfl Tryz.underlying9 (by kernel_rfl) (by kernel_rfl)
  have c3 := World.var?_cell (g := 2) (by kernel_rfl) v3 0
  have c4 := World.var?_cell (g := 1) (by kernel_rfl) v4 0
  exact ⟨⟨tab, ⟨_, _, v2⟩, ⟨_, _, v1⟩, ⟨_, _, by simpa using c3⟩, ⟨_, _, by simpa using c4⟩⟩, ⟨_, _, v4⟩, ⟨_, _, v3⟩⟩

/-- The two variables of the program's, read as tokens. -/
theorem vars_read {H : Type} (enc : TypeId × Value → H) {W : World} {x0 x1 : Value} (h0 : W.var? Tryz.prog "loop.example/hatchway/impl.errNoEnd" = some #[x0]) (h1 : W.var? Tryz.prog "loop.example/hatchway/impl.errNoNumber" = some #[x1]) (i0 : IsIface x0) (i1 : IsIface x1) (sp : Nat → Bool) :
    DataW.TrodVars enc Tryz.prog W sp ["loop.example/hatchway/impl.errNoEnd", "loop.example/hatchway/impl.errNoNumber"] [tok enc x0, tok enc x1] [.cell 1 0, .cell 2 0] :=
  vars_read2 enc (g0 := 1) (g1 := 2) (by kernel_rfl) (by kernel_rfl) Tryz.underlying57 h0 i0 (by kernel_rfl) (by kernel_rfl) Tryz.underlying57 h1 i1 sp

/-- The heap that the variables' own initialisers leave meets the condition. -/
theorem doorRwrStream (os : Os) (args : Array Value) : laidMetH Tryz.prog Rows.fnExactRwrStreamRow.laid ((World.doorLaid Tryz.prog 400 os).forCall (fun _ _ => 0) ⟨#[], args, []⟩).memory :=
  laidMetH_of_parts3 (fuel := 8) (laidMet_of_run' 8 (by kernel_rfl) (by kernel_rfl)) (by kernel_rfl) (by kernel_rfl)

set_option maxRecDepth 100000 in
theorem liftedRwrStream (os : Os) (started : os.Started) (H : Type) (enc : TypeId × Value → H) :
    ReturnsInHanded {} Tryz.checked os 4 .any (fun w args => (Rows.fnExactRwrStreamSpec.pre enc Tryz.prog Tryz.f4 [] false w args ∧ laidMetH Tryz.prog Rows.fnExactRwrStreamRow.laid w) ∧ sizedMet enc Tryz.prog Tryz.f4 (OpenSpec.ofChange Rows.fnExactRwrStreamSpec) false w args)
      (Rows.fnExactRwrStreamSpec.post enc Tryz.prog Tryz.f4 false true false false) := by
  refine returnsInHanded_of_change_and (C := Tryz.checked) (X := fun w _ => laidMetH Tryz.prog Rows.fnExactRwrStreamRow.laid w) (fun _ _ _ hh h => h.of_heap hh) ownRwrStream started (by kernel_rfl) Tryz.func4
    (ChangeSpec.witness_shaped (enc := enc) (C := Tryz.checked) (os := os) (X := fun w _ => laidMetH Tryz.prog Rows.fnExactRwrStreamRow.laid w) false (World.doorLaid Tryz.prog 400 os) #[.agg #[.slice none 0 0], .string ⟨#[]⟩] 8 rfl (World.shaped_of_RefB (by kernel_rfl) (by kernel_rfl)) (by kernel_rfl) (by kernel_rfl) (by kernel_rfl) (doorRwrStream os _)) ?_
  intro W base args ds gs before hval0 hW _ _ hL _
  have hval : ∀ (j : Nat) t v, Tryz.f4.params[j]? = some t → args[j]? = some v → Value.okWide Tryz.prog W .any base t v := hval0
  have hW' := hW
  obtain ⟨p, q, hA0, hV0, rfl, _, _⟩ := hW
  have hA : DataW.TrodAll enc Tryz.prog W 0 (fun _ => true) true Tryz.f4.params.toList args.toList ds p := hA0
  have hV : DataW.TrodVars enc Tryz.prog W (fun _ => true) ["loop.example/hatchway/impl.errNoEnd", "loop.example/hatchway/impl.errNoNumber"] gs q := hV0
  rw [Tryz.params4] at hA hval
  obtain ⟨v0, vs0, d0, ds0, p0, q0, hargs, rfl, rfl, h0, r0⟩ := trodAll_cons hA
  obtain ⟨v1, vs1, d1, ds1, p1, q1, rfl, rfl, rfl, h1, r1⟩ := trodAll_cons r0
  obtain ⟨rfl, rfl, rfl⟩ := trodAll_nil r1
  obtain rfl : args = #[v0, v1] := by cases args; simp_all
  have k0 := h0
  have lt0 : ∀ x ∈ p0, x.block < W.heap.size := by obtain ⟨m, hm⟩ := k0; exact DataW.trod_lt m _ _ _ hm
  obtain ⟨u0, es0, rfl, ht0, hl0, hw0⟩ := tab_in (hval 0 24 v0 rfl rfl) h0
  have k1 := h1
  have lt1 : ∀ x ∈ p1, x.block < W.heap.size := by obtain ⟨m, hm⟩ := k1; exact DataW.trod_lt m _ _ _ hm
  obtain ⟨s1, rfl, _, _, ws1⟩ := open_string Tryz.underlying9 (hval 1 9 v1 rfl rfl) h1
  obtain ⟨hok, ⟨t4, a4, hv4⟩, ⟨t3, a3, hv3⟩⟩ := vars_of_laid hL
  obtain ⟨rfl, rfl⟩ := hV.unique (vars_read enc hv4 hv3 trivial trivial _)
  clear hA0 hV0 hval0
  have key := lawRwrStream_any u0 es0 s1 W hl0 ht0 hw0 ws1 hok
  refine key.mono fun e W' ⟨he, bel⟩ => ?_
  subst he
  exact ⟨_, rfl, _, _, _, [], _, [.cell 1 0, .cell 2 0], hW', trodAll_mk1 (shut_bool Tryz.underlying4 true), (trodAll_cons_mk (Below.trod laidOutRwrStream (by kernel_rfl) (of_decide_eq_true (by kernel_rfl)) k0 bel lt0) (trodAll_cons_mk (Below.trod laidOutRwrStream (by kernel_rfl) (of_decide_eq_true (by kernel_rfl)) k1 bel lt1) trodAll_mk0)),
    vars_read enc (var_stays (g := 1) (by kernel_rfl) hv4 bel (Nat.le_refl _)) (var_stays (g := 2) (by kernel_rfl) hv3 bel (Nat.le_refl _)) trivial trivial _, bel.frame _, fun h => by cases h⟩

theorem fnExactRwrStream_row : Rows.FnExactRwrStreamSaid :=
  OpenClaim.holds_of_wide 4 Tryz.f4 rfl rfl rfl rfl rfl rfl rfl ⟨rfl, rfl, rfl, rfl, rfl⟩ rfl rfl rfl rfl rfl (by kernel_rfl) Tryz.func4 (by kernel_rfl)
    (of_decide_eq_true (by kernel_rfl)) (by unfold Func.isWrapper; rw [if_neg (of_decide_eq_false (by kernel_rfl))]; exact ⟨rfl, rfl⟩)
    (fun os started H enc _ => liftedRwrStream os started H enc)

theorem fnExactRwrStream_holds : Rows.FnExactRwrStreamCardSaid :=
  Claim7.holds_tied_plain_at .later [] Rows.fnExactRwrStreamCard.laidKinds true Rows.fnExactRwrStreamCard.stood.harness true
    fnExactRwrStream_row (fun _ h => by cases h) (by kernel_rfl) (fun _ h => by cases h) fnExactRwrStream_row_tie rfl ⟨rfl, rfl⟩ (by kernel_rfl) rfl
    (fun f fn hf hfn => by
      obtain rfl : f = 4 := Option.some.inj ((show Tryz.prog.funcNamed "loop.example/hatchway/laws.FnExactRwrStream" = some 4 by kernel_rfl).symm.trans hf) |>.symm
      obtain rfl : fn = Tryz.f4 := (Option.some.inj (Tryz.func4.symm.trans hfn)).symm
      exact ⟨by kernel_rfl, fun j t ht => by
        rw [Tryz.params4] at ht
        have hm : t ∈ [24, 9] := by
          have := Array.mem_of_getElem? ht
          simpa using this
        have hall : ([24, 9].all fun u => !Tryz.prog.wantsStandIn u) = true := by kernel_rfl
        exact (show Tryz.prog.wantsStandIn t = false by simpa using List.all_eq_true.1 hall t hm)⟩)
    (by kernel_rfl)

end Go.Proofs.YtpilmldcmpbabaaGreatDoor
