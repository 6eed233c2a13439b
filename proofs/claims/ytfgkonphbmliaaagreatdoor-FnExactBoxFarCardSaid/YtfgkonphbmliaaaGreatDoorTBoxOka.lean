/- l3Stream and RwrStream of the specification. Conditions: the table is ok; the text has at most 2^21 bytes. (Several texts, joined: SRwr, SLine, Vals, PutE, LineE, Box, SStr.) -/
import Derived.Test.YtfgkonphbmliaaaGreatDoorSBak
import Derived.Test.YtfgkonphbmliaaaGreatDoorCell2
import Derived.Test.YtfgkonphbmliaaaGreatDoorGen
import Derived.Test.YtfgkonphbmliaaaGreatDoorLines
import Derived.Test.YtfgkonphbmliaaaGreatDoorSLin
import Derived.Test.YtfgkonphbmliaaaGreatDoorTabs
import Derived.Test.YtfgkonphbmliaaaGreatDoorFresh
import Derived.Test.YtfgkonphbmliaaaGreatDoorOwnEnds
import Derived.Deep.RegionHeld3
import Derived.Deep.DeepCutAuto

/- l3Line of the specification: a line as it goes outside, and the table then. Conditions: at most 2^22 ends; the text has at most 2^21 bytes. -/
namespace Go.Proofs.YtfgkonphbmliaaaGreatDoor
open Go.RowKit Go.Sort

def noneL : List UInt8 := [110, 111, 110, 101]
/-- A line as it goes outside, and the table then. -/
def lineE (es : List (Int × Int)) (l : List UInt8) : List (Int × Int) × List UInt8 := match saysE l with | none => (es, l) | some e => if (putE es e).2 = 0 then ((putE es e).1, noneL) else ((putE es e).1, lpL 50 (putE es e).2)

theorem specPut_new_or (ad : Addr) (cap : Nat) (es : List (Int × Int)) (a p : Int) (w : World) (hn : es.length ≤ 4194304) (ht : TabAt w (.slice (some ad) es.length cap) es) :
    Calls Tryz.prog 57 #[.agg #[.slice (some ad) es.length cap], .agg #[.int .i64 a, .int .i64 p]] w fun e w' => ∃ g c, e = .returned (.tuple #[.agg #[.slice (some g) (putE es (a, p)).1.length c], .int .i64 (putE es (a, p)).2]) ∧ ((g = ad ∧ c = cap ∧ (putE es (a, p)).1 = es) ∨ OwnTab w' w.heap.size (.slice (some g) (putE es (a, p)).1.length c) (putE es (a, p)).1) ∧ Below w.heap.size w w' := by
  by_cases h : 0 < portI es (a, p)
  · rw [show putE es (a, p) = (es, portI es (a, p)) from if_pos h]
    refine (specPut_has ad cap es a p w hn ht h).mono ?_
    rintro e w' ⟨rfl, hb⟩
    exact ⟨_, _, rfl, .inl ⟨rfl, rfl, rfl⟩, hb⟩
  · have h0 := portI_zero h
    by_cases h6 : es.length = 6
    · rw [show putE es (a, p) = (es, 0) from by unfold putE; rw [if_neg h, if_pos h6]]
      refine (specPut_full ad cap es a p w hn ht h0 h6).mono ?_
      rintro e w' ⟨rfl, hb⟩
      exact ⟨_, _, rfl, .inl ⟨rfl, rfl, rfl⟩, hb⟩
    · rw [show putE es (a, p) = (es ++ [(a, p)], 500 + (es.length : Int)) from by unfold putE; rw [if_neg h, if_neg h6]]
      refine (specPut_new ad cap es a p w hn ht h0 h6).mono ?_
      rintro e w' ⟨g, c, rfl, h1, hb⟩
      exact ⟨g, c, by simp, .inr (by simpa using h1), hb⟩

set_option maxRecDepth 100000 in
set_option maxHeartbeats 1600000 in
theorem specLine_any (B : Nat) (ad : Addr) (cap : Nat) (es : List (Int × Int)) (s : ByteArray) (w : World) (hn : es.length ≤ 4194304) (hs : s.size ≤ 2097152) (hB : B ≤ w.heap.size) (ho : OwnTab w B (.slice (some ad) es.length cap) es) :
    Calls Tryz.prog 146 #[.agg #[.slice (some ad) es.length cap], .string s] w fun e w' => ∃ g c, e = .returned (.tuple #[.agg #[.slice (some g) (lineE es s.data.toList).1.length c], .string ⟨(lineE es s.data.toList).2.toArray⟩]) ∧ OwnTab w' B (.slice (some g) (lineE es s.data.toList).1.length c) (lineE es s.data.toList).1 ∧ Below w.heap.size w w' := by
  have HO := Lib.hid ho
  clear ho
  rcases hb : saysE s.data.toList with _ | ⟨a, p⟩
  · have HB : Hid (∀ w, Calls Tryz.prog 166 #[.string s] w fun e w' => e = .returned (.tuple #[.agg #[.int .i64 0, .int .i64 0], .bool false]) ∧ Below w.heap.size w w') := fun w => by have := specSays_any s w hs; rw [hb] at this; exact this
    have HE : Hid (lineE es s.data.toList = (es, s.data.toList)) := by show lineE _ _ = _; unfold lineE; rw [hb]
    clear hb
    rw [HE.out, str_same]
    go_enter Tryz.func146, Tryz.ntmps146
    go_wp2_with fail
    (go_at_call 166; refine (HB.out _).mono ?_; rintro e w1 ⟨rfl, b1⟩; obtain ⟨cA, cB, b01, z1⟩ := cell_two b1; have t0 := (cA 0).1; have r0 := (cB 0).1; have g0 := (cB 0).2; simp at t0 r0; have B1 := Lib.hid b01; clear cA cB b1 b01)
    have t1 : (w1.alloc (.cells #[.int .i64 0, .int .i64 0] 48)).cell? ⟨w.heap.size, 0, none⟩ = some (.slice (some ad) es.length cap) := (by rw [cell_alloc_lt (by omega)]; exact t0)
    have r1 : (w1.alloc (.cells #[.int .i64 0, .int .i64 0] 48)).cell? ⟨w.heap.size + 1, 0, none⟩ = some (.slice none 0 0) := (by rw [cell_alloc_lt (by omega)]; exact r0)
    have g1 : (w1.alloc (.cells #[.int .i64 0, .int .i64 0] 48)).frozen? ⟨w.heap.size + 1, 0, none⟩ = false := (by rw [frozen_alloc_lt (by omega)]; exact g0)
    go_wp2_with fail
    refine bodyPost_ret (v := .tuple #[.agg #[.slice (some ad) es.length cap], .string s]) (by simp [results, Tryz.results146, go_sem, World.cell?_setCell_same _ _ _ r1]) rfl ?_
    exact ⟨_, _, rfl, HO.out.below ((B1.out.alloc B1.out.size _).setCell (by simp) _), (B1.out.alloc B1.out.size _).setCell (by simp) _⟩
  · obtain ⟨us, hus⟩ : ∃ us, us = (putE es (a, p)).1 := ⟨_, rfl⟩
    obtain ⟨q, hq⟩ : ∃ q, q = (putE es (a, p)).2 := ⟨_, rfl⟩
    have hP : Hid (∀ (w : World), TabAt w (.slice (some ad) es.length cap) es → Calls Tryz.prog 57 #[.agg #[.slice (some ad) es.length cap], .agg #[.int .i64 a, .int .i64 p]] w fun e w' => ∃ g c, e = .returned (.tuple #[.agg #[.slice (some g) us.length c], .int .i64 q]) ∧ ((g = ad ∧ c = cap ∧ us = es) ∨ OwnTab w' w.heap.size (.slice (some g) us.length c) us) ∧ Below w.heap.size w w') := fun w h => by rw [hus, hq]; exact specPut_new_or ad cap es a p w hn h
    have HB : Hid (∀ w, Calls Tryz.prog 166 #[.string s] w fun e w' => e = .returned (.tuple #[.agg #[.int .i64 a, .int .i64 p], .bool true]) ∧ Below w.heap.size w w') := fun w => by have := specSays_any s w hs; rw [hb] at this; exact this
    by_cases h0 : q = 0
    · have HE : Hid (lineE es s.data.toList = (us, noneL)) := by show lineE _ _ = _; unfold lineE; rw [hb]; simp only; rw [← hq, if_pos h0, hus]
      clear hb hus hq
      subst h0
      rw [HE.out]
      go_enter Tryz.func146, Tryz.ntmps146
      go_wp2_with fail
      (go_at_call 166; refine (HB.out _).mono ?_; rintro e w1 ⟨rfl, b1⟩; obtain ⟨cA, cB, b01, z1⟩ := cell_two b1; have t0 := (cA 0).1; have r0 := (cB 0).1; have g0 := (cB 0).2; simp at t0 r0; have B1 := Lib.hid b01; clear cA cB b1 b01)
      have t1 : (w1.alloc (.cells #[.int .i64 a, .int .i64 p] 48)).cell? ⟨w.heap.size, 0, none⟩ = some (.slice (some ad) es.length cap) := (by rw [cell_alloc_lt (by omega)]; exact t0)
      have r1 : (w1.alloc (.cells #[.int .i64 a, .int .i64 p] 48)).cell? ⟨w.heap.size + 1, 0, none⟩ = some (.slice none 0 0) := (by rw [cell_alloc_lt (by omega)]; exact r0)
      have g1 : (w1.alloc (.cells #[.int .i64 a, .int .i64 p] 48)).frozen? ⟨w.heap.size + 1, 0, none⟩ = false := (by rw [frozen_alloc_lt (by omega)]; exact g0)
      go_wp2_with fail
      (go_at_call 57; refine (hP.out _ (HO.out.tab.below (B1.out.alloc B1.out.size _))).mono ?_; rintro e w2 ⟨g2, c2, rfl, o2, b2⟩; have O2 := Lib.hid o2; have B2 := Lib.hid b2; clear o2 b2)
      have r2 : w2.cell? ⟨w.heap.size + 1, 0, none⟩ = some (.slice none 0 0) := (by rw [B2.out.cell (by simp; omega)]; exact r1)
      have g02 : w2.frozen? ⟨w.heap.size + 1, 0, none⟩ = false := (by rw [B2.out.frozen (by simp; omega)]; exact g1)
      have z2 := B2.out.size
      have z2 : w1.heap.size + 1 ≤ w2.heap.size := by simpa using z2
      have r3 : (w2.alloc (.cells #[.slice (some g2) us.length c2] 34)).cell? ⟨w.heap.size + 1, 0, none⟩ = some (.slice none 0 0) := (by rw [cell_alloc_lt (by show _ < _; omega)]; exact r2)
      have g03 : (w2.alloc (.cells #[.slice (some g2) us.length c2] 34)).frozen? ⟨w.heap.size + 1, 0, none⟩ = false := (by rw [frozen_alloc_lt (by show _ < _; omega)]; exact g02)
      go_wp2_with fail
      refine bodyPost_ret (v := .tuple #[.agg #[.slice (some g2) us.length c2], .string ⟨noneL.toArray⟩]) (by simp [results, Tryz.results146, go_sem, World.cell?_setCell_same _ _ _ r3, noneL]) rfl ?_
      have BF : Below w.heap.size w ((w2.alloc (.cells #[.slice (some g2) us.length c2] 34)).setCell ⟨w.heap.size + 1, 0, none⟩ (.slice (some g2) us.length c2)) := (((B1.out.alloc B1.out.size _).trans (B2.out.mono (by simp; omega))).alloc (by omega) _).setCell (by simp) _
      refine ⟨_, _, rfl, ?_, BF⟩
      rcases O2.out with ⟨rfl, rfl, rfl⟩ | o2
      · exact HO.out.below BF
      · exact OwnTab.mono (B := w1.heap.size) (ownsRow_setCell_below (OwnTab.below (OwnTab.mono o2 (by simp)) ((Below.refl _ _).alloc (Nat.le_refl _) _)) (by simp; omega) _) (by omega)
    · have HE : Hid (lineE es s.data.toList = (us, lpL 50 q)) := by show lineE _ _ = _; unfold lineE; rw [hb]; simp only; rw [← hq, if_neg h0, hus]
      clear hb hus hq
      rw [HE.out]
      go_enter Tryz.func146, Tryz.ntmps146
      go_wp2_with fail
      (go_at_call 166; refine (HB.out _).mono ?_; rintro e w1 ⟨rfl, b1⟩; obtain ⟨cA, cB, b01, z1⟩ := cell_two b1; have t0 := (cA 0).1; have r0 := (cB 0).1; have g0 := (cB 0).2; simp at t0 r0; have B1 := Lib.hid b01; clear cA cB b1 b01)
      have t1 : (w1.alloc (.cells #[.int .i64 a, .int .i64 p] 48)).cell? ⟨w.heap.size, 0, none⟩ = some (.slice (some ad) es.length cap) := (by rw [cell_alloc_lt (by omega)]; exact t0)
      have r1 : (w1.alloc (.cells #[.int .i64 a, .int .i64 p] 48)).cell? ⟨w.heap.size + 1, 0, none⟩ = some (.slice none 0 0) := (by rw [cell_alloc_lt (by omega)]; exact r0)
      have g1 : (w1.alloc (.cells #[.int .i64 a, .int .i64 p] 48)).frozen? ⟨w.heap.size + 1, 0, none⟩ = false := (by rw [frozen_alloc_lt (by omega)]; exact g0)
      go_wp2_with fail
      (go_at_call 57; refine (hP.out _ (HO.out.tab.below (B1.out.alloc B1.out.size _))).mono ?_; rintro e w2 ⟨g2, c2, rfl, o2, b2⟩; have O2 := Lib.hid o2; have B2 := Lib.hid b2; clear o2 b2)
      have r2 : w2.cell? ⟨w.heap.size + 1, 0, none⟩ = some (.slice none 0 0) := (by rw [B2.out.cell (by simp; omega)]; exact r1)
      have g02 : w2.frozen? ⟨w.heap.size + 1, 0, none⟩ = false := (by rw [B2.out.frozen (by simp; omega)]; exact g1)
      have z2 := B2.out.size
      have z2 : w1.heap.size + 1 ≤ w2.heap.size := by simpa using z2
      have r3 : (w2.alloc (.cells #[.slice (some g2) us.length c2] 34)).cell? ⟨w.heap.size + 1, 0, none⟩ = some (.slice none 0 0) := (by rw [cell_alloc_lt (by show _ < _; omega)]; exact r2)
      have g03 : (w2.alloc (.cells #[.slice (some g2) us.length c2] 34)).frozen? ⟨w.heap.size + 1, 0, none⟩ = false := (by rw [frozen_alloc_lt (by show _ < _; omega)]; exact g02)
      go_wp2_with fail
      have BF : Hid (Below w.heap.size w (w2.alloc (.cells #[.slice (some g2) us.length c2] 34))) := (((B1.out.alloc B1.out.size _).trans (B2.out.mono (by simp; omega))).alloc (by omega) _)
      have x3 : (w2.alloc (.cells #[.slice (some g2) us.length c2] 34)).cell? ⟨w2.heap.size, 0, none⟩ = some (.slice (some g2) us.length c2) := (cell_new _ _ _ 0).1
      have z3 : w2.heap.size + 1 ≤ (w2.alloc (.cells #[.slice (some g2) us.length c2] 34)).heap.size := by simp
      have O3 : Hid ((g2 = ad ∧ c2 = cap ∧ us = es) ∨ OwnTab (w2.alloc (.cells #[.slice (some g2) us.length c2] 34)) (w1.heap.size + 1) (.slice (some g2) us.length c2) us) := O2.out.imp id (fun o2 => OwnTab.below (OwnTab.mono o2 (by simp)) ((Below.refl _ _).alloc (Nat.le_refl _) _))
      obtain ⟨w3, hw3⟩ : ∃ w3, w3 = w2.alloc (.cells #[.slice (some g2) us.length c2] 34) := ⟨_, rfl⟩
      obtain ⟨k2, hk2⟩ : ∃ k2, k2 = w2.heap.size := ⟨_, rfl⟩
      rw [← hw3] at BF x3 z3 O3 r3 g03
      rw [← hk2] at x3 z3 z2
      rw [← hw3, ← hk2]
      clear hw3 hk2 r2 g02 O2 B2 B1 r0 t0 g0 t1 r1 g1
      go_region_with (go_at_call 161; refine (specLinPort_any 50 q _).mono ?_; rintro e w4 ⟨rfl, b4⟩; have B4 : Hid (Below w3.heap.size w3 w4) := ((Below.refl _ _).drew).trans b4; have x4 : w4.cell? ⟨k2, 0, none⟩ = some (.slice (some g2) us.length c2) := (by rw [B4.out.cell (by simp; omega)]; exact x3); have r4 : w4.cell? ⟨w.heap.size + 1, 0, none⟩ = some (.slice none 0 0) := (by rw [B4.out.cell (by simp; omega)]; exact r3); have g04 : w4.frozen? ⟨w.heap.size + 1, 0, none⟩ = false := (by rw [B4.out.frozen (by simp; omega)]; exact g03))
      all_goals
        go_wp2_with fail
        refine bodyPost_ret (v := .tuple #[.agg #[.slice (some g2) us.length c2], .string ⟨(lpL 50 q).toArray⟩]) (by simp [results, Tryz.results146, go_sem, World.cell?_setCell_same _ _ _ r4]) rfl ?_
        have BG : Below w.heap.size w (w4.setCell ⟨w.heap.size + 1, 0, none⟩ (.slice (some g2) us.length c2)) := (BF.out.trans (B4.out.mono BF.out.size)).setCell (by simp) _
        refine ⟨_, _, rfl, ?_, BG⟩
        rcases O3.out with ⟨rfl, rfl, rfl⟩ | o3
        · exact HO.out.below BG
        · exact OwnTab.mono (B := w1.heap.size) (ownsRow_setCell_below (OwnTab.below (OwnTab.mono o3 (by simp)) B4.out) (by simp; omega) _) (by omega)

end Go.Proofs.YtfgkonphbmliaaaGreatDoor

/- StrLines and StrOk of the specification, at every text. Condition: the text has at most 2^21 bytes. -/
namespace Go.Proofs.YtfgkonphbmliaaaGreatDoor
open Go.RowKit

set_option maxRecDepth 100000 in
set_option maxHeartbeats 800000 in
theorem specLines_any (s : ByteArray) (w : World) (hs : s.size ≤ 2097152) :
    Calls Tryz.prog 134 #[.string s] w fun e w' => ∃ v, e = .returned (.tuple #[v, .string ⟨(restL s.data.toList).toArray⟩]) ∧ w'.ownsRow w.heap.size 9 1 v (linesL s.data.toList).length ((linesL s.data.toList).map strV) ∧ Below w.heap.size w w' := by
  obtain ⟨i0, hi, hz0, hz1, hz2⟩ := info_parts infoStr
  go_enter Tryz.func134, Tryz.ntmps134
  go_wp2
  go_loopw [4, 5, 6] (fun v f i wr => ∃ (k m : Nat) (W0 : List (List UInt8) × List UInt8), k ≤ s.size ∧ i = .int .i64 k ∧ f = .int .i64 m ∧ m + W0.2.length = k ∧ W0 = linesF (s.data.toList.take k) ∧ wr.ownsRow w.heap.size 9 1 v W0.1.length (W0.1.map strV) ∧ Below w.heap.size w wr)
    (fun _ _ i _ => s.size - (intOf i).toNat)
  case atStart => exact ⟨0, 0, ([], []), Nat.zero_le _, rfl, rfl, rfl, rfl, World.ownsRow_made w #[] 0 (Nat.le_refl _) (Nat.zero_le _) rfl, (Below.refl _ _).alloc (Nat.le_refl _) _⟩
  case round =>
    obtain ⟨k, m, W0, hk, rfl, rfl, hm, hW, hown, hb⟩ := hrel
    have HW := Lib.hid hW
    have HM := Lib.hid hm
    have hlen : W0.1.length ≤ k := by
      have := lines_len (s.data.toList.take k)
      rw [hW]; simp [linesL] at this ⊢; omega
    have hmk : m ≤ k := by omega
    have hbs := hb.size
    clear hW hm
    by_cases hlt : k < s.size
    · have hsn : Hid (linesF (s.data.toList.take (k + 1)) = stl W0 s[k]) := by
        show linesF (s.data.toList.take (k + 1)) = stl W0 s[k]
        rw [take_snoc s k hlt, linesF_snoc, HW.out]
      by_cases h59 : s[k] = 59
      · have ht : (((s[k]).toNat : Int) == 59) = true := by rw [h59]; rfl
        have H59 : Hid (s[k] = 59) := h59
        have HX : Hid (s.extract m k = ⟨W0.2.toArray⟩) := by
          show s.extract m k = _
          have h1 := rest_drop (s.data.toList.take k)
          rw [show restL (s.data.toList.take k) = W0.2 by rw [HW.out]; rfl] at h1
          have h2 : (s.data.toList.take k).length - W0.2.length = m := by have := HM.out; simp; omega
          rw [h2] at h1
          rw [ext_list, ← h1]
        clear h59
        go_wp2_with (at_builtin; rw [HX.out]; refine wpList_append_own _ rfl (.tmp 18) (.tmp 23) 169 rfl w.heap.size 9 i0 (.string ⟨#[]⟩) 1 16 Tryz.underlying169 hi hz0 hz1 hz2 rfl (by decide) _ _ _ rfl (hown.alloc _) ⟨wr.heap.size, 0, none⟩ 1 1 [.string ⟨W0.2.toArray⟩] rfl rfl ?c1 ?c2 ?c3 ?c4 ?c5 ?_)
        case c1 =>
          intro j u hj
          match j, hj with
          | 0, hj => simp at hj; subst hj; simp [Addr.add]
        case c2 => intro u hu; simp at hu; subst hu; rfl
        case c3 => unfold maxLen; omega
        case c4 => omega
        case c5 => simp; omega
        · intro v' w1 hown' hgrow _
          go_wp2
          go_roundw
          case rel =>
            refine ⟨k + 1, k + 1, stl W0 s[k], by omega, by go_num, by go_num, ?_, hsn.out.symm, ?_, ?_⟩
            · rw [stl, if_pos H59.out]; simp
            · rw [stl, if_pos H59.out]; simpa [strV] using hown'
            · exact (hb.alloc hbs _).grown hgrow (by simp; omega) (fun k hk => (hown.lt k hk).1)
          case measure => simp [intOf]; omega
      · have ht : (((s[k]).toNat : Int) == 59) = false := by
          have e59 : (59 : UInt8).toNat = 59 := rfl
          simp; intro e; exact h59 (UInt8.toNat_inj.1 (by omega))
        have H59 : Hid (¬ s[k] = 59) := h59
        clear h59
        go_wp2
        go_roundw
        case rel =>
          refine ⟨k + 1, m, stl W0 s[k], by omega, by go_num, rfl, ?_, hsn.out.symm, ?_, hb⟩
          · have := HM.out
            rw [stl, if_neg H59.out]; simp; omega
          · rw [stl, if_neg H59.out]; exact hown
        case measure => simp [intOf]; omega
    · have HK : Hid (s.data.toList.take k = s.data.toList) := List.take_of_length_le (by rw [len_list]; omega)
      have HX : Hid (s.extract m s.size = ⟨(restL s.data.toList).toArray⟩) := by
        show s.extract m s.size = _
        have h1 := rest_drop s.data.toList
        have h0 : restL s.data.toList = W0.2 := by rw [HW.out, HK.out]; rfl
        have h2 : s.data.toList.length - (restL s.data.toList).length = m := by have := HM.out; rw [h0, len_list]; omega
        rw [h2] at h1
        rw [ext_list, List.take_of_length_le (by rw [len_list]; omega), ← h1]
      have HE : Hid (linesL s.data.toList = W0.1) := by
        show linesL s.data.toList = W0.1
        rw [HW.out, HK.out]; rfl
      have hm1 : (0 : Int) ≤ (m : Int) := by omega
      have hm2 : (m : Int) ≤ (s.size : Int) := by omega
      go_wp2_with fail
      go_region
      go_wp2
      go_ret2
      exact ⟨_, by rw [HX.out]; rfl, by rw [HE.out]; exact hown, hb.drew⟩

set_option maxRecDepth 100000 in
set_option maxHeartbeats 800000 in
theorem specStr_any (s : ByteArray) (w : World) (hs : s.size ≤ 2097152) :
    Calls Tryz.prog 94 #[.string s] w fun e w' => e = .returned (.bool (strB s.data.toList)) ∧ Below w.heap.size w w' := by
  by_cases h120 : 120 < s.size
  · go_enter Tryz.func94, Tryz.ntmps94
    go_wp2_with fail
    go_ret
    exact ⟨ret_bool (by unfold strB; rw [len_list, decide_eq_false (by omega)]; rfl), Below.refl _ _⟩
  · go_enter Tryz.func94, Tryz.ntmps94
    go_wp2_with (go_at_call 134; refine (specLines_any _ _ hs).mono ?_; rintro e w1 ⟨v, rfl, own1, b1⟩)
    obtain ⟨a1, cap1, rfl⟩ := own_form own1
    have hll := lines_len s.data.toList
    rw [len_list] at hll
    have sR : (⟨(restL s.data.toList).toArray⟩ : ByteArray).size ≤ 281474976710656 := by simp [ByteArray.size]; omega
    go_loop [5] (fun i => ∃ k : Nat, k ≤ (linesL s.data.toList).length ∧ i = .int .i64 k ∧ (∀ x ∈ (linesL s.data.toList).take k, linB x = true)) (fun i => (linesL s.data.toList).length - (intOf i).toNat)
    case atStart => exact ⟨0, Nat.zero_le _, rfl, by simp⟩
    case round =>
      obtain ⟨k, hk, rfl, hd⟩ := hrel
      have HD := Lib.hid hd
      clear hd
      by_cases hlt : k < (linesL s.data.toList).length
      · obtain ⟨g, cap, e1, gB, gl, hcap, hcells⟩ := own_cells own1 (by omega)
        obtain ⟨x, hx⟩ : ∃ x, x = (linesL s.data.toList)[k] := ⟨_, rfl⟩
        have hcell : w1.cell? ⟨g, k, none⟩ = some (strV x) := by
          rw [(hcells k (by simpa using hlt)).1]; simp [hx]
        have hxl : x.length ≤ s.size := by rw [← len_list]; exact line_len (by rw [hx]; exact List.getElem_mem _)
        have sX : (⟨x.toArray⟩ : ByteArray).size ≤ 281474976710656 := by simp [ByteArray.size]; omega
        simp at e1
        obtain ⟨rfl, rfl⟩ := e1
        have HX : Hid (x = (linesL s.data.toList)[k]) := hx
        clear hx hcells hxl
        unfold strV at hcell
        by_cases hb : linB x = true
        · have HB := Lib.hid hb
          go_wp2_with (go_at_call 135; refine (specLin_any _ _ sX).mono ?_; rintro e w' ⟨rfl, rfl⟩)
          go_round
          case rel =>
            refine ⟨k + 1, by omega, by go_num, ?_⟩
            rw [List.take_succ_eq_append_getElem hlt, ← HX.out]; intro y hy
            rcases List.mem_append.1 hy with hy | hy
            · exact HD.out y hy
            · simp at hy; subst hy; exact HB.out
          case measure => simp [intOf]; omega
        · have HB : Hid (strB s.data.toList = false) := by
            have : (linesL s.data.toList).all linB = false := by
              rw [List.all_eq_false]; exact ⟨x, by rw [HX.out]; exact List.getElem_mem _, hb⟩
            show (_ && _ && _) = false
            rw [this]; simp
          go_wp2_with (go_at_call 135; refine (specLin_any _ _ sX).mono ?_; rintro e w' ⟨rfl, rfl⟩)
          go_ret
          exact ⟨ret_bool HB.out.symm, b1⟩
      · have HS : Hid (strB s.data.toList = linB (restL s.data.toList)) := by
          have he : (linesL s.data.toList).take k = linesL s.data.toList := List.take_of_length_le (by omega)
          show (_ && _ && _) = _
          rw [len_list, decide_eq_true (by omega), ← he, List.all_eq_true.2 HD.out]; simp
        go_wp2_with (go_at_call 135; refine (specLin_any _ _ sR).mono ?_; rintro e w' ⟨rfl, rfl⟩)
        go_ret
        exact ⟨ret_bool (by rw [HS.out]), b1⟩

end Go.Proofs.YtfgkonphbmliaaaGreatDoor

/- The entries that a table's two maps have: an end's first port, and a port's end. No condition. -/
namespace Go.Proofs.YtfgkonphbmliaaaGreatDoor
open Go.RowKit

/-- An end as a value; a port as a value. -/
def eV (e : Int × Int) : Value := .agg #[.int .i64 e.1, .int .i64 e.2]
def pV (k : Nat) : Value := .int .i64 (500 + (k : Int))
theorem eV_inj {a b : Int × Int} (h : eV a = eV b) : a = b := by
  obtain ⟨a1, a2⟩ := a
  obtain ⟨b1, b2⟩ := b
  simp [eV] at h
  exact Prod.ext h.1 h.2
theorem pV_inj {a b : Nat} (h : pV a = pV b) : a = b := by
  simp [pV] at h
  omega

/-- The k-th end comes with its port, if it did not stand ahead. -/
def valAt (es : List (Int × Int)) (k : Nat) : Option (Value × Value) := if es.getD k (0, 0) ∈ es.take k then none else some (eV (es.getD k (0, 0)), pV k)
def valsL (es : List (Int × Int)) : List (Value × Value) := (List.range es.length).filterMap (valAt es)
def keysL (es : List (Int × Int)) : List (Value × Value) := (List.range es.length).map fun k => (pV k, eV (es.getD k (0, 0)))

theorem getD_app {es : List (Int × Int)} {e : Int × Int} {k : Nat} (h : k < es.length) : (es ++ [e]).getD k (0, 0) = es.getD k (0, 0) := by
  simp [List.getD, List.getElem?_append_left h]
theorem getD_last (es : List (Int × Int)) (e : Int × Int) : (es ++ [e]).getD es.length (0, 0) = e := by simp [List.getD]
theorem filterMap_same {α β : Type} {f g : α → Option β} : ∀ (l : List α), (∀ x ∈ l, f x = g x) → l.filterMap f = l.filterMap g
  | [], _ => rfl
  | x :: r, h => by
    rw [List.filterMap_cons, List.filterMap_cons, h x (by simp), filterMap_same r fun y hy => h y (by simp [hy])]
theorem valsL_snoc (es : List (Int × Int)) (e : Int × Int) : valsL (es ++ [e]) = if e ∈ es then valsL es else valsL es ++ [(eV e, pV es.length)] := by
  unfold valsL
  rw [List.length_append, List.length_singleton, List.range_succ, List.filterMap_append]
  have h1 : (List.range es.length).filterMap (valAt (es ++ [e])) = (List.range es.length).filterMap (valAt es) := by
    refine filterMap_same _ fun k hk => ?_
    have hk' : k < es.length := List.mem_range.1 hk
    unfold valAt
    rw [getD_app hk', List.take_append_of_le_length (by omega)]
  rw [h1]
  have h2 : valAt (es ++ [e]) es.length = if e ∈ es then none else some (eV e, pV es.length) := by
    unfold valAt
    rw [getD_last]
    simp
  split
  · rename_i h; simp [h2, h]
  · rename_i h; simp [h2, h]
theorem keysL_snoc (es : List (Int × Int)) (e : Int × Int) : keysL (es ++ [e]) = keysL es ++ [(pV es.length, eV e)] := by
  unfold keysL
  rw [List.length_append, List.length_singleton, List.range_succ, List.map_append]
  congr 1
  · refine List.map_congr_left fun k hk => ?_
    rw [getD_app (List.mem_range.1 hk)]
  · simp
theorem take_snocE (es : List (Int × Int)) (k : Nat) (h : k < es.length) : es.take (k + 1) = es.take k ++ [es[k]] := List.take_succ_eq_append_getElem h

theorem valsL_mem {es : List (Int × Int)} {p : Value × Value} (h : p ∈ valsL es) : ∃ k, ∃ hk : k < es.length, p = (eV es[k], pV k) ∧ es[k] ∉ es.take k := by
  obtain ⟨k, hk, h⟩ := List.mem_filterMap.1 h
  have hk' : k < es.length := List.mem_range.1 hk
  have hg : es.getD k (0, 0) = es[k] := by simp [List.getD, hk']
  unfold valAt at h
  rw [hg] at h
  split at h
  · cases h
  · rename_i hn
    exact ⟨k, hk', (Option.some.inj h).symm, hn⟩
theorem vals_miss {es : List (Int × Int)} {e : Int × Int} (h : e ∉ es) : ∀ p ∈ valsL es, p.1 ≠ eV e := by
  intro p hp he
  obtain ⟨k, hk, rfl, _⟩ := valsL_mem hp
  exact h (eV_inj he ▸ List.getElem_mem hk)
theorem keys_miss {es : List (Int × Int)} {port : Int} (h : ¬ (500 ≤ port ∧ port ≤ 500 + (es.length : Int) - 1)) : ∀ p ∈ keysL es, p.1 ≠ .int .i64 port := by
  intro p hp he
  obtain ⟨k, hk, rfl⟩ := List.mem_map.1 hp
  have hk' : k < es.length := List.mem_range.1 hk
  simp [pV] at he
  omega
theorem keys_hit {es : List (Int × Int)} {k : Nat} (h : k < es.length) : (pV k, eV es[k]) ∈ keysL es := by
  refine List.mem_map.2 ⟨k, List.mem_range.2 h, ?_⟩
  simp [List.getD, h]
theorem keysL_len (es : List (Int × Int)) : (keysL es).length = es.length := by simp [keysL]

theorem findI_mem {es : List (Int × Int)} {e : Int × Int} (h : e ∈ es) : ∃ k, ∃ hk : k < es.length, es[k] = e ∧ e ∉ es.take k ∧ findI es e = k := by
  have hs : (es.findIdx? (fun x => x == e)).isSome := by rw [List.findIdx?_isSome]; simpa using h
  obtain ⟨k, hk⟩ := Option.isSome_iff_exists.1 hs
  have hf : findI es e = k := by unfold findI; rw [hk]
  rw [List.findIdx?_eq_some_iff_getElem] at hk
  obtain ⟨h1, h2, h3⟩ := hk
  refine ⟨k, h1, by simpa using h2, fun hm => ?_, hf⟩
  obtain ⟨_, hj, hje⟩ := List.getElem_of_mem hm
  have := h3 _ (Nat.lt_of_lt_of_le hj (by simp; omega))
  rw [List.getElem_take] at hje
  simp [hje] at this
theorem findI_not {es : List (Int × Int)} {e : Int × Int} (h : e ∉ es) : findI es e = -1 :=
  findI_miss fun _ hj he => h (he ▸ List.getElem_mem hj)
theorem findI_neg {es : List (Int × Int)} {e : Int × Int} : findI es e < 0 ↔ e ∉ es := by
  constructor
  · intro h hm
    obtain ⟨k, _, _, _, hf⟩ := findI_mem hm
    omega
  · intro h
    rw [findI_not h]
    omega
theorem vals_hit {es : List (Int × Int)} {e : Int × Int} (h : e ∈ es) : (eV e, .int .i64 (portI es e)) ∈ valsL es := by
  obtain ⟨k, hk, he, hn, hf⟩ := findI_mem h
  refine List.mem_filterMap.2 ⟨k, List.mem_range.2 hk, ?_⟩
  have hg : es.getD k (0, 0) = e := by simp [List.getD, hk, he]
  unfold valAt portI
  rw [hg, if_neg hn, hf, if_neg (by omega)]
  rfl
theorem portI_not {es : List (Int × Int)} {e : Int × Int} (h : e ∉ es) : portI es e = 0 := by
  unfold portI
  rw [if_pos (findI_neg.2 h)]
theorem portI_pos {es : List (Int × Int)} {e : Int × Int} (h : e ∈ es) : 500 ≤ portI es e ∧ portI es e < 500 + es.length := by
  obtain ⟨k, hk, _, _, hf⟩ := findI_mem h
  unfold portI
  rw [hf, if_neg (by omega)]
  omega
theorem portI_zero_iff {es : List (Int × Int)} {e : Int × Int} : ¬ 0 < portI es e ↔ e ∉ es := by
  constructor
  · intro h hm
    have := portI_pos hm
    omega
  · intro h
    rw [portI_not h]
    omega

theorem valsL_le (es : List (Int × Int)) : (valsL es).length ≤ es.length := by
  have := List.length_filterMap_le (valAt es) (List.range es.length)
  simpa [valsL] using this
/-- As many ends have a port as there are just if none stands twice. -/
theorem valsL_full (es : List (Int × Int)) : ((valsL es).length = es.length) ↔ ∀ k, k < es.length → es.getD k (0, 0) ∉ es.take k := by
  have h : (valsL es).length = es.length ↔ (List.range es.length).countP (fun k => (valAt es k).isSome) = (List.range es.length).length := by
    rw [valsL, List.length_filterMap_eq_countP]; simp
  rw [h, List.countP_eq_length]
  constructor
  · intro hall k hk hm
    have := hall k (List.mem_range.2 hk)
    unfold valAt at this
    rw [if_pos hm] at this
    cases this
  · intro hall k hk
    have := hall k (List.mem_range.1 hk)
    simp only [valAt]
    rw [if_neg this]
    rfl
/-- The program's test of a table is the specification's. -/
theorem mapB_vals (es : List (Int × Int)) : mapB es = (decide (es.length ≤ 6) && (es.all (fun e => insB e.1 e.2) && decide ((valsL es).length = es.length))) := by
  rw [Bool.eq_iff_iff]
  simp only [mapB, Bool.and_eq_true, decide_eq_true_eq, List.all_eq_true, List.mem_range, mapP]
  refine and_congr_right fun _ => ?_
  rw [valsL_full]
  constructor
  · intro h
    refine ⟨fun e he => ?_, fun k hk hm => ?_⟩
    · obtain ⟨k, hk, rfl⟩ := List.getElem_of_mem he
      have := (h k hk).1
      simpa [List.getD, hk] using this
    · have := (h k hk).2
      exact findI_neg.1 this hm
  · intro h k hk
    refine ⟨?_, findI_neg.2 (h.2 k hk)⟩
    have := h.1 es[k] (List.getElem_mem hk)
    simpa [List.getD, hk] using this
/-- In a table that is ok as many ends have a port as there are. -/
theorem valsL_ok {es : List (Int × Int)} (h : mapB es = true) : (valsL es).length = es.length := by
  rw [mapB_vals] at h
  simp only [Bool.and_eq_true, decide_eq_true_eq] at h
  exact h.2.2
theorem mapB_le {es : List (Int × Int)} (h : mapB es = true) : es.length ≤ 6 := by
  rw [mapB_vals] at h
  simp only [Bool.and_eq_true, decide_eq_true_eq] at h
  exact h.1
theorem mapB_ins {es : List (Int × Int)} (h : mapB es = true) : ∀ e ∈ es, insB e.1 e.2 = true := by
  rw [mapB_vals] at h
  simp only [Bool.and_eq_true, decide_eq_true_eq, List.all_eq_true] at h
  exact h.2.1
theorem mapB_snoc {es : List (Int × Int)} {e : Int × Int} (h : mapB es = true) (h6 : es.length < 6) (hi : insB e.1 e.2 = true) (hn : e ∉ es) : mapB (es ++ [e]) = true := by
  rw [mapB_vals]
  simp only [Bool.and_eq_true, decide_eq_true_eq, List.all_eq_true]
  refine ⟨by simp; omega, fun x hx => ?_, ?_⟩
  · rcases List.mem_append.1 hx with hx | hx
    · exact mapB_ins h x hx
    · rw [List.mem_singleton.1 hx]; exact hi
  · rw [valsL_snoc, if_neg hn]
    simp [valsL_ok h]
theorem ins_wf {a p : Int} (h : insB a p = true) : (Lit.int .i64 a).wf = true ∧ (Lit.int .i64 p).wf = true := by
  simp only [insB, inB, Bool.and_eq_true, decide_eq_true_eq] at h
  exact ⟨WalkArith.wf_i64 (by omega), WalkArith.wf_i64 (by omega)⟩
theorem mapB_wf {es : List (Int × Int)} (h : mapB es = true) : wfE es := fun e he => ins_wf (mapB_ins h e he)
theorem pV_wf {k : Nat} (h : k ≤ 4194304) : (Lit.int .i64 (500 + (k : Int))).wf = true := WalkArith.wf_i64 (by omega)

end Go.Proofs.YtfgkonphbmliaaaGreatDoor

/- An end more in a table, as data: the cases. No condition. -/
namespace Go.Proofs.YtfgkonphbmliaaaGreatDoor
open Go.RowKit

theorem putE_has {es : List (Int × Int)} {e : Int × Int} (h : e ∈ es) : putE es e = (es, portI es e) := if_pos (by have := portI_pos h; omega)
theorem putE_full {es : List (Int × Int)} {e : Int × Int} (h : e ∉ es) (h6 : es.length = 6) : putE es e = (es, 0) := by
  unfold putE
  rw [if_neg (portI_zero_iff.2 h), if_pos h6]
theorem putE_new {es : List (Int × Int)} {e : Int × Int} (h : e ∉ es) (h6 : es.length ≠ 6) : putE es e = (es ++ [e], 500 + (es.length : Int)) := by
  unfold putE
  rw [if_neg (portI_zero_iff.2 h), if_neg h6]
theorem putE_ok {es : List (Int × Int)} {e : Int × Int} (hm : mapB es = true) (hi : insB e.1 e.2 = true) : mapB (putE es e).1 = true := by
  by_cases h : e ∈ es
  · rw [putE_has h]; exact hm
  · by_cases h6 : es.length = 6
    · rw [putE_full h h6]; exact hm
    · rw [putE_new h h6]
      exact mapB_snoc hm (by have := mapB_le hm; omega) hi h

end Go.Proofs.YtfgkonphbmliaaaGreatDoor

/- A line as it goes outside, as data. No condition. -/
namespace Go.Proofs.YtfgkonphbmliaaaGreatDoor
open Go.RowKit

theorem says_ins {l : List UInt8} {a p : Int} (h : saysE l = some (a, p)) : insB a p = true := by
  unfold saysE at h
  split at h
  · split at h
    · split at h
      · rename_i hi
        simp at h
        obtain ⟨rfl, rfl⟩ := h
        exact hi
      · cases h
    · cases h
  · cases h
theorem lineE_none {es : List (Int × Int)} {l : List UInt8} (h : saysE l = none) : lineE es l = (es, l) := by unfold lineE; rw [h]
theorem lineE_some {es : List (Int × Int)} {l : List UInt8} {e : Int × Int} (h : saysE l = some e) : lineE es l = ((putE es e).1, if (putE es e).2 = 0 then noneL else lpL 50 (putE es e).2) := by
  unfold lineE
  rw [h]
  simp only
  split <;> rfl
theorem lineE_ok {es : List (Int × Int)} {l : List UInt8} (hm : mapB es = true) : mapB (lineE es l).1 = true := by
  rcases h : saysE l with _ | ⟨a, p⟩
  · rw [lineE_none h]; exact hm
  · rw [lineE_some h]; exact putE_ok hm (says_ins h)

end Go.Proofs.YtfgkonphbmliaaaGreatDoor

/- Boxes and tables through calls, marks and stores: what stays. No condition. -/
namespace Go.Proofs.YtfgkonphbmliaaaGreatDoor
open Go.RowKit Go.Sort

/-- A box of one cell that a call finds new. -/
theorem fresh1 {W w : World} {x : Value} {t : TypeId} (h : Below (W.alloc (.cells #[x] t)).heap.size (W.alloc (.cells #[x] t)) w) : w.cell? ⟨W.heap.size, 0, none⟩ = some x ∧ w.frozen? ⟨W.heap.size, 0, none⟩ = false :=
  ⟨by rw [h.cell (by simp)]; simp, by rw [h.frozen (by simp)]; exact (cell_new W _ _ 0).2⟩
theorem fresh1d {W w : World} {x : Value} {t : TypeId} (h : Below (W.alloc (.cells #[x] t)).drew.heap.size (W.alloc (.cells #[x] t)).drew w) : w.cell? ⟨W.heap.size, 0, none⟩ = some x ∧ w.frozen? ⟨W.heap.size, 0, none⟩ = false :=
  fresh1 (((Below.refl _ _).drew).trans h)
theorem box_below {w w' : World} {b i : Nat} {v : Value} (h : w.cell? ⟨b, i, none⟩ = some v) (hb : Below w.heap.size w w') : w'.cell? ⟨b, i, none⟩ = some v := by
  rw [hb.cell (p := ⟨b, i, none⟩) (World.block_lt_of_cell? w _ h)]; exact h
theorem box_frozen {w w' : World} {b i : Nat} {v : Value} (h : w.cell? ⟨b, i, none⟩ = some v) (hf : w.frozen? ⟨b, i, none⟩ = false) (hb : Below w.heap.size w w') : w'.frozen? ⟨b, i, none⟩ = false := by
  rw [hb.frozen (p := ⟨b, i, none⟩) (World.block_lt_of_cell? w _ h)]; exact hf
theorem cell_grown {w w' : World} {b i : Nat} {v : Value} {row : Option Nat} (h : w.cell? ⟨b, i, none⟩ = some v) (hg : w.grownBy w' row) (hne : some b ≠ row) : w'.cell? ⟨b, i, none⟩ = some v := by
  have hk := hg.block b (World.block_lt_of_cell? w _ h) hne
  simp only [World.cell?] at h ⊢
  rw [hk]; exact h
theorem OwnTab.fresh {w : World} {B : Nat} {v : Value} {es : List (Int × Int)} (h : OwnTab w B v es) : FreshTab w B v es := by
  rcases h.2 with ⟨rfl, h0⟩ | ⟨g, cap, cur, rfl, hB, hg, h2, _, hs, ht⟩
  · exact .inl ⟨List.eq_nil_of_length_eq_zero h0, none, 0, rfl, fun _ => rfl⟩
  · have hlt := (Array.getElem?_eq_some_iff.1 hg).1
    have hh := h.tab
    by_cases he : es = []
    · subst he
      exact .inl ⟨rfl, _, cap, rfl, fun e => by cases e⟩
    · obtain ⟨a, c, e1, _, hrow⟩ := hh
      obtain ⟨g', e2, hat⟩ := hrow (List.length_pos_iff.2 he)
      simp at e1
      obtain ⟨rfl, rfl⟩ := e1
      simp at e2
      subst e2
      refine .inr ⟨g, cap, rfl, h2, hB, hlt, hat, fun i hi => ⟨?_, by simp [World.frozen?, hg]⟩⟩
      have hi' : i < cur.size := by rw [hs]; exact Nat.lt_of_lt_of_le hi (Nat.mul_le_mul_right _ h2)
      exact ⟨cur[i], by simp [World.cell?, hg, hi']⟩
theorem FreshTab.nil (w : World) (B : Nat) : FreshTab w B (.slice none 0 0) [] := .inl ⟨rfl, none, 0, rfl, fun _ => rfl⟩
theorem FreshTab.form {w : World} {B : Nat} {v : Value} {us : List (Int × Int)} (h : FreshTab w B v us) : ∃ a c, v = .slice a us.length c := by
  rcases h with ⟨rfl, a, cap, rfl, _⟩ | ⟨g, cap, rfl, _⟩
  · exact ⟨a, cap, rfl⟩
  · exact ⟨_, cap, rfl⟩
theorem FreshTab.mono {w : World} {B B' : Nat} {v : Value} {us : List (Int × Int)} (h : FreshTab w B v us) (hB : B' ≤ B) : FreshTab w B' v us := by
  rcases h with h | h
  · exact .inl h
  · exact .inr (h.mono hB)
theorem FreshTab.setCell {w : World} {B : Nat} {v : Value} {us : List (Int × Int)} (h : FreshTab w B v us) {a : Addr} (ha : a.block < B) (u : Value) : FreshTab (w.setCell a u) B v us := by
  rcases h with h | h
  · exact .inl h
  · exact .inr (h.setCell ha u)
theorem FreshTab.later {w w' : World} {B : Nat} {v : Value} {us : List (Int × Int)} (h : FreshTab w B v us) (hb : Below w.heap.size w w') : FreshTab w' B v us := h.below (Nat.le_refl _) hb
/-- What a table's own block is: none, or one behind B. -/
theorem FreshTab.block {w : World} {B : Nat} {v : Value} {us : List (Int × Int)} (h : FreshTab w B v us) (hu : us ≠ []) {k : Nat} (hk : v.ownBlock = some k) : B ≤ k ∧ k < w.heap.size := by
  rcases h with h | ⟨g, cap, rfl, _, hB, hl, _⟩
  · exact absurd h.1 hu
  · simp [Value.ownBlock] at hk
    subst hk
    exact ⟨hB, hl⟩
theorem TabRoom.fresh {w : World} {B : Nat} {v : Value} {es : List (Int × Int)} (h : TabRoom w B v es) : FreshTab w B v es := .inr h
/-- A table whose row lies elsewhere stays, when one row is marked. -/
theorem FreshTab.grown {w w' : World} {B : Nat} {v : Value} {us : List (Int × Int)} {row : Option Nat} (h : FreshTab w B v us) (hg : w.grownBy w' row) (hne : ∀ k, row = some k → k < B) : FreshTab w' B v us := by
  rcases h with h | ⟨g, cap, rfl, h1, h2, h3, h4, h5⟩
  · exact .inl h
  · have hn : some g ≠ row := fun e => by have := hne g e.symm; omega
    refine .inr ⟨g, cap, rfl, h1, h2, Nat.lt_of_lt_of_le h3 hg.size, h4.grown hg hn, fun i hi => ?_⟩
    obtain ⟨⟨u, hu⟩, hf⟩ := h5 i hi
    refine ⟨⟨u, cell_grown hu hg hn⟩, ?_⟩
    rw [World.frozen?_of_block (hg.block g h3 hn)]; exact hf
/-- Marks in a row that is behind B turn nothing below B. -/
theorem below_markd {w w' : World} {B : Nat} {row : Option Nat} (hg : w.grownBy w' row) (hr : ∀ k, row = some k → B ≤ k) (hB : B ≤ w.heap.size) : Below B w w' :=
  ⟨hg.os, hg.tape, hg.output, hg.size, fun k hk => hg.block k (Nat.lt_of_lt_of_le hk hB) fun e => by have := hr k e.symm; omega⟩

/-- An answer's table is marked: only a row of its own turns. -/
theorem markAny (k B : Nat) (v : Value) (us : List (Int × Int)) (w : World) (hn : k + 2 * us.length ≤ 1000000000000000) (ht : FreshTab w B v us) :
    Calls Tryz.prog 66 #[.agg #[v], .int .i64 k] w fun e w' => e = .returned (.int .i64 (k + 2 * us.length : Nat)) ∧ FreshTab w' B v (marksE k us.length) ∧ w.heap.size ≤ w'.heap.size ∧ ∃ row, w.grownBy w' row ∧ ∀ j, row = some j → v.ownBlock = some j ∧ B ≤ j ∧ j < w.heap.size ∧ us ≠ [] ∧ ∃ x, w.cell? ⟨j, 0, none⟩ = some (.int .i64 x) := by
  by_cases hu : us = []
  · subst hu
    rcases ht with ⟨_, a, cap, rfl, hc⟩ | ht
    · have HC : Hid (∀ w, Calls Tryz.prog 84 #[.slice a 0 cap, .int .i64 k] w fun e w' => e = .returned (.int .i64 k) ∧ w = w') := fun w => markEmpty a cap k w
      go_enter Tryz.func66, Tryz.ntmps66
      go_wp2_with (go_at_call 84; refine (HC.out _).mono ?_; rintro e w1 ⟨rfl, rfl⟩)
      go_ret
      exact ⟨rfl, .inl ⟨rfl, a, cap, rfl, hc⟩, by simp, none, World.grownBy_alloc w _ _, fun j hj => by cases hj⟩
    · obtain ⟨g, cap, rfl, _⟩ := ht
      have HC : Hid (∀ w, Calls Tryz.prog 84 #[.slice (some ⟨g, 0, none⟩) 0 cap, .int .i64 k] w fun e w' => e = .returned (.int .i64 k) ∧ w = w') := fun w => markEmpty _ cap k w
      simp only [List.length_nil]
      go_enter Tryz.func66, Tryz.ntmps66
      go_wp2_with (go_at_call 84; refine (HC.out _).mono ?_; rintro e w1 ⟨rfl, rfl⟩)
      go_ret
      exact ⟨rfl, .inl ⟨rfl, _, cap, rfl, fun e => by cases e⟩, by simp, none, World.grownBy_alloc w _ _, fun j hj => by cases hj⟩
  · refine (markFresh k B v us w hn ht).mono ?_
    rintro e w' ⟨rfl, h1, h2, h3⟩
    refine ⟨rfl, h1, h3, v.ownBlock, h2, fun j hj => ?_⟩
    obtain ⟨hB, hl⟩ := ht.block hu hj
    refine ⟨hj, hB, hl, hu, ?_⟩
    rcases ht with ht | ⟨g, cap, rfl, _, _, _, he, _⟩
    · exact absurd ht.1 hu
    · simp [Value.ownBlock] at hj
      subst hj
      exact ⟨_, (he 0 (List.length_pos_iff.2 hu)).1⟩

/-- .. from the mark 1 on. -/
theorem mark1 (m : Int) (B : Nat) (v : Value) (us : List (Int × Int)) (w : World) (hm : m = ((1 + 2 * us.length : Nat) : Int)) (hn : us.length ≤ 4194304) (ht : FreshTab w B v us) :
    Calls Tryz.prog 66 #[.agg #[v], .int .i64 1] w fun e w' => e = .returned (.int .i64 m) ∧ FreshTab w' B v (marksE 1 us.length) ∧ w.heap.size ≤ w'.heap.size ∧ ∃ row, w.grownBy w' row ∧ ∀ j, row = some j → v.ownBlock = some j ∧ B ≤ j ∧ j < w.heap.size ∧ us ≠ [] ∧ ∃ x, w.cell? ⟨j, 0, none⟩ = some (.int .i64 x) := by
  have := markAny 1 B v us w (by omega) ht
  rw [hm]
  exact this
theorem held1 (m : Int) (B : Nat) (v : Value) (n : Nat) (w : World) (hm : m = ((1 + 2 * n : Nat) : Int)) (hn : n ≤ 4194304) (ht : FreshTab w B v (marksE 1 n)) :
    Calls Tryz.prog 69 #[.agg #[v], .int .i64 1] w fun e w' => e = .returned (.int .i64 m) ∧ Below w.heap.size w w' := by
  have := heldFresh 1 B v n w (by omega) ht
  rw [hm]
  exact this

end Go.Proofs.YtfgkonphbmliaaaGreatDoor

/- l3Stream and RwrStream of the specification. Conditions: the table is ok; the text has at most 2^21 bytes. -/
namespace Go.Proofs.YtfgkonphbmliaaaGreatDoor
open Go.RowKit Go.Sort

theorem lpL_len' (a p : Int) : (lpL a p).length ≤ 20 := by
  unfold lpL
  split
  · rename_i h
    obtain ⟨h1, h2, h3, h4⟩ := end_bounds h
    have l1 := dec_len4 (k := a.toNat) (by omega)
    have l2 := dec_len4 (k := p.toNat) (by omega)
    simp [portL, endL]; omega
  · simp
theorem lineE_len (es : List (Int × Int)) (l : List UInt8) : (lineE es l).2.length ≤ l.length + 20 := by
  rcases h : saysE l with _ | e
  · rw [lineE_none h]
    simp
  · rw [lineE_some h]
    simp only
    split
    · simp [noneL]
    · have := lpL_len' 50 (putE es e).2
      omega
/-- One line more goes outside. -/
def strF (T : List (Int × Int) × List UInt8) (l : List UInt8) : List (Int × Int) × List UInt8 := ((lineE T.1 l).1, T.2 ++ (lineE T.1 l).2 ++ [59])
/-- Lines as they go outside, one behind the other, and the table then. -/
def streamE (es : List (Int × Int)) (ls : List (List UInt8)) : List (Int × Int) × List UInt8 := ls.foldl strF (es, [])
theorem streamE_snoc (es : List (Int × Int)) (ls : List (List UInt8)) (l : List UInt8) : streamE es (ls ++ [l]) = strF (streamE es ls) l := by simp [streamE]
theorem streamE_ok {es : List (Int × Int)} (hm : mapB es = true) (ls : List (List UInt8)) : mapB (streamE es ls).1 = true := by
  unfold streamE
  suffices h : ∀ (T : List (Int × Int) × List UInt8), mapB T.1 = true → mapB (ls.foldl strF T).1 = true from h _ hm
  induction ls with
  | nil => intro T h; exact h
  | cons l r ih => intro T h; exact ih _ (lineE_ok h)

/-- A block of cells of this type. -/
def Tag (w : World) (b : Nat) (t : TypeId) : Prop := ∃ cs fz, w.heap[b]? = some (.cells cs t fz)
theorem Tag.lt {w : World} {b : Nat} {t : TypeId} (h : Tag w b t) : b < w.heap.size := by
  obtain ⟨_, _, h⟩ := h
  exact (Array.getElem?_eq_some_iff.1 h).1
theorem Tag.later {w w' : World} {b : Nat} {t : TypeId} (h : Tag w b t) (hb : Below w.heap.size w w') : Tag w' b t := by
  have hl := h.lt
  obtain ⟨cs, fz, h⟩ := h
  exact ⟨cs, fz, (hb.block b hl).trans h⟩
theorem Tag.new (w : World) (cs : Array Value) (t : TypeId) : Tag (w.alloc (.cells cs t)) w.heap.size t := ⟨cs, _, heap_alloc_new w (.cells cs t)⟩
/-- A table that lies in a block of ends stays, when a cell of a block of another type is written. -/
theorem OwnTab.setTag {w : World} {B : Nat} {v : Value} {es : List (Int × Int)} {t : TypeId} (h : OwnTab w B v es) {a : Addr} (ht : Tag w a.block t) (hne : t ≠ 48) (u : Value) : OwnTab (w.setCell a u) B v es := by
  refine ⟨h.1, ?_⟩
  rcases h.2 with h2 | ⟨g, cap, cur, hv, hB, hg, r⟩
  · exact .inl h2
  · refine .inr ⟨g, cap, cur, hv, hB, ?_, r⟩
    rw [Below.heap_setCell _ _ _ _ fun e => ?_]
    · exact hg
    · obtain ⟨cs, fz, h1⟩ := ht
      rw [← e, hg] at h1
      injection h1 with h1
      injection h1 with _ h2 _
      exact hne h2.symm
theorem tab_ne : (34 : TypeId) ≠ 48 := by decide
theorem fresh1t {W w : World} {x : Value} {t : TypeId} (h : Below (W.alloc (.cells #[x] t)).heap.size (W.alloc (.cells #[x] t)) w) : Tag w W.heap.size t := (Tag.new W #[x] t).later h
theorem fresh1dt {W w : World} {x : Value} {t : TypeId} (h : Below (W.alloc (.cells #[x] t)).drew.heap.size (W.alloc (.cells #[x] t)).drew w) : Tag w W.heap.size t := fresh1t (((Below.refl _ _).drew).trans h)
theorem Tag.setCell {w : World} {b : Nat} {t : TypeId} (h : Tag w b t) (a : Addr) (u : Value) : Tag (w.setCell a u) b t := by
  obtain ⟨cs, fz, h⟩ := h
  by_cases e : b = a.block
  · subst e
    refine ⟨if a.spot.isSome then cs else cs.setIfInBounds a.off u, fz, ?_⟩
    show (w.heap.modify a.block _)[a.block]? = _
    rw [Array.getElem?_modify]
    simp [h]
  · exact ⟨cs, fz, (Below.heap_setCell _ _ _ _ e).trans h⟩

set_option maxRecDepth 100000 in
set_option maxHeartbeats 3200000 in
theorem specStream_any (B : Nat) (ad : Addr) (cap : Nat) (es : List (Int × Int)) (s : ByteArray) (w : World) (hm : mapB es = true) (hs : s.size ≤ 2097152) (hB : B ≤ w.heap.size) (ho : OwnTab w B (.slice (some ad) es.length cap) es) :
    Calls Tryz.prog 113 #[.agg #[.slice (some ad) es.length cap], .string s] w fun e w' => ∃ g c, e = .returned (.tuple #[.agg #[.slice (some g) (streamE es (linesL s.data.toList)).1.length c], .string ⟨(streamE es (linesL s.data.toList)).2.toArray⟩]) ∧ OwnTab w' B (.slice (some g) (streamE es (linesL s.data.toList)).1.length c) (streamE es (linesL s.data.toList)).1 ∧ Below w.heap.size w w' := by
  have HO := Lib.hid ho
  have HM := Lib.hid hm
  have hlz : ∀ x ∈ linesL s.data.toList, x.length ≤ 2097152 := fun x hx => by have := line_len hx; rw [len_list] at this; omega
  have hl0 := lines_len s.data.toList
  rw [len_list] at hl0
  have HL : Hid (∀ w, Calls Tryz.prog 134 #[.string s] w fun e w' => ∃ v, e = .returned (.tuple #[v, .string ⟨(restL s.data.toList).toArray⟩]) ∧ w'.ownsRow w.heap.size 9 1 v (linesL s.data.toList).length ((linesL s.data.toList).map strV) ∧ Below w.heap.size w w') := fun w => specLines_any s w hs
  obtain ⟨ls, hls⟩ : ∃ ls, ls = linesL s.data.toList := ⟨_, rfl⟩
  obtain ⟨rs, hrs⟩ : ∃ rs, rs = (restL s.data.toList).toArray := ⟨_, rfl⟩
  rw [← hls] at HL hlz hl0 ⊢
  rw [← hrs] at HL
  have hln : ls.length ≤ 2097152 := by omega
  have HLZ := Lib.hid hlz
  clear ho hm hls hrs hlz hl0
  go_enter Tryz.func113, Tryz.ntmps113
  go_wp2_with fail
  (go_at_call 134; refine (HL.out _).mono ?_; rintro e w1 ⟨vl, rfl, own1, b1⟩; obtain ⟨cA, cB, b01, z1⟩ := cell_two b1; have t0 := (cA 0).1; have f0 := (cA 0).2; have r0 := (cB 0).1; have g0 := (cB 0).2; simp at t0 r0; have own1 := own_base (B' := w.heap.size + 2) own1 (by simp <;> omega); obtain ⟨al, capl, rfl⟩ := own_form own1; have OWN1 := Lib.hid own1; have B1 := Lib.hid b01; have T0 : Hid (Tag w1 w.heap.size 34) := (⟨_, _, (b1.block w.heap.size (by simp <;> omega)).trans ((Below.heap_alloc _ _ _ (by simp <;> omega)).trans (heap_alloc_new w _))⟩ : Tag w1 w.heap.size 34); have T1 : Hid (Tag w1 (w.heap.size + 1) 34) := (by obtain ⟨cs, fz, hh⟩ := Tag.new (w.alloc (.cells #[.slice (some ad) es.length cap] 34)) #[.slice none 0 0] 34; simp only [World.size_alloc] at hh; exact ⟨cs, fz, (b1.block (w.heap.size + 1) (by simp)).trans hh⟩); clear cA cB b1 b01 own1)
  go_wp2_with fail
  go_loopw [8, 9, 10, 11] (fun o i _ _ wr => ∃ (k : Nat) (us : List (Int × Int)) (x : List UInt8) (g : Addr) (c : Nat), k ≤ ls.length ∧ i = .int .i64 k ∧ o = .string ⟨x.toArray⟩ ∧ (us, x) = streamE es (ls.take k) ∧ x.length ≤ k * 2097173 ∧ wr.cell? ⟨w.heap.size, 0, none⟩ = some (.slice (some g) us.length c) ∧ wr.frozen? ⟨w.heap.size, 0, none⟩ = false ∧ Tag wr w.heap.size 34 ∧ Tag wr (w.heap.size + 1) 34 ∧ OwnTab wr B (.slice (some g) us.length c) us ∧ wr.cell? ⟨w.heap.size + 1, 0, none⟩ = some (.slice none 0 0) ∧ wr.frozen? ⟨w.heap.size + 1, 0, none⟩ = false ∧ wr.ownsRow (w.heap.size + 2) 9 1 (.slice al ls.length capl) ls.length (ls.map strV) ∧ Below w.heap.size w wr ∧ w.heap.size + 2 ≤ wr.heap.size) (fun _ i _ _ _ => ls.length - (intOf i).toNat)
  case atStart => exact ⟨0, es, [], ad, cap, Nat.zero_le _, rfl, rfl, rfl, by simp, t0, f0, T0.out, T1.out, HO.out.below B1.out, r0, g0, OWN1.out, B1.out, z1⟩
  case round =>
    obtain ⟨k, us, x, g, c, hk, rfl, rfl, hT, hxk, t2, f2, tg, tg1, ho, r2, g2, own, hb, hz⟩ := hrel
    have HT := Lib.hid hT
    have HO2 := Lib.hid ho
    have HTG := Lib.hid tg
    have HTG1 := Lib.hid tg1
    clear tg1
    have HOW := Lib.hid own
    have HB := Lib.hid hb
    clear hT ho tg hb
    by_cases hlt : k < ls.length
    · obtain ⟨gl, cl, hv, hgB, hgl, hcl, hcells⟩ := own_cells own (by omega)
      simp at hv
      obtain ⟨rfl, rfl⟩ := hv
      obtain ⟨q0, _⟩ := hcells k (by simpa using hlt)
      simp only [List.getElem_map] at q0
      have hx := HLZ.out ls[k] (List.getElem_mem hlt)
      have HTK : Hid (ls.take (k + 1) = ls.take k ++ [ls[k]]) := List.take_succ_eq_append_getElem hlt
      obtain ⟨y, hy⟩ : ∃ y, y = ls[k] := ⟨_, rfl⟩
      rw [← hy] at q0 hx HTK
      have hul : us.length ≤ 6 := by
        have := mapB_le (streamE_ok HM.out (ls.take k))
        rw [← HT.out] at this
        exact this
      obtain ⟨us', hus⟩ : ∃ us', us' = (lineE us y).1 := ⟨_, rfl⟩
      obtain ⟨x', hx'⟩ : ∃ x', x' = (lineE us y).2 := ⟨_, rfl⟩
      have HN : Hid ((us', x ++ x' ++ [59]) = streamE es (ls.take (k + 1))) := by
        show _ = _
        rw [HTK.out, streamE_snoc, ← HT.out, hus, hx']; rfl
      have hxl : x'.length ≤ 2097172 := by have := lineE_len us y; rw [hx']; omega
      have hxb : x.length ≤ 4400000000000 := by have : k * 2097173 ≤ 2097152 * 2097173 := Nat.mul_le_mul_right _ (by omega); omega
      have hxn : (x ++ x' ++ [59]).length ≤ (k + 1) * 2097173 := by simp; omega
      have HXN := Lib.hid hxn
      clear hxn
      have HC : Hid (∀ w0, B ≤ w0.heap.size → OwnTab w0 B (.slice (some g) us.length c) us → Calls Tryz.prog 146 #[.agg #[.slice (some g) us.length c], strV y] w0 fun e w' => ∃ g c, e = .returned (.tuple #[.agg #[.slice (some g) us'.length c], .string ⟨x'.toArray⟩]) ∧ OwnTab w' B (.slice (some g) us'.length c) us' ∧ Below w0.heap.size w0 w') := fun w0 h1 h2 => by
        rw [hus, hx']
        exact specLine_any B g c us ⟨y.toArray⟩ w0 (by omega) (by show y.toArray.size ≤ _; simpa using hx) h1 h2
      have hk2 : (k : Int) ≤ (capl : Int) := by omega
      have hk3 : (k : Int) ≤ 2097152 := by omega
      have mk : Hid (∀ w', Below wr.heap.size wr w' → w'.cell? ⟨w.heap.size, 0, none⟩ = some (.slice (some g) us.length c) ∧ w'.cell? ⟨gl, k, none⟩ = some (strV y) ∧ Below wr.heap.size wr w') := fun w' h => ⟨box_below t2 h, box_below q0 h, h⟩
      clear hcells hy own hx hus hx'
      go_upto_region 6 with fail
      go_cut [10, 11] (fun s10 s11 wx => ∃ b g c, s10 = .pointer (some ⟨b, 0, none⟩) ∧ s11 = .string ⟨x'.toArray⟩ ∧ wx.cell? ⟨b, 0, none⟩ = some (.slice (some g) us'.length c) ∧ OwnTab wx B (.slice (some g) us'.length c) us' ∧ Below wr.heap.size wr wx)
      case first =>
        go_region_held3 (fun w' => w'.cell? ⟨w.heap.size, 0, none⟩ = some (.slice (some g) us.length c) ∧ w'.cell? ⟨gl, k, none⟩ = some (strV y) ∧ Below wr.heap.size wr w')
          (first
            | exact mk.out _ (Below.refl _ _).drew
            | exact mk.out _ cc
            | exact mk.out _ (cc.alloc cc.size _)
            | exact mk.out _ (cc.setCell (by first | (simp; done) | (simp; omega)) _)
            | exact mk.out _ (((Below.refl _ _).drew).alloc (Nat.le_refl _) _)
            | (trace_state; fail))
          (first | (go_at_call 146; have hS := (by assumption : _ ∧ _ ∧ Below wr.heap.size wr _); refine (HC.out _ (Nat.le_trans (by omega : B ≤ wr.heap.size) hS.2.2.size) (HO2.out.below hS.2.2)).mono ?_; rintro e wN ⟨gN, cN, rfl, oN, bN⟩; have ON := Lib.hid oN; have cc : Below wr.heap.size wr wN := hS.2.2.trans (bN.mono hS.2.2.size); (first | (have hk := fresh1 bN; obtain ⟨k0, kf⟩ := hk; have kt := fresh1t bN) | (have hk := fresh1d bN; obtain ⟨k0, kf⟩ := hk; have kt := fresh1dt bN) | skip)))
        all_goals (go_wp2_with fail; go_meet)
        all_goals (first | exact ⟨_, _, _, rfl, rfl, by simp, ON.out.below ((Below.refl _ _).alloc (Nat.le_refl _) _), cc.alloc cc.size _⟩ | exact ⟨_, _, _, rfl, rfl, World.cell?_setCell_same _ _ _ k0, ON.out.setTag kt tab_ne _, cc.setCell (by first | (simp; done) | (simp; omega)) _⟩ | (trace_state; fail))
      case rest =>
        obtain ⟨b, gN, cN, rfl, rfl, kN, oN, bN⟩ := hcut
        have ON := Lib.hid oN
        have BN := Lib.hid bN
        have t3 := box_below t2 bN
        have f3 := box_frozen t2 f2 bN
        have r3 := box_below r2 bN
        have g3 := box_frozen r2 g2 bN
        have TG3 := Lib.hid (HTG.out.later bN)
        have OW3 := Lib.hid (own_below HOW.out bN)
        have zN := bN.size
        have HSX : Hid ((⟨x.toArray⟩ : ByteArray) ++ ⟨x'.toArray⟩ ++ ⟨#[59]⟩ = ⟨(x ++ x' ++ [59]).toArray⟩) := by
          show _ = _
          apply ByteArray.ext
          apply Array.ext'
          simp
        clear oN bN t2 f2 r2 g2 q0
        clear hxk
        go_wp2_with fail
        go_roundw
        case rel =>
          refine ⟨k + 1, us', x ++ x' ++ [59], gN, cN, by omega, by go_num, by rw [HSX.out], HN.out, HXN.out, World.cell?_setCell_same _ _ _ t3, by rw [World.frozen?_setCell]; exact f3, TG3.out.setCell _ _, (HTG1.out.later BN.out).setCell _ _, ON.out.setTag TG3.out tab_ne _, ?_, by rw [World.frozen?_setCell]; exact g3, ownsRow_setCell_below OW3.out (by simp) _, ?_, by simp; omega⟩
          · rw [World.cell?_setCell_far _ ⟨w.heap.size, 0, none⟩ ⟨w.heap.size + 1, 0, none⟩ _ (by show w.heap.size ≠ w.heap.size + 1; omega)]; exact r3
          · exact (HB.out.trans (BN.out.mono (by omega))).setCell (by simp) _
        case measure => simp [intOf]; omega
    · have hke : k = ls.length := by omega
      have HTE : Hid ((us, x) = streamE es ls) := by show _ = _; rw [HT.out, hke, List.take_length]
      clear hlt
      go_wp2_with fail
      refine bodyPost_ret (v := .tuple #[.agg #[.slice (some g) us.length c], .string ⟨x.toArray⟩]) (by simp [results, Tryz.results113, go_sem, World.cell?_setCell_same _ _ _ r2]) rfl ?_
      rw [← HTE.out]
      refine ⟨g, c, rfl, HO2.out.setTag HTG1.out tab_ne _, HB.out.setCell (by simp) _⟩

end Go.Proofs.YtfgkonphbmliaaaGreatDoor
