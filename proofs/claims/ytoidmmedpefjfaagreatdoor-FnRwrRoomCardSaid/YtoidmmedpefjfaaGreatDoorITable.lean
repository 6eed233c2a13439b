/- A table out of its two maps; the port that an end has, or gets. Conditions: at most 2^22 ends, none twice. -/
import Derived.Test.YtoidmmedpefjfaaGreatDoorIPorts
import Derived.Test.YtoidmmedpefjfaaGreatDoorOwnEnds
import Derived.OwnWalk
namespace Go.Proofs.YtoidmmedpefjfaaGreatDoor
open Go.RowKit Go.Sort

set_option maxRecDepth 100000 in
set_option maxHeartbeats 1600000 in
theorem tableOf_any (g1 g2 : Nat) (es : List (Int × Int)) (w : World) (hb : Both w g1 g2 es) (hv : (valsL es).length = es.length) (hn : es.length ≤ 4194304) :
    Calls Tryz.prog 53 #[.agg #[.map (some g1), .map (some g2)]] w fun e w' => ∃ a c, e = .returned (.agg #[.slice a es.length c]) ∧ OwnTab w' w.heap.size (.slice a es.length c) es ∧ Below w.heap.size w w' := by
  obtain ⟨i0, hi, hz0, hz1, hz2⟩ := info_parts infoEnd
  have HB : Hid (∀ w', Below w.heap.size w w' → Both w' g1 g2 es) := fun w' h => hb.later h
  have HS : Hid (∀ w, Both w g1 g2 es → Calls Tryz.prog 62 #[.agg #[.map (some g1), .map (some g2)]] w fun e w' => e = .returned (.int .i64 (es.length : Int)) ∧ Below w.heap.size w w') := fun w h => by rw [← hv]; exact size_any g1 g2 es w h
  clear hb hv
  go_enter Tryz.func53, Tryz.ntmps53
  go_wp2_with fail
  (go_at_call 62; refine (HS.out _ (HB.out _ ((((Below.refl _ _).alloc (Nat.le_refl _) _).alloc (by simp) _).alloc (by simp; omega) _))).mono ?_; rintro e w1 ⟨rfl, b1⟩; obtain ⟨cA, cB, cC, b01, z1⟩ := cell_three b1; have t0 := (cA 0).1; have t1 := (cA 1).1; have r0 := (cB 0).1; have f0 := (cB 0).2; have o0 := (cC 0).1; have h0 := (cC 0).2; simp at t0 t1 r0 o0; have B1 := Lib.hid b01; clear b01 cA cB cC b1)
  go_wp2_with fail
  go_loopw [9] (fun i wr => ∃ (k : Nat) (a : Option Addr) (c : Nat), k ≤ es.length ∧ i = .int .i64 k ∧ wr.cell? ⟨w.heap.size + 1 + 1, 0, none⟩ = some (.slice a k c) ∧ wr.frozen? ⟨w.heap.size + 1 + 1, 0, none⟩ = false ∧ OwnTab wr (w.heap.size + 3) (.slice a k c) (es.take k) ∧ Below (w.heap.size + 2) w1 wr) (fun i _ => es.length - (intOf i).toNat)
  case atStart => exact ⟨0, none, 0, Nat.zero_le _, rfl, o0, h0, ⟨by simp [flatE], .inl ⟨rfl, rfl⟩⟩, Below.refl _ _⟩
  case round =>
    obtain ⟨k, a0, c0, hk, rfl, o1, h1, ho, hb⟩ := hrel
    have HO := Lib.hid ho
    have HBL := Lib.hid hb
    have zr := hb.size
    have BW : Hid (Below w.heap.size w wr) := B1.out.trans (hb.mono (by omega))
    have s0 : wr.cell? ⟨w.heap.size, 0, none⟩ = some (.map (some g1)) := (hb.cell (p := ⟨w.heap.size, 0, none⟩) (by simp)).trans t0
    have s1 : wr.cell? ⟨w.heap.size, 1, none⟩ = some (.map (some g2)) := (hb.cell (p := ⟨w.heap.size, 1, none⟩) (by simp)).trans t1
    clear ho
    by_cases hlt : k < es.length
    · have hE : endI es (500 + (k : Int)) = some es[k] := by
        obtain ⟨j, hj, e1, e2⟩ := endI_hit (es := es) (port := 500 + (k : Int)) (by omega)
        obtain rfl : k = j := by omega
        exact e2
      have HT : Hid (es.take (k + 1) = es.take k ++ [es[k]]) := take_snocE es k hlt
      obtain ⟨⟨a, p⟩, hap⟩ : ∃ x, x = es[k] := ⟨_, rfl⟩
      rw [← hap] at HT hE
      have HK : Hid (∀ w, Both w g1 g2 es → Calls Tryz.prog 88 #[.agg #[.map (some g1), .map (some g2)], .int .i64 (500 + (k : Int))] w fun e w' => e = .returned (.tuple #[.agg #[.int .i64 a, .int .i64 p], .bool true]) ∧ Below w.heap.size w w') := fun w h => by
        have := key_any g1 g2 es (500 + (k : Int)) w h (pV_wf (by omega))
        rw [hE] at this
        exact this
      have hk3 : (k : Int) ≤ 4194304 := by omega
      clear hap hE hb
      go_wp2_with fail
      (go_at_call 88; refine (HK.out _ (HB.out _ BW.out)).mono ?_; rintro e w2 ⟨rfl, b2⟩; have B2 := Lib.hid b2; have z2 := b2.size; have o2 : ∀ x y, ((w2.alloc x).alloc y).cell? ⟨w.heap.size + 1 + 1, 0, none⟩ = some (.slice a0 k c0) := (fun x y => by rw [cell_alloc_lt (by simp; omega), cell_alloc_lt (by omega), b2.cell (by simp; omega)]; exact o1); have o3 : ∀ x, (w2.alloc x).cell? ⟨w.heap.size + 1 + 1, 0, none⟩ = some (.slice a0 k c0) := (fun x => by rw [cell_alloc_lt (by omega), b2.cell (by simp; omega)]; exact o1); clear b2)
      have HO2 : Hid (∀ x y, OwnTab ((w2.alloc x).alloc y) (w.heap.size + 3) (.slice a0 k c0) (es.take k)) := fun x y => HO.out.below (((B2.out.alloc z2 x).alloc (by simp; omega) y))
      have hlen : (es.take k).length = k := by simp; omega
      go_wp2_with (at_builtin; refine wpList_append_own _ rfl (.tmp 20) (.tmp 22) 23 rfl (w.heap.size + 3) 34 i0 (.agg #[.int .i64 0, .int .i64 0]) 2 16 Tryz.underlying23 hi hz0 hz1 hz2 rfl (by decide) _ _ _ rfl (HO2.out _ _) ⟨w2.heap.size + 1, 0, none⟩ 1 1 [.int .i64 a, .int .i64 p] rfl rfl ?c1 ?c2 ?c3 ?c4 ?c5 ?_)
      case c1 =>
        intro j u hj
        match j, hj with
        | 0, hj => simp at hj; subst hj; simp [Addr.add]
        | 1, hj => simp at hj; subst hj; simp [Addr.add]
      case c2 => intro u hu; simp at hu; rcases hu with rfl | rfl <;> rfl
      case c3 => unfold maxLen; omega
      case c4 => omega
      case c5 => simp; omega
      · intro v' w3 hown' hgrow _
        have hot : OwnTab w3 (w.heap.size + 3) v' (es.take (k + 1)) := by
          show w3.ownsRow _ _ _ _ _ _
          rw [HT.out, flatE_app, List.length_append, hlen]
          simpa [flatE] using hown'
        obtain ⟨a1, c1, hv1⟩ := hot.form
        have hlen1 : (es.take (k + 1)).length = k + 1 := by simp; omega
        rw [hlen1] at hv1
        subst hv1
        have HO3 := Lib.hid hot
        have B3 : Hid (Below (w.heap.size + 3) wr w3) := (((B2.out.mono (by omega)).alloc (by omega) _).alloc (by simp; omega) _).grown hgrow (by simp; omega) (fun j hj => (HO.out.lt j hj).1)
        have o4 : w3.cell? ⟨w.heap.size + 1 + 1, 0, none⟩ = some (.slice a0 k c0) := by rw [B3.out.cell (by simp)]; exact o1
        have h4 : w3.frozen? ⟨w.heap.size + 1 + 1, 0, none⟩ = false := by rw [B3.out.frozen (by simp)]; exact h1
        clear hown' hgrow hot o2 o3
        go_wp2_with fail
        go_roundw
        case rel =>
          refine ⟨k + 1, a1, c1, by omega, by go_num, World.cell?_setCell_same _ _ _ o4, by rw [World.frozen?_setCell]; exact h4, ?_, ?_⟩
          · exact ownsRow_setCell_below (a := ⟨w.heap.size + 1 + 1, 0, none⟩) HO3.out (by simp) _
          · exact (HBL.out.trans (B3.out.mono (by omega))).setCell (by simp) _
        case measure => simp [intOf]; omega
    · have hke : k = es.length := by omega
      subst hke
      have r1 : wr.cell? ⟨w.heap.size + 1, 0, none⟩ = some (.slice none 0 0) := (hb.cell (p := ⟨w.heap.size + 1, 0, none⟩) (by simp)).trans r0
      have f1 : wr.frozen? ⟨w.heap.size + 1, 0, none⟩ = false := (hb.frozen (p := ⟨w.heap.size + 1, 0, none⟩) (by simp)).trans f0
      have HO1 : Hid (OwnTab wr (w.heap.size + 3) (.slice a0 es.length c0) es) := by have := HO.out; rwa [List.take_length] at this
      clear hb
      go_wp2_with fail
      refine bodyPost_ret (v := .agg #[.slice a0 es.length c0]) (by simp [results, Tryz.results53, go_sem, World.cell?_setCell_same _ _ _ r1]) rfl ⟨_, _, rfl, ?_, BW.out.setCell (by simp) _⟩
      exact OwnTab.mono (B := w.heap.size + 3) (ownsRow_setCell_below (a := ⟨w.heap.size + 1, 0, none⟩) HO1.out (by simp) _) (by omega)

end Go.Proofs.YtoidmmedpefjfaaGreatDoor
