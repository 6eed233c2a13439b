/- EndText of the program: address and port in decimals, a space between; nothing of what is no end. Condition: the table of powers of ten of the library's Itoa holds what it is laid with. (Several texts, joined: ITable, IGive, BoxAt, IMapO1, IMapO2, IMapO3, IMapO, Text.) -/
import Derived.Test.YtglpijjkihpeeaaGreatDoorTBxTe
import Derived.Test.YtglpijjkihpeeaaGreatDoorOwnEnds
import Derived.OwnWalk
import Derived.Test.YtglpijjkihpeeaaGreatDoorTBxTb
import Derived.Test.YtglpijjkihpeeaaGreatDoorEnd
import Derived.Deep.RegionWith
import Derived.Deep.RegionHeld3
import Derived.Lib.QuietBelow
import Derived.Test.YtglpijjkihpeeaaGreatDoorSText
import Derived.Lib.SmallJoins
import Derived.Shelf.Strconv.Itoa3
import Derived.Test.YtglpijjkihpeeaaGreatDoorTBxTd

/- A table out of its two maps; the port that an end has, or gets. Conditions: at most 2^22 ends, none twice. -/
namespace Go.Proofs.YtglpijjkihpeeaaGreatDoor
open Go.RowKit Go.Sort

set_option maxRecDepth 100000 in
set_option maxHeartbeats 1600000 in
theorem tableOf_any (g1 g2 : Nat) (es : List (Int × Int)) (w : World) (hb : Both w g1 g2 es) (hv : (valsL es).length = es.length) (hn : es.length ≤ 4194304) :
    Calls Tryz.prog 150 #[.agg #[.map (some g1), .map (some g2)]] w fun e w' => ∃ a c, e = .returned (.agg #[.slice a es.length c]) ∧ OwnTab w' w.heap.size (.slice a es.length c) es ∧ Below w.heap.size w w' := by
  obtain ⟨i0, hi, hz0, hz1, hz2⟩ := info_parts infoEnd
  have HB : Hid (∀ w', Below w.heap.size w w' → Both w' g1 g2 es) := fun w' h => hb.later h
  have HS : Hid (∀ w, Both w g1 g2 es → Calls Tryz.prog 99 #[.agg #[.map (some g1), .map (some g2)]] w fun e w' => e = .returned (.int .i64 (es.length : Int)) ∧ Below w.heap.size w w') := fun w h => by rw [← hv]; exact size_any g1 g2 es w h
  clear hb hv
  go_enter Tryz.func150, Tryz.ntmps150
  go_wp2_with fail
  (go_at_call 99; refine (HS.out _ (HB.out _ ((((Below.refl _ _).alloc (Nat.le_refl _) _).alloc (by simp) _).alloc (by simp; omega) _))).mono ?_; rintro e w1 ⟨rfl, b1⟩; obtain ⟨cA, cB, cC, b01, z1⟩ := cell_three b1; have t0 := (cA 0).1; have t1 := (cA 1).1; have r0 := (cB 0).1; have f0 := (cB 0).2; have o0 := (cC 0).1; have h0 := (cC 0).2; simp at t0 t1 r0 o0; have B1 := Lib.hid b01; clear b01 cA cB cC b1)
  go_wp2_with fail
  go_loopw [9] (fun i wr => ∃ (k : Nat) (a : Option Addr) (c : Nat), k ≤ es.length ∧ i = .int .i64 k ∧ wr.cell? ⟨w.heap.size + 1 + 1, 0, none⟩ = some (.slice a k c) ∧ wr.frozen? ⟨w.heap.size + 1 + 1, 0, none⟩ = false ∧ OwnTab wr (w.heap.size + 3) (.slice a k c) (es.take k) ∧ Below (w.heap.size + 2) w1 wr) (fun i _ => es.length - (intOf i).toNat)
  case atStart => exact ⟨0, none, 0, Nat.zero_le _, rfl, o0, h0, ⟨by simp [flatE], .inl ⟨rfl, rfl⟩⟩, Below.refl _ _⟩
  case round =>
    obtain ⟨k, a0, c0, hk, rfl, o1, h1, ho, hb⟩ := hrel
    have HO := Lib.hid ho
    have HBL := Lib.hid hb
    have zr := hb.size
    have BW : Hid (Below w.heap.size w wr) := B1.out.trans (hb.mono (by omega))
    have s0 : wr.cell? ⟨w.heap.size, 0, none⟩ = some (.map (some g1)) := (hb.cell (p := ⟨w.heap.size, 0, none⟩) (by simp)).trans t0
    have s1 : wr.cell? ⟨w.heap.size, 1, none⟩ = some (.map (some g2)) := (hb.cell (p := ⟨w.heap.size, 1, none⟩) (by simp)).trans t1
    clear ho
    by_cases hlt : k < es.length
    · have hE : endI es (500 + (k : Int)) = some es[k] := by
        obtain ⟨j, hj, e1, e2⟩ := endI_hit (es := es) (port := 500 + (k : Int)) (by omega)
        obtain rfl : k = j := by omega
        exact e2
      have HT : Hid (es.take (k + 1) = es.take k ++ [es[k]]) := take_snocE es k hlt
      obtain ⟨⟨a, p⟩, hap⟩ : ∃ x, x = es[k] := ⟨_, rfl⟩
      rw [← hap] at HT hE
      have HK : Hid (∀ w, Both w g1 g2 es → Calls Tryz.prog 118 #[.agg #[.map (some g1), .map (some g2)], .int .i64 (500 + (k : Int))] w fun e w' => e = .returned (.tuple #[.agg #[.int .i64 a, .int .i64 p], .bool true]) ∧ Below w.heap.size w w') := fun w h => by
        have := key_any g1 g2 es (500 + (k : Int)) w h (pV_wf (by omega))
        rw [hE] at this
        exact this
      have hk3 : (k : Int) ≤ 4194304 := by omega
      clear hap hE hb
      go_wp2_with fail
      (go_at_call 118; refine (HK.out _ (HB.out _ BW.out)).mono ?_; rintro e w2 ⟨rfl, b2⟩; have B2 := Lib.hid b2; have z2 := b2.size; have o2 : ∀ x y, ((w2.alloc x).alloc y).cell? ⟨w.heap.size + 1 + 1, 0, none⟩ = some (.slice a0 k c0) := (fun x y => by rw [cell_alloc_lt (by simp; omega), cell_alloc_lt (by omega), b2.cell (by simp; omega)]; exact o1); have o3 : ∀ x, (w2.alloc x).cell? ⟨w.heap.size + 1 + 1, 0, none⟩ = some (.slice a0 k c0) := (fun x => by rw [cell_alloc_lt (by omega), b2.cell (by simp; omega)]; exact o1); clear b2)
      have HO2 : Hid (∀ x y, OwnTab ((w2.alloc x).alloc y) (w.heap.size + 3) (.slice a0 k c0) (es.take k)) := fun x y => HO.out.below (((B2.out.alloc z2 x).alloc (by simp; omega) y))
      have hlen : (es.take k).length = k := by simp; omega
      go_wp2_with (at_builtin; refine wpList_append_own _ rfl (.tmp 20) (.tmp 22) 25 rfl (w.heap.size + 3) 53 i0 (.agg #[.int .i64 0, .int .i64 0]) 2 16 Tryz.underlying25 hi hz0 hz1 hz2 rfl (by decide) _ _ _ rfl (HO2.out _ _) ⟨w2.heap.size + 1, 0, none⟩ 1 1 [.int .i64 a, .int .i64 p] rfl rfl ?c1 ?c2 ?c3 ?c4 ?c5 ?_)
      case c1 =>
        intro j u hj
        match j, hj with
        | 0, hj => simp at hj; subst hj; simp [Addr.add]
        | 1, hj => simp at hj; subst hj; simp [Addr.add]
      case c2 => intro u hu; simp at hu; rcases hu with rfl | rfl <;> rfl
      case c3 => unfold maxLen; omega
      case c4 => omega
      case c5 => simp; omega
      · intro v' w3 hown' hgrow _
        have hot : OwnTab w3 (w.heap.size + 3) v' (es.take (k + 1)) := by
          show w3.ownsRow _ _ _ _ _ _
          rw [HT.out, flatE_app, List.length_append, hlen]
          simpa [flatE] using hown'
        obtain ⟨a1, c1, hv1⟩ := hot.form
        have hlen1 : (es.take (k + 1)).length = k + 1 := by simp; omega
        rw [hlen1] at hv1
        subst hv1
        have HO3 := Lib.hid hot
        have B3 : Hid (Below (w.heap.size + 3) wr w3) := (((B2.out.mono (by omega)).alloc (by omega) _).alloc (by simp; omega) _).grown hgrow (by simp; omega) (fun j hj => (HO.out.lt j hj).1)
        have o4 : w3.cell? ⟨w.heap.size + 1 + 1, 0, none⟩ = some (.slice a0 k c0) := by rw [B3.out.cell (by simp)]; exact o1
        have h4 : w3.frozen? ⟨w.heap.size + 1 + 1, 0, none⟩ = false := by rw [B3.out.frozen (by simp)]; exact h1
        clear hown' hgrow hot o2 o3
        go_wp2_with fail
        go_roundw
        case rel =>
          refine ⟨k + 1, a1, c1, by omega, by go_num, World.cell?_setCell_same _ _ _ o4, by rw [World.frozen?_setCell]; exact h4, ?_, ?_⟩
          · exact ownsRow_setCell_below (a := ⟨w.heap.size + 1 + 1, 0, none⟩) HO3.out (by simp) _
          · exact (HBL.out.trans (B3.out.mono (by omega))).setCell (by simp) _
        case measure => simp [intOf]; omega
    · have hke : k = es.length := by omega
      subst hke
      have r1 : wr.cell? ⟨w.heap.size + 1, 0, none⟩ = some (.slice none 0 0) := (hb.cell (p := ⟨w.heap.size + 1, 0, none⟩) (by simp)).trans r0
      have f1 : wr.frozen? ⟨w.heap.size + 1, 0, none⟩ = false := (hb.frozen (p := ⟨w.heap.size + 1, 0, none⟩) (by simp)).trans f0
      have HO1 : Hid (OwnTab wr (w.heap.size + 3) (.slice a0 es.length c0) es) := by have := HO.out; rwa [List.take_length] at this
      clear hb
      go_wp2_with fail
      refine bodyPost_ret (v := .agg #[.slice a0 es.length c0]) (by simp [results, Tryz.results150, go_sem, World.cell?_setCell_same _ _ _ r1]) rfl ⟨_, _, rfl, ?_, BW.out.setCell (by simp) _⟩
      exact OwnTab.mono (B := w.heap.size + 3) (ownsRow_setCell_below (a := ⟨w.heap.size + 1, 0, none⟩) HO1.out (by simp) _) (by omega)

end Go.Proofs.YtglpijjkihpeeaaGreatDoor

/- The port that an end has, or gets, in the two maps of a table. Conditions: the table is ok; the end is inside. -/
namespace Go.Proofs.YtglpijjkihpeeaaGreatDoor
open Go.RowKit Go.Sort

set_option maxRecDepth 100000 in
set_option maxHeartbeats 1600000 in
theorem givePort_any (g1 g2 : Nat) (es : List (Int × Int)) (a p : Int) (w : World) (hb : Both w g1 g2 es) (hm : mapB es = true) (hi : insB a p = true) :
    Calls Tryz.prog 149 #[.agg #[.map (some g1), .map (some g2)], .agg #[.int .i64 a, .int .i64 p]] w fun e w' => e = .returned (.int .i64 (putE es (a, p)).2) ∧ Both w' g1 g2 (putE es (a, p)).1 ∧ Two g1 g2 w w' := by
  have h6 := mapB_le hm
  obtain ⟨wa, wp⟩ := ins_wf hi
  have hv := valsL_ok hm
  have HB : Hid (∀ w', Below w.heap.size w w' → Both w' g1 g2 es) := fun w' h => hb.later h
  have HS : Hid (∀ w, Both w g1 g2 es → Calls Tryz.prog 99 #[.agg #[.map (some g1), .map (some g2)]] w fun e w' => e = .returned (.int .i64 (es.length : Int)) ∧ Below w.heap.size w w') := fun w h => by rw [← hv]; exact size_any g1 g2 es w h
  have HL := Lib.hid hb.lt
  by_cases hno : (a, p) ∈ es
  · rw [putE_has hno]
    obtain ⟨q, hq⟩ : ∃ q, q = portI es (a, p) := ⟨_, rfl⟩
    have HV : Hid (∀ w, Both w g1 g2 es → Calls Tryz.prog 138 #[.agg #[.map (some g1), .map (some g2)], .agg #[.int .i64 a, .int .i64 p]] w fun e w' => e = .returned (.tuple #[.int .i64 q, .bool true]) ∧ Below w.heap.size w w') := fun w h => by
      have := value_any g1 g2 es a p w h wa wp
      unfold valV at this
      rwa [decide_eq_true hno, ← hq] at this
    simp only [← hq]
    clear hb hm hi hno hv hq wa wp HS
    go_enter Tryz.func149, Tryz.ntmps149
    go_wp2_with (go_at_call 138; refine (HV.out _ (HB.out _ (((Below.refl _ _).alloc (Nat.le_refl _) _).alloc (by simp) _))).mono ?_; rintro e w1 ⟨rfl, b1⟩; obtain ⟨cA, cB, b01, z1⟩ := cell_two b1; clear cA cB)
    go_ret
    exact ⟨rfl, HB.out _ b01, Two.of_below b01⟩
  · have HV : Hid (∀ w, Both w g1 g2 es → Calls Tryz.prog 138 #[.agg #[.map (some g1), .map (some g2)], .agg #[.int .i64 a, .int .i64 p]] w fun e w' => e = .returned (.tuple #[.int .i64 0, .bool false]) ∧ Below w.heap.size w w') := fun w h => by
      have := value_any g1 g2 es a p w h wa wp
      unfold valV at this
      rwa [decide_eq_false hno, portI_not hno] at this
    by_cases h66 : es.length = 6
    · rw [putE_full hno h66]
      have h67 : (6 : Int) ≤ (es.length : Int) := by omega
      clear hb hm hi hno hv wa wp h66 h6
      go_enter Tryz.func149, Tryz.ntmps149
      go_wp2_with (first
        | (go_at_call 138; refine (HV.out _ (HB.out _ (((Below.refl _ _).alloc (Nat.le_refl _) _).alloc (by simp) _))).mono ?_; rintro e w1 ⟨rfl, b1⟩; obtain ⟨cA, cB, b01, z1⟩ := cell_two b1; have t0 := (cA 0).1; have t1 := (cA 1).1; simp at t0 t1; clear cA cB b1)
        | (go_at_call 99; refine (HS.out _ (HB.out _ b01)).mono ?_; rintro e w2 ⟨rfl, b2⟩))
      go_ret
      have b02 : Below w.heap.size w w2 := b01.trans (b2.mono (by omega))
      exact ⟨rfl, HB.out _ b02, Two.of_below b02⟩
    · rw [putE_new hno h66]
      have h67 : (es.length : Int) < 6 := by omega
      have HJ : Hid (∀ w, Both w g1 g2 es → Calls Tryz.prog 137 #[.agg #[.map (some g1), .map (some g2)], .agg #[.int .i64 a, .int .i64 p], .int .i64 (500 + (es.length : Int))] w fun e w' => e = .returned (.tuple #[]) ∧ Both w' g1 g2 (es ++ [(a, p)]) ∧ Two g1 g2 w w') := fun w h => join_any g1 g2 es a p w h wa wp (by omega)
      clear hb hm hi hno hv wa wp h66 h6
      go_enter Tryz.func149, Tryz.ntmps149
      go_wp2_with fail
      (go_at_call 138; refine (HV.out _ (HB.out _ (((Below.refl _ _).alloc (Nat.le_refl _) _).alloc (by simp) _))).mono ?_; rintro e w1 ⟨rfl, b1⟩; obtain ⟨cA, cB, b01, z1⟩ := cell_two b1; have t0 := (cA 0).1; have t1 := (cA 1).1; have e0 := (cB 0).1; have e1 := (cB 1).1; simp at t0 t1 e0 e1; clear cA cB b1)
      go_wp2_with fail
      (go_at_call 99; refine (HS.out _ (HB.out _ b01)).mono ?_; rintro e w2 ⟨rfl, b2⟩; have b02 : Below w.heap.size w w2 := b01.trans (b2.mono (by omega)); have t20 : w2.cell? ⟨w.heap.size, 0, none⟩ = some (.map (some g1)) := (by rw [b2.cell (by simp; omega)]; exact t0); have t21 : w2.cell? ⟨w.heap.size, 1, none⟩ = some (.map (some g2)) := (by rw [b2.cell (by simp; omega)]; exact t1); have e20 : w2.cell? ⟨w.heap.size + 1, 0, none⟩ = some (.int .i64 a) := (by rw [b2.cell (by simp; omega)]; exact e0); have e21 : w2.cell? ⟨w.heap.size + 1, 1, none⟩ = some (.int .i64 p) := (by rw [b2.cell (by simp; omega)]; exact e1); have z2 := b2.size)
      go_wp2_with fail
      (go_at_call 99; refine (HS.out _ (HB.out _ b02)).mono ?_; rintro e w3 ⟨rfl, b3⟩; have b03 : Below w.heap.size w w3 := b02.trans (b3.mono (by omega)); have t30 : w3.cell? ⟨w.heap.size, 0, none⟩ = some (.map (some g1)) := (by rw [b3.cell (by simp; omega)]; exact t20); have t31 : w3.cell? ⟨w.heap.size, 1, none⟩ = some (.map (some g2)) := (by rw [b3.cell (by simp; omega)]; exact t21); have e30 : w3.cell? ⟨w.heap.size + 1, 0, none⟩ = some (.int .i64 a) := (by rw [b3.cell (by simp; omega)]; exact e20); have e31 : w3.cell? ⟨w.heap.size + 1, 1, none⟩ = some (.int .i64 p) := (by rw [b3.cell (by simp; omega)]; exact e21))
      go_wp2_with fail
      (go_at_call 137; refine (HJ.out _ (HB.out _ b03)).mono ?_; rintro e w4 ⟨rfl, hb4, t4⟩; have HB4 := Lib.hid hb4; clear hb4)
      go_wp2_with fail
      go_ret
      exact ⟨rfl, HB4.out, (Two.of_below b03).trans t4⟩

end Go.Proofs.YtglpijjkihpeeaaGreatDoor

/- The box's end with a port, and whether an end's streams name ends, of the program. No condition. -/
namespace Go.Proofs.YtglpijjkihpeeaaGreatDoor
open Go.RowKit

set_option maxRecDepth 100000 in
set_option maxHeartbeats 400000 in
theorem boxAt_any (p : Int) (w : World) :
    Calls Tryz.prog 66 #[.int .i64 p] w fun e w' => e = .returned (.agg #[.int .i64 50, .int .i64 p]) ∧ Below w.heap.size w w' := by
  go_enter Tryz.func66, Tryz.ntmps66
  go_wp2_with fail
  refine bodyPost_ret (v := .agg #[.int .i64 50, .int .i64 p]) (by simp [results, Tryz.results66, go_sem]) rfl ⟨rfl, ?_⟩
  first
    | exact (((Below.refl _ _).alloc (Nat.le_refl _) _).setCell (by simp) _).setCell (by simp) _
    | exact (Below.refl _ _).alloc (Nat.le_refl _) _

set_option maxRecDepth 100000 in
set_option maxHeartbeats 1000000 in
theorem isCtl_any (a p : Int) (w : World) :
    Calls Tryz.prog 103 #[.agg #[.int .i64 a, .int .i64 p]] w fun e w' => e = .returned (.bool (outB a p && decide (p = 21))) ∧ Below w.heap.size w w' := by
  have HB : Hid (∀ w', Calls Tryz.prog 139 #[.agg #[.int .i64 a, .int .i64 p]] w' fun e w'' => e = .returned (.bool (outB a p)) ∧ Below w'.heap.size w' w'') := fun w' => implOutside_any a p w'
  obtain ⟨q, hq⟩ : ∃ q, q = outB a p := ⟨_, rfl⟩
  rw [← hq] at HB ⊢
  clear hq
  by_cases h : p = 21
  · subst h
    cases q
    all_goals
      go_enter Tryz.func103, Tryz.ntmps103
      go_wp2_with (go_at_call 139; refine (HB.out _).mono ?_; rintro e w1 ⟨rfl, b1⟩; obtain ⟨c1, f1⟩ := bcell b1)
      go_ret
      exact ⟨by simp, below_box b1⟩
  · have h2 : (p == 21) = false := by simpa using h
    cases q
    all_goals
      go_enter Tryz.func103, Tryz.ntmps103
      go_wp2_with (go_at_call 139; refine (HB.out _).mono ?_; rintro e w1 ⟨rfl, b1⟩; obtain ⟨c1, f1⟩ := bcell b1)
      go_ret
      exact ⟨by simp [h], below_box b1⟩

end Go.Proofs.YtglpijjkihpeeaaGreatDoor

/- The program's MapOk answers as the document says. Conditions: at most 2^22 ends; all numbers are ints. -/
namespace Go.Proofs.YtglpijjkihpeeaaGreatDoor
open Go.RowKit Go.Sort

set_option maxRecDepth 100000 in
set_option maxHeartbeats 3200000 in
theorem implMapOk_big (v : Value) (es : List (Int × Int)) (w : World)  (ht : TabAt w v es) (h6 : 6 < es.length) :
    Calls Tryz.prog 46 #[.agg #[v]] w fun e w' => e = .returned (.bool (mapB es)) ∧ Below w.heap.size w w' := by
  have HT := Lib.hid ht
  obtain ⟨ad, cap, rfl, _, _⟩ := ht
  have HB : Hid (mapB es = false) := by show mapB es = false; rw [mapB_vals, decide_eq_false (by omega)]; rfl
  have h66 : decide ((es.length : Int) ≤ 6) = false := by simp; omega
  rw [HB.out]
  clear HB HT
  go_enter Tryz.func46, Tryz.ntmps46
  go_wp2_with fail
  go_quiet (fail)
  go_wp2_with fail
  go_ret
  exact ⟨rfl, ((Below.refl _ _).alloc (Nat.le_refl _) _).trans ⟨rfl, rfl, rfl, Nat.le_refl _, fun _ _ => rfl⟩⟩

end Go.Proofs.YtglpijjkihpeeaaGreatDoor

/- The program's MapOk answers as the document says. Conditions: at most 2^22 ends; all numbers are ints. -/
namespace Go.Proofs.YtglpijjkihpeeaaGreatDoor
open Go.RowKit Go.Sort

set_option maxRecDepth 100000 in
set_option maxHeartbeats 3200000 in
theorem implMapOk_all (v : Value) (es : List (Int × Int)) (w : World) (hn : es.length ≤ 4194304) (hwf : wfE es) (ht : TabAt w v es) (h6 : ¬ 6 < es.length) (hin : es.all (fun e => insB e.1 e.2) = true) :
    Calls Tryz.prog 46 #[.agg #[v]] w fun e w' => e = .returned (.bool (mapB es)) ∧ Below w.heap.size w w' := by
  have HT := Lib.hid ht
  obtain ⟨ad, cap, rfl, _, _⟩ := ht
  have h66 : decide ((es.length : Int) ≤ 6) = true := by simp; omega
  have HA : ∀ b, es.all (fun e => insB e.1 e.2) = b → Hid (∀ w, TabAt w (.slice ad es.length cap) es → Calls Tryz.prog 97 #[.slice ad es.length cap] w fun e w' => e = .returned (.bool b) ∧ Below w.heap.size w w') := fun b hb w h => by rw [← hb]; exact allInside_any _ es w hn h
  obtain ⟨W0, hW0⟩ : ∃ W0, W0 = w.alloc (.cells #[.slice ad es.length cap] 27) := ⟨_, rfl⟩
  have t0 : W0.cell? ⟨w.heap.size, 0, none⟩ = some (.slice ad es.length cap) := by rw [hW0]; exact (cell_new w _ _ 0).1
  have B0 : Hid (Below w.heap.size w W0) := by rw [hW0]; exact (Below.refl _ _).alloc (Nat.le_refl _) _
  have z0 : W0.heap.size = w.heap.size + 1 := by rw [hW0]; simp
  have HT0 := Lib.hid (HT.out.below B0.out)
  have HA := HA true hin
  obtain ⟨n, hnn⟩ : ∃ n, n = (valsL es).length := ⟨_, rfl⟩
  have HB : Hid (mapB es = ((n : Int) == (es.length : Int))) := by
    show mapB es = _
    rw [mapB_vals, hin, decide_eq_true (by omega), ← hnn, Bool.eq_iff_iff]
    simp
    omega
  have HP : Hid (∀ w, TabAt w (.slice ad es.length cap) es → Calls Tryz.prog 98 #[.agg #[.slice ad es.length cap]] w fun e w' => ∃ g1 g2, e = .returned (.agg #[.map (some g1), .map (some g2)]) ∧ w.heap.size ≤ g1 ∧ w.heap.size ≤ g2 ∧ Both w' g1 g2 es ∧ Below w.heap.size w w') := fun w h => portsOf_any _ es w hn hwf h
  have HS : Hid (∀ g1 g2 w, Both w g1 g2 es → Calls Tryz.prog 99 #[.agg #[.map (some g1), .map (some g2)]] w fun e w' => e = .returned (.int .i64 (n : Int)) ∧ Below w.heap.size w w') := fun g1 g2 w h => by rw [hnn]; exact size_any g1 g2 es w h
  rw [HB.out]
  clear hwf HT hin hnn HB hn
  go_enter Tryz.func46, Tryz.ntmps46
  go_wp2_with fail
  rw [← hW0]
  clear hW0
  have mk : Hid (∀ w', Below W0.heap.size W0 w' → w'.cell? ⟨w.heap.size, 0, none⟩ = some (.slice ad es.length cap) ∧ Below W0.heap.size W0 w') := fun w' h => ⟨by rw [h.cell (by simp; omega)]; exact t0, h⟩
  clear t0
  go_region_held3 (fun w' => w'.cell? ⟨w.heap.size, 0, none⟩ = some (.slice ad es.length cap) ∧ Below W0.heap.size W0 w') (first | exact mk.out _ (Below.refl _ _).drew | exact mk.out _ cc)
    (first
      | (go_at_call 97; refine (HA.out _ (HT0.out.below (Below.refl _ _).drew)).mono ?_; rintro e wN ⟨rfl, bN⟩; have cc : Below W0.heap.size W0 wN := ((Below.refl _ _).drew).trans bN)
      | (go_at_call 98; refine (HP.out _ (HT0.out.below cc)).mono ?_; rintro e wP ⟨g1, g2, rfl, _, _, hb, bN⟩; have HBo := Lib.hid hb; have cc : Below W0.heap.size W0 wP := cc.trans (bN.mono cc.size); clear hb)
      | (go_at_call 99; refine (HS.out _ _ _ HBo.out).mono ?_; rintro e wQ ⟨rfl, bN⟩; have cc : Below W0.heap.size W0 wQ := cc.trans (bN.mono cc.size)))
  all_goals
    go_wp2_with fail
    go_ret
    exact ⟨rfl, B0.out.trans (cc.mono (by omega))⟩

end Go.Proofs.YtglpijjkihpeeaaGreatDoor

/- The program's MapOk answers as the document says. Conditions: at most 2^22 ends; all numbers are ints. -/
namespace Go.Proofs.YtglpijjkihpeeaaGreatDoor
open Go.RowKit Go.Sort

set_option maxRecDepth 100000 in
set_option maxHeartbeats 3200000 in
theorem implMapOk_not (v : Value) (es : List (Int × Int)) (w : World) (hn : es.length ≤ 4194304) (ht : TabAt w v es) (h6 : ¬ 6 < es.length) (hin : ¬ es.all (fun e => insB e.1 e.2) = true) :
    Calls Tryz.prog 46 #[.agg #[v]] w fun e w' => e = .returned (.bool (mapB es)) ∧ Below w.heap.size w w' := by
  have HT := Lib.hid ht
  obtain ⟨ad, cap, rfl, _, _⟩ := ht
  have h66 : decide ((es.length : Int) ≤ 6) = true := by simp; omega
  have HA : ∀ b, es.all (fun e => insB e.1 e.2) = b → Hid (∀ w, TabAt w (.slice ad es.length cap) es → Calls Tryz.prog 97 #[.slice ad es.length cap] w fun e w' => e = .returned (.bool b) ∧ Below w.heap.size w w') := fun b hb w h => by rw [← hb]; exact allInside_any _ es w hn h
  obtain ⟨W0, hW0⟩ : ∃ W0, W0 = w.alloc (.cells #[.slice ad es.length cap] 27) := ⟨_, rfl⟩
  have t0 : W0.cell? ⟨w.heap.size, 0, none⟩ = some (.slice ad es.length cap) := by rw [hW0]; exact (cell_new w _ _ 0).1
  have B0 : Hid (Below w.heap.size w W0) := by rw [hW0]; exact (Below.refl _ _).alloc (Nat.le_refl _) _
  have z0 : W0.heap.size = w.heap.size + 1 := by rw [hW0]; simp
  have HT0 := Lib.hid (HT.out.below B0.out)
  have hin' : es.all (fun e => insB e.1 e.2) = false := by simpa using hin
  have HA := HA false hin'
  have HB : Hid (mapB es = false) := by
    show mapB es = false
    rw [mapB_vals, hin']
    simp
  rw [HB.out]
  clear HT hin hin' HB hn
  go_enter Tryz.func46, Tryz.ntmps46
  go_wp2_with fail
  rw [← hW0]
  clear hW0
  have K0 := cell_regrown t0
  have cA : ∀ d os, Calls Tryz.prog 97 #[.slice ad es.length cap] (grow (redrawn W0 d) os) fun e w'' => e = .returned (.bool false) ∧ ∃ q : Regrown, w'' = grow (redrawn W0 q.d) q.os := fun d os => Calls.regrown_of (HA.out _ (HT0.out.below (below_regrown W0 d os)))
  clear t0
  refine wp_region_quiet_below (by kernel_rfl) (by kernel_rfl) ?_
  repeat (first | go_big_quiet_skip | quiet_step (exact cA _ _))
  refine wpQuiet_nil ?_
  intro _ hw'
  obtain ⟨⟨dq, osq⟩, hw''⟩ := hw'
  subst hw''
  go_wp2_with fail
  go_ret
  exact ⟨rfl, B0.out.trans ((below_regrown W0 dq osq).mono (by omega))⟩

end Go.Proofs.YtglpijjkihpeeaaGreatDoor

/- The program's MapOk answers as the document says. Conditions: at most 2^22 ends; all numbers are ints. -/
namespace Go.Proofs.YtglpijjkihpeeaaGreatDoor
open Go.RowKit

theorem implMapOk_any (v : Value) (es : List (Int × Int)) (w : World) (hn : es.length ≤ 4194304) (hwf : wfE es) (ht : TabAt w v es) :
    Calls Tryz.prog 46 #[.agg #[v]] w fun e w' => e = .returned (.bool (mapB es)) ∧ Below w.heap.size w w' := by
  by_cases h6 : 6 < es.length
  · exact implMapOk_big v es w ht h6
  · by_cases hin : es.all (fun e => insB e.1 e.2) = true
    · exact implMapOk_all v es w hn hwf ht h6 hin
    · exact implMapOk_not v es w hn ht h6 hin

end Go.Proofs.YtglpijjkihpeeaaGreatDoor

/- EndText of the program: address and port in decimals, a space between; nothing of what is no end. Condition: the table of powers of ten of the library's Itoa holds what it is laid with. -/
namespace Go.Proofs.YtglpijjkihpeeaaGreatDoor
open Go.RowKit Go.Sort

/-- The library's table of powers of ten, as the row lists it. -/
def TabOk (w : World) : Prop := Lib.TabIs Tryz.prog w "internal/strconv.uint64pow10" .u64 Lib.pow10Tab
theorem TabOk.below {w w' : World} {B : Nat} (h : TabOk w) (hb : Below B w w') (hB : w.heap.size ≤ B) : TabOk w' :=
  Joins.tab_stays (g := 3) (by kernel_rfl) h hb hB
theorem below_growN (w : World) (k : Nat) (os : Array Obj) : Below w.heap.size w (grow (w.drewN k) os) :=
  ⟨rfl, rfl, rfl, by simp [grow, World.drewN], fun k hk => by simp [grow, World.drewN, Array.getElem?_append, hk]⟩
theorem itoa_nat (n : Nat) : Lib.itoa (n : Int) = Lib.decDigits n := by
  unfold Lib.itoa; rw [if_neg (by omega)]; simp

theorem itoa_any (n : Nat) (w : World) (hn : n ≤ 1000000000000000000) (ht : TabOk w) :
    Calls Tryz.prog 194 #[.int .i64 n] w fun e w' => e = .returned (.string ⟨(Lib.decDigits n).toArray⟩) ∧ Below w.heap.size w w' := by
  have h := Any.strconv_Itoa Tryz.laysM171 (n : Int) (by omega) (by omega) w ht
  rw [itoa_nat] at h
  refine Calls.mono h ?_
  rintro e w' ⟨rfl, k, os, rfl⟩
  exact ⟨rfl, below_growN _ _ _⟩

set_option maxRecDepth 100000 in
set_option maxHeartbeats 400000 in
theorem implText_no (a p : Int) (w : World) (h : endB a p = false) :
    Calls Tryz.prog 185 #[.agg #[.int .i64 a, .int .i64 p]] w fun e w' => e = .returned (.string ⟨#[]⟩) ∧ Below w.heap.size w w' := by
  go_enter Tryz.func185, Tryz.ntmps185
  go_wp2_with (go_at_call 119; refine (implOk_any _ _ _).mono ?_; rintro e w1 ⟨rfl, b1⟩)
  go_ret
  exact ⟨rfl, below_box b1⟩

set_option maxRecDepth 100000 in
set_option maxHeartbeats 400000 in
theorem implText_yes (a p : Nat) (w : World) (h : endB a p = true) (ht : TabOk w) :
    Calls Tryz.prog 185 #[.agg #[.int .i64 a, .int .i64 p]] w fun e w' => e = .returned (.string ⟨(endL a p).toArray⟩) ∧ Below w.heap.size w w' := by
  obtain ⟨h1, h2, h3, h4⟩ := end_bounds h
  have la := dec_len a
  have lp := dec_len p
  have n1 : ¬ 9223372036854775807 < (Lib.decDigits a).length + 1 := by omega
  have n2 : ¬ 9223372036854775807 < (Lib.decDigits a).length + 1 + (Lib.decDigits p).length := by omega
  clear la lp
  have HT := Lib.hid ht
  clear ht
  go_enter Tryz.func185, Tryz.ntmps185
  go_wp2_with (go_at_call 119; refine (implOk_any _ _ _).mono ?_; rintro e w1 ⟨rfl, b1⟩)
  have s1 : w.heap.size < w1.heap.size := by (have := b1.size; simp at this; omega)
  have k0 := cell_regrown (show w1.cell? ⟨w.heap.size, 0, none⟩ = some (.int .i64 a) by rw [b1.cell (by simp)]; simp)
  have k1 := cell_regrown (show w1.cell? ⟨w.heap.size, 1, none⟩ = some (.int .i64 p) by rw [b1.cell (by simp)]; simp)
  have cN : ∀ (k : Nat) (hk : k ≤ 1000) d os, Calls Tryz.prog 194 #[.int .i64 (k : Int)] (grow (redrawn w1 d) os) fun e w'' => e = .returned (.string ⟨(Lib.decDigits k).toArray⟩) ∧ ∃ p : Regrown, w'' = grow (redrawn w1 p.d) p.os := fun k hk d os => Calls.regrown_of (itoa_any k _ (by omega) (HT.out.below ((below_box b1).trans ((below_regrown w1 d os).mono (by omega))) (Nat.le_refl _)))
  refine wp_region_quiet_below (by kernel_rfl) (by kernel_rfl) ?_
  repeat (quiet_step (exact cN _ (by omega) _ _))
  refine wpQuiet_nil ?_
  intro _ hw'
  obtain ⟨⟨dq, osq⟩, hw''⟩ := hw'
  subst hw''
  go_wp2
  go_ret
  exact ⟨by rw [text_cat]; rfl, (below_box b1).trans ((below_regrown w1 dq osq).mono (by omega))⟩

end Go.Proofs.YtglpijjkihpeeaaGreatDoor
