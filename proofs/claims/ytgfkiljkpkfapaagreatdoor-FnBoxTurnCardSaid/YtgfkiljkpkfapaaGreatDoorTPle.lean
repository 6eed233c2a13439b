/- EndRead of the program and of the specification answer the same of every text. Conditions: the text has at most 2^20 bytes; the variables that are read hold what they are laid with. (Several texts, joined: ITable, IGive, BoxAt, IMapO1, IMapO2, IMapO3, IMapO, Text, Cut, ReadNum, ReadEnd, Reads.) -/
import Derived.Test.YtgfkiljkpkfapaaGreatDoorTPld
import Derived.Test.YtgfkiljkpkfapaaGreatDoorOwnEnds
import Derived.OwnWalk
import Derived.Test.YtgfkiljkpkfapaaGreatDoorTPlb
import Derived.Test.YtgfkiljkpkfapaaGreatDoorTPla
import Derived.Deep.RegionWith
import Derived.Deep.RegionHeld3
import Derived.Lib.QuietBelow
import Derived.Lib.SmallJoins
import Derived.Shelf.Strconv.Itoa3
import Derived.Shelf.Strings.Search2
import Derived.Lib.CutLaws
import Derived.Lib.IndexBytes
import Derived.RegionTactic
import Derived.IntWalk
import Derived.Shelf.Strconv.ErrVarAll
import Derived.Lib.AtoiAllCases
import Derived.Deep.RegionHeld

/- A table out of its two maps; the port that an end has, or gets. Conditions: at most 2^22 ends, none twice. -/
namespace Go.Proofs.YtgfkiljkpkfapaaGreatDoor
open Go.RowKit Go.Sort

set_option maxRecDepth 100000 in
set_option maxHeartbeats 1600000 in
theorem tableOf_any (g1 g2 : Nat) (es : List (Int × Int)) (w : World) (hb : Both w g1 g2 es) (hv : (valsL es).length = es.length) (hn : es.length ≤ 4194304) :
    Calls Tryz.prog 122 #[.agg #[.map (some g1), .map (some g2)]] w fun e w' => ∃ a c, e = .returned (.agg #[.slice a es.length c]) ∧ OwnTab w' w.heap.size (.slice a es.length c) es ∧ Below w.heap.size w w' := by
  obtain ⟨i0, hi, hz0, hz1, hz2⟩ := info_parts infoEnd
  have HB : Hid (∀ w', Below w.heap.size w w' → Both w' g1 g2 es) := fun w' h => hb.later h
  have HS : Hid (∀ w, Both w g1 g2 es → Calls Tryz.prog 97 #[.agg #[.map (some g1), .map (some g2)]] w fun e w' => e = .returned (.int .i64 (es.length : Int)) ∧ Below w.heap.size w w') := fun w h => by rw [← hv]; exact size_any g1 g2 es w h
  clear hb hv
  go_enter Tryz.func122, Tryz.ntmps122
  go_wp2_with fail
  (go_at_call 97; refine (HS.out _ (HB.out _ ((((Below.refl _ _).alloc (Nat.le_refl _) _).alloc (by simp) _).alloc (by simp; omega) _))).mono ?_; rintro e w1 ⟨rfl, b1⟩; obtain ⟨cA, cB, cC, b01, z1⟩ := cell_three b1; have t0 := (cA 0).1; have t1 := (cA 1).1; have r0 := (cB 0).1; have f0 := (cB 0).2; have o0 := (cC 0).1; have h0 := (cC 0).2; simp at t0 t1 r0 o0; have B1 := Lib.hid b01; clear b01 cA cB cC b1)
  go_wp2_with fail
  go_loopw [9] (fun i wr => ∃ (k : Nat) (a : Option Addr) (c : Nat), k ≤ es.length ∧ i = .int .i64 k ∧ wr.cell? ⟨w.heap.size + 1 + 1, 0, none⟩ = some (.slice a k c) ∧ wr.frozen? ⟨w.heap.size + 1 + 1, 0, none⟩ = false ∧ OwnTab wr (w.heap.size + 3) (.slice a k c) (es.take k) ∧ Below (w.heap.size + 2) w1 wr) (fun i _ => es.length - (intOf i).toNat)
  case atStart => exact ⟨0, none, 0, Nat.zero_le _, rfl, o0, h0, ⟨by simp [flatE], .inl ⟨rfl, rfl⟩⟩, Below.refl _ _⟩
  case round =>
    obtain ⟨k, a0, c0, hk, rfl, o1, h1, ho, hb⟩ := hrel
    have HO := Lib.hid ho
    have HBL := Lib.hid hb
    have zr := hb.size
    have BW : Hid (Below w.heap.size w wr) := B1.out.trans (hb.mono (by omega))
    have s0 : wr.cell? ⟨w.heap.size, 0, none⟩ = some (.map (some g1)) := (hb.cell (p := ⟨w.heap.size, 0, none⟩) (by simp)).trans t0
    have s1 : wr.cell? ⟨w.heap.size, 1, none⟩ = some (.map (some g2)) := (hb.cell (p := ⟨w.heap.size, 1, none⟩) (by simp)).trans t1
    clear ho
    by_cases hlt : k < es.length
    · have hE : endI es (500 + (k : Int)) = some es[k] := by
        obtain ⟨j, hj, e1, e2⟩ := endI_hit (es := es) (port := 500 + (k : Int)) (by omega)
        obtain rfl : k = j := by omega
        exact e2
      have HT : Hid (es.take (k + 1) = es.take k ++ [es[k]]) := take_snocE es k hlt
      obtain ⟨⟨a, p⟩, hap⟩ : ∃ x, x = es[k] := ⟨_, rfl⟩
      rw [← hap] at HT hE
      have HK : Hid (∀ w, Both w g1 g2 es → Calls Tryz.prog 47 #[.agg #[.map (some g1), .map (some g2)], .int .i64 (500 + (k : Int))] w fun e w' => e = .returned (.tuple #[.agg #[.int .i64 a, .int .i64 p], .bool true]) ∧ Below w.heap.size w w') := fun w h => by
        have := key_any g1 g2 es (500 + (k : Int)) w h (pV_wf (by omega))
        rw [hE] at this
        exact this
      have hk3 : (k : Int) ≤ 4194304 := by omega
      clear hap hE hb
      go_wp2_with fail
      (go_at_call 47; refine (HK.out _ (HB.out _ BW.out)).mono ?_; rintro e w2 ⟨rfl, b2⟩; have B2 := Lib.hid b2; have z2 := b2.size; have o2 : ∀ x y, ((w2.alloc x).alloc y).cell? ⟨w.heap.size + 1 + 1, 0, none⟩ = some (.slice a0 k c0) := (fun x y => by rw [cell_alloc_lt (by simp; omega), cell_alloc_lt (by omega), b2.cell (by simp; omega)]; exact o1); have o3 : ∀ x, (w2.alloc x).cell? ⟨w.heap.size + 1 + 1, 0, none⟩ = some (.slice a0 k c0) := (fun x => by rw [cell_alloc_lt (by omega), b2.cell (by simp; omega)]; exact o1); clear b2)
      have HO2 : Hid (∀ x y, OwnTab ((w2.alloc x).alloc y) (w.heap.size + 3) (.slice a0 k c0) (es.take k)) := fun x y => HO.out.below (((B2.out.alloc z2 x).alloc (by simp; omega) y))
      have hlen : (es.take k).length = k := by simp; omega
      go_wp2_with (at_builtin; refine wpList_append_own _ rfl (.tmp 20) (.tmp 22) 24 rfl (w.heap.size + 3) 31 i0 (.agg #[.int .i64 0, .int .i64 0]) 2 16 Tryz.underlying24 hi hz0 hz1 hz2 rfl (by decide) _ _ _ rfl (HO2.out _ _) ⟨w2.heap.size + 1, 0, none⟩ 1 1 [.int .i64 a, .int .i64 p] rfl rfl ?c1 ?c2 ?c3 ?c4 ?c5 ?_)
      case c1 =>
        intro j u hj
        match j, hj with
        | 0, hj => simp at hj; subst hj; simp [Addr.add]
        | 1, hj => simp at hj; subst hj; simp [Addr.add]
      case c2 => intro u hu; simp at hu; rcases hu with rfl | rfl <;> rfl
      case c3 => unfold maxLen; omega
      case c4 => omega
      case c5 => simp; omega
      · intro v' w3 hown' hgrow _
        have hot : OwnTab w3 (w.heap.size + 3) v' (es.take (k + 1)) := by
          show w3.ownsRow _ _ _ _ _ _
          rw [HT.out, flatE_app, List.length_append, hlen]
          simpa [flatE] using hown'
        obtain ⟨a1, c1, hv1⟩ := hot.form
        have hlen1 : (es.take (k + 1)).length = k + 1 := by simp; omega
        rw [hlen1] at hv1
        subst hv1
        have HO3 := Lib.hid hot
        have B3 : Hid (Below (w.heap.size + 3) wr w3) := (((B2.out.mono (by omega)).alloc (by omega) _).alloc (by simp; omega) _).grown hgrow (by simp; omega) (fun j hj => (HO.out.lt j hj).1)
        have o4 : w3.cell? ⟨w.heap.size + 1 + 1, 0, none⟩ = some (.slice a0 k c0) := by rw [B3.out.cell (by simp)]; exact o1
        have h4 : w3.frozen? ⟨w.heap.size + 1 + 1, 0, none⟩ = false := by rw [B3.out.frozen (by simp)]; exact h1
        clear hown' hgrow hot o2 o3
        go_wp2_with fail
        go_roundw
        case rel =>
          refine ⟨k + 1, a1, c1, by omega, by go_num, World.cell?_setCell_same _ _ _ o4, by rw [World.frozen?_setCell]; exact h4, ?_, ?_⟩
          · exact ownsRow_setCell_below (a := ⟨w.heap.size + 1 + 1, 0, none⟩) HO3.out (by simp) _
          · exact (HBL.out.trans (B3.out.mono (by omega))).setCell (by simp) _
        case measure => simp [intOf]; omega
    · have hke : k = es.length := by omega
      subst hke
      have r1 : wr.cell? ⟨w.heap.size + 1, 0, none⟩ = some (.slice none 0 0) := (hb.cell (p := ⟨w.heap.size + 1, 0, none⟩) (by simp)).trans r0
      have f1 : wr.frozen? ⟨w.heap.size + 1, 0, none⟩ = false := (hb.frozen (p := ⟨w.heap.size + 1, 0, none⟩) (by simp)).trans f0
      have HO1 : Hid (OwnTab wr (w.heap.size + 3) (.slice a0 es.length c0) es) := by have := HO.out; rwa [List.take_length] at this
      clear hb
      go_wp2_with fail
      refine bodyPost_ret (v := .agg #[.slice a0 es.length c0]) (by simp [results, Tryz.results122, go_sem, World.cell?_setCell_same _ _ _ r1]) rfl ⟨_, _, rfl, ?_, BW.out.setCell (by simp) _⟩
      exact OwnTab.mono (B := w.heap.size + 3) (ownsRow_setCell_below (a := ⟨w.heap.size + 1, 0, none⟩) HO1.out (by simp) _) (by omega)

end Go.Proofs.YtgfkiljkpkfapaaGreatDoor

/- The port that an end has, or gets, in the two maps of a table. Conditions: the table is ok; the end is inside. -/
namespace Go.Proofs.YtgfkiljkpkfapaaGreatDoor
open Go.RowKit Go.Sort

set_option maxRecDepth 100000 in
set_option maxHeartbeats 1600000 in
theorem givePort_any (g1 g2 : Nat) (es : List (Int × Int)) (a p : Int) (w : World) (hb : Both w g1 g2 es) (hm : mapB es = true) (hi : insB a p = true) :
    Calls Tryz.prog 121 #[.agg #[.map (some g1), .map (some g2)], .agg #[.int .i64 a, .int .i64 p]] w fun e w' => e = .returned (.int .i64 (putE es (a, p)).2) ∧ Both w' g1 g2 (putE es (a, p)).1 ∧ Two g1 g2 w w' := by
  have h6 := mapB_le hm
  obtain ⟨wa, wp⟩ := ins_wf hi
  have hv := valsL_ok hm
  have HB : Hid (∀ w', Below w.heap.size w w' → Both w' g1 g2 es) := fun w' h => hb.later h
  have HS : Hid (∀ w, Both w g1 g2 es → Calls Tryz.prog 97 #[.agg #[.map (some g1), .map (some g2)]] w fun e w' => e = .returned (.int .i64 (es.length : Int)) ∧ Below w.heap.size w w') := fun w h => by rw [← hv]; exact size_any g1 g2 es w h
  have HL := Lib.hid hb.lt
  by_cases hno : (a, p) ∈ es
  · rw [putE_has hno]
    obtain ⟨q, hq⟩ : ∃ q, q = portI es (a, p) := ⟨_, rfl⟩
    have HV : Hid (∀ w, Both w g1 g2 es → Calls Tryz.prog 51 #[.agg #[.map (some g1), .map (some g2)], .agg #[.int .i64 a, .int .i64 p]] w fun e w' => e = .returned (.tuple #[.int .i64 q, .bool true]) ∧ Below w.heap.size w w') := fun w h => by
      have := value_any g1 g2 es a p w h wa wp
      unfold valV at this
      rwa [decide_eq_true hno, ← hq] at this
    simp only [← hq]
    clear hb hm hi hno hv hq wa wp HS
    go_enter Tryz.func121, Tryz.ntmps121
    go_wp2_with (go_at_call 51; refine (HV.out _ (HB.out _ (((Below.refl _ _).alloc (Nat.le_refl _) _).alloc (by simp) _))).mono ?_; rintro e w1 ⟨rfl, b1⟩; obtain ⟨cA, cB, b01, z1⟩ := cell_two b1; clear cA cB)
    go_ret
    exact ⟨rfl, HB.out _ b01, Two.of_below b01⟩
  · have HV : Hid (∀ w, Both w g1 g2 es → Calls Tryz.prog 51 #[.agg #[.map (some g1), .map (some g2)], .agg #[.int .i64 a, .int .i64 p]] w fun e w' => e = .returned (.tuple #[.int .i64 0, .bool false]) ∧ Below w.heap.size w w') := fun w h => by
      have := value_any g1 g2 es a p w h wa wp
      unfold valV at this
      rwa [decide_eq_false hno, portI_not hno] at this
    by_cases h66 : es.length = 6
    · rw [putE_full hno h66]
      have h67 : (6 : Int) ≤ (es.length : Int) := by omega
      clear hb hm hi hno hv wa wp h66 h6
      go_enter Tryz.func121, Tryz.ntmps121
      go_wp2_with (first
        | (go_at_call 51; refine (HV.out _ (HB.out _ (((Below.refl _ _).alloc (Nat.le_refl _) _).alloc (by simp) _))).mono ?_; rintro e w1 ⟨rfl, b1⟩; obtain ⟨cA, cB, b01, z1⟩ := cell_two b1; have t0 := (cA 0).1; have t1 := (cA 1).1; simp at t0 t1; clear cA cB b1)
        | (go_at_call 97; refine (HS.out _ (HB.out _ b01)).mono ?_; rintro e w2 ⟨rfl, b2⟩))
      go_ret
      have b02 : Below w.heap.size w w2 := b01.trans (b2.mono (by omega))
      exact ⟨rfl, HB.out _ b02, Two.of_below b02⟩
    · rw [putE_new hno h66]
      have h67 : (es.length : Int) < 6 := by omega
      have HJ : Hid (∀ w, Both w g1 g2 es → Calls Tryz.prog 92 #[.agg #[.map (some g1), .map (some g2)], .agg #[.int .i64 a, .int .i64 p], .int .i64 (500 + (es.length : Int))] w fun e w' => e = .returned (.tuple #[]) ∧ Both w' g1 g2 (es ++ [(a, p)]) ∧ Two g1 g2 w w') := fun w h => join_any g1 g2 es a p w h wa wp (by omega)
      clear hb hm hi hno hv wa wp h66 h6
      go_enter Tryz.func121, Tryz.ntmps121
      go_wp2_with fail
      (go_at_call 51; refine (HV.out _ (HB.out _ (((Below.refl _ _).alloc (Nat.le_refl _) _).alloc (by simp) _))).mono ?_; rintro e w1 ⟨rfl, b1⟩; obtain ⟨cA, cB, b01, z1⟩ := cell_two b1; have t0 := (cA 0).1; have t1 := (cA 1).1; have e0 := (cB 0).1; have e1 := (cB 1).1; simp at t0 t1 e0 e1; clear cA cB b1)
      go_wp2_with fail
      (go_at_call 97; refine (HS.out _ (HB.out _ b01)).mono ?_; rintro e w2 ⟨rfl, b2⟩; have b02 : Below w.heap.size w w2 := b01.trans (b2.mono (by omega)); have t20 : w2.cell? ⟨w.heap.size, 0, none⟩ = some (.map (some g1)) := (by rw [b2.cell (by simp; omega)]; exact t0); have t21 : w2.cell? ⟨w.heap.size, 1, none⟩ = some (.map (some g2)) := (by rw [b2.cell (by simp; omega)]; exact t1); have e20 : w2.cell? ⟨w.heap.size + 1, 0, none⟩ = some (.int .i64 a) := (by rw [b2.cell (by simp; omega)]; exact e0); have e21 : w2.cell? ⟨w.heap.size + 1, 1, none⟩ = some (.int .i64 p) := (by rw [b2.cell (by simp; omega)]; exact e1); have z2 := b2.size)
      go_wp2_with fail
      (go_at_call 97; refine (HS.out _ (HB.out _ b02)).mono ?_; rintro e w3 ⟨rfl, b3⟩; have b03 : Below w.heap.size w w3 := b02.trans (b3.mono (by omega)); have t30 : w3.cell? ⟨w.heap.size, 0, none⟩ = some (.map (some g1)) := (by rw [b3.cell (by simp; omega)]; exact t20); have t31 : w3.cell? ⟨w.heap.size, 1, none⟩ = some (.map (some g2)) := (by rw [b3.cell (by simp; omega)]; exact t21); have e30 : w3.cell? ⟨w.heap.size + 1, 0, none⟩ = some (.int .i64 a) := (by rw [b3.cell (by simp; omega)]; exact e20); have e31 : w3.cell? ⟨w.heap.size + 1, 1, none⟩ = some (.int .i64 p) := (by rw [b3.cell (by simp; omega)]; exact e21))
      go_wp2_with fail
      (go_at_call 92; refine (HJ.out _ (HB.out _ b03)).mono ?_; rintro e w4 ⟨rfl, hb4, t4⟩; have HB4 := Lib.hid hb4; clear hb4)
      go_wp2_with fail
      go_ret
      exact ⟨rfl, HB4.out, (Two.of_below b03).trans t4⟩

end Go.Proofs.YtgfkiljkpkfapaaGreatDoor

/- The box's end with a port, and whether an end's streams name ends, of the program. No condition. -/
namespace Go.Proofs.YtgfkiljkpkfapaaGreatDoor
open Go.RowKit

set_option maxRecDepth 100000 in
set_option maxHeartbeats 400000 in
theorem boxAt_any (p : Int) (w : World) :
    Calls Tryz.prog 35 #[.int .i64 p] w fun e w' => e = .returned (.agg #[.int .i64 50, .int .i64 p]) ∧ Below w.heap.size w w' := by
  go_enter Tryz.func35, Tryz.ntmps35
  go_wp2_with fail
  refine bodyPost_ret (v := .agg #[.int .i64 50, .int .i64 p]) (by simp [results, Tryz.results35, go_sem]) rfl ⟨rfl, ?_⟩
  first
    | exact (((Below.refl _ _).alloc (Nat.le_refl _) _).setCell (by simp) _).setCell (by simp) _
    | exact (Below.refl _ _).alloc (Nat.le_refl _) _

set_option maxRecDepth 100000 in
set_option maxHeartbeats 1000000 in
theorem isCtl_any (a p : Int) (w : World) :
    Calls Tryz.prog 100 #[.agg #[.int .i64 a, .int .i64 p]] w fun e w' => e = .returned (.bool (outB a p && decide (p = 21))) ∧ Below w.heap.size w w' := by
  have HB : Hid (∀ w', Calls Tryz.prog 119 #[.agg #[.int .i64 a, .int .i64 p]] w' fun e w'' => e = .returned (.bool (outB a p)) ∧ Below w'.heap.size w' w'') := fun w' => implOutside_any a p w'
  obtain ⟨q, hq⟩ : ∃ q, q = outB a p := ⟨_, rfl⟩
  rw [← hq] at HB ⊢
  clear hq
  by_cases h : p = 21
  · subst h
    cases q
    all_goals
      go_enter Tryz.func100, Tryz.ntmps100
      go_wp2_with (go_at_call 119; refine (HB.out _).mono ?_; rintro e w1 ⟨rfl, b1⟩; obtain ⟨c1, f1⟩ := bcell b1)
      go_ret
      exact ⟨by simp, below_box b1⟩
  · have h2 : (p == 21) = false := by simpa using h
    cases q
    all_goals
      go_enter Tryz.func100, Tryz.ntmps100
      go_wp2_with (go_at_call 119; refine (HB.out _).mono ?_; rintro e w1 ⟨rfl, b1⟩; obtain ⟨c1, f1⟩ := bcell b1)
      go_ret
      exact ⟨by simp [h], below_box b1⟩

end Go.Proofs.YtgfkiljkpkfapaaGreatDoor

/- The program's MapOk answers as the document says. Conditions: at most 2^22 ends; all numbers are ints. -/
namespace Go.Proofs.YtgfkiljkpkfapaaGreatDoor
open Go.RowKit Go.Sort

set_option maxRecDepth 100000 in
set_option maxHeartbeats 3200000 in
theorem implMapOk_big (v : Value) (es : List (Int × Int)) (w : World)  (ht : TabAt w v es) (h6 : 6 < es.length) :
    Calls Tryz.prog 53 #[.agg #[v]] w fun e w' => e = .returned (.bool (mapB es)) ∧ Below w.heap.size w w' := by
  have HT := Lib.hid ht
  obtain ⟨ad, cap, rfl, _, _⟩ := ht
  have HB : Hid (mapB es = false) := by show mapB es = false; rw [mapB_vals, decide_eq_false (by omega)]; rfl
  have h66 : decide ((es.length : Int) ≤ 6) = false := by simp; omega
  rw [HB.out]
  clear HB HT
  go_enter Tryz.func53, Tryz.ntmps53
  go_wp2_with fail
  go_quiet (fail)
  go_wp2_with fail
  go_ret
  exact ⟨rfl, ((Below.refl _ _).alloc (Nat.le_refl _) _).trans ⟨rfl, rfl, rfl, Nat.le_refl _, fun _ _ => rfl⟩⟩

end Go.Proofs.YtgfkiljkpkfapaaGreatDoor

/- The program's MapOk answers as the document says. Conditions: at most 2^22 ends; all numbers are ints. -/
namespace Go.Proofs.YtgfkiljkpkfapaaGreatDoor
open Go.RowKit Go.Sort

set_option maxRecDepth 100000 in
set_option maxHeartbeats 3200000 in
theorem implMapOk_all (v : Value) (es : List (Int × Int)) (w : World) (hn : es.length ≤ 4194304) (hwf : wfE es) (ht : TabAt w v es) (h6 : ¬ 6 < es.length) (hin : es.all (fun e => insB e.1 e.2) = true) :
    Calls Tryz.prog 53 #[.agg #[v]] w fun e w' => e = .returned (.bool (mapB es)) ∧ Below w.heap.size w w' := by
  have HT := Lib.hid ht
  obtain ⟨ad, cap, rfl, _, _⟩ := ht
  have h66 : decide ((es.length : Int) ≤ 6) = true := by simp; omega
  have HA : ∀ b, es.all (fun e => insB e.1 e.2) = b → Hid (∀ w, TabAt w (.slice ad es.length cap) es → Calls Tryz.prog 96 #[.slice ad es.length cap] w fun e w' => e = .returned (.bool b) ∧ Below w.heap.size w w') := fun b hb w h => by rw [← hb]; exact allInside_any _ es w hn h
  obtain ⟨W0, hW0⟩ : ∃ W0, W0 = w.alloc (.cells #[.slice ad es.length cap] 26) := ⟨_, rfl⟩
  have t0 : W0.cell? ⟨w.heap.size, 0, none⟩ = some (.slice ad es.length cap) := by rw [hW0]; exact (cell_new w _ _ 0).1
  have B0 : Hid (Below w.heap.size w W0) := by rw [hW0]; exact (Below.refl _ _).alloc (Nat.le_refl _) _
  have z0 : W0.heap.size = w.heap.size + 1 := by rw [hW0]; simp
  have HT0 := Lib.hid (HT.out.below B0.out)
  have HA := HA true hin
  obtain ⟨n, hnn⟩ : ∃ n, n = (valsL es).length := ⟨_, rfl⟩
  have HB : Hid (mapB es = ((n : Int) == (es.length : Int))) := by
    show mapB es = _
    rw [mapB_vals, hin, decide_eq_true (by omega), ← hnn, Bool.eq_iff_iff]
    simp
    omega
  have HP : Hid (∀ w, TabAt w (.slice ad es.length cap) es → Calls Tryz.prog 46 #[.agg #[.slice ad es.length cap]] w fun e w' => ∃ g1 g2, e = .returned (.agg #[.map (some g1), .map (some g2)]) ∧ w.heap.size ≤ g1 ∧ w.heap.size ≤ g2 ∧ Both w' g1 g2 es ∧ Below w.heap.size w w') := fun w h => portsOf_any _ es w hn hwf h
  have HS : Hid (∀ g1 g2 w, Both w g1 g2 es → Calls Tryz.prog 97 #[.agg #[.map (some g1), .map (some g2)]] w fun e w' => e = .returned (.int .i64 (n : Int)) ∧ Below w.heap.size w w') := fun g1 g2 w h => by rw [hnn]; exact size_any g1 g2 es w h
  rw [HB.out]
  clear hwf HT hin hnn HB hn
  go_enter Tryz.func53, Tryz.ntmps53
  go_wp2_with fail
  rw [← hW0]
  clear hW0
  have mk : Hid (∀ w', Below W0.heap.size W0 w' → w'.cell? ⟨w.heap.size, 0, none⟩ = some (.slice ad es.length cap) ∧ Below W0.heap.size W0 w') := fun w' h => ⟨by rw [h.cell (by simp; omega)]; exact t0, h⟩
  clear t0
  go_region_held3 (fun w' => w'.cell? ⟨w.heap.size, 0, none⟩ = some (.slice ad es.length cap) ∧ Below W0.heap.size W0 w') (first | exact mk.out _ (Below.refl _ _).drew | exact mk.out _ cc)
    (first
      | (go_at_call 96; refine (HA.out _ (HT0.out.below (Below.refl _ _).drew)).mono ?_; rintro e wN ⟨rfl, bN⟩; have cc : Below W0.heap.size W0 wN := ((Below.refl _ _).drew).trans bN)
      | (go_at_call 46; refine (HP.out _ (HT0.out.below cc)).mono ?_; rintro e wP ⟨g1, g2, rfl, _, _, hb, bN⟩; have HBo := Lib.hid hb; have cc : Below W0.heap.size W0 wP := cc.trans (bN.mono cc.size); clear hb)
      | (go_at_call 97; refine (HS.out _ _ _ HBo.out).mono ?_; rintro e wQ ⟨rfl, bN⟩; have cc : Below W0.heap.size W0 wQ := cc.trans (bN.mono cc.size)))
  all_goals
    go_wp2_with fail
    go_ret
    exact ⟨rfl, B0.out.trans (cc.mono (by omega))⟩

end Go.Proofs.YtgfkiljkpkfapaaGreatDoor

/- The program's MapOk answers as the document says. Conditions: at most 2^22 ends; all numbers are ints. -/
namespace Go.Proofs.YtgfkiljkpkfapaaGreatDoor
open Go.RowKit Go.Sort

set_option maxRecDepth 100000 in
set_option maxHeartbeats 3200000 in
theorem implMapOk_not (v : Value) (es : List (Int × Int)) (w : World) (hn : es.length ≤ 4194304) (ht : TabAt w v es) (h6 : ¬ 6 < es.length) (hin : ¬ es.all (fun e => insB e.1 e.2) = true) :
    Calls Tryz.prog 53 #[.agg #[v]] w fun e w' => e = .returned (.bool (mapB es)) ∧ Below w.heap.size w w' := by
  have HT := Lib.hid ht
  obtain ⟨ad, cap, rfl, _, _⟩ := ht
  have h66 : decide ((es.length : Int) ≤ 6) = true := by simp; omega
  have HA : ∀ b, es.all (fun e => insB e.1 e.2) = b → Hid (∀ w, TabAt w (.slice ad es.length cap) es → Calls Tryz.prog 96 #[.slice ad es.length cap] w fun e w' => e = .returned (.bool b) ∧ Below w.heap.size w w') := fun b hb w h => by rw [← hb]; exact allInside_any _ es w hn h
  obtain ⟨W0, hW0⟩ : ∃ W0, W0 = w.alloc (.cells #[.slice ad es.length cap] 26) := ⟨_, rfl⟩
  have t0 : W0.cell? ⟨w.heap.size, 0, none⟩ = some (.slice ad es.length cap) := by rw [hW0]; exact (cell_new w _ _ 0).1
  have B0 : Hid (Below w.heap.size w W0) := by rw [hW0]; exact (Below.refl _ _).alloc (Nat.le_refl _) _
  have z0 : W0.heap.size = w.heap.size + 1 := by rw [hW0]; simp
  have HT0 := Lib.hid (HT.out.below B0.out)
  have hin' : es.all (fun e => insB e.1 e.2) = false := by simpa using hin
  have HA := HA false hin'
  have HB : Hid (mapB es = false) := by
    show mapB es = false
    rw [mapB_vals, hin']
    simp
  rw [HB.out]
  clear HT hin hin' HB hn
  go_enter Tryz.func53, Tryz.ntmps53
  go_wp2_with fail
  rw [← hW0]
  clear hW0
  have K0 := cell_regrown t0
  have cA : ∀ d os, Calls Tryz.prog 96 #[.slice ad es.length cap] (grow (redrawn W0 d) os) fun e w'' => e = .returned (.bool false) ∧ ∃ q : Regrown, w'' = grow (redrawn W0 q.d) q.os := fun d os => Calls.regrown_of (HA.out _ (HT0.out.below (below_regrown W0 d os)))
  clear t0
  refine wp_region_quiet_below (by kernel_rfl) (by kernel_rfl) ?_
  repeat (first | go_big_quiet_skip | quiet_step (exact cA _ _))
  refine wpQuiet_nil ?_
  intro _ hw'
  obtain ⟨⟨dq, osq⟩, hw''⟩ := hw'
  subst hw''
  go_wp2_with fail
  go_ret
  exact ⟨rfl, B0.out.trans ((below_regrown W0 dq osq).mono (by omega))⟩

end Go.Proofs.YtgfkiljkpkfapaaGreatDoor

/- The program's MapOk answers as the document says. Conditions: at most 2^22 ends; all numbers are ints. -/
namespace Go.Proofs.YtgfkiljkpkfapaaGreatDoor
open Go.RowKit

theorem implMapOk_any (v : Value) (es : List (Int × Int)) (w : World) (hn : es.length ≤ 4194304) (hwf : wfE es) (ht : TabAt w v es) :
    Calls Tryz.prog 53 #[.agg #[v]] w fun e w' => e = .returned (.bool (mapB es)) ∧ Below w.heap.size w w' := by
  by_cases h6 : 6 < es.length
  · exact implMapOk_big v es w ht h6
  · by_cases hin : es.all (fun e => insB e.1 e.2) = true
    · exact implMapOk_all v es w hn hwf ht h6 hin
    · exact implMapOk_not v es w hn ht h6 hin

end Go.Proofs.YtgfkiljkpkfapaaGreatDoor

/- EndText of the program: address and port in decimals, a space between; nothing of what is no end. Condition: the table of powers of ten of the library's Itoa holds what it is laid with. -/
namespace Go.Proofs.YtgfkiljkpkfapaaGreatDoor
open Go.RowKit Go.Sort

/-- The library's table of powers of ten, as the row lists it. -/
def TabOk (w : World) : Prop := Lib.TabIs Tryz.prog w "internal/strconv.uint64pow10" .u64 Lib.pow10Tab
theorem TabOk.below {w w' : World} {B : Nat} (h : TabOk w) (hb : Below B w w') (hB : w.heap.size ≤ B) : TabOk w' :=
  Joins.tab_stays (g := 5) (by kernel_rfl) h hb hB
theorem below_growN (w : World) (k : Nat) (os : Array Obj) : Below w.heap.size w (grow (w.drewN k) os) :=
  ⟨rfl, rfl, rfl, by simp [grow, World.drewN], fun k hk => by simp [grow, World.drewN, Array.getElem?_append, hk]⟩
theorem itoa_nat (n : Nat) : Lib.itoa (n : Int) = Lib.decDigits n := by
  unfold Lib.itoa; rw [if_neg (by omega)]; simp

theorem itoa_any (n : Nat) (w : World) (hn : n ≤ 1000000000000000000) (ht : TabOk w) :
    Calls Tryz.prog 170 #[.int .i64 n] w fun e w' => e = .returned (.string ⟨(Lib.decDigits n).toArray⟩) ∧ Below w.heap.size w w' := by
  have h := Any.strconv_Itoa Tryz.laysM171 (n : Int) (by omega) (by omega) w ht
  rw [itoa_nat] at h
  refine Calls.mono h ?_
  rintro e w' ⟨rfl, k, os, rfl⟩
  exact ⟨rfl, below_growN _ _ _⟩

set_option maxRecDepth 100000 in
set_option maxHeartbeats 400000 in
theorem implText_yes (a p : Nat) (w : World) (h : endB a p = true) (ht : TabOk w) :
    Calls Tryz.prog 164 #[.agg #[.int .i64 a, .int .i64 p]] w fun e w' => e = .returned (.string ⟨(endL a p).toArray⟩) ∧ Below w.heap.size w w' := by
  obtain ⟨h1, h2, h3, h4⟩ := end_bounds h
  have la := dec_len a
  have lp := dec_len p
  have n1 : ¬ 9223372036854775807 < (Lib.decDigits a).length + 1 := by omega
  have n2 : ¬ 9223372036854775807 < (Lib.decDigits a).length + 1 + (Lib.decDigits p).length := by omega
  clear la lp
  have HT := Lib.hid ht
  clear ht
  go_enter Tryz.func164, Tryz.ntmps164
  go_wp2_with (go_at_call 76; refine (implOk_any _ _ _).mono ?_; rintro e w1 ⟨rfl, b1⟩)
  have s1 : w.heap.size < w1.heap.size := by (have := b1.size; simp at this; omega)
  have k0 := cell_regrown (show w1.cell? ⟨w.heap.size, 0, none⟩ = some (.int .i64 a) by rw [b1.cell (by simp)]; simp)
  have k1 := cell_regrown (show w1.cell? ⟨w.heap.size, 1, none⟩ = some (.int .i64 p) by rw [b1.cell (by simp)]; simp)
  have cN : ∀ (k : Nat) (hk : k ≤ 1000) d os, Calls Tryz.prog 170 #[.int .i64 (k : Int)] (grow (redrawn w1 d) os) fun e w'' => e = .returned (.string ⟨(Lib.decDigits k).toArray⟩) ∧ ∃ p : Regrown, w'' = grow (redrawn w1 p.d) p.os := fun k hk d os => Calls.regrown_of (itoa_any k _ (by omega) (HT.out.below ((below_box b1).trans ((below_regrown w1 d os).mono (by omega))) (Nat.le_refl _)))
  refine wp_region_quiet_below (by kernel_rfl) (by kernel_rfl) ?_
  repeat (quiet_step (exact cN _ (by omega) _ _))
  refine wpQuiet_nil ?_
  intro _ hw'
  obtain ⟨⟨dq, osq⟩, hw''⟩ := hw'
  subst hw''
  go_wp2
  go_ret
  exact ⟨by rw [text_cat]; rfl, (below_box b1).trans ((below_regrown w1 dq osq).mono (by omega))⟩

end Go.Proofs.YtgfkiljkpkfapaaGreatDoor

/- The text cut at its first space, by the library. Condition: the text has at most 2^48 bytes. -/
namespace Go.Proofs.YtgfkiljkpkfapaaGreatDoor
open Go.RowKit Go.Sort

set_option maxRecDepth 100000 in
set_option maxHeartbeats 800000 in
theorem cutS_any (s : ByteArray) (w : World) (hs : s.size ≤ 281474976710656) :
    Calls Tryz.prog 133 #[.string s, .string ⟨#[32]⟩] w fun e w' => e = .returned (.tuple #[.string ⟨(Lib.cut s.data.toList [32]).1.toArray⟩, .string ⟨(Lib.cut s.data.toList [32]).2.1.toArray⟩, .bool (Lib.cut s.data.toList [32]).2.2]) ∧ ∃ n, w' = w.drewN n := by
  have hc : ∀ w, Calls Tryz.prog 148 #[.string s, .string ⟨#[32]⟩] w fun e w' => e = .returned (.int .i64 (Lib.index s.data.toList [32])) ∧ w' = w := by
    intro w; have := Any.stringslite_Index_one Tryz.lays219 s 32 w; rw [← Lib.index_one] at this; exact this
  have HC := Lib.hid hc
  clear hc
  rcases Lib.indexB_cases s ⟨#[32]⟩ with hix | ⟨i, hix, hroom⟩
  · obtain ⟨e1, e2, e3⟩ := Lib.cutB_miss s ⟨#[32]⟩ hix
    have hix' : Lib.index s.data.toList [32] = -1 := hix
    have E1 : Hid ((⟨(Lib.cut s.data.toList [32]).1.toArray⟩ : ByteArray) = s) := e1
    have E2 : Hid ((⟨(Lib.cut s.data.toList [32]).2.1.toArray⟩ : ByteArray) = ByteArray.empty) := e2
    have E3 : Hid ((Lib.cut s.data.toList [32]).2.2 = false) := e3
    have HI := Lib.hid hix'
    clear e1 e2 e3 hix hix'
    go_enter Tryz.func133, Tryz.ntmps133
    go_wp2_with (go_at_call 148; refine (HC.out _).mono ?_; rintro e w' ⟨rfl, rfl⟩; rw [HI.out])
    go_ret3
    exact ⟨by rw [E1.out, E2.out, E3.out]; rfl, 0, rfl⟩
  · obtain ⟨e1, e2, e3⟩ := Lib.cutB_hit s ⟨#[32]⟩ i hix
    have hix' : Lib.index s.data.toList [32] = i := hix
    have hr : i + 1 ≤ s.size := hroom
    have E1 : Hid ((⟨(Lib.cut s.data.toList [32]).1.toArray⟩ : ByteArray) = s.extract 0 i) := e1
    have E2 : Hid ((⟨(Lib.cut s.data.toList [32]).2.1.toArray⟩ : ByteArray) = s.extract (i + 1) s.size) := e2
    have E3 : Hid ((Lib.cut s.data.toList [32]).2.2 = true) := e3
    have HI := Lib.hid hix'
    clear e1 e2 e3 hix hix' hroom
    have c1 : (0 : Int) ≤ ↑i := by omega
    have c2 : (↑i : Int) ≤ ↑s.size := by omega
    have c3 : (0 : Int) ≤ ↑i + 1 := by omega
    have c4 : (↑i + 1 : Int) ≤ ↑s.size := by omega
    have c5 : IntKind.i64.wrap ((i : Int) + 1) = (i : Int) + 1 := IntWalk.i64_in _ (by omega)
    have c6 : ((i : Int) + 1).toNat = i + 1 := by omega
    go_enter Tryz.func133, Tryz.ntmps133
    go_wp2_with (go_at_call 148; refine (HC.out _).mono ?_; rintro e w' ⟨rfl, rfl⟩; rw [HI.out])
    go_region
    go_wp2
    go_ret3
    exact ⟨by rw [E1.out, E2.out, E3.out]; rfl, 1, rfl⟩

theorem cut_any (s : ByteArray) (w : World) (hs : s.size ≤ 281474976710656) :
    Calls Tryz.prog 107 #[.string s, .string ⟨#[32]⟩] w fun e w' => e = .returned (.tuple #[.string ⟨(Lib.cut s.data.toList [32]).1.toArray⟩, .string ⟨(Lib.cut s.data.toList [32]).2.1.toArray⟩, .bool (Lib.cut s.data.toList [32]).2.2]) ∧ ∃ n, w' = w.drewN n := by
  go_enter Tryz.func107, Tryz.ntmps107
  go_wp2_with (go_at_call 133; refine (cutS_any _ _ hs).mono ?_; rintro e w' ⟨rfl, n, rfl⟩)
  go_ret3
  exact ⟨rfl, n, rfl⟩

end Go.Proofs.YtgfkiljkpkfapaaGreatDoor

/- readNumber of the program: the number that is written back the same; else 0 and an error. Conditions: the text has at most 2^48 bytes; the variables that are read hold what they are laid with. -/
namespace Go.Proofs.YtgfkiljkpkfapaaGreatDoor
open Go.RowKit Go.Sort

/-- What the program's package-level variables and the library's hold: the table of powers of ten, four errors. -/
structure VarsOk (w : World) : Prop where
  tab : TabOk w
  syn : ∃ t p, w.var? Tryz.prog "strconv.ErrSyntax" = some #[.iface t p]
  rng : ∃ t p, w.var? Tryz.prog "strconv.ErrRange" = some #[.iface t p]
  noNum : ∃ t p, w.cell? ⟨2, 0, none⟩ = some (.iface t p)
  noEnd : ∃ t p, w.cell? ⟨1, 0, none⟩ = some (.iface t p)
theorem VarsOk.below {w w' : World} (h : VarsOk w) (hb : Below w.heap.size w w') : VarsOk w' := by
  obtain ⟨h1, ⟨t2, p2, h2⟩, ⟨t3, p3, h3⟩, ⟨t4, p4, h4⟩, ⟨t5, p5, h5⟩⟩ := h
  exact ⟨h1.below hb (Nat.le_refl _), ⟨t2, p2, Joins.var_stays (g := 3) (by kernel_rfl) h2 hb (Nat.le_refl _)⟩, ⟨t3, p3, Joins.var_stays (g := 4) (by kernel_rfl) h3 hb (Nat.le_refl _)⟩,
    ⟨t4, p4, (hb.cell (World.block_lt_of_cell? _ _ h4)).trans h4⟩, ⟨t5, p5, (hb.cell (World.block_lt_of_cell? _ _ h5)).trans h5⟩⟩

theorem below_bytes {w w' : World} {e : TypeId} (h : w' = w ∨ ∃ t, w' = Lib.bytesWorld w e t) : Below w.heap.size w w' := by
  rcases h with rfl | ⟨t, rfl⟩
  · exact Below.refl _ _
  · exact Joins.below_bytesWorld _ _ _ _ (Nat.le_refl _)

theorem atoi_ok (s : ByteArray) (v : Int) (w : World) (hs : s.size ≤ 281474976710656) (h : Lib.atoiAll s.data.toList = .ok v) :
    Calls Tryz.prog 169 #[.string s] w fun e w' => e = .returned (.tuple #[.int .i64 v, .nilIface]) ∧ Below w.heap.size w w' := by
  refine (Any.strconv_Atoi_ok Tryz.laysC172 s (by omega) v h w).mono ?_
  rintro e w' ⟨rfl, hw⟩
  exact ⟨rfl, below_bytes hw⟩

theorem atoi_bad (s : ByteArray) (w : World) (hs : s.size ≤ 281474976710656) (h : ∀ v, Lib.atoiAll s.data.toList ≠ .ok v) (hv : VarsOk w) :
    Calls Tryz.prog 169 #[.string s] w fun e w' => ∃ n t a, e = .returned (.tuple #[.int .i64 n, .iface t (.pointer (some a))]) ∧ Below w.heap.size w w' := by
  obtain ⟨t2, p2, h2⟩ := hv.syn
  obtain ⟨t3, p3, h3⟩ := hv.rng
  rcases hl : Lib.atoiAll s.data.toList with v | _ | _
  · exact absurd hl (h v)
  · refine (Any.strconv_Atoi_syntax_var Tryz.laysC172 s hs hl t2 p2 w h2).mono ?_
    rintro e w' ⟨N, rfl, _, _, hb⟩
    exact ⟨_, _, _, rfl, hb⟩
  · refine (Any.strconv_Atoi_range_var Tryz.laysC172 s hs hl t3 p3 w h3).mono ?_
    rintro e w' ⟨N, rfl, _, _, hb⟩
    exact ⟨_, _, _, rfl, hb⟩

theorem itoa_int (n : Int) (w : World) (h0 : -9223372036854775808 ≤ n) (h1 : n ≤ 9223372036854775807) (ht : TabOk w) :
    Calls Tryz.prog 170 #[.int .i64 n] w fun e w' => e = .returned (.string ⟨(Lib.itoa n).toArray⟩) ∧ Below w.heap.size w w' := by
  refine Calls.mono (Any.strconv_Itoa Tryz.laysM171 n h0 h1 w ht) ?_
  rintro e w' ⟨rfl, k, os, rfl⟩
  exact ⟨rfl, below_growN _ _ _⟩

/-- What the program reads of a number: the one that is written back the same. -/
def numI (l : List UInt8) : Option Int := match Lib.atoiAll l with | .ok v => if Lib.itoa v = l then some v else none | _ => none

set_option maxRecDepth 100000 in
set_option maxHeartbeats 800000 in
theorem readNumber_ok (s : ByteArray) (v : Int) (w : World) (hs : s.size ≤ 281474976710656) (h : numI s.data.toList = some v) (hv : VarsOk w) :
    Calls Tryz.prog 151 #[.string s] w fun e w' => e = .returned (.tuple #[.int .i64 v, .nilIface]) ∧ Below w.heap.size w w' := by
  obtain ⟨ha, hi⟩ : Lib.atoiAll s.data.toList = .ok v ∧ Lib.itoa v = s.data.toList := by
    unfold numI at h
    cases hl : Lib.atoiAll s.data.toList with
    | ok u => rw [hl] at h; simp at h; exact ⟨by rw [h.2], by rw [← h.2]; exact h.1⟩
    | _ => rw [hl] at h; cases h
  obtain ⟨hb0, hb1⟩ := Lib.atoiAll_bounds ha
  have HA := Lib.hid ha
  have HV := Lib.hid hv
  have HI : Hid (Lib.itoa v = s.toList) := by rw [Lib.toList_data]; exact hi
  have HB : Hid (-9223372036854775808 ≤ v ∧ v ≤ 9223372036854775807) := ⟨hb0, hb1⟩
  have hq : (!Lib.itoa v == s.toList) = false := by rw [HI.out]; simp
  clear ha hv hi h hb0 hb1
  go_enter Tryz.func151, Tryz.ntmps151
  go_wp2_with (first
    | (go_at_call 169; refine (atoi_ok _ v _ hs HA.out).mono ?_; rintro e w1 ⟨rfl, b1⟩)
    | (go_at_call 170; refine (itoa_int v _ HB.out.1 HB.out.2 (HV.out.below b1).tab).mono ?_; rintro e w2 ⟨rfl, b2⟩))
  go_ret2
  exact ⟨rfl, b1.trans (b2.mono b1.size)⟩

/-- What readNumber answers of what is no number: 0 and the error that the program's variable holds. -/
theorem readNumber_bad (s : ByteArray) (w : World) (hs : s.size ≤ 281474976710656) (h : numI s.data.toList = none) (hv : VarsOk w) :
    Calls Tryz.prog 151 #[.string s] w fun e w' => ∃ t p, e = .returned (.tuple #[.int .i64 0, .iface t p]) ∧ Below w.heap.size w w' := by
  obtain ⟨t, p, hn⟩ := hv.noNum
  have hlt := World.block_lt_of_cell? w _ hn
  by_cases ha : ∃ v, Lib.atoiAll s.data.toList = .ok v
  · obtain ⟨v, ha⟩ := ha
    have hi : Lib.itoa v ≠ s.data.toList := by
      intro hi; unfold numI at h; rw [ha] at h; simp [hi] at h
    obtain ⟨hb0, hb1⟩ := Lib.atoiAll_bounds ha
    have HA := Lib.hid ha
    have HV := Lib.hid hv
    have HB : Hid (-9223372036854775808 ≤ v ∧ v ≤ 9223372036854775807) := ⟨hb0, hb1⟩
    have hq : (!Lib.itoa v == s.toList) = true := by rw [Lib.toList_data]; simpa using hi
    clear ha hv hi h hb0 hb1
    go_enter Tryz.func151, Tryz.ntmps151
    go_wp2_with (first
      | (go_at_call 169; refine (atoi_ok _ v _ hs HA.out).mono ?_; rintro e w1 ⟨rfl, b1⟩; obtain ⟨c1, f1⟩ := bcell b1)
      | (go_at_call 170; refine (itoa_int v _ HB.out.1 HB.out.2 (HV.out.below b1).tab).mono ?_; rintro e w2 ⟨rfl, b2⟩; obtain ⟨c2, f2⟩ := bcell b2; have z1 := b1.size))
    have hn2 : w2.cell? ⟨2, 0, none⟩ = some (.iface t p) := by rw [c2 _ _ (by omega), c1 _ _ hlt]; exact hn
    clear c1 c2 f1 f2
    go_region
    go_wp2
    go_ret2
    exact ⟨t, p, rfl, (b1.trans (b2.mono b1.size)).drew⟩
  · have HA : Hid (∀ v, Lib.atoiAll s.data.toList ≠ .ok v) := fun v hv => ha ⟨v, hv⟩
    have HV := Lib.hid hv
    clear ha hv h
    go_enter Tryz.func151, Tryz.ntmps151
    go_wp2_with (first
      | (go_at_call 169; refine (atoi_bad _ _ hs HA.out HV.out).mono ?_; rintro e w1 ⟨n1, t1, a1, rfl, b1⟩; obtain ⟨c1, f1⟩ := bcell b1))
    have hn1 : w1.cell? ⟨2, 0, none⟩ = some (.iface t p) := by rw [c1 _ _ hlt]; exact hn
    clear c1 f1
    go_region
    go_wp2
    go_ret2
    exact ⟨t, p, rfl, b1.drew⟩

end Go.Proofs.YtgfkiljkpkfapaaGreatDoor

/- readEnd of the program: address and port of a text that has both, cut at its first space; else nothing and an error. Conditions: the text has at most 2^48 bytes; the variables that are read hold what they are laid with. -/
namespace Go.Proofs.YtgfkiljkpkfapaaGreatDoor
open Go.RowKit Go.Sort

theorem cut_parts (s : ByteArray) (hs : s.size ≤ 281474976710656) : ∃ (X Y : ByteArray) (f : Bool), X.data.toList = (Lib.cut s.data.toList [32]).1 ∧ Y.data.toList = (Lib.cut s.data.toList [32]).2.1 ∧ X.size ≤ 281474976710656 ∧ Y.size ≤ 281474976710656 ∧
    ∀ w, Calls Tryz.prog 107 #[.string s, .string ⟨#[32]⟩] w fun e w' => e = .returned (.tuple #[.string X, .string Y, .bool f]) ∧ Below w.heap.size w w' := by
  have h1 : (Lib.cut s.data.toList [32]).1.length ≤ s.size := by
    unfold Lib.cut; split
    · simp; omega
    · simp
  have h2 : (Lib.cut s.data.toList [32]).2.1.length ≤ s.size := by
    unfold Lib.cut; split
    · simp
    · simp
  refine ⟨⟨(Lib.cut s.data.toList [32]).1.toArray⟩, ⟨(Lib.cut s.data.toList [32]).2.1.toArray⟩, (Lib.cut s.data.toList [32]).2.2, by simp, by simp, by simp [ByteArray.size]; omega, by simp [ByteArray.size]; omega, fun w => (cut_any s w hs).mono ?_⟩
  rintro e w' ⟨rfl, n, rfl⟩
  exact ⟨rfl, Joins.below_draws _ _ _⟩

set_option maxRecDepth 100000 in
set_option maxHeartbeats 800000 in
theorem readEnd_bad1 (s : ByteArray) (w : World) (hs : s.size ≤ 281474976710656) (h : numI (Lib.cut s.data.toList [32]).1 = none) (hv : VarsOk w) :
    Calls Tryz.prog 137 #[.string s] w fun e w' => ∃ t p, e = .returned (.tuple #[.agg #[.int .i64 0, .int .i64 0], .iface t p]) ∧ Below w.heap.size w w' := by
  obtain ⟨X, Y, f, hX, hY, sX, sY, hc⟩ := cut_parts s hs
  rw [← hX] at h
  have HC := Lib.hid hc
  have H := Lib.hid h
  have HV := Lib.hid hv
  clear hc h hv hX hY
  go_enter Tryz.func137, Tryz.ntmps137
  go_wp2_with (first
    | (go_at_call 107; refine (HC.out _).mono ?_; rintro e w1 ⟨rfl, b1⟩; obtain ⟨c1, f1⟩ := bcell b1; have z1 : w.heap.size < w1.heap.size := by (have hq := b1.size; simp at hq; omega))
    | (go_at_call 151; refine (readNumber_bad _ _ sX H.out (HV.out.below (below_box b1))).mono ?_; rintro e w2 ⟨t2, p2, rfl, b2⟩; obtain ⟨c2, f2⟩ := bcell b2))
  obtain ⟨q0, q1, q2⟩ := set_two (w := w2) (b := w.heap.size) (x := .int .i64 0) (y := .int .i64 0) (.int .i64 0) (.int .i64 0) (by rw [c2 _ _ z1, c1 _ _ (by simp)]; simp) (by rw [c2 _ _ z1, c1 _ _ (by simp)]; simp)
  refine bodyPost_ret (v := .tuple #[.agg #[.int .i64 0, .int .i64 0], .iface t2 p2]) (by simp [results, Tryz.results137, go_sem, q1, q2]) rfl ⟨_, _, rfl, ?_⟩
  exact ((((below_box b1).trans (b2.mono (by omega))).setCell (Nat.le_refl _) _).setCell (Nat.le_refl _) _)

set_option maxRecDepth 100000 in
set_option maxHeartbeats 800000 in
theorem readEnd_bad2 (s : ByteArray) (a : Int) (w : World) (hs : s.size ≤ 281474976710656) (h : numI (Lib.cut s.data.toList [32]).1 = some a) (h2 : numI (Lib.cut s.data.toList [32]).2.1 = none) (hv : VarsOk w) :
    Calls Tryz.prog 137 #[.string s] w fun e w' => ∃ t p, e = .returned (.tuple #[.agg #[.int .i64 0, .int .i64 0], .iface t p]) ∧ Below w.heap.size w w' := by
  obtain ⟨X, Y, f, hX, hY, sX, sY, hc⟩ := cut_parts s hs
  rw [← hX] at h
  rw [← hY] at h2
  have HC := Lib.hid hc
  have H := Lib.hid h
  have H2 := Lib.hid h2
  have HV := Lib.hid hv
  clear hc h h2 hv hX hY
  go_enter Tryz.func137, Tryz.ntmps137
  go_wp2_with fail
  (go_at_call 107; refine (HC.out _).mono ?_; rintro e w1 ⟨rfl, b1⟩; obtain ⟨c1, f1⟩ := bcell b1; have z1 : w.heap.size < w1.heap.size := by (have hq := b1.size; simp at hq; omega))
  have V1 : Hid (VarsOk w1) := HV.out.below (below_box b1)
  go_wp2_with fail
  (go_at_call 151; refine (readNumber_ok _ _ _ sX H.out V1.out).mono ?_; rintro e w2 ⟨rfl, b2⟩; obtain ⟨c2, f2⟩ := bcell b2; have z2 : w.heap.size < w2.heap.size := by (have hq := b2.size; omega))
  have V2 : Hid (VarsOk w2) := V1.out.below b2
  go_wp2_with fail
  (go_at_call 151; refine (readNumber_bad _ _ sY H2.out V2.out).mono ?_; rintro e w3 ⟨t3, p3, rfl, b3⟩; obtain ⟨c3, f3⟩ := bcell b3)
  go_wp2
  obtain ⟨q0, q1, q2⟩ := set_two (w := w3) (b := w.heap.size) (x := .int .i64 0) (y := .int .i64 0) (.int .i64 0) (.int .i64 0) (by rw [c3 _ _ z2, c2 _ _ z1, c1 _ _ (by simp)]; simp) (by rw [c3 _ _ z2, c2 _ _ z1, c1 _ _ (by simp)]; simp)
  refine bodyPost_ret (v := .tuple #[.agg #[.int .i64 0, .int .i64 0], .iface t3 p3]) (by simp [results, Tryz.results137, go_sem, q1, q2]) rfl ⟨_, _, rfl, ?_⟩
  exact ((((below_box b1).trans ((b2.mono (by omega)).trans (b3.mono (by omega)))).setCell (Nat.le_refl _) _).setCell (Nat.le_refl _) _)

/-- The variable errNoEnd, in a later world. -/
theorem noEnd_at {w w' : World} {t : TypeId} {p : Value} (h : w.cell? ⟨1, 0, none⟩ = some (.iface t p)) (hb : Below w.heap.size w w') : w'.cell? ⟨1, 0, none⟩ = some (.iface t p) :=
  (hb.cell (World.block_lt_of_cell? _ _ h)).trans h

set_option maxRecDepth 100000 in
set_option maxHeartbeats 1600000 in
theorem readEnd_last (s : ByteArray) (a p : Int) (w : World) (hs : s.size ≤ 281474976710656) (h : numI (Lib.cut s.data.toList [32]).1 = some a) (h2 : numI (Lib.cut s.data.toList [32]).2.1 = some p) (hv : VarsOk w) :
    Calls Tryz.prog 137 #[.string s] w fun e w' => (endB a p = true → e = .returned (.tuple #[.agg #[.int .i64 a, .int .i64 p], .nilIface])) ∧ (endB a p = false → ∃ t q, e = .returned (.tuple #[.agg #[.int .i64 0, .int .i64 0], .iface t q])) ∧ Below w.heap.size w w' := by
  obtain ⟨X, Y, f, hX, hY, sX, sY, hc⟩ := cut_parts s hs
  rw [← hX] at h
  rw [← hY] at h2
  obtain ⟨te, pe, hne⟩ := hv.noEnd
  have HC := Lib.hid hc
  have H := Lib.hid h
  have H2 := Lib.hid h2
  have HV := Lib.hid hv
  have HE := Lib.hid hne
  clear hc h h2 hv hX hY hne
  go_enter Tryz.func137, Tryz.ntmps137
  go_wp2_with fail
  (go_at_call 107; refine (HC.out _).mono ?_; rintro e w1 ⟨rfl, b1⟩; obtain ⟨c1, f1⟩ := bcell b1; have z1 : w.heap.size < w1.heap.size := by (have hq := b1.size; simp at hq; omega))
  have V1 : Hid (VarsOk w1) := HV.out.below (below_box b1)
  go_wp2_with fail
  (go_at_call 151; refine (readNumber_ok _ _ _ sX H.out V1.out).mono ?_; rintro e w2 ⟨rfl, b2⟩; obtain ⟨c2, f2⟩ := bcell b2; have z2 : w.heap.size < w2.heap.size := by (have hq := b2.size; omega))
  have V2 : Hid (VarsOk w2) := V1.out.below b2
  go_wp2_with fail
  (go_at_call 151; refine (readNumber_ok _ _ _ sY H2.out V2.out).mono ?_; rintro e w3 ⟨rfl, b3⟩; obtain ⟨c3, f3⟩ := bcell b3; have z3 : w.heap.size < w3.heap.size := by (have hq := b3.size; omega))
  have b13 : Below w.heap.size w w3 := (below_box b1).trans ((b2.mono (by omega)).trans (b3.mono (by omega)))
  go_wp2_with fail
  (go_at_call 76; refine (implOk_any _ _ _).mono ?_; rintro e w4 ⟨rfl, b4⟩; obtain ⟨c4, f4⟩ := bcell b4)
  have b14 : Below w.heap.size w w4 := b13.trans (((Below.refl _ w3).alloc (Nat.le_refl _) _ |>.trans (b4.mono (by simp))).mono (by omega))
  have k0 : w4.cell? ⟨w.heap.size, 0, none⟩ = some (.int .i64 0) := by rw [c4 _ _ (by simp; omega), cell_alloc_lt z3, c3 _ _ z2, c2 _ _ z1, c1 _ _ (by simp)]; simp
  have k1 : w4.cell? ⟨w.heap.size, 1, none⟩ = some (.int .i64 0) := by rw [c4 _ _ (by simp; omega), cell_alloc_lt z3, c3 _ _ z2, c2 _ _ z1, c1 _ _ (by simp)]; simp
  by_cases hb : endB a p = true
  · obtain ⟨q0, q1, q2⟩ := set_two (.int .i64 a) (.int .i64 p) k0 k1
    go_wp2
    refine bodyPost_ret (v := .tuple #[.agg #[.int .i64 a, .int .i64 p], .nilIface]) (by simp [results, Tryz.results137, go_sem, q1, q2]) rfl ⟨fun _ => rfl, fun h => absurd hb (by simp [h]), ?_⟩
    exact (b14.setCell (Nat.le_refl _) _).setCell (Nat.le_refl _) _
  · have hE := noEnd_at HE.out b14
    obtain ⟨q0, q1, q2⟩ := set_two (.int .i64 0) (.int .i64 0) k0 k1
    have r0 : w4.frozen? ⟨w.heap.size, 0, none⟩ = false := by rw [f4 _ _ (by simp; omega), frozen_alloc_lt z3, f3 _ _ z2, f2 _ _ z1, f1 _ _ (by simp)]; simp
    have r1 : w4.frozen? ⟨w.heap.size, 1, none⟩ = false := by rw [f4 _ _ (by simp; omega), frozen_alloc_lt z3, f3 _ _ z2, f2 _ _ z1, f1 _ _ (by simp)]; simp
    have hlt : 1 < w.heap.size := World.block_lt_of_cell? w _ HE.out
    have hE2 : (w4.setCell ⟨w.heap.size, 0, none⟩ (.int .i64 0)).cell? ⟨1, 0, none⟩ = some (.iface te pe) := by
      rw [World.cell?_setCell_far _ _ _ _ (Nat.ne_of_gt hlt)]; exact hE
    clear c1 c2 c3 c4 f1 f2 f3 f4
    go_wp2
    go_region
    go_wp2
    refine bodyPost_ret (v := .tuple #[.agg #[.int .i64 0, .int .i64 0], .iface te pe]) (by simp [results, Tryz.results137, go_sem, q1, q2]) rfl ⟨fun h => absurd h hb, fun _ => ⟨_, _, rfl⟩, ?_⟩
    exact ((b14.setCell (Nat.le_refl _) _).setCell (Nat.le_refl _) _).drew

end Go.Proofs.YtgfkiljkpkfapaaGreatDoor

/- EndRead of the program and of the specification answer the same of every text. Conditions: the text has at most 2^20 bytes; the variables that are read hold what they are laid with. -/
namespace Go.Proofs.YtgfkiljkpkfapaaGreatDoor
open Go.RowKit Go.Sort

set_option maxRecDepth 100000 in
set_option maxHeartbeats 800000 in
theorem implRead_good (s : ByteArray) (a p : Int) (w : World) (hv : VarsOk w)
    (h : ∀ w, VarsOk w → Calls Tryz.prog 137 #[.string s] w fun e w' => e = .returned (.tuple #[.agg #[.int .i64 a, .int .i64 p], .nilIface]) ∧ Below w.heap.size w w') :
    Calls Tryz.prog 110 #[.string s] w fun e w' => e = .returned (.tuple #[.agg #[.int .i64 a, .int .i64 p], .bool true]) ∧ Below w.heap.size w w' := by
  have H := Lib.hid h
  have HV := Lib.hid hv
  clear h hv
  go_enter Tryz.func110, Tryz.ntmps110
  go_wp2_with (go_at_call 137; refine (H.out _ (HV.out.below ((Below.refl _ _).alloc (Nat.le_refl _) _))).mono ?_; rintro e w1 ⟨rfl, b1⟩; obtain ⟨c1, f1⟩ := bcell b1)
  have z1 : w.heap.size < w1.heap.size := by have hq := b1.size; simp at hq; omega
  have k0 : w1.cell? ⟨w.heap.size, 0, none⟩ = some (.int .i64 0) := by rw [c1 _ _ (by simp)]; simp
  have k1 : w1.cell? ⟨w.heap.size, 1, none⟩ = some (.int .i64 0) := by rw [c1 _ _ (by simp)]; simp
  have r0 : w1.frozen? ⟨w.heap.size, 0, none⟩ = false := by rw [f1 _ _ (by simp)]; simp
  have r1 : w1.frozen? ⟨w.heap.size, 1, none⟩ = false := by rw [f1 _ _ (by simp)]; simp
  clear c1 f1
  go_region
  go_wp2
  obtain ⟨q0, q1, q2⟩ := set_two (w := w1) (.int .i64 a) (.int .i64 p) k0 k1
  refine bodyPost_ret (v := .tuple #[.agg #[.int .i64 a, .int .i64 p], .bool true]) (by simp [results, Tryz.results110, go_sem, cell_alloc_lt, z1, q1, q2]) rfl ⟨rfl, ?_⟩
  exact ((((((below_box b1).setCell (Nat.le_refl _) _).setCell (Nat.le_refl _) _).alloc (by simp; omega) _)).drew)

set_option maxRecDepth 100000 in
set_option maxHeartbeats 800000 in
theorem implRead_bad (s : ByteArray) (w : World) (hv : VarsOk w)
    (h : ∀ w, VarsOk w → Calls Tryz.prog 137 #[.string s] w fun e w' => ∃ t q, e = .returned (.tuple #[.agg #[.int .i64 0, .int .i64 0], .iface t q]) ∧ Below w.heap.size w w') :
    Calls Tryz.prog 110 #[.string s] w fun e w' => e = .returned (.tuple #[.agg #[.int .i64 0, .int .i64 0], .bool false]) ∧ Below w.heap.size w w' := by
  have H := Lib.hid h
  have HV := Lib.hid hv
  clear h hv
  go_enter Tryz.func110, Tryz.ntmps110
  go_wp2_with (go_at_call 137; refine (H.out _ (HV.out.below ((Below.refl _ _).alloc (Nat.le_refl _) _))).mono ?_; rintro e w1 ⟨t1, p1, rfl, b1⟩; obtain ⟨c1, f1⟩ := bcell b1)
  have z1 : w.heap.size < w1.heap.size := by have hq := b1.size; simp at hq; omega
  have k0 : w1.cell? ⟨w.heap.size, 0, none⟩ = some (.int .i64 0) := by rw [c1 _ _ (by simp)]; simp
  have k1 : w1.cell? ⟨w.heap.size, 1, none⟩ = some (.int .i64 0) := by rw [c1 _ _ (by simp)]; simp
  have r0 : w1.frozen? ⟨w.heap.size, 0, none⟩ = false := by rw [f1 _ _ (by simp)]; simp
  have r1 : w1.frozen? ⟨w.heap.size, 1, none⟩ = false := by rw [f1 _ _ (by simp)]; simp
  clear c1 f1
  go_region
  go_wp2
  obtain ⟨q0, q1, q2⟩ := set_two (w := w1) (.int .i64 0) (.int .i64 0) k0 k1
  refine bodyPost_ret (v := .tuple #[.agg #[.int .i64 0, .int .i64 0], .bool false]) (by simp [results, Tryz.results110, go_sem, cell_alloc_lt, z1, q1, q2]) rfl ⟨rfl, ?_⟩
  exact ((((((below_box b1).setCell (Nat.le_refl _) _).setCell (Nat.le_refl _) _).alloc (by simp; omega) _)).drew)

/-- What the program reads. -/
def rdO (l : List UInt8) : Value := match numI (Lib.cut l [32]).1, numI (Lib.cut l [32]).2.1 with | some a, some p => rdV a p | _, _ => noneV
theorem numI_dec {k : Nat} (hk : k ≤ 1000000000000000000) : numI (Lib.decDigits k) = some (k : Int) := by
  unfold numI; rw [atoi_dec k hk]; simp [itoa_nat]
theorem numI_inv {l : List UInt8} {v : Int} (h : numI l = some v) : Lib.itoa v = l := by
  unfold numI at h
  split at h
  · split at h
    · simp at h; subst h; assumption
    · cases h
  · cases h
theorem itoa_pos {v : Int} (h : 0 ≤ v) : Lib.itoa v = Lib.decDigits v.toNat := by
  unfold Lib.itoa; rw [if_neg (by omega)]

theorem rdO_yes {a p : Nat} (h : endB a p = true) : rdO (endL a p) = rdV a p := by
  obtain ⟨h1, h2, h3, h4⟩ := end_bounds h
  have hi : 0 ≤ Lib.index (endL a p) [32] := by
    rcases Int.lt_or_le (Lib.index (endL a p) [32]) 0 with hn | hn
    · exact absurd rfl (index_none hn 32 (by simp [endL]))
    · exact hn
  obtain ⟨e1, e2⟩ := cut_yes hi
  obtain ⟨u1, u2⟩ := split_uniq (dec_no_space a) e2 (show Lib.decDigits a ++ 32 :: Lib.decDigits p = _ from e1)
  unfold rdO
  rw [← u1, ← u2, numI_dec (by omega), numI_dec (by omega)]
theorem rdO_no {l : List UInt8} (h : ∀ a p : Nat, endB a p = true → l ≠ endL a p) : rdO l = noneV := by
  unfold rdO
  split
  · rename_i a p ha hp
    by_cases hb : endB a p = true
    · obtain ⟨h1, h2, h3, h4⟩ := end_bounds hb
      have ea := numI_inv ha
      have ep := numI_inv hp
      rw [itoa_pos (by omega)] at ea ep
      refine absurd ?_ (h a.toNat p.toNat (by rw [Int.toNat_of_nonneg (by omega), Int.toNat_of_nonneg (by omega)]; exact hb))
      by_cases hi : 0 ≤ Lib.index l [32]
      · rw [endL, ea, ep]; exact (cut_yes hi).1
      · rw [cut_no hi] at ep
        have := dec_pos p.toNat
        rw [ep] at this; simp at this
    · exact rdV_none (by simpa using hb)
  · rfl
theorem rd_same (l : List UInt8) : rdO l = rdS l := by
  by_cases h : ∃ a p : Nat, endB a p = true ∧ l = endL a p
  · obtain ⟨a, p, h1, rfl⟩ := h; rw [rdO_yes h1, rdS_yes h1]
  · have h' : ∀ a p : Nat, endB a p = true → l ≠ endL a p := fun a p h1 h2 => h ⟨a, p, h1, h2⟩
    rw [rdO_no h', rdS_no h']

theorem implRead_any (s : ByteArray) (w : World) (hs : s.size ≤ 281474976710656) (hv : VarsOk w) :
    Calls Tryz.prog 110 #[.string s] w fun e w' => e = .returned (rdO s.data.toList) ∧ Below w.heap.size w w' := by
  rcases ha : numI (Lib.cut s.data.toList [32]).1 with _ | a
  · have e : rdO s.data.toList = noneV := by unfold rdO; rw [ha]
    rw [e]
    exact implRead_bad s w hv fun w hv => (readEnd_bad1 s w hs ha hv).mono fun _ _ ⟨t, p, he, hb⟩ => ⟨t, p, he, hb⟩
  · rcases hp : numI (Lib.cut s.data.toList [32]).2.1 with _ | p
    · have e : rdO s.data.toList = noneV := by unfold rdO; rw [ha, hp]
      rw [e]
      exact implRead_bad s w hv fun w hv => (readEnd_bad2 s a w hs ha hp hv).mono fun _ _ ⟨t, p, he, hb⟩ => ⟨t, p, he, hb⟩
    · have e : rdO s.data.toList = rdV a p := by unfold rdO; rw [ha, hp]
      rw [e]
      by_cases hb : endB a p = true
      · rw [show rdV a p = _ from if_pos hb]
        exact implRead_good s a p w hv fun w hv => (readEnd_last s a p w hs ha hp hv).mono fun _ _ ⟨h1, _, h3⟩ => ⟨h1 hb, h3⟩
      · rw [show rdV a p = _ from if_neg hb]
        exact implRead_bad s w hv fun w hv => (readEnd_last s a p w hs ha hp hv).mono fun _ _ ⟨_, h2, h3⟩ => by
          obtain ⟨t, q, he⟩ := h2 (by simpa using hb)
          exact ⟨t, q, he, h3⟩

end Go.Proofs.YtgfkiljkpkfapaaGreatDoor
