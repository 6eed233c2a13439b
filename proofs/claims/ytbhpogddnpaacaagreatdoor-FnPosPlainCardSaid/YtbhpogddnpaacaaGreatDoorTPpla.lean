/- LinSays and LinBox of the specification. Condition: the text has at most 2^21 bytes. (Several texts, joined: ITable, PutE, IGive, Number, Words, SRead, Rds, SSays.) -/
import Derived.Test.YtbhpogddnpaacaaGreatDoorIPorts
import Derived.Test.YtbhpogddnpaacaaGreatDoorOwnEnds
import Derived.OwnWalk
import Derived.Test.YtbhpogddnpaacaaGreatDoorVals
import Derived.Test.YtbhpogddnpaacaaGreatDoorPlain
import Derived.Test.YtbhpogddnpaacaaGreatDoorEnd
import Derived.Deep.RegionHeld3
import Derived.Deep.DeepCutAuto
import Derived.Lib.SmallJoins
import Derived.Test.YtbhpogddnpaacaaGreatDoorSText
import Derived.Test.YtbhpogddnpaacaaGreatDoorSPort

/- A table out of its two maps; the port that an end has, or gets. Conditions: at most 2^22 ends, none twice. -/
namespace Go.Proofs.YtbhpogddnpaacaaGreatDoor
open Go.RowKit Go.Sort

set_option maxRecDepth 100000 in
set_option maxHeartbeats 1600000 in
theorem tableOf_any (g1 g2 : Nat) (es : List (Int × Int)) (w : World) (hb : Both w g1 g2 es) (hv : (valsL es).length = es.length) (hn : es.length ≤ 4194304) :
    Calls Tryz.prog 33 #[.agg #[.map (some g1), .map (some g2)]] w fun e w' => ∃ a c, e = .returned (.agg #[.slice a es.length c]) ∧ OwnTab w' w.heap.size (.slice a es.length c) es ∧ Below w.heap.size w w' := by
  obtain ⟨i0, hi, hz0, hz1, hz2⟩ := info_parts infoEnd
  have HB : Hid (∀ w', Below w.heap.size w w' → Both w' g1 g2 es) := fun w' h => hb.later h
  have HS : Hid (∀ w, Both w g1 g2 es → Calls Tryz.prog 55 #[.agg #[.map (some g1), .map (some g2)]] w fun e w' => e = .returned (.int .i64 (es.length : Int)) ∧ Below w.heap.size w w') := fun w h => by rw [← hv]; exact size_any g1 g2 es w h
  clear hb hv
  go_enter Tryz.func33, Tryz.ntmps33
  go_wp2_with fail
  (go_at_call 55; refine (HS.out _ (HB.out _ ((((Below.refl _ _).alloc (Nat.le_refl _) _).alloc (by simp) _).alloc (by simp; omega) _))).mono ?_; rintro e w1 ⟨rfl, b1⟩; obtain ⟨cA, cB, cC, b01, z1⟩ := cell_three b1; have t0 := (cA 0).1; have t1 := (cA 1).1; have r0 := (cB 0).1; have f0 := (cB 0).2; have o0 := (cC 0).1; have h0 := (cC 0).2; simp at t0 t1 r0 o0; have B1 := Lib.hid b01; clear b01 cA cB cC b1)
  go_wp2_with fail
  go_loopw [9] (fun i wr => ∃ (k : Nat) (a : Option Addr) (c : Nat), k ≤ es.length ∧ i = .int .i64 k ∧ wr.cell? ⟨w.heap.size + 1 + 1, 0, none⟩ = some (.slice a k c) ∧ wr.frozen? ⟨w.heap.size + 1 + 1, 0, none⟩ = false ∧ OwnTab wr (w.heap.size + 3) (.slice a k c) (es.take k) ∧ Below (w.heap.size + 2) w1 wr) (fun i _ => es.length - (intOf i).toNat)
  case atStart => exact ⟨0, none, 0, Nat.zero_le _, rfl, o0, h0, ⟨by simp [flatE], .inl ⟨rfl, rfl⟩⟩, Below.refl _ _⟩
  case round =>
    obtain ⟨k, a0, c0, hk, rfl, o1, h1, ho, hb⟩ := hrel
    have HO := Lib.hid ho
    have HBL := Lib.hid hb
    have zr := hb.size
    have BW : Hid (Below w.heap.size w wr) := B1.out.trans (hb.mono (by omega))
    have s0 : wr.cell? ⟨w.heap.size, 0, none⟩ = some (.map (some g1)) := (hb.cell (p := ⟨w.heap.size, 0, none⟩) (by simp)).trans t0
    have s1 : wr.cell? ⟨w.heap.size, 1, none⟩ = some (.map (some g2)) := (hb.cell (p := ⟨w.heap.size, 1, none⟩) (by simp)).trans t1
    clear ho
    by_cases hlt : k < es.length
    · have hE : endI es (500 + (k : Int)) = some es[k] := by
        obtain ⟨j, hj, e1, e2⟩ := endI_hit (es := es) (port := 500 + (k : Int)) (by omega)
        obtain rfl : k = j := by omega
        exact e2
      have HT : Hid (es.take (k + 1) = es.take k ++ [es[k]]) := take_snocE es k hlt
      obtain ⟨⟨a, p⟩, hap⟩ : ∃ x, x = es[k] := ⟨_, rfl⟩
      rw [← hap] at HT hE
      have HK : Hid (∀ w, Both w g1 g2 es → Calls Tryz.prog 62 #[.agg #[.map (some g1), .map (some g2)], .int .i64 (500 + (k : Int))] w fun e w' => e = .returned (.tuple #[.agg #[.int .i64 a, .int .i64 p], .bool true]) ∧ Below w.heap.size w w') := fun w h => by
        have := key_any g1 g2 es (500 + (k : Int)) w h (pV_wf (by omega))
        rw [hE] at this
        exact this
      have hk3 : (k : Int) ≤ 4194304 := by omega
      clear hap hE hb
      go_wp2_with fail
      (go_at_call 62; refine (HK.out _ (HB.out _ BW.out)).mono ?_; rintro e w2 ⟨rfl, b2⟩; have B2 := Lib.hid b2; have z2 := b2.size; have o2 : ∀ x y, ((w2.alloc x).alloc y).cell? ⟨w.heap.size + 1 + 1, 0, none⟩ = some (.slice a0 k c0) := (fun x y => by rw [cell_alloc_lt (by simp; omega), cell_alloc_lt (by omega), b2.cell (by simp; omega)]; exact o1); have o3 : ∀ x, (w2.alloc x).cell? ⟨w.heap.size + 1 + 1, 0, none⟩ = some (.slice a0 k c0) := (fun x => by rw [cell_alloc_lt (by omega), b2.cell (by simp; omega)]; exact o1); clear b2)
      have HO2 : Hid (∀ x y, OwnTab ((w2.alloc x).alloc y) (w.heap.size + 3) (.slice a0 k c0) (es.take k)) := fun x y => HO.out.below (((B2.out.alloc z2 x).alloc (by simp; omega) y))
      have hlen : (es.take k).length = k := by simp; omega
      go_wp2_with (at_builtin; refine wpList_append_own _ rfl (.tmp 20) (.tmp 22) 23 rfl (w.heap.size + 3) 36 i0 (.agg #[.int .i64 0, .int .i64 0]) 2 16 Tryz.underlying23 hi hz0 hz1 hz2 rfl (by decide) _ _ _ rfl (HO2.out _ _) ⟨w2.heap.size + 1, 0, none⟩ 1 1 [.int .i64 a, .int .i64 p] rfl rfl ?c1 ?c2 ?c3 ?c4 ?c5 ?_)
      case c1 =>
        intro j u hj
        match j, hj with
        | 0, hj => simp at hj; subst hj; simp [Addr.add]
        | 1, hj => simp at hj; subst hj; simp [Addr.add]
      case c2 => intro u hu; simp at hu; rcases hu with rfl | rfl <;> rfl
      case c3 => unfold maxLen; omega
      case c4 => omega
      case c5 => simp; omega
      · intro v' w3 hown' hgrow _
        have hot : OwnTab w3 (w.heap.size + 3) v' (es.take (k + 1)) := by
          show w3.ownsRow _ _ _ _ _ _
          rw [HT.out, flatE_app, List.length_append, hlen]
          simpa [flatE] using hown'
        obtain ⟨a1, c1, hv1⟩ := hot.form
        have hlen1 : (es.take (k + 1)).length = k + 1 := by simp; omega
        rw [hlen1] at hv1
        subst hv1
        have HO3 := Lib.hid hot
        have B3 : Hid (Below (w.heap.size + 3) wr w3) := (((B2.out.mono (by omega)).alloc (by omega) _).alloc (by simp; omega) _).grown hgrow (by simp; omega) (fun j hj => (HO.out.lt j hj).1)
        have o4 : w3.cell? ⟨w.heap.size + 1 + 1, 0, none⟩ = some (.slice a0 k c0) := by rw [B3.out.cell (by simp)]; exact o1
        have h4 : w3.frozen? ⟨w.heap.size + 1 + 1, 0, none⟩ = false := by rw [B3.out.frozen (by simp)]; exact h1
        clear hown' hgrow hot o2 o3
        go_wp2_with fail
        go_roundw
        case rel =>
          refine ⟨k + 1, a1, c1, by omega, by go_num, World.cell?_setCell_same _ _ _ o4, by rw [World.frozen?_setCell]; exact h4, ?_, ?_⟩
          · exact ownsRow_setCell_below (a := ⟨w.heap.size + 1 + 1, 0, none⟩) HO3.out (by simp) _
          · exact (HBL.out.trans (B3.out.mono (by omega))).setCell (by simp) _
        case measure => simp [intOf]; omega
    · have hke : k = es.length := by omega
      subst hke
      have r1 : wr.cell? ⟨w.heap.size + 1, 0, none⟩ = some (.slice none 0 0) := (hb.cell (p := ⟨w.heap.size + 1, 0, none⟩) (by simp)).trans r0
      have f1 : wr.frozen? ⟨w.heap.size + 1, 0, none⟩ = false := (hb.frozen (p := ⟨w.heap.size + 1, 0, none⟩) (by simp)).trans f0
      have HO1 : Hid (OwnTab wr (w.heap.size + 3) (.slice a0 es.length c0) es) := by have := HO.out; rwa [List.take_length] at this
      clear hb
      go_wp2_with fail
      refine bodyPost_ret (v := .agg #[.slice a0 es.length c0]) (by simp [results, Tryz.results33, go_sem, World.cell?_setCell_same _ _ _ r1]) rfl ⟨_, _, rfl, ?_, BW.out.setCell (by simp) _⟩
      exact OwnTab.mono (B := w.heap.size + 3) (ownsRow_setCell_below (a := ⟨w.heap.size + 1, 0, none⟩) HO1.out (by simp) _) (by omega)

end Go.Proofs.YtbhpogddnpaacaaGreatDoor

/- An end more in a table, as data: the cases. No condition. -/
namespace Go.Proofs.YtbhpogddnpaacaaGreatDoor
open Go.RowKit

theorem putE_has {es : List (Int × Int)} {e : Int × Int} (h : e ∈ es) : putE es e = (es, portI es e) := if_pos (by have := portI_pos h; omega)
theorem putE_full {es : List (Int × Int)} {e : Int × Int} (h : e ∉ es) (h6 : es.length = 6) : putE es e = (es, 0) := by
  unfold putE
  rw [if_neg (portI_zero_iff.2 h), if_pos h6]
theorem putE_new {es : List (Int × Int)} {e : Int × Int} (h : e ∉ es) (h6 : es.length ≠ 6) : putE es e = (es ++ [e], 500 + (es.length : Int)) := by
  unfold putE
  rw [if_neg (portI_zero_iff.2 h), if_neg h6]
theorem putE_ok {es : List (Int × Int)} {e : Int × Int} (hm : mapB es = true) (hi : insB e.1 e.2 = true) : mapB (putE es e).1 = true := by
  by_cases h : e ∈ es
  · rw [putE_has h]; exact hm
  · by_cases h6 : es.length = 6
    · rw [putE_full h h6]; exact hm
    · rw [putE_new h h6]
      exact mapB_snoc hm (by have := mapB_le hm; omega) hi h

end Go.Proofs.YtbhpogddnpaacaaGreatDoor

/- The port that an end has, or gets, in the two maps of a table. Conditions: the table is ok; the end is inside. -/
namespace Go.Proofs.YtbhpogddnpaacaaGreatDoor
open Go.RowKit Go.Sort

set_option maxRecDepth 100000 in
set_option maxHeartbeats 1600000 in
theorem givePort_any (g1 g2 : Nat) (es : List (Int × Int)) (a p : Int) (w : World) (hb : Both w g1 g2 es) (hm : mapB es = true) (hi : insB a p = true) :
    Calls Tryz.prog 59 #[.agg #[.map (some g1), .map (some g2)], .agg #[.int .i64 a, .int .i64 p]] w fun e w' => e = .returned (.int .i64 (putE es (a, p)).2) ∧ Both w' g1 g2 (putE es (a, p)).1 ∧ Two g1 g2 w w' := by
  have h6 := mapB_le hm
  obtain ⟨wa, wp⟩ := ins_wf hi
  have hv := valsL_ok hm
  have HB : Hid (∀ w', Below w.heap.size w w' → Both w' g1 g2 es) := fun w' h => hb.later h
  have HS : Hid (∀ w, Both w g1 g2 es → Calls Tryz.prog 55 #[.agg #[.map (some g1), .map (some g2)]] w fun e w' => e = .returned (.int .i64 (es.length : Int)) ∧ Below w.heap.size w w') := fun w h => by rw [← hv]; exact size_any g1 g2 es w h
  have HL := Lib.hid hb.lt
  by_cases hno : (a, p) ∈ es
  · rw [putE_has hno]
    obtain ⟨q, hq⟩ : ∃ q, q = portI es (a, p) := ⟨_, rfl⟩
    have HV : Hid (∀ w, Both w g1 g2 es → Calls Tryz.prog 74 #[.agg #[.map (some g1), .map (some g2)], .agg #[.int .i64 a, .int .i64 p]] w fun e w' => e = .returned (.tuple #[.int .i64 q, .bool true]) ∧ Below w.heap.size w w') := fun w h => by
      have := value_any g1 g2 es a p w h wa wp
      unfold valV at this
      rwa [decide_eq_true hno, ← hq] at this
    simp only [← hq]
    clear hb hm hi hno hv hq wa wp HS
    go_enter Tryz.func59, Tryz.ntmps59
    go_wp2_with (go_at_call 74; refine (HV.out _ (HB.out _ (((Below.refl _ _).alloc (Nat.le_refl _) _).alloc (by simp) _))).mono ?_; rintro e w1 ⟨rfl, b1⟩; obtain ⟨cA, cB, b01, z1⟩ := cell_two b1; clear cA cB)
    go_ret
    exact ⟨rfl, HB.out _ b01, Two.of_below b01⟩
  · have HV : Hid (∀ w, Both w g1 g2 es → Calls Tryz.prog 74 #[.agg #[.map (some g1), .map (some g2)], .agg #[.int .i64 a, .int .i64 p]] w fun e w' => e = .returned (.tuple #[.int .i64 0, .bool false]) ∧ Below w.heap.size w w') := fun w h => by
      have := value_any g1 g2 es a p w h wa wp
      unfold valV at this
      rwa [decide_eq_false hno, portI_not hno] at this
    by_cases h66 : es.length = 6
    · rw [putE_full hno h66]
      have h67 : (6 : Int) ≤ (es.length : Int) := by omega
      clear hb hm hi hno hv wa wp h66 h6
      go_enter Tryz.func59, Tryz.ntmps59
      go_wp2_with (first
        | (go_at_call 74; refine (HV.out _ (HB.out _ (((Below.refl _ _).alloc (Nat.le_refl _) _).alloc (by simp) _))).mono ?_; rintro e w1 ⟨rfl, b1⟩; obtain ⟨cA, cB, b01, z1⟩ := cell_two b1; have t0 := (cA 0).1; have t1 := (cA 1).1; simp at t0 t1; clear cA cB b1)
        | (go_at_call 55; refine (HS.out _ (HB.out _ b01)).mono ?_; rintro e w2 ⟨rfl, b2⟩))
      go_ret
      have b02 : Below w.heap.size w w2 := b01.trans (b2.mono (by omega))
      exact ⟨rfl, HB.out _ b02, Two.of_below b02⟩
    · rw [putE_new hno h66]
      have h67 : (es.length : Int) < 6 := by omega
      have HJ : Hid (∀ w, Both w g1 g2 es → Calls Tryz.prog 57 #[.agg #[.map (some g1), .map (some g2)], .agg #[.int .i64 a, .int .i64 p], .int .i64 (500 + (es.length : Int))] w fun e w' => e = .returned (.tuple #[]) ∧ Both w' g1 g2 (es ++ [(a, p)]) ∧ Two g1 g2 w w') := fun w h => join_any g1 g2 es a p w h wa wp (by omega)
      clear hb hm hi hno hv wa wp h66 h6
      go_enter Tryz.func59, Tryz.ntmps59
      go_wp2_with fail
      (go_at_call 74; refine (HV.out _ (HB.out _ (((Below.refl _ _).alloc (Nat.le_refl _) _).alloc (by simp) _))).mono ?_; rintro e w1 ⟨rfl, b1⟩; obtain ⟨cA, cB, b01, z1⟩ := cell_two b1; have t0 := (cA 0).1; have t1 := (cA 1).1; have e0 := (cB 0).1; have e1 := (cB 1).1; simp at t0 t1 e0 e1; clear cA cB b1)
      go_wp2_with fail
      (go_at_call 55; refine (HS.out _ (HB.out _ b01)).mono ?_; rintro e w2 ⟨rfl, b2⟩; have b02 : Below w.heap.size w w2 := b01.trans (b2.mono (by omega)); have t20 : w2.cell? ⟨w.heap.size, 0, none⟩ = some (.map (some g1)) := (by rw [b2.cell (by simp; omega)]; exact t0); have t21 : w2.cell? ⟨w.heap.size, 1, none⟩ = some (.map (some g2)) := (by rw [b2.cell (by simp; omega)]; exact t1); have e20 : w2.cell? ⟨w.heap.size + 1, 0, none⟩ = some (.int .i64 a) := (by rw [b2.cell (by simp; omega)]; exact e0); have e21 : w2.cell? ⟨w.heap.size + 1, 1, none⟩ = some (.int .i64 p) := (by rw [b2.cell (by simp; omega)]; exact e1); have z2 := b2.size)
      go_wp2_with fail
      (go_at_call 55; refine (HS.out _ (HB.out _ b02)).mono ?_; rintro e w3 ⟨rfl, b3⟩; have b03 : Below w.heap.size w w3 := b02.trans (b3.mono (by omega)); have t30 : w3.cell? ⟨w.heap.size, 0, none⟩ = some (.map (some g1)) := (by rw [b3.cell (by simp; omega)]; exact t20); have t31 : w3.cell? ⟨w.heap.size, 1, none⟩ = some (.map (some g2)) := (by rw [b3.cell (by simp; omega)]; exact t21); have e30 : w3.cell? ⟨w.heap.size + 1, 0, none⟩ = some (.int .i64 a) := (by rw [b3.cell (by simp; omega)]; exact e20); have e31 : w3.cell? ⟨w.heap.size + 1, 1, none⟩ = some (.int .i64 p) := (by rw [b3.cell (by simp; omega)]; exact e21))
      go_wp2_with fail
      (go_at_call 57; refine (HJ.out _ (HB.out _ b03)).mono ?_; rintro e w4 ⟨rfl, hb4, t4⟩; have HB4 := Lib.hid hb4; clear hb4)
      go_wp2_with fail
      go_ret
      exact ⟨rfl, HB4.out, (Two.of_below b03).trans t4⟩

end Go.Proofs.YtbhpogddnpaacaaGreatDoor

/- Numbers of at most four digits: what l1Num of the specification reads. No condition. -/
namespace Go.Proofs.YtbhpogddnpaacaaGreatDoor
open Go.RowKit

set_option maxRecDepth 100000 in
set_option maxHeartbeats 400000 in
theorem specNum_short (s : ByteArray) (w : World) (h : s.size = 0 ∨ 4 < s.size) :
    Calls Tryz.prog 113 #[.string s] w fun e w' => e = .returned (.int .i64 (-1)) ∧ w = w' := by
  rcases h with h | h
  · have h' : ((s.size : Int) == 0) = true := by simp [h]
    clear h
    go_enter Tryz.func113, Tryz.ntmps113
    go_wp2
    go_ret
    exact ⟨rfl, rfl⟩
  · have h' : ((s.size : Int) == 0) = false := by (have : s.size ≠ 0 := by omega); simpa using this
    have h4 : decide ((4 : Int) < (s.size : Int)) = true := by simp; omega
    go_enter Tryz.func113, Tryz.ntmps113
    go_wp2
    go_ret
    exact ⟨rfl, rfl⟩

set_option maxRecDepth 100000 in
set_option maxHeartbeats 400000 in
theorem specNum_some (s : ByteArray) (w : World) (h0 : 0 < s.size) (h4 : s.size ≤ 4) :
    Calls Tryz.prog 113 #[.string s] w fun e w' => e = .returned (.int .i64 (numL s.data.toList)) ∧ Below w.heap.size w w' := by
  have h' : ((s.size : Int) == 0) = false := by (have : s.size ≠ 0 := by omega); simpa using this
  have h5 : decide ((4 : Int) < (s.size : Int)) = false := by simp; omega
  go_enter Tryz.func113, Tryz.ntmps113
  go_wp2
  go_loop [3, 4] (fun n i => ∃ k : Nat, k ≤ s.size ∧ i = .int .i64 k ∧ n = .int .i64 (valL (s.data.toList.take k)) ∧ (∀ c ∈ s.data.toList.take k, isDig c)) (fun _ i => s.size - (intOf i).toNat)
  case atStart => exact ⟨0, Nat.zero_le _, rfl, rfl, by simp⟩
  case round =>
    obtain ⟨k, hk, rfl, rfl, hd⟩ := hrel
    have hv := valL_lt _ hd
    have hl : (s.data.toList.take k).length ≤ 4 := by simp; omega
    have hv2 : valL (s.data.toList.take k) < 10000 := Nat.lt_of_lt_of_le hv (Nat.pow_le_pow_right (by omega) hl)
    clear hv hl
    have HD := Lib.hid hd
    clear hd
    by_cases hlt : k < s.size
    · have hts := take_snoc s k hlt
      have hnum : ¬ isDig s[k] → numL s.data.toList = -1 := by
        intro hn
        unfold numL
        split
        · rfl
        · rw [if_neg]
          intro h; exact hn (h _ (mem_at s k hlt))
      have HT : Hid (s.data.toList.take (k + 1) = s.data.toList.take k ++ [s[k]]) := hts
      have HN : Hid (¬ isDig s[k] → numL s.data.toList = -1) := hnum
      clear hts hnum
      go_wp2
      · go_ret
        refine ⟨ret_int (HN.out ?_).symm, Below.refl _ _⟩
        unfold isDig; omega
      · go_round
        case rel =>
          have hdig : isDig s[k] := by unfold isDig; omega
          refine ⟨k + 1, by omega, by go_num, ?_, ?_⟩
          · rw [HT.out, valL_snoc]
            unfold isDig at hdig
            congr 1; omega
          · rw [HT.out]; intro c hc
            rcases List.mem_append.1 hc with hc | hc
            · exact HD.out c hc
            · simp at hc; subst hc; exact hdig
        case measure => simp [intOf]; omega
      · go_ret
        refine ⟨ret_int (HN.out ?_).symm, Below.refl _ _⟩
        unfold isDig; omega
    · have hk' : s.data.toList.take k = s.data.toList := List.take_of_length_le (by simp; omega)
      have HK := Lib.hid hk'
      clear hk'
      go_wp2_with (go_at_call 115; refine (specPlain_any _ _ (by omega)).mono ?_; rintro e w1 ⟨rfl, b1⟩)
      · have hne : (!Lib.decDigits (valL (s.data.toList.take k)) == s.toList) = true := by assumption
        go_ret
        rw [HK.out, Lib.toList_data] at hne
        refine ⟨ret_int ?_, by assumption⟩
        have hd := HD.out
        rw [HK.out] at hd
        unfold numL
        rw [if_neg (by rw [len_list]; omega), if_pos hd, if_neg (by simpa using hne)]
      · have hne : (!Lib.decDigits (valL (s.data.toList.take k)) == s.toList) = false := by assumption
        go_ret
        rw [HK.out, Lib.toList_data] at hne
        refine ⟨ret_int ?_, by assumption⟩
        have hd := HD.out
        rw [HK.out] at hd
        unfold numL
        rw [if_neg (by rw [len_list]; omega), if_pos hd, if_pos (by simpa using hne), HK.out]

theorem specNum_any (s : ByteArray) (w : World) :
    Calls Tryz.prog 113 #[.string s] w fun e w' => e = .returned (.int .i64 (numL s.data.toList)) ∧ Below w.heap.size w w' := by
  by_cases h : s.size = 0 ∨ 4 < s.size
  · refine (specNum_short s w h).mono ?_
    rintro e w' ⟨rfl, rfl⟩
    refine ⟨ret_int ?_, Below.refl _ _⟩
    unfold numL
    rw [if_pos (by simpa using h)]
  · exact specNum_some s w (by omega) (by omega)

end Go.Proofs.YtbhpogddnpaacaaGreatDoor

/- l1Words of the specification: a text's words, one space between, in a list of the call's own. Condition: the text has at most 2^21 bytes. -/
namespace Go.Proofs.YtbhpogddnpaacaaGreatDoor
open Go.RowKit

theorem wordsF_len (l : List UInt8) : (wordsF l).1.length ≤ l.length := by
  have := wordsL_len l
  unfold wordsL at this
  simp at this; omega

theorem wordsF_len2 (l : List UInt8) : (wordsF l).2.length ≤ l.length := by
  have := congrArg List.length (flatW_fold l ([], []))
  simp [flatW] at this
  unfold wordsF; omega
set_option maxRecDepth 100000 in
set_option maxHeartbeats 800000 in
theorem specWords_any (s : ByteArray) (w : World) (hs : s.size ≤ 2097152) :
    Calls Tryz.prog 112 #[.string s] w fun e w' => ∃ v, e = .returned v ∧ w'.ownsRow w.heap.size 9 1 v (wordsL s.data.toList).length ((wordsL s.data.toList).map strV) ∧ Below w.heap.size w w' := by
  obtain ⟨i0, hi, hz0, hz1, hz2⟩ := info_parts infoStr
  go_enter Tryz.func112, Tryz.ntmps112
  go_wp2
  go_loopw [3, 4, 5] (fun v x i wr => ∃ k : Nat, k ≤ s.size ∧ i = .int .i64 k ∧ x = .string ⟨(wordsF (s.data.toList.take k)).2.toArray⟩ ∧ wr.ownsRow w.heap.size 9 1 v (wordsF (s.data.toList.take k)).1.length ((wordsF (s.data.toList.take k)).1.map strV) ∧ Below w.heap.size w wr)
    (fun _ _ i _ => s.size - (intOf i).toNat)
  case atStart => exact ⟨0, Nat.zero_le _, rfl, rfl, World.ownsRow_made w #[] 0 (Nat.le_refl _) (Nat.zero_le _) rfl, (Below.refl _ _).alloc (Nat.le_refl _) _⟩
  case round =>
    obtain ⟨k, hk, rfl, rfl, hown, hb⟩ := hrel
    have hlen := wordsF_len (s.data.toList.take k)
    have hlen3 := wordsF_len2 (s.data.toList.take k)
    have hlen2 : (s.data.toList.take k).length ≤ s.size := by simp; omega
    have hbs := hb.size
    obtain ⟨W0, hW0⟩ : ∃ x, x = wordsF (s.data.toList.take k) := ⟨_, rfl⟩
    rw [← hW0] at hown hlen hlen3 ⊢
    have HW : Hid (W0 = wordsF (s.data.toList.take k)) := hW0
    clear hW0
    by_cases hlt : k < s.size
    · have hsn : Hid (wordsF (s.data.toList.take (k + 1)) = stp W0 s[k]) := by
        show wordsF (s.data.toList.take (k + 1)) = stp W0 s[k]
        rw [take_snoc s k hlt, wordsF_snoc, HW.out]
      by_cases h32 : s[k] = 32
      · have ht : (((s[k]).toNat : Int) == 32) = true := by rw [h32]; rfl
        have H32 : Hid (s[k] = 32) := h32
        clear h32
        go_wp2_with (at_builtin; refine wpList_append_own _ rfl (.tmp 17) (.tmp 19) 32 rfl w.heap.size 9 i0 (.string ⟨#[]⟩) 1 16 Tryz.underlying32 hi hz0 hz1 hz2 rfl (by decide) _ _ _ rfl (hown.alloc _) ⟨wr.heap.size, 0, none⟩ 1 1 [.string ⟨W0.2.toArray⟩] rfl rfl ?c1 ?c2 ?c3 ?c4 ?c5 ?_)
        case c1 =>
          intro j u hj
          match j, hj with
          | 0, hj => simp at hj; subst hj; simp [Addr.add]
        case c2 => intro u hu; simp at hu; subst hu; rfl
        case c3 => unfold maxLen; omega
        case c4 => omega
        case c5 => simp; omega
        · intro v' w1 hown' hgrow _
          go_wp2
          go_roundw
          case rel =>
            refine ⟨k + 1, by omega, by go_num, ?_, ?_, ?_⟩
            · rw [hsn.out, stp, if_pos H32.out]
            · rw [hsn.out, stp, if_pos H32.out]; simpa [strV] using hown'
            · exact (hb.alloc hbs _).grown hgrow (by simp; omega) (fun k hk => (hown.lt k hk).1)
          case measure => simp [intOf]; omega
      · have ht : (((s[k]).toNat : Int) == 32) = false := by
          have e32 : (32 : UInt8).toNat = 32 := rfl
          simp; intro e; exact h32 (UInt8.toNat_inj.1 (by omega))
        have H32 : Hid (¬ s[k] = 32) := h32
        clear h32
        go_wp2
        go_roundw
        case rel =>
          refine ⟨k + 1, by omega, by go_num, ?_, ?_, hb⟩
          · rw [hsn.out, stp, if_neg H32.out, ext_one s k hlt]
          · rw [hsn.out, stp, if_neg H32.out]; exact hown
        case measure => simp [intOf]; omega
    · have hke : s.data.toList.take k = s.data.toList := List.take_of_length_le (by simp; omega)
      have HK : Hid (s.data.toList.take k = s.data.toList) := hke
      clear hke
      go_wp2_with (at_builtin; refine wpList_append_own _ rfl (.tmp 28) (.tmp 30) 32 rfl w.heap.size 9 i0 (.string ⟨#[]⟩) 1 16 Tryz.underlying32 hi hz0 hz1 hz2 rfl (by decide) _ _ _ rfl (hown.alloc _) ⟨wr.heap.size, 0, none⟩ 1 1 [.string ⟨W0.2.toArray⟩] rfl rfl ?d1 ?d2 ?d3 ?d4 ?d5 ?_)
      case d1 =>
        intro j u hj
        match j, hj with
        | 0, hj => simp at hj; subst hj; simp [Addr.add]
      case d2 => intro u hu; simp at hu; subst hu; rfl
      case d3 => unfold maxLen; omega
      case d4 => omega
      case d5 => simp; omega
      · intro v' w1 hown' hgrow _
        go_wp2
        go_ret
        have he : wordsL s.data.toList = W0.1 ++ [W0.2] := by unfold wordsL; rw [HW.out, HK.out]
        refine ⟨_, rfl, ?_, ?_⟩
        · rw [he]; simpa [strV] using hown'
        · exact (hb.alloc hbs _).grown hgrow (by simp; omega) (fun k hk => (hown.lt k hk).1)

end Go.Proofs.YtbhpogddnpaacaaGreatDoor

/- EndRead of the specification, by the words of a text. Condition: the text has at most 2^21 bytes. -/
namespace Go.Proofs.YtbhpogddnpaacaaGreatDoor
open Go.RowKit

/-- The first two cells of a list of the call's own. -/
theorem own_two {w : World} {B : Nat} {e : TypeId} {v a b : Value} (h : w.ownsRow B e 1 v 2 [a, b]) : ∃ g cap, v = .slice (some ⟨g, 0, none⟩) 2 cap ∧ B ≤ g ∧ g < w.heap.size ∧ w.cell? ⟨g, 0, none⟩ = some a ∧ w.cell? ⟨g, 1, none⟩ = some b ∧ 2 ≤ cap := by
  rcases h.2 with ⟨_, h0⟩ | ⟨g, cap, cur, rfl, hB, hg, h2, _, hs, ht⟩
  · omega
  · have hlt := (Array.getElem?_eq_some_iff.1 hg).1
    obtain ⟨l⟩ := cur
    have e0 : l[0]? = some a := by
      have := congrArg (fun l => l[0]?) ht
      simpa using this
    have e1 : l[1]? = some b := by
      have := congrArg (fun l => l[1]?) ht
      simpa using this
    exact ⟨g, cap, rfl, hB, hlt, by simp [World.cell?, hg, e0], by simp [World.cell?, hg, e1], h2⟩

/-- The two cells of a block that was new ahead of a call. -/
theorem fresh_two {W w : World} {x y : Value} {t : TypeId} (h : Below (W.alloc (.cells #[x, y] t)).heap.size (W.alloc (.cells #[x, y] t)) w) : w.cell? ⟨W.heap.size, 0, none⟩ = some x ∧ w.cell? ⟨W.heap.size, 1, none⟩ = some y :=
  ⟨by rw [h.cell (by simp)]; simp, by rw [h.cell (by simp)]; simp⟩

theorem below_re {w w' : World} {o : Obj} {B : Nat} (h : Below B w (w'.alloc o)) (hB : B ≤ w'.heap.size) (hw : w.heap.size ≤ w'.heap.size) (o' : Obj) : Below B w (w'.alloc o') :=
  ⟨h.os, h.tape, h.output, by simp; omega, fun k hk => by
    have h1 := h.block k hk
    rw [Below.heap_alloc _ _ _ (by omega)] at h1 ⊢
    exact h1⟩

/-- What is read where address and port are a and p: them, if they are an end; else nothing. -/
def rdV (a p : Int) : Value := if endB a p = true then .tuple #[.agg #[.int .i64 a, .int .i64 p], .bool true] else .tuple #[.agg #[.int .i64 0, .int .i64 0], .bool false]

set_option maxRecDepth 100000 in
set_option maxHeartbeats 800000 in
theorem specRead_len (s : ByteArray) (w : World) (hs : s.size ≤ 2097152) (h : (wordsL s.data.toList).length ≠ 2) :
    Calls Tryz.prog 104 #[.string s] w fun e w' => e = .returned (.tuple #[.agg #[.int .i64 0, .int .i64 0], .bool false]) ∧ Below w.heap.size w w' := by
  have hne : (((wordsL s.data.toList).length : Int) == 2) = false := by simp; omega
  have hne2 : (((wordsL s.data.toList).length : Int) != 2) = true := by simp; omega
  have H := Lib.hid h
  clear h
  go_enter Tryz.func104, Tryz.ntmps104
  go_wp2_with (go_at_call 112; refine (specWords_any _ _ hs).mono ?_; rintro e w1 ⟨v, rfl, own1, b1⟩; obtain ⟨a1, cap1, rfl⟩ := own_form own1; obtain ⟨c1, f1⟩ := bcell b1; obtain ⟨q0, q1, q2⟩ := set_two (w := w1) (b := w.heap.size) (.int .i64 0) (.int .i64 0) (by rw [c1 _ _ (by simp)]; simp; rfl) (by rw [c1 _ _ (by simp)]; simp; rfl))
  refine bodyPost_ret (v := .tuple #[.agg #[.int .i64 0, .int .i64 0], .bool false]) (by simp [results, Tryz.results104, go_sem, q1, q2]) rfl ⟨rfl, ?_⟩
  exact ((below_box b1).setCell (Nat.le_refl _) _).setCell (Nat.le_refl _) _

set_option maxRecDepth 100000 in
set_option maxHeartbeats 800000 in
theorem specRead_two (s : ByteArray) (x y : List UInt8) (w : World) (hs : s.size ≤ 2097152) (h : wordsL s.data.toList = [x, y]) :
    Calls Tryz.prog 104 #[.string s] w fun e w' => e = .returned (rdV (numL x) (numL y)) ∧ Below w.heap.size w w' := by
  have HW : ∀ w, Calls Tryz.prog 112 #[.string s] w fun e w' => ∃ v, e = .returned v ∧ w'.ownsRow w.heap.size 9 1 v 2 [strV x, strV y] ∧ Below w.heap.size w w' := by
    intro w; have := specWords_any s w hs; rw [h] at this; exact this
  have H := Lib.hid HW
  clear h HW
  go_enter Tryz.func104, Tryz.ntmps104
  go_upto_region 4 with (go_at_call 112; refine (H.out _).mono ?_; rintro e w1 ⟨v, rfl, own1, b1⟩; obtain ⟨g, cap, rfl, gB, gl, k0, k1, hcap⟩ := own_two own1; obtain ⟨c1, f1⟩ := bcell b1)
  clear own1 gB hcap
  have mk : Hid (∀ w', Below w1.heap.size w1 w' → w'.cell? ⟨g, 0, none⟩ = some (strV x) ∧ w'.cell? ⟨g, 1, none⟩ = some (strV y) ∧ Below w1.heap.size w1 w') :=
    fun w' h => ⟨(h.cell gl).trans k0, (h.cell gl).trans k1, h⟩
  clear k0 k1
  go_cut [5] (fun s5 wx => ∃ b : Nat, s5 = .pointer (some ⟨b, 0, none⟩) ∧ wx.cell? ⟨b, 0, none⟩ = some (.int .i64 (numL x)) ∧ wx.cell? ⟨b, 1, none⟩ = some (.int .i64 (numL y)) ∧ Below w1.heap.size w1 wx)
  case first =>
    go_region_held3 (fun w' => w'.cell? ⟨g, 0, none⟩ = some (strV x) ∧ w'.cell? ⟨g, 1, none⟩ = some (strV y) ∧ Below w1.heap.size w1 w')
      (first
        | exact mk.out _ (Below.refl _ _).drew
        | exact mk.out _ B2
        | exact mk.out _ ((‹_ ∧ _ ∧ Below w1.heap.size w1 w2›.2.2).alloc (‹_ ∧ _ ∧ Below w1.heap.size w1 w2›.2.2).size _)
        | exact mk.out _ (below_re (‹_ ∧ _ ∧ Below w1.heap.size w1 (w2.alloc _)›.2.2) B2.size B2.size _)
        | exact mk.out _ (((Below.refl _ _).drew).alloc (Nat.le_refl _) _)
        | exact mk.out _ ((B2.setCell (Nat.le_refl _) _).setCell (Nat.le_refl _) _)
        | exact mk.out _ ((B2.setCell (by have hq := (‹Below w1.drew.heap.size w1.drew _›).size; exact hq) _).setCell (by have hq := (‹Below w1.drew.heap.size w1.drew _›).size; exact hq) _)
        | (trace_state; fail))
      (first | (go_at_call 113; refine (specNum_any _ _).mono ?_; rintro e w2 ⟨rfl, b2⟩; obtain ⟨c2, f2⟩ := bcell b2; have B2 : Below w1.heap.size w1 w2 := (by first | exact ((Below.refl _ w1).drew).trans (b2.mono (Nat.le_refl _)) | exact (‹_ ∧ _ ∧ Below w1.heap.size w1 _›.2.2).trans (b2.mono (‹_ ∧ _ ∧ Below w1.heap.size w1 _›.2.2).size)); try (have z2 : w1.heap.size < w2.heap.size := (by have hq := b2.size; simp at hq; omega))))
    all_goals (go_wp2_with fail; go_meet)
    · exact ⟨w2.heap.size, rfl, by simp, by simp, B2.alloc B2.size _⟩
    · have z := (‹Below w1.drew.heap.size w1.drew _›).size
      obtain ⟨p0, p1⟩ := fresh_two b2
      obtain ⟨q0, q1, q2⟩ := set_two (.int .i64 (numL x)) (.int .i64 (numL y)) p0 p1
      exact ⟨_, rfl, q1, q2, (B2.setCell (by exact z) _).setCell (by exact z) _⟩
    · obtain ⟨p0, p1⟩ := fresh_two ((‹Below (w1.drew.alloc _).heap.size _ _›).trans (b2.mono (‹Below (w1.drew.alloc _).heap.size _ _›).size))
      obtain ⟨q0, q1, q2⟩ := set_two (.int .i64 (numL x)) (.int .i64 (numL y)) p0 p1
      exact ⟨_, rfl, q1, q2, (B2.setCell (Nat.le_refl _) _).setCell (Nat.le_refl _) _⟩
  case rest =>
    obtain ⟨b, rfl, h0, h1, hB⟩ := hcut
    have z1 : w.heap.size < w1.heap.size := by have hq := b1.size; simp at hq; omega
    have zc : w.heap.size < wc.heap.size := by have hq := hB.size; omega
    have zb : b < wc.heap.size := World.block_lt_of_cell? wc _ h0
    obtain ⟨cB, fB⟩ := bcell hB
    clear mk H
    by_cases hb : endB (numL x) (numL y) = true
    · have hv : Hid (rdV (numL x) (numL y) = .tuple #[.agg #[.int .i64 (numL x), .int .i64 (numL y)], .bool true]) := if_pos hb
      go_wp2_with (go_at_call 105; refine (specOk_any _ _ _).mono ?_; rintro e w3 ⟨rfl, b3⟩; obtain ⟨c3, f3⟩ := bcell b3)
      obtain ⟨q0, q1, q2⟩ := set_two (w := w3) (b := w.heap.size) (x := .int .i64 0) (y := .int .i64 0) (.int .i64 (numL x)) (.int .i64 (numL y)) (by rw [c3 _ _ zc, cB _ _ z1, c1 _ _ (by simp)]; simp) (by rw [c3 _ _ zc, cB _ _ z1, c1 _ _ (by simp)]; simp)
      refine bodyPost_ret (v := .tuple #[.agg #[.int .i64 (numL x), .int .i64 (numL y)], .bool true]) (by simp [results, Tryz.results104, go_sem, q1, q2]) rfl ⟨by rw [hv.out], ?_⟩
      exact ((((below_box b1).trans (hB.mono (by omega))).trans (b3.mono (by omega))).setCell (Nat.le_refl _) _).setCell (Nat.le_refl _) _
    · have hv : Hid (rdV (numL x) (numL y) = .tuple #[.agg #[.int .i64 0, .int .i64 0], .bool false]) := if_neg hb
      go_wp2_with (go_at_call 105; refine (specOk_any _ _ _).mono ?_; rintro e w3 ⟨rfl, b3⟩; obtain ⟨c3, f3⟩ := bcell b3)
      obtain ⟨q0, q1, q2⟩ := set_two (w := w3) (b := w.heap.size) (x := .int .i64 0) (y := .int .i64 0) (.int .i64 0) (.int .i64 0) (by rw [c3 _ _ zc, cB _ _ z1, c1 _ _ (by simp)]; simp) (by rw [c3 _ _ zc, cB _ _ z1, c1 _ _ (by simp)]; simp)
      refine bodyPost_ret (v := .tuple #[.agg #[.int .i64 0, .int .i64 0], .bool false]) (by simp [results, Tryz.results104, go_sem, q1, q2]) rfl ⟨by rw [hv.out], ?_⟩
      exact ((((below_box b1).trans (hB.mono (by omega))).trans (b3.mono (by omega))).setCell (Nat.le_refl _) _).setCell (Nat.le_refl _) _

end Go.Proofs.YtbhpogddnpaacaaGreatDoor

/- What EndRead of the specification reads, as an end or nothing. Condition: the text has at most 2^21 bytes. -/
namespace Go.Proofs.YtbhpogddnpaacaaGreatDoor
open Go.RowKit

def noneV : Value := .tuple #[.agg #[.int .i64 0, .int .i64 0], .bool false]

/-- What the specification reads of a text. -/
def rdS (l : List UInt8) : Value := match wordsL l with | [x, y] => rdV (numL x) (numL y) | _ => noneV
/-- .. as an end, if it is one. -/
def rdE (l : List UInt8) : Option (Int × Int) := match wordsL l with | [x, y] => if endB (numL x) (numL y) = true then some (numL x, numL y) else none | _ => none
theorem rdE_some {l : List UInt8} {a p : Int} (h : rdE l = some (a, p)) : rdS l = .tuple #[.agg #[.int .i64 a, .int .i64 p], .bool true] ∧ endB a p = true := by
  unfold rdE at h
  unfold rdS
  split at h
  · split at h
    · rename_i hb
      simp at h
      obtain ⟨rfl, rfl⟩ := h
      exact ⟨if_pos hb, hb⟩
    · cases h
  · cases h
theorem rdE_none {l : List UInt8} (h : rdE l = none) : rdS l = .tuple #[.agg #[.int .i64 0, .int .i64 0], .bool false] := by
  unfold rdE at h
  unfold rdS
  split at h
  · split at h
    · cases h
    · rename_i hb; exact if_neg hb
  · rfl
theorem rdV_none {a p : Int} (h : endB a p = false) : rdV a p = noneV := by unfold rdV; rw [h]; rfl

theorem rdS_yes {a p : Nat} (h : endB a p = true) : rdS (endL a p) = rdV a p := by
  obtain ⟨h1, h2, h3, h4⟩ := end_bounds h
  unfold rdS endL
  rw [words_of_two (dec_no_space a) (dec_no_space p)]
  simp only [numL_dec (show a ≤ 9999 by omega), numL_dec (show p ≤ 9999 by omega)]
theorem rdS_no {l : List UInt8} (h : ∀ a p : Nat, endB a p = true → l ≠ endL a p) : rdS l = noneV := by
  unfold rdS
  split
  · rename_i x y hw
    by_cases hb : endB (numL x) (numL y) = true
    · obtain ⟨h1, h2, h3, h4⟩ := end_bounds hb
      have ex := numL_inv (show 0 ≤ numL x by omega)
      have ey := numL_inv (show 0 ≤ numL y by omega)
      refine absurd ?_ (h (numL x).toNat (numL y).toNat (by rw [Int.toNat_of_nonneg (by omega), Int.toNat_of_nonneg (by omega)]; exact hb))
      rw [words_two hw, endL, ← ex, ← ey]
    · exact rdV_none (by simpa using hb)
  · rfl

theorem specRead_any (s : ByteArray) (w : World) (hs : s.size ≤ 2097152) :
    Calls Tryz.prog 104 #[.string s] w fun e w' => e = .returned (rdS s.data.toList) ∧ Below w.heap.size w w' := by
  by_cases h : (wordsL s.data.toList).length = 2
  · match hw : wordsL s.data.toList, h with
    | [x, y], _ =>
      have e : rdS s.data.toList = rdV (numL x) (numL y) := by unfold rdS; rw [hw]
      rw [e]; exact specRead_two s x y w hs hw
  · have e : rdS s.data.toList = noneV := by
      unfold rdS; split
      · rename_i x y hw; rw [hw] at h; simp at h
      · rfl
    rw [e]; exact specRead_len s w hs h

theorem rdS_form (l : List UInt8) : ∃ (a p : Int) (b : Bool), rdS l = .tuple #[.agg #[.int .i64 a, .int .i64 p], .bool b] := by
  unfold rdS
  split
  · unfold rdV; split
    · exact ⟨_, _, _, rfl⟩
    · exact ⟨_, _, _, rfl⟩
  · exact ⟨_, _, _, rfl⟩

end Go.Proofs.YtbhpogddnpaacaaGreatDoor

/- LinSays and LinBox of the specification. Condition: the text has at most 2^21 bytes. -/
namespace Go.Proofs.YtbhpogddnpaacaaGreatDoor
open Go.RowKit

/-- The end inside that a line names; the port of the box's. -/
def saysE (l : List UInt8) : Option (Int × Int) := if l.take 5 = portL then match rdE (l.drop 5) with | some (a, p) => if insB a p = true then some (a, p) else none | none => none else none
def boxE (l : List UInt8) : Option Int := if l.take 5 = portL then match rdE (l.drop 5) with | some (a, p) => if a = 50 then some p else none | none => none else none

theorem ext_drop (s : ByteArray) (i : Nat) : (s.extract i s.size).data.toList = s.data.toList.drop i := by
  rw [ext_list, List.take_of_length_le (by rw [len_list]; omega)]
theorem ext_take (s : ByteArray) (i : Nat) : (s.extract 0 i).data.toList = s.data.toList.take i := by
  rw [ext_list]; simp

/-- What LinSays and LinBox answer. -/
def saysV : Option (Int × Int) → Value
  | some (a, p) => .tuple #[.agg #[.int .i64 a, .int .i64 p], .bool true]
  | none => .tuple #[.agg #[.int .i64 0, .int .i64 0], .bool false]
def boxV : Option Int → Value
  | some p => .tuple #[.int .i64 p, .bool true]
  | none => .tuple #[.int .i64 0, .bool false]

set_option maxRecDepth 100000 in
set_option maxHeartbeats 800000 in
theorem specSays_any (s : ByteArray) (w : World) (hs : s.size ≤ 2097152) :
    Calls Tryz.prog 95 #[.string s] w fun e w' => e = .returned (saysV (saysE s.data.toList)) ∧ Below w.heap.size w w' := by
  have hshort : s.data.toList.take 5 = portL → 5 ≤ s.size := by
    intro h; have := congrArg List.length h; simp [portL] at this; omega
  by_cases h5 : s.size < 5
  · have HV : Hid (saysE s.data.toList = none) := by
      show saysE s.data.toList = none
      unfold saysE; rw [if_neg (fun h => by have := hshort h; omega)]
    clear hshort
    go_enter Tryz.func95, Tryz.ntmps95
    go_wp2_with fail
    refine bodyPost_ret (v := .tuple #[.agg #[.int .i64 0, .int .i64 0], .bool false]) (by simp [results, Tryz.results95, go_sem]) rfl ⟨by rw [HV.out]; rfl, ?_⟩
    exact (Below.refl _ _).alloc (Nat.le_refl _) _
  · by_cases ht : s.data.toList.take 5 = portL
    · have hq : (!(s.extract 0 5).toList == [112, 111, 114, 116, 32]) = false := by
        rw [Lib.toList_data, ext_take, ht]; rfl
      have HE : Hid (∀ w, Calls Tryz.prog 104 #[.string (s.extract 5 s.size)] w fun e w' => e = .returned (rdS (s.data.toList.drop 5)) ∧ Below w.heap.size w w') := by
        intro w; have := specRead_any (s.extract 5 s.size) w (by simp; omega); rw [ext_drop] at this; exact this
      rcases hr : rdE (s.data.toList.drop 5) with _ | ⟨a, p⟩
      · have HV : Hid (saysE s.data.toList = none) := by
          show saysE s.data.toList = none
          unfold saysE; rw [if_pos ht, hr]
        have HR := Lib.hid (rdE_none hr)
        clear hshort hr ht
        go_enter Tryz.func95, Tryz.ntmps95
        go_wp2_with (go_at_call 104; refine (HE.out _).mono ?_; rintro e w1 ⟨rfl, b1⟩; rw [HR.out]; obtain ⟨c1, f1⟩ := bcell b1; have z1 : w.heap.size < w1.heap.size := by (have hq := b1.size; simp at hq; omega))
        obtain ⟨q0, q1, q2⟩ := set_two (w := w1) (b := w.heap.size) (x := .int .i64 0) (y := .int .i64 0) (.int .i64 0) (.int .i64 0) (by rw [c1 _ _ (by simp)]; simp) (by rw [c1 _ _ (by simp)]; simp)
        refine bodyPost_ret (v := .tuple #[.agg #[.int .i64 0, .int .i64 0], .bool false]) (by simp [results, Tryz.results95, go_sem, cell_alloc_lt, z1, q1, q2]) rfl ⟨by rw [HV.out]; rfl, ?_⟩
        exact (((below_box b1).setCell (Nat.le_refl _) _).setCell (Nat.le_refl _) _).alloc (by simp; omega) _
      · obtain ⟨hR, hb⟩ := rdE_some hr
        have HR := Lib.hid hR
        by_cases hin : insB a p = true
        · have HV : Hid (saysE s.data.toList = some (a, p)) := by
            show saysE s.data.toList = some (a, p)
            unfold saysE; rw [if_pos ht, hr]; simp [hin]
          clear hshort hr ht hR hb
          go_enter Tryz.func95, Tryz.ntmps95
          go_wp2_with (first
            | (go_at_call 104; refine (HE.out _).mono ?_; rintro e w1 ⟨rfl, b1⟩; rw [HR.out]; obtain ⟨c1, f1⟩ := bcell b1; have z1 : w.heap.size < w1.heap.size := by (have hq := b1.size; simp at hq; omega))
            | (go_at_call 18; refine (specInside_any _ _ _).mono ?_; rintro e w3 ⟨rfl, b3⟩; obtain ⟨c3, f3⟩ := bcell b3; have z3 : w1.heap.size < w3.heap.size := by (have hq := b3.size; simp at hq; omega)))
          obtain ⟨q0, q1, q2⟩ := set_two (w := w3) (b := w.heap.size) (x := .int .i64 0) (y := .int .i64 0) (.int .i64 a) (.int .i64 p) (by rw [c3 _ _ (by simp; omega), cell_alloc_lt z1, c1 _ _ (by simp)]; simp) (by rw [c3 _ _ (by simp; omega), cell_alloc_lt z1, c1 _ _ (by simp)]; simp)
          refine bodyPost_ret (v := .tuple #[.agg #[.int .i64 a, .int .i64 p], .bool true]) (by simp [results, Tryz.results95, go_sem, q1, q2]) rfl ⟨by rw [HV.out]; rfl, ?_⟩
          exact ((((below_box b1).trans (((Below.refl _ w1).alloc (Nat.le_refl _) _ |>.trans (b3.mono (by simp))).mono (by omega))).setCell (Nat.le_refl _) _).setCell (Nat.le_refl _) _)
        · have HV : Hid (saysE s.data.toList = none) := by
            show saysE s.data.toList = none
            unfold saysE; rw [if_pos ht, hr]; simp [hin]
          clear hshort hr ht hR hb
          go_enter Tryz.func95, Tryz.ntmps95
          go_wp2_with (first
            | (go_at_call 104; refine (HE.out _).mono ?_; rintro e w1 ⟨rfl, b1⟩; rw [HR.out]; obtain ⟨c1, f1⟩ := bcell b1; have z1 : w.heap.size < w1.heap.size := by (have hq := b1.size; simp at hq; omega))
            | (go_at_call 18; refine (specInside_any _ _ _).mono ?_; rintro e w3 ⟨rfl, b3⟩; obtain ⟨c3, f3⟩ := bcell b3; have z3 : w1.heap.size < w3.heap.size := by (have hq := b3.size; simp at hq; omega)))
          obtain ⟨q0, q1, q2⟩ := set_two (w := w3) (b := w.heap.size) (x := .int .i64 0) (y := .int .i64 0) (.int .i64 0) (.int .i64 0) (by rw [c3 _ _ (by simp; omega), cell_alloc_lt z1, c1 _ _ (by simp)]; simp) (by rw [c3 _ _ (by simp; omega), cell_alloc_lt z1, c1 _ _ (by simp)]; simp)
          refine bodyPost_ret (v := .tuple #[.agg #[.int .i64 0, .int .i64 0], .bool false]) (by simp [results, Tryz.results95, go_sem, q1, q2]) rfl ⟨by rw [HV.out]; rfl, ?_⟩
          exact ((((below_box b1).trans (((Below.refl _ w1).alloc (Nat.le_refl _) _ |>.trans (b3.mono (by simp))).mono (by omega))).setCell (Nat.le_refl _) _).setCell (Nat.le_refl _) _)
    · have hq : (!(s.extract 0 5).toList == [112, 111, 114, 116, 32]) = true := by
        rw [Lib.toList_data, ext_take]; simpa [portL] using ht
      have HV : Hid (saysE s.data.toList = none) := by
        show saysE s.data.toList = none
        unfold saysE; rw [if_neg ht]
      clear hshort ht
      go_enter Tryz.func95, Tryz.ntmps95
      go_wp2_with fail
      refine bodyPost_ret (v := .tuple #[.agg #[.int .i64 0, .int .i64 0], .bool false]) (by simp [results, Tryz.results95, go_sem]) rfl ⟨by rw [HV.out]; rfl, ?_⟩
      exact (Below.refl _ _).alloc (Nat.le_refl _) _

end Go.Proofs.YtbhpogddnpaacaaGreatDoor
