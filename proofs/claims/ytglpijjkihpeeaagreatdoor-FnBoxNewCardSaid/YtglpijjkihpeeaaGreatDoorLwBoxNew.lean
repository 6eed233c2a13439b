/- The law that a box begins with rules alone: at every code. Condition: the code lies in memory. -/
import Derived.Test.YtglpijjkihpeeaaGreatDoorDrawRuls
import Derived.Test.YtglpijjkihpeeaaGreatDoorBxNew
import Derived.Test.YtglpijjkihpeeaaGreatDoorHaNew
import Derived.Test.YtglpijjkihpeeaaGreatDoorHaOk
import Derived.Deep.RegionHeld3
import Derived.Deep.DeepCutAuto
namespace Go.Proofs.YtglpijjkihpeeaaGreatDoor
open Go.RowKit

set_option maxRecDepth 100000 in
set_option maxHeartbeats 1600000 in
theorem drawBoxNew_any (ao : Option Addr) (n cap : Nat) (w : World) (h : BytesIn w ao n) (hn : n ≤ cap) :
    Calls Tryz.prog 6 #[.slice ao n cap] w fun e w' => ∃ g c l, e = .returned (.slice (some g) (l : List Rl).length c) ∧ RdRl w' (.slice (some g) l.length c) l ∧ l.length ≤ 8 ∧ Below w.heap.size w w' := by
  have H := Lib.hid h
  clear h
  go_enter Tryz.func6, Tryz.ntmps6
  go_wp2_with fail
  (go_at_call 39; refine (open_any ao n cap _ H.out hn).mono ?_; rintro e w1 ⟨R, rfl, hR, b1, r1⟩)
  have R1 := Lib.hid r1
  have B1 := Lib.hid b1
  clear r1 b1
  go_wp2_with fail
  (go_at_call 38; refine (rules_any 3 w.heap.size R 0 _ R1.out (by omega) (by omega) (by omega)).mono ?_; rintro e w2 ⟨g, c, l, rfl, ho, hl, g2, r2⟩)
  have HO := Lib.hid (OwnRl.rd ho)
  have BA := Lib.hid (B1.out.grown g2 B1.out.size (fun k e => by cases e; exact hR))
  clear ho g2 r2
  go_wp2_with fail
  go_ret
  exact ⟨g, c, l, rfl, HO.out, hl, BA.out⟩

theorem all_take {l : List Rl} {k : Nat} (hk : k < l.length) : (l.take (k + 1)).all ruleB = ((l.take k).all ruleB && ruleB l[k]) := by
  rw [List.take_succ_eq_append_getElem hk, List.all_append]
  simp

set_option maxRecDepth 100000 in
set_option maxHeartbeats 6400000 in
theorem lwBoxNew_of (ao : Option Addr) (n cap : Nat) (w : World) (h : BytesIn w ao n) (hn : n ≤ cap) (hb1 : ¬ 1048576 < n) :
    Calls Tryz.prog 3 #[.slice ao n cap] w fun e w' => e = .returned (.bool true) ∧ Below w.heap.size w w' := by
  have H := Lib.hid h
  clear h
  go_enter Tryz.func3, Tryz.ntmps3
  go_wp2_with fail
  (go_at_call 6; refine (drawBoxNew_any ao n cap _ H.out hn).mono ?_; rintro e w1 ⟨g, c, l, rfl, hr, hl, b1⟩)
  have BW := Lib.hid b1
  have RL := Lib.hid hr
  clear b1 hr H
  obtain ⟨nl, hnl⟩ : ∃ x, x = newR l := ⟨_, rfl⟩
  have HNL := Lib.hid hnl
  have hnl8 : nl.length ≤ 8 := by
    rw [hnl]
    unfold newR
    split
    · exact hl
    · simp
  have HI : Hid (∀ w, RdRl w (.slice (some g) l.length c) l → Calls Tryz.prog 7 #[.slice (some g) l.length c] w fun e w' => ∃ a k, e = .returned (.agg #[.slice a nl.length k, .slice none 0 0, .slice none 0 0]) ∧ RdRl w' (.slice a nl.length k) nl ∧ Below w.heap.size w w') := fun w hv => by
    refine (implBoxNew_any g c l w (by omega) hv).mono ?_
    rintro e w' ⟨v, rfl, hf, hb⟩
    rw [← hnl] at hf
    have hd := hf.rd
    obtain ⟨a, k, rfl, _⟩ := id hd
    exact ⟨a, k, rfl, hd, hb⟩
  have HS : Hid (∀ w, RdRl w (.slice (some g) l.length c) l → Calls Tryz.prog 9 #[.slice (some g) l.length c] w fun e w' => ∃ a k, e = .returned (.agg #[.slice a nl.length k, .slice none 0 0, .slice none 0 0]) ∧ RdRl w' (.slice a nl.length k) nl ∧ Below w.heap.size w w') := fun w hv => by
    refine (specBoxNew_any g c l w (by omega) hv).mono ?_
    rintro e w' ⟨v, rfl, hf, hb⟩
    rw [← hnl] at hf
    have hd := hf.rd
    obtain ⟨a, k, rfl, _⟩ := id hd
    exact ⟨a, k, rfl, hd, hb⟩
  clear hnl
  go_wp2_with fail
  (go_at_call 7; refine (HI.out _ RL.out).mono ?_; rintro e w2 ⟨a2, k2, rfl, r2, b2⟩)
  have C2 := Lib.hid b2
  have R2 := Lib.hid r2
  clear b2 r2 HI
  go_upto_region 5 with fail
  obtain ⟨W3, hW3⟩ : ∃ W, W = w2.alloc (.cells #[.slice a2 nl.length k2, .slice none 0 0, .slice none 0 0] 30) := ⟨_, rfl⟩
  have q3 : Below w2.heap.size w2 W3 := by rw [hW3]; exact (Below.refl _ _).alloc (Nat.le_refl _) _
  have C3 := Lib.hid (C2.out.trans (q3.mono C2.out.size))
  have R3 := Lib.hid (R2.out.below q3)
  have mk : Hid (∀ w', Below W3.heap.size W3 w' → Below W3.heap.size W3 w' ∧ w'.cell? ⟨w2.heap.size, 0, none⟩ = some (.slice a2 nl.length k2) ∧ w'.cell? ⟨w2.heap.size, 1, none⟩ = some (.slice none 0 0) ∧ w'.cell? ⟨w2.heap.size, 2, none⟩ = some (.slice none 0 0)) := fun w' hb => by
    have hz : W3.heap.size = w2.heap.size + 1 := by rw [hW3]; simp
    refine ⟨hb, ?_, ?_, ?_⟩ <;> rw [hb.cell (by simp [hz])] <;> rw [hW3] <;> simp
  rw [← hW3]
  obtain ⟨bb, hbb⟩ : ∃ b, b = w2.heap.size := ⟨_, rfl⟩
  rw [← hbb] at mk ⊢
  clear hW3 q3 hbb C2 R2
  have zc : W3.heap.size ≤ W3.heap.size := Nat.le_refl _
  go_cut [18] (fun s wx => s = .bool false ∧ Below W3.heap.size W3 wx)
  case first =>
    go_region_held3 (fun w' => Below W3.heap.size W3 w' ∧ w'.cell? ⟨bb, 0, none⟩ = some (.slice a2 nl.length k2) ∧ w'.cell? ⟨bb, 1, none⟩ = some (.slice none 0 0) ∧ w'.cell? ⟨bb, 2, none⟩ = some (.slice none 0 0))
      (first
        | exact mk.out _ (Below.refl _ _).drew
        | exact mk.out _ cc
        | (trace_state; fail))
      (first
        | (go_at_call 8; have hS := (by assumption : Below W3.heap.size W3 _ ∧ _); refine (haBox_new nl _ _ _ (by omega) (R3.out.below hS.1) (RQ.out)).mono ?_; rintro e wN ⟨rfl, bN⟩; have cc : Below W3.heap.size W3 wN := hS.1.trans (bN.mono hS.1.size); clear bN)
        | (go_at_call 9; have hS := (by assumption : Below W3.heap.size W3 _ ∧ _); refine (HS.out _ (RL.out.below (C3.out.trans (hS.1.mono C3.out.size)))).mono ?_; rintro e wM ⟨a3, k3, rfl, rq, bM⟩; have RQ := Lib.hid rq; have cc : Below W3.heap.size W3 wM := hS.1.trans (bM.mono hS.1.size); clear bM rq))
    all_goals (go_wp2_with fail; go_meet)
    all_goals (first | exact ⟨rfl, cc⟩ | (trace_state; fail))
  case rest =>
    obtain ⟨rfl, c4⟩ := hcut
    have C4 := Lib.hid (C3.out.trans (c4.mono C3.out.size))
    obtain ⟨-, x0, x1, x2⟩ := mk.out _ c4
    have D4 := Lib.hid c4
    clear c4 HS
    go_wp2_with fail
    go_loopw [5, 6] (fun o i wr => ∃ k : Nat, k ≤ l.length ∧ i = .int .i64 k ∧ o = .bool (decide ((l.length : Int) ≤ 5) && (l.take k).all ruleB) ∧ Below wc.heap.size wc wr) (fun _ i _ => l.length - (intOf i).toNat)
    case atStart => exact ⟨0, Nat.zero_le _, rfl, by simp, Below.refl _ _⟩
    case round =>
      obtain ⟨k, hk, rfl, rfl, hb⟩ := hrel
      have E4 := Lib.hid (C4.out.trans (hb.mono C4.out.size))
      have F4 := Lib.hid (D4.out.trans (hb.mono D4.out.size))
      have HB := Lib.hid hb
      clear hb x0 x1 x2
      by_cases hlt : k < l.length
      · obtain ⟨av, cv, hsl, hcv, hrv⟩ := RL.out.below E4.out
        simp only [Value.slice.injEq] at hsl
        obtain ⟨rfl, _, rfl⟩ := hsl
        obtain ⟨g1, o1, hge, hg1, hr1⟩ := hrv (by omega)
        obtain rfl := Option.some.inj hge
        obtain ⟨⟨al, a, b, c', d, e, f⟩, hap⟩ : ∃ x, x = l[k] := ⟨_, rfl⟩
        obtain ⟨p0, p1, p2, p3, p4, p5, p6⟩ := rl_seven hr1 k hlt al a b c' d e f hap
        have hk3 : (k : Int) < (l.length : Int) := by omega
        have hkc : (k : Int) ≤ (c : Int) := by omega
        have HT : Hid ((decide ((l.length : Int) ≤ 5) && (l.take (k + 1)).all ruleB) = ((decide ((l.length : Int) ≤ 5) && (l.take k).all ruleB) && ruleB ⟨al, a, b, c', d, e, f⟩)) := by show _ = _; rw [all_take hlt, ← hap, Bool.and_assoc]
        obtain ⟨ok, hok⟩ : ∃ ok, ok = (decide ((l.length : Int) ≤ 5) && (l.take k).all ruleB) := ⟨_, rfl⟩
        rw [← hok] at HT ⊢
        obtain ⟨rb, hrb⟩ : ∃ rb, rb = ruleB ⟨al, a, b, c', d, e, f⟩ := ⟨_, rfl⟩
        have HM : Hid (∀ w, Calls Tryz.prog 10 #[.agg #[.bool al, .int .i64 a, .int .i64 b, .int .i64 c', .int .i64 d, .int .i64 e, .int .i64 f]] w fun e w' => e = .returned (.bool rb) ∧ Below w.heap.size w w') := fun w => by rw [hrb]; exact specRulOk_any al a b c' d e f w
        rw [← hrb] at HT
        clear hrv hr1 hap hok hrb mk
        cases ok
        · go_wp2_with fail
          go_roundw
          case rel => exact ⟨k + 1, by omega, by go_num, by rw [HT.out]; rfl, HB.out⟩
          case measure => simp [intOf]; omega
        · go_wp2_with fail
          (go_at_call 10; refine (HM.out _).mono ?_; rintro e' w9 ⟨rfl, b9⟩)
          have B9 := Lib.hid (HB.out.trans (b9.mono HB.out.size))
          clear b9
          go_wp2_with fail
          go_roundw
          case rel => exact ⟨k + 1, by omega, by go_num, by rw [HT.out]; rfl, B9.out⟩
          case measure => simp [intOf]; omega
      · have hkn : k = l.length := by omega
        subst hkn
        have he : (decide ((l.length : Int) ≤ 5) && (l.take l.length).all ruleB) = rulesB l := by
          rw [List.take_length]
          unfold rulesB
          congr 1
          simp only [decide_eq_decide]
          omega
        rw [he]
        clear he
        obtain ⟨-, x0, x1, x2⟩ := mk.out _ F4.out
        cases hq : rulesB l
        · have hz : (nl.length : Int) = 0 := by rw [HNL.out, newR_no hq]; rfl
          clear hq HNL RL mk
          go_wp2_with fail
          (go_at_call 11; refine (haOk_any _).mono ?_; rintro e wl ⟨rfl, rfl⟩)
          go_wp2_with fail
          go_ret
          exact ⟨by simp, BW.out.trans (E4.out.mono BW.out.size)⟩
        · have e := HNL.out.trans (newR_yes hq)
          have HQ : Hid (rulesB nl = true) := by rw [e]; exact hq
          subst e
          clear hq HNL
          go_wp2_with fail
          (go_at_call 12; refine (implBoxOk_new nl _ _ (by omega) (R3.out.below F4.out) HQ.out).mono ?_; rintro e w7 ⟨rfl, b7⟩)
          have E7 := Lib.hid (E4.out.trans (b7.mono E4.out.size))
          have F7 := Lib.hid (F4.out.trans (b7.mono F4.out.size))
          clear b7 x0 x1 x2
          obtain ⟨-, x0, x1, x2⟩ := mk.out _ F7.out
          go_wp2_with fail
          (go_at_call 13; refine (haRules_same nl _ _ _ (by omega) (R3.out.below F7.out) (RL.out.below E7.out)).mono ?_; rintro e w8 ⟨rfl, b8⟩)
          have E8 := Lib.hid (E7.out.trans (b8.mono E7.out.size))
          have F8 := Lib.hid (F7.out.trans (b8.mono F7.out.size))
          clear b8 x0 x1 x2
          obtain ⟨-, x0, x1, x2⟩ := mk.out _ F8.out
          go_wp2_with fail
          go_ret
          exact ⟨by simp, BW.out.trans (E8.out.mono BW.out.size)⟩

set_option maxRecDepth 100000 in
set_option maxHeartbeats 800000 in
theorem lwBoxNew_any (ao : Option Addr) (n cap : Nat) (w : World) (h : BytesIn w ao n) (hn : n ≤ cap) :
    Calls Tryz.prog 3 #[.slice ao n cap] w fun e w' => e = .returned (.bool true) ∧ Below w.heap.size w w' := by
  by_cases hb1 : 1048576 < n
  · clear h
    go_enter Tryz.func3, Tryz.ntmps3
    go_wp2_with fail
    go_ret
    exact ⟨rfl, Below.refl _ _⟩
  · exact lwBoxNew_of ao n cap w h hn hb1

end Go.Proofs.YtglpijjkihpeeaaGreatDoor
