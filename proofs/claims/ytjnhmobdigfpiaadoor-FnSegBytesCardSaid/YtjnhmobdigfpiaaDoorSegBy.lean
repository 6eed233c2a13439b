/- SegBytes of the specification and of the program, at every segment. Condition: its bytes are at most 2^21. -/
import Derived.Test.YtjnhmobdigfpiaaDoorPutW
import Derived.Test.YtjnhmobdigfpiaaDoorSegOk
import Derived.Test.YtjnhmobdigfpiaaDoorSegSum
import Derived.Test.YtjnhmobdigfpiaaDoorSegLaw
import Derived.Test.YtjnhmobdigfpiaaDoorIdx6
import Derived.Test.YtjnhmobdigfpiaaDoorByLaw
import Derived.Lib.AppendStr
namespace Go.Proofs.YtjnhmobdigfpiaaDoor
open Go.RowKit

theorem infoInt : (Tryd.prog.info? 3).map (fun i => (i.zero, i.size, i.bytes)) = some (some (.int .i64 0), 1, 8) := by kernel_rfl

/-- Numbers in two bytes each, one behind the other. -/
def wordsB (ws : List Nat) : List UInt8 := ws.flatMap wordL
theorem wordsB_len (ws : List Nat) : (wordsB ws).length = 2 * ws.length := by
  induction ws with
  | nil => rfl
  | cons a r ih => simp [wordsB] at ih ⊢; rw [ih]; simp [wordL]; omega
theorem wordsB_take {ws : List Nat} {k : Nat} (h : k < ws.length) : wordsB (ws.take (k + 1)) = wordsB (ws.take k) ++ wordL ws[k] := by
  unfold wordsB
  rw [List.take_succ_eq_append_getElem h, List.flatMap_append]
  simp only [List.flatMap_cons, List.flatMap_nil, List.append_nil]
theorem headL_words (sa sp da dp sq ak : Nat) (d : List UInt8) : headL ⟨sa, sp, da, dp, sq, ak, d⟩ = wordsB [sa, sp, da, dp, sq, ak] := by
  simp [headL, wordsB]
theorem six_lt {sa sp da dp sq ak k : Nat} (h0 : sa < 65536) (h1 : sp < 65536) (h2 : da < 65536) (h3 : dp < 65536) (h4 : sq < 65536) (h5 : ak < 65536) (hk : k < 6) :
    ∃ n, n < 65536 ∧ [sa, sp, da, dp, sq, ak][k]? = some n ∧ (#[Value.int .i64 sa, .int .i64 sp, .int .i64 da, .int .i64 dp, .int .i64 sq, .int .i64 ak] : Array Value)[k]? = some (.int .i64 n) := by
  match k, hk with
  | 0, _ => exact ⟨sa, h0, rfl, rfl⟩
  | 1, _ => exact ⟨sp, h1, rfl, rfl⟩
  | 2, _ => exact ⟨da, h2, rfl, rfl⟩
  | 3, _ => exact ⟨dp, h3, rfl, rfl⟩
  | 4, _ => exact ⟨sq, h4, rfl, rfl⟩
  | 5, _ => exact ⟨ak, h5, rfl, rfl⟩
theorem cell_new_at (w : World) (cs : Array Value) (t : TypeId) (i b : Nat) (hb : b = w.heap.size) : (w.alloc (.cells cs t)).cell? ⟨b, i, none⟩ = cs[i]? := by rw [hb]; exact (cell_new w cs t i).1
theorem own_made_at (w : World) (B b : Nat) (hB : B ≤ w.heap.size) (hb : b = w.heap.size) : OwnB (w.alloc (.cells #[] 5)) B (.slice (some ⟨b, 0, none⟩) 0 0) [] := by
  rw [hb]; exact World.ownsRow_made w #[] 0 hB (Nat.zero_le _) rfl
theorem one_cell (w : World) (a : Value) (t : TypeId) : ∀ (j : Nat) (u : Value), [a][j]? = some u → (w.alloc (.cells #[a] t)).cell? ((⟨w.heap.size, 0, none⟩ : Addr).add j) = some u := by
  intro j u hj
  match j, hj with
  | 0, hj => simp at hj; subst hj; rw [add_zeroB]; exact (cell_new w #[a] t 0).1

set_option maxRecDepth 100000 in
set_option maxHeartbeats 3200000 in
theorem specBody_any (sa sp da dp sq ak : Nat) (d : ByteArray) (w : World) (hd : d.size ≤ 12) (h0 : sa < 65536) (h1 : sp < 65536) (h2 : da < 65536) (h3 : dp < 65536) (h4 : sq < 65536) (h5 : ak < 65536) :
    Calls Tryd.prog 28 #[.agg #[.int .i64 sa, .int .i64 sp, .int .i64 da, .int .i64 dp, .int .i64 sq, .int .i64 ak, .string d]] w fun e w' => ∃ g cap, e = .returned (.slice (some ⟨g, 0, none⟩) (13 + d.size) cap) ∧ OwnB w' w.heap.size (.slice (some ⟨g, 0, none⟩) (13 + d.size) cap) (bodyL ⟨sa, sp, da, dp, sq, ak, d.data.toList⟩) ∧ Below w.heap.size w w' := by
  obtain ⟨i0, hi, hz0, hz1, hz2⟩ := info_parts infoByte
  obtain ⟨ws, hws⟩ : ∃ ws, ws = [sa, sp, da, dp, sq, ak] := ⟨_, rfl⟩
  have H6 : Hid (∀ k, k < 6 → ∃ n, n < 65536 ∧ wordsB (ws.take (k + 1)) = wordsB (ws.take k) ++ wordL n ∧ (#[Value.int .i64 sa, .int .i64 sp, .int .i64 da, .int .i64 dp, .int .i64 sq, .int .i64 ak] : Array Value)[k]? = some (.int .i64 n)) := fun k hk => by
    obtain ⟨n, hn, e1, e2⟩ := six_lt h0 h1 h2 h3 h4 h5 hk
    refine ⟨n, hn, ?_, e2⟩
    obtain ⟨hk2, e3⟩ := List.getElem?_eq_some_iff.1 e1
    rw [hws, wordsB_take hk2, e3]
  have HL : Hid (∀ k, k ≤ 6 → (wordsB (ws.take k)).length = 2 * k) := fun k hk => by
    rw [wordsB_len, List.length_take, hws]; simp; omega
  have HB : Hid (bodyL ⟨sa, sp, da, dp, sq, ak, d.data.toList⟩ = wordsB (ws.take 6) ++ [UInt8.ofNat d.size] ++ d.data.toList) := by
    show _ = _
    unfold bodyL
    rw [headL_words, hws, len_list]; rfl
  clear hws h0 h1 h2 h3 h4 h5
  go_enter Tryd.func28, Tryd.ntmps28
  go_wp2_with fail
  obtain ⟨W1, hW1⟩ : ∃ W1, W1 = ((w.alloc (.cells #[.int .i64 sa, .int .i64 sp, .int .i64 da, .int .i64 dp, .int .i64 sq, .int .i64 ak, .string d] 26)).alloc (.cells #[] 5)).alloc (.cells #[.int .i64 sa, .int .i64 sp, .int .i64 da, .int .i64 dp, .int .i64 sq, .int .i64 ak] 3) := ⟨_, rfl⟩
  rw [← hW1]
  have B1 : Hid (Below w.heap.size w W1) := by rw [hW1]; exact (((Below.refl _ _).alloc (Nat.le_refl _) _).alloc (by simp) _).alloc (by simp; omega) _
  have Z1 : w.heap.size + 1 + 1 < W1.heap.size := by rw [hW1]; simp
  have K6 : Hid (W1.cell? ⟨w.heap.size, 6, none⟩ = some (.string d)) := by
    show _ = _
    rw [hW1]; simp [go_sem]
  have KA : Hid (∀ k, W1.cell? ⟨w.heap.size + 1 + 1, k, none⟩ = (#[Value.int .i64 sa, .int .i64 sp, .int .i64 da, .int .i64 dp, .int .i64 sq, .int .i64 ak] : Array Value)[k]?) := fun k => by
    rw [hW1]
    exact cell_new_at _ _ _ _ _ (by simp)
  have O1 : Hid (OwnB W1 (w.heap.size + 1) (.slice (some ⟨w.heap.size + 1, 0, none⟩) 0 0) (wordsB (ws.take 0))) := by
    rw [hW1]
    exact (own_made_at _ _ _ (by simp) (by simp)).below ((Below.refl _ _).alloc (Nat.le_refl _) _)
  clear hW1
  go_loopw [3, 5] (fun b i wr => ∃ k g cap : Nat, k ≤ 6 ∧ i = .int .i64 k ∧ b = .slice (some ⟨g, 0, none⟩) (2 * k) cap ∧ OwnB wr (w.heap.size + 1) (.slice (some ⟨g, 0, none⟩) (2 * k) cap) (wordsB (ws.take k)) ∧ Below W1.heap.size W1 wr) (fun _ i _ => 6 - (intOf i).toNat)
  case atStart => exact ⟨0, _, 0, by omega, rfl, rfl, O1.out, Below.refl _ _⟩
  case round =>
    obtain ⟨k, g, cap, hk, rfl, rfl, ho, hb⟩ := hrel
    have hsz := hb.size
    by_cases hlt : k < 6
    · obtain ⟨n, hn, hN, hc⟩ := H6.out k hlt
      have hcell : wr.cell? ⟨w.heap.size + 1 + 1, k, none⟩ = some (.int .i64 (n : Int)) := by rw [hb.cell (p := ⟨w.heap.size + 1 + 1, k, none⟩) Z1, KA.out, hc]
      have hlen := HL.out k hk
      obtain ⟨_, hrow, hB, hg⟩ := row_own (by unfold OwnB at ho; rw [hlen] at ho; exact ho)
      have HP : Hid (Calls Tryd.prog 29 #[.slice (some ⟨g, 0, none⟩) (2 * k) cap, .int .i64 (n : Int)] wr fun e w' => ∃ g' cap', e = .returned (.slice (some ⟨g', 0, none⟩) (2 * (k + 1)) cap') ∧ OwnB w' (w.heap.size + 1) (.slice (some ⟨g', 0, none⟩) (2 * (k + 1)) cap') (wordsB (ws.take (k + 1))) ∧ Below W1.heap.size W1 w') := by
        have := specPutW_any g cap (wordsB (ws.take k)) n wr (by omega) hn hg hrow
        rw [hlen] at this
        refine this.mono ?_
        rintro e w' ⟨g', cap', rfl, o', b'⟩
        rw [show 2 * k + 2 = 2 * (k + 1) by omega] at o' ⊢
        exact ⟨g', cap', rfl, by rw [hN]; exact o'.mono (by omega), hb.trans (b'.mono hsz)⟩
      have hlt2 : (k : Int) < 6 := by omega
      clear ho hrow hN hc hlen hb
      go_wp2_with (go_at_call 29; refine HP.out.mono ?_; rintro e w2 ⟨g', cap', rfl, o', b'⟩)
      go_roundw
      case rel => exact ⟨k + 1, g', cap', by omega, by go_num, rfl, o', b'⟩
      case measure => simp [intOf]; omega
    · obtain rfl : k = 6 := by omega
      have HBW : Hid (Below w.heap.size w wr) := B1.out.trans (hb.mono (by omega))
      have k6 : wr.cell? ⟨w.heap.size, 6, none⟩ = some (.string d) := by rw [hb.cell (p := ⟨w.heap.size, 6, none⟩) (by show w.heap.size < _; omega), K6.out]
      have zr : w.heap.size + 1 + 1 < wr.heap.size := by omega
      have hl6 := HL.out 6 (Nat.le_refl _)
      have HO2 : Hid (wr.ownsRow (w.heap.size + 1) 5 1 (.slice (some ⟨g, 0, none⟩) (2 * 6) cap) 12 (byV (wordsB (ws.take 6)))) := by unfold OwnB at ho; rw [hl6] at ho; exact ho
      have HD1 : Hid (byV [UInt8.ofNat d.size] = [.int .u8 (d.size : Int)]) := by
        unfold byV
        simp only [List.map_cons, List.map_nil, List.cons.injEq, and_true]
        congr 1
        simp
        omega
      clear ho hb hl6
      go_wp2_with (at_builtin; refine wpList_append_own _ rfl (.tmp 36) (.tmp 41) 22 rfl (w.heap.size + 1) 5 i0 (.int .u8 0) 1 1 Tryd.underlying22 hi hz0 hz1 hz2 rfl (by decide) _ 12 (byV (wordsB (ws.take 6))) rfl (World.ownsRow.alloc HO2.out _) ⟨wr.heap.size, 0, none⟩ 1 1 [.int .u8 (d.size : Int)] rfl rfl (one_cell _ _ _) ?c2 ?c3 ?c4 ?c5 ?_)
      case c2 => intro u hu; simp at hu; subst hu; rfl
      case c3 => unfold maxLen; omega
      case c4 => omega
      case c5 => simp; omega
      intro v2 w2 hown2 hgrow2 hnz
      obtain ⟨g2, cap2, rfl⟩ : ∃ g2 cap2, v2 = .slice (some ⟨g2, 0, none⟩) 13 cap2 := by
        rcases hown2.2 with ⟨h1, _⟩ | ⟨g2, cap2, cur, h1, _⟩
        · exact absurd h1 (by simpa using hnz)
        · exact ⟨g2, cap2, h1⟩
      have HBX : Hid (Below (w.heap.size + 1) wr w2) := ((Below.refl _ _).alloc (by omega) _).grown hgrow2 (by simp; omega) (fun k hk => (World.ownsRow.lt HO2.out k hk).1)
      have HW2 := Lib.hid hown2
      have k62 : w2.cell? ⟨w.heap.size, 6, none⟩ = some (.string d) := by rw [HBX.out.cell (p := ⟨w.heap.size, 6, none⟩) (by show w.heap.size < _; omega)]; exact k6
      have zr2 := HBX.out.size
      clear hown2 hgrow2 hnz k6
      go_wp2_with (at_builtin; refine Lib.wpList_append_own_string _ rfl (.tmp 43) (.tmp 45) 22 9 rfl (w.heap.size + 1) 5 i0 Tryd.underlying22 Tryd.underlying9 hi hz0 hz1 hz2 (.slice (some ⟨g2, 0, none⟩) 13 cap2) 13 (byV (wordsB (ws.take 6)) ++ [Value.int .u8 (d.size : Int)]) rfl HW2.out d rfl ?c3 ?c4 ?c5 ?_)
      case c3 => unfold maxLen; omega
      case c4 => omega
      case c5 => omega
      intro v3 w3 hown3 hgrow3 hnz3
      obtain ⟨g3, cap3, rfl⟩ : ∃ g3 cap3, v3 = .slice (some ⟨g3, 0, none⟩) (13 + d.size) cap3 := by
        rcases hown3.2 with ⟨h1, _⟩ | ⟨g3, cap3, cur, h1, _⟩
        · exact absurd h1 (by simpa using hnz3)
        · exact ⟨g3, cap3, h1⟩
      have HBY : Hid (Below (w.heap.size + 1) w2 w3) := (Below.refl _ _).grown hgrow3 (by omega) (fun k hk => (World.ownsRow.lt HW2.out k hk).1)
      have HW3 := Lib.hid hown3
      clear hown3 hgrow3 hnz3
      go_wp2_with fail
      go_ret
      refine ⟨g3, cap3, rfl, ?_, HBW.out.trans ((HBX.out.trans HBY.out).mono (by omega))⟩
      refine OwnB.mono (B := w.heap.size + 1) ?_ (by omega)
      have := HW3.out
      unfold OwnB
      rw [HB.out, byV_app, byV_app, HD1.out, ← byV_str]
      have hl := HL.out 6 (Nat.le_refl _)
      rw [List.length_append, List.length_append, hl, len_list]
      simpa using this

set_option maxRecDepth 100000 in
set_option maxHeartbeats 6400000 in
theorem implBytes_ok (sa sp da dp sq ak : Nat) (d : ByteArray) (w : World) (hd : d.size ≤ 12) (h0 : sa < 65536) (h1 : sp < 65536) (h2 : da < 65536) (h3 : dp < 65536) (h4 : sq < 65536) (h5 : ak < 65536) (hok : segOkB ⟨sa, sp, da, dp, sq, ak, d.data.toList⟩ = true) :
    Calls Tryd.prog 7 #[.agg #[.int .i64 sa, .int .i64 sp, .int .i64 da, .int .i64 dp, .int .i64 sq, .int .i64 ak, .string d]] w fun e w' => ∃ v, e = .returned v ∧ OwnB w' w.heap.size v (segL ⟨sa, sp, da, dp, sq, ak, d.data.toList⟩) ∧ Below w.heap.size w w' := by
  have HO : Hid (∀ w, Calls Tryd.prog 10 #[.agg #[.int .i64 sa, .int .i64 sp, .int .i64 da, .int .i64 dp, .int .i64 sq, .int .i64 ak, .string d]] w fun e w' => e = .returned (.bool true) ∧ Below w.heap.size w w') := fun w => by
    have := implSegOk_any sa sp da dp sq ak d w (by omega)
    rwa [hok] at this
  obtain ⟨i0, hi, hz0, hz1, hz2⟩ := info_parts infoByte
  obtain ⟨ws, hws⟩ : ∃ ws, ws = [sa, sp, da, dp, sq, ak] := ⟨_, rfl⟩
  have H6 : Hid (∀ k, k < 6 → ∃ n, n < 65536 ∧ wordsB (ws.take (k + 1)) = wordsB (ws.take k) ++ wordL n ∧ (#[Value.int .i64 sa, .int .i64 sp, .int .i64 da, .int .i64 dp, .int .i64 sq, .int .i64 ak] : Array Value)[k]? = some (.int .i64 n)) := fun k hk => by
    obtain ⟨n, hn, e1, e2⟩ := six_lt h0 h1 h2 h3 h4 h5 hk
    refine ⟨n, hn, ?_, e2⟩
    obtain ⟨hk2, e3⟩ := List.getElem?_eq_some_iff.1 e1
    rw [hws, wordsB_take hk2, e3]
  have HL : Hid (∀ k, k ≤ 6 → (wordsB (ws.take k)).length = 2 * k) := fun k hk => by
    rw [wordsB_len, List.length_take, hws]; simp; omega
  obtain ⟨bl, hbl⟩ : ∃ bl, bl = bodyL ⟨sa, sp, da, dp, sq, ak, d.data.toList⟩ := ⟨_, rfl⟩
  have HB : Hid (bl = wordsB (ws.take 6) ++ [UInt8.ofNat d.size] ++ d.data.toList) := by
    show _ = _
    rw [hbl]
    unfold bodyL
    rw [headL_words, hws, len_list]; rfl
  have HBL : Hid (bl.length = 13 + d.size) := by show _ = _; rw [hbl, bodyL_len, len_list]
  have HSL : Hid (segL ⟨sa, sp, da, dp, sq, ak, d.data.toList⟩ = bl ++ wordL (sumL bl)) := by rw [hbl]; rfl
  obtain ⟨sl, hsl⟩ : ∃ sl, sl = segL ⟨sa, sp, da, dp, sq, ak, d.data.toList⟩ := ⟨_, rfl⟩
  rw [← hsl] at HSL ⊢
  obtain ⟨sm, hsm⟩ : ∃ sm, sm = sumL bl := ⟨_, rfl⟩
  have HSM : Hid (sumL bl = sm) := hsm.symm
  have hsml : sm < 65536 := by have := sumL_lt bl; omega
  clear hsl hbl hws h0 h1 h2 h3 h4 h5 hok hsm
  go_enter Tryd.func7, Tryd.ntmps7
  go_wp2_with (go_at_call 10; refine (HO.out _).mono ?_; rintro e w1 ⟨rfl, b1⟩; obtain ⟨c1, f1⟩ := bcell b1)
  have Z1 : w.heap.size < w1.heap.size := by have := b1.size; simp at this; omega
  have B1 := Lib.hid (below_box b1)
  have K6 : Hid (w1.cell? ⟨w.heap.size, 6, none⟩ = some (.string d)) := by
    show _ = _
    rw [c1 _ _ (by simp)]; simp [go_sem]
  clear c1 f1 b1 HO
  go_loopw [3, 26] (fun b i wr => ∃ (k : Nat) (v : Value), k ≤ 6 ∧ i = .int .i64 k ∧ v = b ∧ OwnB wr w1.heap.size v (wordsB (ws.take k)) ∧ Below w1.heap.size w1 wr) (fun _ i _ => 6 - (intOf i).toNat)
  case atStart => exact ⟨0, _, by omega, rfl, rfl, OwnB.nil _ _, Below.refl _ _⟩
  case round =>
    obtain ⟨k, v, hk, rfl, rfl, ho, hb⟩ := hrel
    have hsz := hb.size
    by_cases hlt : k < 6
    · obtain ⟨n, hn, hN, hc⟩ := H6.out k hlt
      have HP : Hid (Calls Tryd.prog 27 #[v, .int .i64 (n : Int)] wr fun e w' => ∃ v', e = .returned v' ∧ OwnB w' w1.heap.size v' (wordsB (ws.take (k + 1))) ∧ Below w1.heap.size w1 w') := by
        refine (implWord_any w1.heap.size v (wordsB (ws.take k)) n wr (by rw [HL.out k hk]; omega) hn hsz ho).mono ?_
        rintro e w' ⟨v', rfl, o', b'⟩
        exact ⟨v', rfl, by rw [hN]; exact o', hb.trans b'⟩
      have hlt2 : (k : Int) < 6 := by omega
      clear ho hN hb
      have hidx := run_idx6 _ k _ wr hlt hc
      clear hc
      go_wp2_with (go_at_call 27; refine HP.out.mono ?_; rintro e w2 ⟨v', rfl, o', b'⟩)
      go_roundw
      case rel => exact ⟨k + 1, v', by omega, by go_num, rfl, o', b'⟩
      case measure => simp [intOf]; omega
    · obtain rfl : k = 6 := by omega
      have HBW : Hid (Below w.heap.size w wr) := B1.out.trans (hb.mono (by omega))
      have k6 : wr.cell? ⟨w.heap.size, 6, none⟩ = some (.string d) := by rw [hb.cell (p := ⟨w.heap.size, 6, none⟩) (by show w.heap.size < _; omega), K6.out]
      have hl6 := HL.out 6 (Nat.le_refl _)
      obtain ⟨a, cap, ev⟩ := ho.form
      rw [hl6] at ev
      have HO2 : Hid (wr.ownsRow w1.heap.size 5 1 (.slice a 12 cap) 12 (byV (wordsB (ws.take 6)))) := by unfold OwnB at ho; rw [hl6] at ho; rw [ev] at ho; exact ho
      subst ev
      have HD1 : Hid (byV [UInt8.ofNat d.size] = [.int .u8 (d.size : Int)]) := by
        unfold byV
        simp only [List.map_cons, List.map_nil, List.cons.injEq, and_true]
        congr 1
        simp
        omega
      clear ho hb hl6
      go_wp2_with (at_builtin; refine wpList_append_own _ rfl (.tmp 33) (.tmp 38) 22 rfl w1.heap.size 5 i0 (.int .u8 0) 1 1 Tryd.underlying22 hi hz0 hz1 hz2 rfl (by decide) (.slice a 12 cap) 12 (byV (wordsB (ws.take 6))) rfl (World.ownsRow.alloc HO2.out _) ⟨wr.heap.size, 0, none⟩ 1 1 [Value.int .u8 (d.size : Int)] rfl rfl (one_cell _ _ _) ?c2 ?c3 ?c4 ?c5 ?_)
      case c2 => intro u hu; simp at hu; subst hu; rfl
      case c3 => unfold maxLen; omega
      case c4 => omega
      case c5 => simp; omega
      intro v2 w2 hown2 hgrow2 hnz
      obtain ⟨g2, cap2, rfl⟩ : ∃ g2 cap2, v2 = .slice (some ⟨g2, 0, none⟩) 13 cap2 := by
        rcases hown2.2 with ⟨h1, _⟩ | ⟨g2, cap2, cur, h1, _⟩
        · exact absurd h1 (by simpa using hnz)
        · exact ⟨g2, cap2, h1⟩
      have HBX : Hid (Below w1.heap.size wr w2) := ((Below.refl _ _).alloc (by omega) _).grown hgrow2 (by simp; omega) (fun k hk => (World.ownsRow.lt HO2.out k hk).1)
      have HW2 := Lib.hid hown2
      have k62 : w2.cell? ⟨w.heap.size, 6, none⟩ = some (.string d) := by rw [HBX.out.cell (p := ⟨w.heap.size, 6, none⟩) Z1]; exact k6
      have zr2 := HBX.out.size
      clear hown2 hgrow2 hnz k6
      go_wp2_with (at_builtin; refine Lib.wpList_append_own_string _ rfl (.tmp 40) (.tmp 42) 22 9 rfl w1.heap.size 5 i0 Tryd.underlying22 Tryd.underlying9 hi hz0 hz1 hz2 (.slice (some ⟨g2, 0, none⟩) 13 cap2) 13 (byV (wordsB (ws.take 6)) ++ [Value.int .u8 (d.size : Int)]) rfl HW2.out d rfl ?c3 ?c4 ?c5 ?_)
      case c3 => unfold maxLen; omega
      case c4 => omega
      case c5 => omega
      intro v3 w3 hown3 hgrow3 hnz3
      obtain ⟨g3, cap3, rfl⟩ : ∃ g3 cap3, v3 = .slice (some ⟨g3, 0, none⟩) (13 + d.size) cap3 := by
        rcases hown3.2 with ⟨h1, _⟩ | ⟨g3, cap3, cur, h1, _⟩
        · exact absurd h1 (by simpa using hnz3)
        · exact ⟨g3, cap3, h1⟩
      have HBY : Hid (Below w1.heap.size w2 w3) := (Below.refl _ _).grown hgrow3 (by omega) (fun k hk => (World.ownsRow.lt HW2.out k hk).1)
      have hw3 : OwnB w3 w1.heap.size (.slice (some ⟨g3, 0, none⟩) (13 + d.size) cap3) bl := by
        have hl := HBL.out
        unfold OwnB
        rw [hl, HB.out, byV_app, byV_app, HD1.out, ← byV_str]
        simpa using hown3
      have HW3 := Lib.hid hw3
      clear hw3
      have hbl := HBL.out
      have zr3 := HBY.out.size
      have HS : Hid (Calls Tryd.prog 12 #[.slice (some ⟨g3, 0, none⟩) (13 + d.size) cap3] w3 fun e w' => e = .returned (.int .i64 sm) ∧ w3 = w') := by
        have := implSum_any (.slice (some ⟨g3, 0, none⟩) (13 + d.size) cap3) bl w3 (by omega) HW3.out.rd
        rwa [HSM.out] at this
      have HX : Hid (Calls Tryd.prog 27 #[.slice (some ⟨g3, 0, none⟩) (13 + d.size) cap3, .int .i64 (sm : Int)] w3 fun e w' => ∃ v', e = .returned v' ∧ OwnB w' w1.heap.size v' sl ∧ Below w1.heap.size w3 w') := by
        rw [HSL.out, HSM.out]
        exact implWord_any w1.heap.size _ bl sm w3 (by omega) hsml (by omega) HW3.out
      clear hown3 hgrow3 hnz3 hbl
      go_wp2_with fail
      (go_at_call 12; refine HS.out.mono ?_; rintro e w' ⟨rfl, rfl⟩)
      go_wp2_with fail
      (go_at_call 27; refine HX.out.mono ?_; rintro e w4 ⟨v', rfl, o', b'⟩)
      go_wp2_with fail
      go_ret
      exact ⟨_, rfl, o'.mono (by omega), HBW.out.trans (((HBX.out.trans HBY.out).trans b').mono (by omega))⟩

theorem segOk_nats {sa sp da dp sq ak : Int} {d : ByteArray} (h : segOkB ⟨sa, sp, da, dp, sq, ak, d.data.toList⟩ = true) :
    d.size ≤ 12 ∧ ∃ a b c e f g : Nat, sa = a ∧ sp = b ∧ da = c ∧ dp = e ∧ sq = f ∧ ak = g ∧ a < 65536 ∧ b < 65536 ∧ c < 65536 ∧ e < 65536 ∧ f < 65536 ∧ g < 65536 := by
  obtain ⟨⟨a1, a2, b1, b2, c1, c2, d1, d2⟩, ⟨e1, e2, f1, f2⟩, hl⟩ := segOk_bounds h
  rw [len_list] at hl
  simp only at *
  exact ⟨hl, sa.toNat, sp.toNat, da.toNat, dp.toNat, sq.toNat, ak.toNat, by omega, by omega, by omega, by omega, by omega, by omega, by omega, by omega, by omega, by omega, by omega, by omega⟩

set_option maxRecDepth 100000 in
set_option maxHeartbeats 1600000 in
theorem implBytes_any (sa sp da dp sq ak : Int) (d : ByteArray) (w : World) (hd : d.size ≤ 2097152) :
    Calls Tryd.prog 7 #[.agg #[.int .i64 sa, .int .i64 sp, .int .i64 da, .int .i64 dp, .int .i64 sq, .int .i64 ak, .string d]] w fun e w' => ∃ v, e = .returned v ∧ OwnB w' w.heap.size v (segBytesL ⟨sa, sp, da, dp, sq, ak, d.data.toList⟩) ∧ Below w.heap.size w w' := by
  cases hok : segOkB ⟨sa, sp, da, dp, sq, ak, d.data.toList⟩
  · have HN : Hid (segBytesL ⟨sa, sp, da, dp, sq, ak, d.data.toList⟩ = []) := by unfold segBytesL; rw [hok]; rfl
    have HO : Hid (∀ w, Calls Tryd.prog 10 #[.agg #[.int .i64 sa, .int .i64 sp, .int .i64 da, .int .i64 dp, .int .i64 sq, .int .i64 ak, .string d]] w fun e w' => e = .returned (.bool false) ∧ Below w.heap.size w w') := fun w => by
      have := implSegOk_any sa sp da dp sq ak d w hd
      rwa [hok] at this
    rw [HN.out]
    clear hok HN
    go_enter Tryd.func7, Tryd.ntmps7
    go_wp2_with (go_at_call 10; refine (HO.out _).mono ?_; rintro e w1 ⟨rfl, b1⟩)
    go_ret
    exact ⟨_, rfl, OwnB.nil _ _, below_box b1⟩
  · have HN : segBytesL ⟨sa, sp, da, dp, sq, ak, d.data.toList⟩ = segL ⟨sa, sp, da, dp, sq, ak, d.data.toList⟩ := by unfold segBytesL; rw [hok]; rfl
    rw [HN]
    obtain ⟨hl, a, b, c, f, g, h, rfl, rfl, rfl, rfl, rfl, rfl, h0, h1, h2, h3, h4, h5⟩ := segOk_nats hok
    exact implBytes_ok a b c f g h d w hl h0 h1 h2 h3 h4 h5 hok

set_option maxRecDepth 100000 in
set_option maxHeartbeats 3200000 in
theorem specBytes_any (sa sp da dp sq ak : Int) (d : ByteArray) (w : World) (hd : d.size ≤ 2097152) :
    Calls Tryd.prog 9 #[.agg #[.int .i64 sa, .int .i64 sp, .int .i64 da, .int .i64 dp, .int .i64 sq, .int .i64 ak, .string d]] w fun e w' => ∃ g cap, e = .returned (.slice (some ⟨g, 0, none⟩) (segBytesL ⟨sa, sp, da, dp, sq, ak, d.data.toList⟩).length cap) ∧ OwnB w' w.heap.size (.slice (some ⟨g, 0, none⟩) (segBytesL ⟨sa, sp, da, dp, sq, ak, d.data.toList⟩).length cap) (segBytesL ⟨sa, sp, da, dp, sq, ak, d.data.toList⟩) ∧ Below w.heap.size w w' := by
  have HO : Hid (∀ w, Calls Tryd.prog 11 #[.agg #[.int .i64 sa, .int .i64 sp, .int .i64 da, .int .i64 dp, .int .i64 sq, .int .i64 ak, .string d]] w fun e w' => e = .returned (.bool (segOkB ⟨sa, sp, da, dp, sq, ak, d.data.toList⟩)) ∧ Below w.heap.size w w') := fun w => specSegOk_any sa sp da dp sq ak d w hd
  cases hok : segOkB ⟨sa, sp, da, dp, sq, ak, d.data.toList⟩
  · have HN : Hid (segBytesL ⟨sa, sp, da, dp, sq, ak, d.data.toList⟩ = []) := by unfold segBytesL; rw [hok]; rfl
    rw [hok] at HO
    rw [HN.out]
    clear hok HN
    go_enter Tryd.func9, Tryd.ntmps9
    go_wp2_with (go_at_call 11; refine (HO.out _).mono ?_; rintro e w1 ⟨rfl, b1⟩)
    go_ret
    refine ⟨_, _, rfl, own_made_at w1 _ _ ?_ rfl, (below_box b1).alloc ?_ _⟩
    · have := b1.size; simp at this; omega
    · have := b1.size; simp at this; omega
  · have HN : segBytesL ⟨sa, sp, da, dp, sq, ak, d.data.toList⟩ = segL ⟨sa, sp, da, dp, sq, ak, d.data.toList⟩ := by unfold segBytesL; rw [hok]; rfl
    rw [HN, segL_len]
    rw [hok] at HO
    obtain ⟨hl, a, b, c, f, g, h, rfl, rfl, rfl, rfl, rfl, rfl, h0, h1, h2, h3, h4, h5⟩ := segOk_nats hok
    have HP : Hid (∀ w, Calls Tryd.prog 28 #[.agg #[.int .i64 a, .int .i64 b, .int .i64 c, .int .i64 f, .int .i64 g, .int .i64 h, .string d]] w fun e w' => ∃ x cap, e = .returned (.slice (some ⟨x, 0, none⟩) (13 + d.size) cap) ∧ OwnB w' w.heap.size (.slice (some ⟨x, 0, none⟩) (13 + d.size) cap) (bodyL ⟨a, b, c, f, g, h, d.data.toList⟩) ∧ Below w.heap.size w w') := fun w => specBody_any a b c f g h d w hl h0 h1 h2 h3 h4 h5
    have hbl : (bodyL ⟨a, b, c, f, g, h, d.data.toList⟩).length = 13 + d.size := by rw [bodyL_len, len_list]
    have hse : segL ⟨a, b, c, f, g, h, d.data.toList⟩ = bodyL ⟨a, b, c, f, g, h, d.data.toList⟩ ++ wordL (sumL (bodyL ⟨a, b, c, f, g, h, d.data.toList⟩)) := rfl
    have hsl := sumL_lt (bodyL ⟨a, b, c, f, g, h, d.data.toList⟩)
    obtain ⟨sl, hsl2⟩ : ∃ sl, sl = segL ⟨a, b, c, f, g, h, d.data.toList⟩ := ⟨_, rfl⟩
    obtain ⟨bl, hbl2⟩ : ∃ bl, bl = bodyL ⟨a, b, c, f, g, h, d.data.toList⟩ := ⟨_, rfl⟩
    rw [← hsl2] at hse ⊢
    rw [← hbl2] at hse hbl hsl HP
    obtain ⟨sm, hsm⟩ : ∃ sm, sm = sumL bl := ⟨_, rfl⟩
    rw [← hsm] at hse hsl
    have HB := Lib.hid hbl
    have HE := Lib.hid hse
    have HM := Lib.hid hsm
    simp only [len_list] 
    clear hsl2 hbl2 hbl hse hsm hok HN h0 h1 h2 h3 h4 h5
    go_enter Tryd.func9, Tryd.ntmps9
    go_wp2_with fail
    (go_at_call 11; refine (HO.out _).mono ?_; rintro e w1 ⟨rfl, b1⟩; obtain ⟨c1, f1⟩ := bcell b1; have s1 : w.heap.size < w1.heap.size := by (have := b1.size; simp at this; omega))
    go_wp2_with fail
    (go_at_call 28; refine (HP.out _).mono ?_; rintro e w2 ⟨x, cap, rfl, o2, b2⟩)
    have z2 := b2.size
    have HS : Hid (Calls Tryd.prog 13 #[.slice (some ⟨x, 0, none⟩) (13 + d.size) cap] w2 fun e w' => e = .returned (.int .i64 sm) ∧ w2 = w') := by
      have hb := HB.out
      have := specSum_any (.slice (some ⟨x, 0, none⟩) (13 + d.size) cap) bl w2 (by omega) o2.rd
      rwa [← HM.out] at this
    have HX : Hid (Calls Tryd.prog 29 #[.slice (some ⟨x, 0, none⟩) (13 + d.size) cap, .int .i64 (sm : Int)] w2 fun e w' => ∃ g' cap', e = .returned (.slice (some ⟨g', 0, none⟩) (15 + d.size) cap') ∧ OwnB w' w2.heap.size (.slice (some ⟨g', 0, none⟩) (15 + d.size) cap') sl ∧ Below w2.heap.size w2 w') := by
      have hb := HB.out
      obtain ⟨_, hrow, _, hg⟩ := row_own (by unfold OwnB at o2; rw [hb] at o2; exact o2)
      have := specPutW_any x cap bl sm w2 (by omega) (by omega) hg hrow
      rw [hb, show 13 + d.size + 2 = 15 + d.size by omega] at this
      rw [HE.out]
      exact this
    clear o2
    go_wp2_with fail
    (go_at_call 13; refine HS.out.mono ?_; rintro e w' ⟨rfl, rfl⟩)
    go_wp2_with fail
    (go_at_call 29; refine HX.out.mono ?_; rintro e w3 ⟨g', cap', rfl, o3, b3⟩)
    go_wp2_with fail
    go_ret
    exact ⟨_, _, rfl, o3.mono (by omega), (below_box b1).trans ((b2.trans (b3.mono z2)).mono (by omega))⟩

end Go.Proofs.YtjnhmobdigfpiaaDoor
