/- RulRead of the specification, by the words of a text. Condition: the text has at most 2^21 bytes. -/
import Derived.Test.YtjnhmobdigfpiaaDoorWordK
import Derived.Test.YtjnhmobdigfpiaaDoorWords
import Derived.Test.YtjnhmobdigfpiaaDoorRulLaw
import Derived.Deep.RegionHeld3
import Derived.Deep.DeepCutAuto
import Derived.Lib.SmallJoins
namespace Go.Proofs.YtjnhmobdigfpiaaDoor
open Go.RowKit

theorem infoInt : (Tryd.prog.info? 3).map (fun i => (i.zero, i.size, i.bytes)) = some (some (.int .i64 0), 1, 8) := by kernel_rfl
theorem rdW_some {w a b c d e f : List UInt8} (hh : headB w = true) (h : ruleB ⟨decide (w = allowL), numL a, numL b, numL c, numL d, numL e, numL f⟩ = true) : rdTV (rdW [w, a, b, c, d, e, f]) = .tuple #[.agg #[.bool (decide (w = allowL)), .int .i64 (numL a), .int .i64 (numL b), .int .i64 (numL c), .int .i64 (numL d), .int .i64 (numL e), .int .i64 (numL f)], .bool true] := by
  rw [(show rdW [w, a, b, c, d, e, f] = (if headB w = true ∧ ruleB ⟨decide (w = allowL), numL a, numL b, numL c, numL d, numL e, numL f⟩ = true then some ⟨decide (w = allowL), numL a, numL b, numL c, numL d, numL e, numL f⟩ else none) from rfl), if_pos ⟨hh, h⟩]; rfl
theorem rdW_none {w a b c d e f : List UInt8} (h : ¬ (headB w = true ∧ ruleB ⟨decide (w = allowL), numL a, numL b, numL c, numL d, numL e, numL f⟩ = true)) : rdTV (rdW [w, a, b, c, d, e, f]) = .tuple #[.agg #[.bool false, .int .i64 0, .int .i64 0, .int .i64 0, .int .i64 0, .int .i64 0, .int .i64 0], .bool false] := by
  rw [(show rdW [w, a, b, c, d, e, f] = (if headB w = true ∧ ruleB ⟨decide (w = allowL), numL a, numL b, numL c, numL d, numL e, numL f⟩ = true then some ⟨decide (w = allowL), numL a, numL b, numL c, numL d, numL e, numL f⟩ else none) from rfl), if_neg h]; rfl
theorem rdW_len {l : List (List UInt8)} (h : l.length ≠ 7) : rdW l = none := by
  unfold rdW
  split
  · simp at h
  · rfl

/-- A new box of seven noughts, stored anew behind a call. -/
theorem zero_seven {w w1 : World} {t : TypeId} (c1 : ∀ b o, b < (w.alloc (.cells #[.bool false, .int .i64 0, .int .i64 0, .int .i64 0, .int .i64 0, .int .i64 0, .int .i64 0] t)).heap.size → w1.cell? ⟨b, o, none⟩ = (w.alloc (.cells #[.bool false, .int .i64 0, .int .i64 0, .int .i64 0, .int .i64 0, .int .i64 0, .int .i64 0] t)).cell? ⟨b, o, none⟩) {u0 u1 u2 u3 u4 u5 u6 : Value} :
    (((((((w1.setCell ⟨w.heap.size, 0, none⟩ u0).setCell ⟨w.heap.size, 1, none⟩ u1).setCell ⟨w.heap.size, 2, none⟩ u2).setCell ⟨w.heap.size, 3, none⟩ u3).setCell ⟨w.heap.size, 4, none⟩ u4).setCell ⟨w.heap.size, 5, none⟩ u5).setCell ⟨w.heap.size, 6, none⟩ u6).cell? ⟨w.heap.size, 0, none⟩ = some u0 ∧ (((((((w1.setCell ⟨w.heap.size, 0, none⟩ u0).setCell ⟨w.heap.size, 1, none⟩ u1).setCell ⟨w.heap.size, 2, none⟩ u2).setCell ⟨w.heap.size, 3, none⟩ u3).setCell ⟨w.heap.size, 4, none⟩ u4).setCell ⟨w.heap.size, 5, none⟩ u5).setCell ⟨w.heap.size, 6, none⟩ u6).cell? ⟨w.heap.size, 1, none⟩ = some u1 ∧ (((((((w1.setCell ⟨w.heap.size, 0, none⟩ u0).setCell ⟨w.heap.size, 1, none⟩ u1).setCell ⟨w.heap.size, 2, none⟩ u2).setCell ⟨w.heap.size, 3, none⟩ u3).setCell ⟨w.heap.size, 4, none⟩ u4).setCell ⟨w.heap.size, 5, none⟩ u5).setCell ⟨w.heap.size, 6, none⟩ u6).cell? ⟨w.heap.size, 2, none⟩ = some u2 ∧ (((((((w1.setCell ⟨w.heap.size, 0, none⟩ u0).setCell ⟨w.heap.size, 1, none⟩ u1).setCell ⟨w.heap.size, 2, none⟩ u2).setCell ⟨w.heap.size, 3, none⟩ u3).setCell ⟨w.heap.size, 4, none⟩ u4).setCell ⟨w.heap.size, 5, none⟩ u5).setCell ⟨w.heap.size, 6, none⟩ u6).cell? ⟨w.heap.size, 3, none⟩ = some u3 ∧ (((((((w1.setCell ⟨w.heap.size, 0, none⟩ u0).setCell ⟨w.heap.size, 1, none⟩ u1).setCell ⟨w.heap.size, 2, none⟩ u2).setCell ⟨w.heap.size, 3, none⟩ u3).setCell ⟨w.heap.size, 4, none⟩ u4).setCell ⟨w.heap.size, 5, none⟩ u5).setCell ⟨w.heap.size, 6, none⟩ u6).cell? ⟨w.heap.size, 4, none⟩ = some u4 ∧ (((((((w1.setCell ⟨w.heap.size, 0, none⟩ u0).setCell ⟨w.heap.size, 1, none⟩ u1).setCell ⟨w.heap.size, 2, none⟩ u2).setCell ⟨w.heap.size, 3, none⟩ u3).setCell ⟨w.heap.size, 4, none⟩ u4).setCell ⟨w.heap.size, 5, none⟩ u5).setCell ⟨w.heap.size, 6, none⟩ u6).cell? ⟨w.heap.size, 5, none⟩ = some u5 ∧ (((((((w1.setCell ⟨w.heap.size, 0, none⟩ u0).setCell ⟨w.heap.size, 1, none⟩ u1).setCell ⟨w.heap.size, 2, none⟩ u2).setCell ⟨w.heap.size, 3, none⟩ u3).setCell ⟨w.heap.size, 4, none⟩ u4).setCell ⟨w.heap.size, 5, none⟩ u5).setCell ⟨w.heap.size, 6, none⟩ u6).cell? ⟨w.heap.size, 6, none⟩ = some u6 :=
  set_seven u0 u1 u2 u3 u4 u5 u6 (x0 := .bool false) (x1 := .int .i64 0) (x2 := .int .i64 0) (x3 := .int .i64 0) (x4 := .int .i64 0) (x5 := .int .i64 0) (x6 := .int .i64 0) (by rw [c1 _ _ (by simp)]; exact (cell_new w _ _ 0).1) (by rw [c1 _ _ (by simp)]; exact (cell_new w _ _ 1).1) (by rw [c1 _ _ (by simp)]; exact (cell_new w _ _ 2).1) (by rw [c1 _ _ (by simp)]; exact (cell_new w _ _ 3).1) (by rw [c1 _ _ (by simp)]; exact (cell_new w _ _ 4).1) (by rw [c1 _ _ (by simp)]; exact (cell_new w _ _ 5).1) (by rw [c1 _ _ (by simp)]; exact (cell_new w _ _ 6).1)
theorem bR_draw {w w' : World} {B : Nat} (k : Nat) (h : Below B w w') : Below B w (w'.drewN k) := h.trans ⟨rfl, rfl, rfl, Nat.le_refl _, fun _ _ => rfl⟩
theorem bR_dr {B : Nat} {W X : World} (h : Below B W X) : Below B W X.drew := bR_draw 1 h
theorem bR_al {W X : World} (h : Below W.heap.size W X) (o : Obj) : Below W.heap.size W (X.alloc o) := h.alloc h.size o
theorem bR_7 {B : Nat} {w X : World} {b : Nat} (h : Below B w X) (hb : B ≤ b) (v0 v1 v2 v3 v4 v5 v6 : Value) : Below B w (((((((X.setCell ⟨b, 0, none⟩ v0).setCell ⟨b, 1, none⟩ v1).setCell ⟨b, 2, none⟩ v2).setCell ⟨b, 3, none⟩ v3).setCell ⟨b, 4, none⟩ v4).setCell ⟨b, 5, none⟩ v5).setCell ⟨b, 6, none⟩ v6) := ((((((h.setCell hb _).setCell hb _).setCell hb _).setCell hb _).setCell hb _).setCell hb _).setCell hb _

set_option maxRecDepth 100000 in
set_option maxHeartbeats 800000 in
theorem specRulRd_len (s : ByteArray) (w : World) (hs : s.size ≤ 2097152) (h : (wordsL s.data.toList).length ≠ 7) :
    Calls Tryd.prog 19 #[.string s] w fun e w' => e = .returned (.tuple #[.agg #[.bool false, .int .i64 0, .int .i64 0, .int .i64 0, .int .i64 0, .int .i64 0, .int .i64 0], .bool false]) ∧ Below w.heap.size w w' := by
  have hne : (((wordsL s.data.toList).length : Int) == 7) = false := by simp; omega
  have hne2 : (((wordsL s.data.toList).length : Int) != 7) = true := by simp; omega
  have H := Lib.hid h
  clear h
  go_enter Tryd.func19, Tryd.ntmps19
  go_wp2_with fail
  (go_at_call 42; refine (specWords_any _ _ hs).mono ?_; rintro e w1 ⟨v, rfl, own1, b1⟩; obtain ⟨a1, cap1, rfl⟩ := own_form own1; obtain ⟨c1, f1⟩ := bcell b1)
  go_wp2_with fail
  obtain ⟨q0, q1, q2, q3, q4, q5, q6⟩ := zero_seven (w := w) (w1 := w1) c1 (u0 := .bool false) (u1 := .int .i64 0) (u2 := .int .i64 0) (u3 := .int .i64 0) (u4 := .int .i64 0) (u5 := .int .i64 0) (u6 := .int .i64 0)
  refine bodyPost_ret (v := .tuple #[.agg #[.bool false, .int .i64 0, .int .i64 0, .int .i64 0, .int .i64 0, .int .i64 0, .int .i64 0], .bool false]) (by simp [results, Tryd.results19, go_sem, q0, q1, q2, q3, q4, q5, q6]) rfl ⟨rfl, ?_⟩
  exact (((((((below_box b1).setCell (Nat.le_refl _) _).setCell (Nat.le_refl _) _).setCell (Nat.le_refl _) _).setCell (Nat.le_refl _) _).setCell (Nat.le_refl _) _).setCell (Nat.le_refl _) _).setCell (Nat.le_refl _) _

set_option maxRecDepth 100000 in
set_option maxHeartbeats 800000 in
theorem specRulRd_head (s : ByteArray) (x0 : List UInt8) (xs : List (List UInt8)) (w : World) (hs : s.size ≤ 2097152) (h : wordsL s.data.toList = x0 :: xs) (hl : xs.length = 6) (hh : headB x0 = false) :
    Calls Tryd.prog 19 #[.string s] w fun e w' => e = .returned (.tuple #[.agg #[.bool false, .int .i64 0, .int .i64 0, .int .i64 0, .int .i64 0, .int .i64 0, .int .i64 0], .bool false]) ∧ Below w.heap.size w w' := by
  have HW : ∀ w, Calls Tryd.prog 42 #[.string s] w fun e w' => ∃ v, e = .returned v ∧ w'.ownsRow w.heap.size 9 1 v 7 (strV x0 :: xs.map strV) ∧ Below w.heap.size w w' := by
    intro w; have := specWords_any s w hs; rw [h, List.length_cons, hl] at this; exact this
  have H := Lib.hid HW
  unfold headB at hh
  simp only [Bool.or_eq_false_iff, decide_eq_false_iff_not] at hh
  have h1 : (x0 == [97, 108, 108, 111, 119]) = false := by rw [beq_eq_false_iff_ne]; exact hh.1
  have h2 : (x0 == [100, 101, 110, 121]) = false := by rw [beq_eq_false_iff_ne]; exact hh.2
  clear h HW hh
  go_enter Tryd.func19, Tryd.ntmps19
  go_wp2_with fail
  (go_at_call 42; refine (H.out _).mono ?_; rintro e w1 ⟨v, rfl, own1, b1⟩; obtain ⟨g, cap, rfl, hcap, gB, gl, row⟩ := RowAt.of_own own1 (by simp); obtain ⟨c1, f1⟩ := bcell b1; have k0 : w1.cell? ⟨g, 0, none⟩ = some (.string ⟨x0.toArray⟩) := (row 0 (by simp)).1)
  clear own1 row
  go_wp2_with fail
  obtain ⟨q0, q1, q2, q3, q4, q5, q6⟩ := zero_seven (w := w) (w1 := w1) c1 (u0 := .bool false) (u1 := .int .i64 0) (u2 := .int .i64 0) (u3 := .int .i64 0) (u4 := .int .i64 0) (u5 := .int .i64 0) (u6 := .int .i64 0)
  refine bodyPost_ret (v := .tuple #[.agg #[.bool false, .int .i64 0, .int .i64 0, .int .i64 0, .int .i64 0, .int .i64 0, .int .i64 0], .bool false]) (by simp [results, Tryd.results19, go_sem, q0, q1, q2, q3, q4, q5, q6]) rfl ⟨rfl, ?_⟩
  exact (((((((below_box b1).setCell (Nat.le_refl _) _).setCell (Nat.le_refl _) _).setCell (Nat.le_refl _) _).setCell (Nat.le_refl _) _).setCell (Nat.le_refl _) _).setCell (Nat.le_refl _) _).setCell (Nat.le_refl _) _

set_option maxRecDepth 100000 in
set_option maxHeartbeats 3200000 in
theorem specRulRd_yes (al : Bool) (s : ByteArray) (x1 x2 x3 x4 x5 x6 : List UInt8) (w : World) (hs : s.size ≤ 2097152) (h : wordsL s.data.toList = [wordR al, x1, x2, x3, x4, x5, x6]) :
    Calls Tryd.prog 19 #[.string s] w fun e w' => e = .returned (if ruleB ⟨al, numL x1, numL x2, numL x3, numL x4, numL x5, numL x6⟩ = true then .tuple #[.agg #[.bool al, .int .i64 (numL x1), .int .i64 (numL x2), .int .i64 (numL x3), .int .i64 (numL x4), .int .i64 (numL x5), .int .i64 (numL x6)], .bool true] else .tuple #[.agg #[.bool false, .int .i64 0, .int .i64 0, .int .i64 0, .int .i64 0, .int .i64 0, .int .i64 0], .bool false]) ∧ Below w.heap.size w w' := by
  obtain ⟨xs, hxs⟩ : ∃ xs, xs = [x1, x2, x3, x4, x5, x6] := ⟨_, rfl⟩
  have HX := Lib.hid hxs
  have hl6 : Hid (xs.length = 6) := by rw [hxs]; rfl
  have HW : ∀ w, Calls Tryd.prog 42 #[.string s] w fun e w' => ∃ v, e = .returned v ∧ w'.ownsRow w.heap.size 9 1 v 7 (strV (wordR al) :: xs.map strV) ∧ Below w.heap.size w w' := by
    intro w; have := specWords_any s w hs; rw [h] at this; rw [hxs]; exact this
  have H := Lib.hid HW
  have HM : Hid (∀ w, Calls Tryd.prog 23 #[.agg #[.bool al, .int .i64 (numL x1), .int .i64 (numL x2), .int .i64 (numL x3), .int .i64 (numL x4), .int .i64 (numL x5), .int .i64 (numL x6)]] w fun e w' => e = .returned (.bool (ruleB ⟨al, numL x1, numL x2, numL x3, numL x4, numL x5, numL x6⟩)) ∧ Below w.heap.size w w') := fun w => specRulOk_any al _ _ _ _ _ _ w
  obtain ⟨q, hq⟩ : ∃ q, q = ruleB ⟨al, numL x1, numL x2, numL x3, numL x4, numL x5, numL x6⟩ := ⟨_, rfl⟩
  rw [← hq] at HM ⊢
  obtain ⟨i0, hi, hz0, hz1, hz2⟩ := info_parts infoInt
  have HI := Lib.hid hi
  obtain ⟨V, hV⟩ : ∃ V, V = (if q = true then Value.tuple #[.agg #[.bool al, .int .i64 (numL x1), .int .i64 (numL x2), .int .i64 (numL x3), .int .i64 (numL x4), .int .i64 (numL x5), .int .i64 (numL x6)], .bool true] else .tuple #[.agg #[.bool false, .int .i64 0, .int .i64 0, .int .i64 0, .int .i64 0, .int .i64 0, .int .i64 0], .bool false]) := ⟨_, rfl⟩
  have HV := Lib.hid hV
  rw [← hV]
  clear h HW hxs hq hi hV
  cases al
  · go_enter Tryd.func19, Tryd.ntmps19
    go_wp2_with fail
    (go_at_call 42; refine (H.out _).mono ?_; rintro e w1 ⟨v, rfl, own1, b1⟩; obtain ⟨g, cap, rfl, hcap, gB, gl, row⟩ := RowAt.of_own own1 (by simp); obtain ⟨c1, f1⟩ := bcell b1; have k0 := (row 0 (by simp)).1; have HRW : Hid (∀ j (hj : j < xs.length), w1.cell? ⟨g, j + 1, none⟩ = some (.string ⟨xs[j].toArray⟩)) := (fun j hj => by have := (row (j + 1) (by simp; omega)).1; simpa [strV] using this))
    clear own1 row
    simp only [wordR, strV, List.getElem_cons_zero, if_false, Bool.false_eq_true] at k0
    go_wp2_with fail
    go_loopw [5, 6] (fun v i wr => ∃ k : Nat, 1 ≤ k ∧ k ≤ 7 ∧ i = .int .i64 k ∧ wr.ownsRow w1.heap.size 3 1 v (k - 1) ((xs.take (k - 1)).map fun x => .int .i64 (numL x)) ∧ Below w1.heap.size w1 wr) (fun _ i _ => 7 - (intOf i).toNat)
    case atStart => exact ⟨1, Nat.le_refl _, by omega, rfl, World.ownsRow_made w1 #[] 0 (Nat.le_refl _) (Nat.zero_le _) rfl, (Below.refl _ _).alloc (Nat.le_refl _) _⟩
    case round =>
      obtain ⟨k, hk1, hk7, rfl, hown, hb⟩ := hrel
      have hbs := hb.size
      by_cases hlt : k < 7
      · have hkx : k - 1 < xs.length := by rw [hl6.out]; omega
        have hc := (hb.cell (p := ⟨g, k - 1 + 1, none⟩) gl).trans (HRW.out (k - 1) hkx)
        rw [show k - 1 + 1 = k by omega] at hc
        obtain ⟨x, hx⟩ : ∃ x, x = xs[k - 1] := ⟨_, rfl⟩
        rw [← hx] at hc
        have HT : Hid ((xs.take (k + 1 - 1)).map (fun x => Value.int .i64 (numL x)) = (xs.take (k - 1)).map (fun x => Value.int .i64 (numL x)) ++ [Value.int .i64 (numL x)]) := by
          show _ = _
          rw [show k + 1 - 1 = k - 1 + 1 by omega, List.take_succ_eq_append_getElem hkx, ← hx, List.map_append]; rfl
        have hk3 : (k : Int) < 7 := by omega
        have hk4 : (k : Int) ≤ (cap : Int) := by omega
        have HO := Lib.hid hown
        obtain ⟨av, cv, rfl⟩ := own_form hown
        have hln : ((xs.take (k - 1)).map (fun x => Value.int .i64 (numL x))).length = k - 1 := by have := hown.1; simpa using this
        clear hx hown
        go_wp2_with fail
        (go_at_call 43; refine (specNum_any _ _).mono ?_; rintro e w3 ⟨rfl, b3⟩; have own3 := own_below HO.out b3; have hb3 := hb.trans (b3.mono hbs); have hi := HI.out; have hz3 := hb3.size)
        go_wp2_with (at_builtin; refine wpList_append_own _ rfl (.tmp 31) (.tmp 37) 65 rfl w1.heap.size 3 i0 (.int .i64 0) 1 8 Tryd.underlying65 hi hz0 hz1 hz2 rfl (by decide) _ _ _ rfl (own3.alloc _) ⟨w3.heap.size, 0, none⟩ 1 1 [.int .i64 (numL x)] rfl rfl ?c1 ?c2 ?c3 ?c4 ?c5 ?_)
        case c1 =>
          intro j u hj
          match j, hj with
          | 0, hj => simp at hj; subst hj; simp [Addr.add]
        case c2 => intro u hu; simp at hu; subst hu; rfl
        case c3 => unfold maxLen; omega
        case c4 => omega
        case c5 => simp; omega
        · intro v' w4 hown' hgrow _
          go_wp2
          go_roundw
          case rel =>
            refine ⟨k + 1, by omega, by omega, by go_num, ?_, ?_⟩
            · rw [HT.out, show k + 1 - 1 = k by omega, List.map_take]; exact hown'
            · exact (hb3.alloc hz3 _).grown hgrow (by simp; omega) (fun k hk => (own3.lt k hk).1)
          case measure => simp [intOf]; omega
      · have hkn : k = 7 := by omega
        subst hkn
        have h6 : xs.take (7 - 1) = xs := List.take_of_length_le (by rw [hl6.out]; exact Nat.le_refl _)
        rw [h6, HX.out] at hown
        obtain ⟨g2, cap2, rfl, hc2, gB2, gl2, row2⟩ := RowAt.of_own hown (by simp)
        have r0 := (row2 0 (by simp)).1
        have r1 := (row2 1 (by simp)).1
        have r2 := (row2 2 (by simp)).1
        have r3 := (row2 3 (by simp)).1
        have r4 := (row2 4 (by simp)).1
        have r5 := (row2 5 (by simp)).1
        simp only [List.map_cons, List.getElem_cons_zero, List.getElem_cons_succ] at r0 r1 r2 r3 r4 r5
        clear hown row2 h6
        have k0w := (hb.cell (p := ⟨g, 0, none⟩) gl).trans k0
        have hc9 : ((7 - 1 : Nat) : Int) = 6 := rfl
        have hc8 : (6 : Int) ≤ (cap2 : Int) := by omega
        have hc7 : (7 : Int) ≤ (cap : Int) := by omega
        have BW : Hid (Below w.heap.size w wr) := (below_box b1).trans (hb.mono (by have := b1.size; simp at this; omega))
        have z1 : w.heap.size < w1.heap.size := by have := b1.size; simp at this; omega
        have gw : g < wr.heap.size := by omega
        have HC1 : Hid (∀ o, w1.cell? ⟨w.heap.size, o, none⟩ = (w.alloc (.cells #[.bool false, .int .i64 0, .int .i64 0, .int .i64 0, .int .i64 0, .int .i64 0, .int .i64 0] 37)).cell? ⟨w.heap.size, o, none⟩) := fun o => c1 _ o (by simp)
        have HF1 : Hid (∀ o, w1.frozen? ⟨w.heap.size, o, none⟩ = false) := fun o => (f1 _ o (by simp)).trans (cell_new w _ _ o).2
        have HBB : Hid (Below w1.heap.size w1 wr) := hb
        have mk : Hid (∀ w', Below wr.heap.size wr w' → w'.cell? ⟨g, 0, none⟩ = some (.string ⟨#[100, 101, 110, 121]⟩) ∧ w'.cell? ⟨g2, 0, none⟩ = some (.int .i64 (numL x1)) ∧ w'.cell? ⟨g2, 1, none⟩ = some (.int .i64 (numL x2)) ∧ w'.cell? ⟨g2, 2, none⟩ = some (.int .i64 (numL x3)) ∧ w'.cell? ⟨g2, 3, none⟩ = some (.int .i64 (numL x4)) ∧ w'.cell? ⟨g2, 4, none⟩ = some (.int .i64 (numL x5)) ∧ w'.cell? ⟨g2, 5, none⟩ = some (.int .i64 (numL x6)) ∧ Below wr.heap.size wr w') := fun w' h => ⟨(h.cell (p := ⟨g, 0, none⟩) gw).trans k0w, (h.cell (p := ⟨g2, 0, none⟩) gl2).trans r0, (h.cell (p := ⟨g2, 1, none⟩) gl2).trans r1, (h.cell (p := ⟨g2, 2, none⟩) gl2).trans r2, (h.cell (p := ⟨g2, 3, none⟩) gl2).trans r3, (h.cell (p := ⟨g2, 4, none⟩) gl2).trans r4, (h.cell (p := ⟨g2, 5, none⟩) gl2).trans r5, h⟩
        clear H HX HRW c1 f1 b1 hb k0w r0 r1 r2 r3 r4 r5
        go_wp2_with fail
        go_cut [7] (fun s7 wx => ∃ b : Nat, s7 = .pointer (some ⟨b, 0, none⟩) ∧ wr.heap.size ≤ b ∧ Box7 wx b (.bool false) (.int .i64 (numL x1)) (.int .i64 (numL x2)) (.int .i64 (numL x3)) (.int .i64 (numL x4)) (.int .i64 (numL x5)) (.int .i64 (numL x6)) ∧ Below wr.heap.size wr wx)
        case first =>
          go_region_held3 (fun w' => w'.cell? ⟨g, 0, none⟩ = some (.string ⟨#[100, 101, 110, 121]⟩) ∧ w'.cell? ⟨g2, 0, none⟩ = some (.int .i64 (numL x1)) ∧ w'.cell? ⟨g2, 1, none⟩ = some (.int .i64 (numL x2)) ∧ w'.cell? ⟨g2, 2, none⟩ = some (.int .i64 (numL x3)) ∧ w'.cell? ⟨g2, 3, none⟩ = some (.int .i64 (numL x4)) ∧ w'.cell? ⟨g2, 4, none⟩ = some (.int .i64 (numL x5)) ∧ w'.cell? ⟨g2, 5, none⟩ = some (.int .i64 (numL x6)) ∧ Below wr.heap.size wr w')
            ((refine mk.out _ ?_; repeat (first
              | (with_reducible exact Below.refl _ _)
              | (with_reducible refine bR_draw _ ?_)
              | (with_reducible refine bR_dr ?_)
              | (with_reducible refine bR_al ?_ _)
              | (with_reducible refine bR_7 ?_ (Nat.le_refl _) _ _ _ _ _ _ _))))
            (fail)
          all_goals
            go_wp2_with fail
            go_meet
            exact ⟨_, rfl, Nat.le_refl _, box7_new wr _ _ _ _ _ _ _ _, bR_dr (bR_al (Below.refl _ _) _)⟩
        case rest =>
          obtain ⟨b, rfl, hb0, hx, hB⟩ := hcut
          have zb : b < wc.heap.size := World.block_lt_of_cell? wc _ hx.1
          have zw : w.heap.size < wr.heap.size := by omega
          have zx : w.heap.size < wc.heap.size := Nat.lt_of_lt_of_le zw hB.size
          obtain ⟨y0, y1, y2, y3, y4, y5, y6⟩ := hx
          have HQ : ∀ o, wc.cell? ⟨w.heap.size, o, none⟩ = (w.alloc (.cells #[.bool false, .int .i64 0, .int .i64 0, .int .i64 0, .int .i64 0, .int .i64 0, .int .i64 0] 37)).cell? ⟨w.heap.size, o, none⟩ := fun o => (hB.cell (p := ⟨w.heap.size, o, none⟩) zw).trans ((HBB.out.cell (p := ⟨w.heap.size, o, none⟩) z1).trans (HC1.out o))
          have HFQ : Hid (∀ o, wc.frozen? ⟨w.heap.size, o, none⟩ = false) := fun o => (hB.frozen (p := ⟨w.heap.size, o, none⟩) zw).trans ((HBB.out.frozen (p := ⟨w.heap.size, o, none⟩) z1).trans (HF1.out o))
          have HQQ := Lib.hid HQ
          have HBC : Hid (Below w.heap.size w wc) := BW.out.trans (hB.mono (by omega))
          clear hB HQ
          cases q
          · have HVV : Hid (V = .tuple #[.agg #[.bool false, .int .i64 0, .int .i64 0, .int .i64 0, .int .i64 0, .int .i64 0, .int .i64 0], .bool false]) := HV.out
            go_wp2_with fail
            (go_at_call 23; refine (HM.out _).mono ?_; rintro e w5 ⟨rfl, b5⟩; obtain ⟨c5, f5⟩ := bcell b5; have z5 := b5.size; have v0 := (c5 _ _ zx).trans ((HQQ.out 0).trans (cell_new w _ _ 0).1); have gg0 := (f5 _ 0 zx).trans (HFQ.out 0); have v1 := (c5 _ _ zx).trans ((HQQ.out 1).trans (cell_new w _ _ 1).1); have gg1 := (f5 _ 1 zx).trans (HFQ.out 1); have v2 := (c5 _ _ zx).trans ((HQQ.out 2).trans (cell_new w _ _ 2).1); have gg2 := (f5 _ 2 zx).trans (HFQ.out 2); have v3 := (c5 _ _ zx).trans ((HQQ.out 3).trans (cell_new w _ _ 3).1); have gg3 := (f5 _ 3 zx).trans (HFQ.out 3); have v4 := (c5 _ _ zx).trans ((HQQ.out 4).trans (cell_new w _ _ 4).1); have gg4 := (f5 _ 4 zx).trans (HFQ.out 4); have v5 := (c5 _ _ zx).trans ((HQQ.out 5).trans (cell_new w _ _ 5).1); have gg5 := (f5 _ 5 zx).trans (HFQ.out 5); have v6 := (c5 _ _ zx).trans ((HQQ.out 6).trans (cell_new w _ _ 6).1); have gg6 := (f5 _ 6 zx).trans (HFQ.out 6); simp only [List.getElem?_toArray, List.getElem?_cons_zero, List.getElem?_cons_succ] at v0 v1 v2 v3 v4 v5 v6; clear c5 f5)
            go_wp2_with fail
            obtain ⟨q0, q1, q2, q3, q4, q5, q6⟩ := set_seven (w := w5) (b := w.heap.size) (.bool false) (.int .i64 0) (.int .i64 0) (.int .i64 0) (.int .i64 0) (.int .i64 0) (.int .i64 0) v0 v1 v2 v3 v4 v5 v6
            refine bodyPost_ret (v := .tuple #[.agg #[.bool false, .int .i64 0, .int .i64 0, .int .i64 0, .int .i64 0, .int .i64 0, .int .i64 0], .bool false]) (by simp [results, Tryd.results19, go_sem, q0, q1, q2, q3, q4, q5, q6]) rfl ⟨by rw [HVV.out], ?_⟩
            exact bR_7 (HBC.out.trans (b5.mono (by omega))) (Nat.le_refl _) _ _ _ _ _ _ _
          · have HVV : Hid (V = .tuple #[.agg #[.bool false, .int .i64 (numL x1), .int .i64 (numL x2), .int .i64 (numL x3), .int .i64 (numL x4), .int .i64 (numL x5), .int .i64 (numL x6)], .bool true]) := HV.out
            go_wp2_with fail
            (go_at_call 23; refine (HM.out _).mono ?_; rintro e w5 ⟨rfl, b5⟩; obtain ⟨c5, f5⟩ := bcell b5; have z5 := b5.size; rw [← c5 _ _ zb] at y0 y1 y2 y3 y4 y5 y6; have v0 := (c5 _ _ zx).trans ((HQQ.out 0).trans (cell_new w _ _ 0).1); have gg0 := (f5 _ 0 zx).trans (HFQ.out 0); have v1 := (c5 _ _ zx).trans ((HQQ.out 1).trans (cell_new w _ _ 1).1); have gg1 := (f5 _ 1 zx).trans (HFQ.out 1); have v2 := (c5 _ _ zx).trans ((HQQ.out 2).trans (cell_new w _ _ 2).1); have gg2 := (f5 _ 2 zx).trans (HFQ.out 2); have v3 := (c5 _ _ zx).trans ((HQQ.out 3).trans (cell_new w _ _ 3).1); have gg3 := (f5 _ 3 zx).trans (HFQ.out 3); have v4 := (c5 _ _ zx).trans ((HQQ.out 4).trans (cell_new w _ _ 4).1); have gg4 := (f5 _ 4 zx).trans (HFQ.out 4); have v5 := (c5 _ _ zx).trans ((HQQ.out 5).trans (cell_new w _ _ 5).1); have gg5 := (f5 _ 5 zx).trans (HFQ.out 5); have v6 := (c5 _ _ zx).trans ((HQQ.out 6).trans (cell_new w _ _ 6).1); have gg6 := (f5 _ 6 zx).trans (HFQ.out 6); simp only [List.getElem?_toArray, List.getElem?_cons_zero, List.getElem?_cons_succ] at v0 v1 v2 v3 v4 v5 v6; clear c5 f5)
            go_wp2_with fail
            obtain ⟨q0, q1, q2, q3, q4, q5, q6⟩ := set_seven (w := w5) (b := w.heap.size) (.bool false) (.int .i64 (numL x1)) (.int .i64 (numL x2)) (.int .i64 (numL x3)) (.int .i64 (numL x4)) (.int .i64 (numL x5)) (.int .i64 (numL x6)) v0 v1 v2 v3 v4 v5 v6
            refine bodyPost_ret (v := .tuple #[.agg #[.bool false, .int .i64 (numL x1), .int .i64 (numL x2), .int .i64 (numL x3), .int .i64 (numL x4), .int .i64 (numL x5), .int .i64 (numL x6)], .bool true]) (by simp [results, Tryd.results19, go_sem, q0, q1, q2, q3, q4, q5, q6]) rfl ⟨by rw [HVV.out], ?_⟩
            exact bR_7 (HBC.out.trans (b5.mono (by omega))) (Nat.le_refl _) _ _ _ _ _ _ _
  · go_enter Tryd.func19, Tryd.ntmps19
    go_wp2_with fail
    (go_at_call 42; refine (H.out _).mono ?_; rintro e w1 ⟨v, rfl, own1, b1⟩; obtain ⟨g, cap, rfl, hcap, gB, gl, row⟩ := RowAt.of_own own1 (by simp); obtain ⟨c1, f1⟩ := bcell b1; have k0 := (row 0 (by simp)).1; have HRW : Hid (∀ j (hj : j < xs.length), w1.cell? ⟨g, j + 1, none⟩ = some (.string ⟨xs[j].toArray⟩)) := (fun j hj => by have := (row (j + 1) (by simp; omega)).1; simpa [strV] using this))
    clear own1 row
    simp only [wordR, strV, List.getElem_cons_zero, if_true] at k0
    go_wp2_with fail
    go_loopw [5, 6] (fun v i wr => ∃ k : Nat, 1 ≤ k ∧ k ≤ 7 ∧ i = .int .i64 k ∧ wr.ownsRow w1.heap.size 3 1 v (k - 1) ((xs.take (k - 1)).map fun x => .int .i64 (numL x)) ∧ Below w1.heap.size w1 wr) (fun _ i _ => 7 - (intOf i).toNat)
    case atStart => exact ⟨1, Nat.le_refl _, by omega, rfl, World.ownsRow_made w1 #[] 0 (Nat.le_refl _) (Nat.zero_le _) rfl, (Below.refl _ _).alloc (Nat.le_refl _) _⟩
    case round =>
      obtain ⟨k, hk1, hk7, rfl, hown, hb⟩ := hrel
      have hbs := hb.size
      by_cases hlt : k < 7
      · have hkx : k - 1 < xs.length := by rw [hl6.out]; omega
        have hc := (hb.cell (p := ⟨g, k - 1 + 1, none⟩) gl).trans (HRW.out (k - 1) hkx)
        rw [show k - 1 + 1 = k by omega] at hc
        obtain ⟨x, hx⟩ : ∃ x, x = xs[k - 1] := ⟨_, rfl⟩
        rw [← hx] at hc
        have HT : Hid ((xs.take (k + 1 - 1)).map (fun x => Value.int .i64 (numL x)) = (xs.take (k - 1)).map (fun x => Value.int .i64 (numL x)) ++ [Value.int .i64 (numL x)]) := by
          show _ = _
          rw [show k + 1 - 1 = k - 1 + 1 by omega, List.take_succ_eq_append_getElem hkx, ← hx, List.map_append]; rfl
        have hk3 : (k : Int) < 7 := by omega
        have hk4 : (k : Int) ≤ (cap : Int) := by omega
        have HO := Lib.hid hown
        obtain ⟨av, cv, rfl⟩ := own_form hown
        have hln : ((xs.take (k - 1)).map (fun x => Value.int .i64 (numL x))).length = k - 1 := by have := hown.1; simpa using this
        clear hx hown
        go_wp2_with fail
        (go_at_call 43; refine (specNum_any _ _).mono ?_; rintro e w3 ⟨rfl, b3⟩; have own3 := own_below HO.out b3; have hb3 := hb.trans (b3.mono hbs); have hi := HI.out; have hz3 := hb3.size)
        go_wp2_with (at_builtin; refine wpList_append_own _ rfl (.tmp 31) (.tmp 37) 65 rfl w1.heap.size 3 i0 (.int .i64 0) 1 8 Tryd.underlying65 hi hz0 hz1 hz2 rfl (by decide) _ _ _ rfl (own3.alloc _) ⟨w3.heap.size, 0, none⟩ 1 1 [.int .i64 (numL x)] rfl rfl ?c1 ?c2 ?c3 ?c4 ?c5 ?_)
        case c1 =>
          intro j u hj
          match j, hj with
          | 0, hj => simp at hj; subst hj; simp [Addr.add]
        case c2 => intro u hu; simp at hu; subst hu; rfl
        case c3 => unfold maxLen; omega
        case c4 => omega
        case c5 => simp; omega
        · intro v' w4 hown' hgrow _
          go_wp2
          go_roundw
          case rel =>
            refine ⟨k + 1, by omega, by omega, by go_num, ?_, ?_⟩
            · rw [HT.out, show k + 1 - 1 = k by omega, List.map_take]; exact hown'
            · exact (hb3.alloc hz3 _).grown hgrow (by simp; omega) (fun k hk => (own3.lt k hk).1)
          case measure => simp [intOf]; omega
      · have hkn : k = 7 := by omega
        subst hkn
        have h6 : xs.take (7 - 1) = xs := List.take_of_length_le (by rw [hl6.out]; exact Nat.le_refl _)
        rw [h6, HX.out] at hown
        obtain ⟨g2, cap2, rfl, hc2, gB2, gl2, row2⟩ := RowAt.of_own hown (by simp)
        have r0 := (row2 0 (by simp)).1
        have r1 := (row2 1 (by simp)).1
        have r2 := (row2 2 (by simp)).1
        have r3 := (row2 3 (by simp)).1
        have r4 := (row2 4 (by simp)).1
        have r5 := (row2 5 (by simp)).1
        simp only [List.map_cons, List.getElem_cons_zero, List.getElem_cons_succ] at r0 r1 r2 r3 r4 r5
        clear hown row2 h6
        have k0w := (hb.cell (p := ⟨g, 0, none⟩) gl).trans k0
        have hc9 : ((7 - 1 : Nat) : Int) = 6 := rfl
        have hc8 : (6 : Int) ≤ (cap2 : Int) := by omega
        have hc7 : (7 : Int) ≤ (cap : Int) := by omega
        have BW : Hid (Below w.heap.size w wr) := (below_box b1).trans (hb.mono (by have := b1.size; simp at this; omega))
        have z1 : w.heap.size < w1.heap.size := by have := b1.size; simp at this; omega
        have gw : g < wr.heap.size := by omega
        have HC1 : Hid (∀ o, w1.cell? ⟨w.heap.size, o, none⟩ = (w.alloc (.cells #[.bool false, .int .i64 0, .int .i64 0, .int .i64 0, .int .i64 0, .int .i64 0, .int .i64 0] 37)).cell? ⟨w.heap.size, o, none⟩) := fun o => c1 _ o (by simp)
        have HF1 : Hid (∀ o, w1.frozen? ⟨w.heap.size, o, none⟩ = false) := fun o => (f1 _ o (by simp)).trans (cell_new w _ _ o).2
        have HBB : Hid (Below w1.heap.size w1 wr) := hb
        have mk : Hid (∀ w', Below wr.heap.size wr w' → w'.cell? ⟨g, 0, none⟩ = some (.string ⟨#[97, 108, 108, 111, 119]⟩) ∧ w'.cell? ⟨g2, 0, none⟩ = some (.int .i64 (numL x1)) ∧ w'.cell? ⟨g2, 1, none⟩ = some (.int .i64 (numL x2)) ∧ w'.cell? ⟨g2, 2, none⟩ = some (.int .i64 (numL x3)) ∧ w'.cell? ⟨g2, 3, none⟩ = some (.int .i64 (numL x4)) ∧ w'.cell? ⟨g2, 4, none⟩ = some (.int .i64 (numL x5)) ∧ w'.cell? ⟨g2, 5, none⟩ = some (.int .i64 (numL x6)) ∧ Below wr.heap.size wr w') := fun w' h => ⟨(h.cell (p := ⟨g, 0, none⟩) gw).trans k0w, (h.cell (p := ⟨g2, 0, none⟩) gl2).trans r0, (h.cell (p := ⟨g2, 1, none⟩) gl2).trans r1, (h.cell (p := ⟨g2, 2, none⟩) gl2).trans r2, (h.cell (p := ⟨g2, 3, none⟩) gl2).trans r3, (h.cell (p := ⟨g2, 4, none⟩) gl2).trans r4, (h.cell (p := ⟨g2, 5, none⟩) gl2).trans r5, h⟩
        clear H HX HRW c1 f1 b1 hb k0w r0 r1 r2 r3 r4 r5
        go_wp2_with fail
        go_cut [7] (fun s7 wx => ∃ b : Nat, s7 = .pointer (some ⟨b, 0, none⟩) ∧ wr.heap.size ≤ b ∧ Box7 wx b (.bool true) (.int .i64 (numL x1)) (.int .i64 (numL x2)) (.int .i64 (numL x3)) (.int .i64 (numL x4)) (.int .i64 (numL x5)) (.int .i64 (numL x6)) ∧ Below wr.heap.size wr wx)
        case first =>
          go_region_held3 (fun w' => w'.cell? ⟨g, 0, none⟩ = some (.string ⟨#[97, 108, 108, 111, 119]⟩) ∧ w'.cell? ⟨g2, 0, none⟩ = some (.int .i64 (numL x1)) ∧ w'.cell? ⟨g2, 1, none⟩ = some (.int .i64 (numL x2)) ∧ w'.cell? ⟨g2, 2, none⟩ = some (.int .i64 (numL x3)) ∧ w'.cell? ⟨g2, 3, none⟩ = some (.int .i64 (numL x4)) ∧ w'.cell? ⟨g2, 4, none⟩ = some (.int .i64 (numL x5)) ∧ w'.cell? ⟨g2, 5, none⟩ = some (.int .i64 (numL x6)) ∧ Below wr.heap.size wr w')
            ((refine mk.out _ ?_; repeat (first
              | (with_reducible exact Below.refl _ _)
              | (with_reducible refine bR_draw _ ?_)
              | (with_reducible refine bR_dr ?_)
              | (with_reducible refine bR_al ?_ _)
              | (with_reducible refine bR_7 ?_ (Nat.le_refl _) _ _ _ _ _ _ _))))
            (fail)
          all_goals
            go_wp2_with fail
            go_meet
            exact ⟨_, rfl, Nat.le_refl _, box7_new wr _ _ _ _ _ _ _ _, bR_dr (bR_al (Below.refl _ _) _)⟩
        case rest =>
          obtain ⟨b, rfl, hb0, hx, hB⟩ := hcut
          have zb : b < wc.heap.size := World.block_lt_of_cell? wc _ hx.1
          have zw : w.heap.size < wr.heap.size := by omega
          have zx : w.heap.size < wc.heap.size := Nat.lt_of_lt_of_le zw hB.size
          obtain ⟨y0, y1, y2, y3, y4, y5, y6⟩ := hx
          have HQ : ∀ o, wc.cell? ⟨w.heap.size, o, none⟩ = (w.alloc (.cells #[.bool false, .int .i64 0, .int .i64 0, .int .i64 0, .int .i64 0, .int .i64 0, .int .i64 0] 37)).cell? ⟨w.heap.size, o, none⟩ := fun o => (hB.cell (p := ⟨w.heap.size, o, none⟩) zw).trans ((HBB.out.cell (p := ⟨w.heap.size, o, none⟩) z1).trans (HC1.out o))
          have HFQ : Hid (∀ o, wc.frozen? ⟨w.heap.size, o, none⟩ = false) := fun o => (hB.frozen (p := ⟨w.heap.size, o, none⟩) zw).trans ((HBB.out.frozen (p := ⟨w.heap.size, o, none⟩) z1).trans (HF1.out o))
          have HQQ := Lib.hid HQ
          have HBC : Hid (Below w.heap.size w wc) := BW.out.trans (hB.mono (by omega))
          clear hB HQ
          cases q
          · have HVV : Hid (V = .tuple #[.agg #[.bool false, .int .i64 0, .int .i64 0, .int .i64 0, .int .i64 0, .int .i64 0, .int .i64 0], .bool false]) := HV.out
            go_wp2_with fail
            (go_at_call 23; refine (HM.out _).mono ?_; rintro e w5 ⟨rfl, b5⟩; obtain ⟨c5, f5⟩ := bcell b5; have z5 := b5.size; have v0 := (c5 _ _ zx).trans ((HQQ.out 0).trans (cell_new w _ _ 0).1); have gg0 := (f5 _ 0 zx).trans (HFQ.out 0); have v1 := (c5 _ _ zx).trans ((HQQ.out 1).trans (cell_new w _ _ 1).1); have gg1 := (f5 _ 1 zx).trans (HFQ.out 1); have v2 := (c5 _ _ zx).trans ((HQQ.out 2).trans (cell_new w _ _ 2).1); have gg2 := (f5 _ 2 zx).trans (HFQ.out 2); have v3 := (c5 _ _ zx).trans ((HQQ.out 3).trans (cell_new w _ _ 3).1); have gg3 := (f5 _ 3 zx).trans (HFQ.out 3); have v4 := (c5 _ _ zx).trans ((HQQ.out 4).trans (cell_new w _ _ 4).1); have gg4 := (f5 _ 4 zx).trans (HFQ.out 4); have v5 := (c5 _ _ zx).trans ((HQQ.out 5).trans (cell_new w _ _ 5).1); have gg5 := (f5 _ 5 zx).trans (HFQ.out 5); have v6 := (c5 _ _ zx).trans ((HQQ.out 6).trans (cell_new w _ _ 6).1); have gg6 := (f5 _ 6 zx).trans (HFQ.out 6); simp only [List.getElem?_toArray, List.getElem?_cons_zero, List.getElem?_cons_succ] at v0 v1 v2 v3 v4 v5 v6; clear c5 f5)
            go_wp2_with fail
            obtain ⟨q0, q1, q2, q3, q4, q5, q6⟩ := set_seven (w := w5) (b := w.heap.size) (.bool false) (.int .i64 0) (.int .i64 0) (.int .i64 0) (.int .i64 0) (.int .i64 0) (.int .i64 0) v0 v1 v2 v3 v4 v5 v6
            refine bodyPost_ret (v := .tuple #[.agg #[.bool false, .int .i64 0, .int .i64 0, .int .i64 0, .int .i64 0, .int .i64 0, .int .i64 0], .bool false]) (by simp [results, Tryd.results19, go_sem, q0, q1, q2, q3, q4, q5, q6]) rfl ⟨by rw [HVV.out], ?_⟩
            exact bR_7 (HBC.out.trans (b5.mono (by omega))) (Nat.le_refl _) _ _ _ _ _ _ _
          · have HVV : Hid (V = .tuple #[.agg #[.bool true, .int .i64 (numL x1), .int .i64 (numL x2), .int .i64 (numL x3), .int .i64 (numL x4), .int .i64 (numL x5), .int .i64 (numL x6)], .bool true]) := HV.out
            go_wp2_with fail
            (go_at_call 23; refine (HM.out _).mono ?_; rintro e w5 ⟨rfl, b5⟩; obtain ⟨c5, f5⟩ := bcell b5; have z5 := b5.size; rw [← c5 _ _ zb] at y0 y1 y2 y3 y4 y5 y6; have v0 := (c5 _ _ zx).trans ((HQQ.out 0).trans (cell_new w _ _ 0).1); have gg0 := (f5 _ 0 zx).trans (HFQ.out 0); have v1 := (c5 _ _ zx).trans ((HQQ.out 1).trans (cell_new w _ _ 1).1); have gg1 := (f5 _ 1 zx).trans (HFQ.out 1); have v2 := (c5 _ _ zx).trans ((HQQ.out 2).trans (cell_new w _ _ 2).1); have gg2 := (f5 _ 2 zx).trans (HFQ.out 2); have v3 := (c5 _ _ zx).trans ((HQQ.out 3).trans (cell_new w _ _ 3).1); have gg3 := (f5 _ 3 zx).trans (HFQ.out 3); have v4 := (c5 _ _ zx).trans ((HQQ.out 4).trans (cell_new w _ _ 4).1); have gg4 := (f5 _ 4 zx).trans (HFQ.out 4); have v5 := (c5 _ _ zx).trans ((HQQ.out 5).trans (cell_new w _ _ 5).1); have gg5 := (f5 _ 5 zx).trans (HFQ.out 5); have v6 := (c5 _ _ zx).trans ((HQQ.out 6).trans (cell_new w _ _ 6).1); have gg6 := (f5 _ 6 zx).trans (HFQ.out 6); simp only [List.getElem?_toArray, List.getElem?_cons_zero, List.getElem?_cons_succ] at v0 v1 v2 v3 v4 v5 v6; clear c5 f5)
            go_wp2_with fail
            obtain ⟨q0, q1, q2, q3, q4, q5, q6⟩ := set_seven (w := w5) (b := w.heap.size) (.bool true) (.int .i64 (numL x1)) (.int .i64 (numL x2)) (.int .i64 (numL x3)) (.int .i64 (numL x4)) (.int .i64 (numL x5)) (.int .i64 (numL x6)) v0 v1 v2 v3 v4 v5 v6
            refine bodyPost_ret (v := .tuple #[.agg #[.bool true, .int .i64 (numL x1), .int .i64 (numL x2), .int .i64 (numL x3), .int .i64 (numL x4), .int .i64 (numL x5), .int .i64 (numL x6)], .bool true]) (by simp [results, Tryd.results19, go_sem, q0, q1, q2, q3, q4, q5, q6]) rfl ⟨by rw [HVV.out], ?_⟩
            exact bR_7 (HBC.out.trans (b5.mono (by omega))) (Nat.le_refl _) _ _ _ _ _ _ _

end Go.Proofs.YtjnhmobdigfpiaaDoor
