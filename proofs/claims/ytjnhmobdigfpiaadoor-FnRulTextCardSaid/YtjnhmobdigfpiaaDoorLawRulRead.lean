/- RulRead of the program and of the specification answer the same of every text. Conditions: the text has at most 2^20 bytes; the variables that are read hold what they are laid with. -/
import Derived.Test.YtjnhmobdigfpiaaDoorIRulRd
import Derived.Test.YtjnhmobdigfpiaaDoorSRulRd
namespace Go.Proofs.YtjnhmobdigfpiaaDoor
open Go.RowKit Go.Sort

theorem readBounds_any (al : Bool) (l : List UInt8) (Y : ByteArray) (w : World) (hs : Y.size ≤ 2097152) (hX : (Lib.cut l [32]).1 = wordR al) (hY : Y.data.toList = (Lib.cut l [32]).2.1) (hv : VarsR w) :
    Calls Tryd.prog 64 #[.string Y] w fun e w' => ((∃ a b c d ee f : Int, (rdT l = if ruleB ⟨al, a, b, c, d, ee, f⟩ = true then some ⟨al, a, b, c, d, ee, f⟩ else none) ∧ e = .returned (.tuple #[.agg #[.int .i64 a, .int .i64 b, .int .i64 c, .int .i64 d, .int .i64 ee, .int .i64 f], .nilIface])) ∨ (rdT l = none ∧ ∃ t p, e = .returned (.tuple #[.agg #[.int .i64 0, .int .i64 0, .int .i64 0, .int .i64 0, .int .i64 0, .int .i64 0], .iface t p]))) ∧ Below w.heap.size w w' := by
  have hh : headB (wordR al) = true ∧ decide (wordR al = allowL) = al := by cases al <;> exact ⟨rfl, rfl⟩
  by_cases h6 : (wordsL Y.data.toList).length = 6
  · refine (bounds_six Y w hs h6 hv).mono ?_
    rintro e w' ⟨hp, hb⟩
    refine ⟨?_, hb⟩
    rw [hY] at hp h6
    rcases hp with ⟨vs, hvs, rfl⟩ | ⟨hx, t, p, rfl⟩
    · have hl : vs.length = 6 := by
        have := congrArg List.length hvs
        simp at this; omega
      obtain ⟨a, b, c, d, ee, f, rfl⟩ := six_of hl
      refine Or.inl ⟨a, b, c, d, ee, f, ?_, rfl⟩
      rw [rdT_some hvs, hX, hh.1, hh.2]
      simp
    · exact Or.inr ⟨rdT_none3 h6 hx, t, p, rfl⟩
  · refine (bounds_len Y w hs h6 hv).mono ?_
    rintro e w' ⟨t, p, rfl, hb⟩
    exact ⟨Or.inr ⟨rdT_none2 (by rw [← hY]; exact h6), t, p, rfl⟩, hb⟩

theorem readRule_any (s : ByteArray) (w : World) (hs : s.size ≤ 2097152) (hv : VarsR w) :
    Calls Tryd.prog 41 #[.string s] w fun e w' => RulPost (rdT s.data.toList) e ∧ Below w.heap.size w w' := by
  cases h : headB (Lib.cut s.data.toList [32]).1
  · rw [rdT_none1 h]
    refine (readRule_head s w hs h hv).mono ?_
    rintro e w' ⟨⟨t, p, he⟩, hb⟩
    exact ⟨⟨t, p, he⟩, hb⟩
  · obtain ⟨X, Y, f, hX, hY, sX, sY, hc⟩ := cutR_parts s hs
    have hw := head_word h
    have hXe : X = ⟨(wordR (decide ((Lib.cut s.data.toList [32]).1 = allowL))).toArray⟩ := by
      apply ByteArray.ext
      apply Array.ext'
      rw [hX]
      exact hw
    rw [hXe] at hc
    exact readRule_tail _ s.data.toList s Y f w hv hc (fun w hv => readBounds_any _ s.data.toList Y w sY hw hY hv)

set_option maxRecDepth 100000 in
set_option maxHeartbeats 3200000 in
theorem implRulRd_good (s : ByteArray) (al : Bool) (i it o ot p pt : Int) (w : World) (hv : VarsR w)
    (h : ∀ w, VarsR w → Calls Tryd.prog 41 #[.string s] w fun e w' => e = .returned (.tuple #[.agg #[.bool al, .int .i64 i, .int .i64 it, .int .i64 o, .int .i64 ot, .int .i64 p, .int .i64 pt], .nilIface]) ∧ Below w.heap.size w w') :
    Calls Tryd.prog 18 #[.string s] w fun e w' => e = .returned (.tuple #[.agg #[.bool al, .int .i64 i, .int .i64 it, .int .i64 o, .int .i64 ot, .int .i64 p, .int .i64 pt], .bool true]) ∧ Below w.heap.size w w' := by
  have H := Lib.hid h
  have HV := Lib.hid hv
  clear h hv
  have HN0 : Hid (Blk (w.alloc (.cells #[.bool false, .int .i64 0, .int .i64 0, .int .i64 0, .int .i64 0, .int .i64 0, .int .i64 0] 37)) w.heap.size 37 [.bool false, .int .i64 0, .int .i64 0, .int .i64 0, .int .i64 0, .int .i64 0, .int .i64 0]) := blk_zero7 w _
  go_enter Tryd.func18, Tryd.ntmps18
  go_wp2_with fail
  (go_at_call 41; refine (H.out _ (HV.out.below ((Below.refl _ _).alloc (Nat.le_refl _) _))).mono ?_; rintro e w1 ⟨rfl, b1⟩; have HK1 : Hid (Blk w1 w.heap.size 37 [.bool false, .int .i64 0, .int .i64 0, .int .i64 0, .int .i64 0, .int .i64 0, .int .i64 0]) := HN0.out.below b1; have B1 : Hid (Below w.heap.size w w1) := below_box b1; clear b1)
  have z1 : w.heap.size < w1.heap.size := HK1.out.lt
  have hne : ¬ w.heap.size = w1.heap.size := by omega
  go_wp2_with fail
  obtain ⟨W2, hW2⟩ : ∃ W2, W2 = w1.alloc (.cells #[.bool al, .int .i64 i, .int .i64 it, .int .i64 o, .int .i64 ot, .int .i64 p, .int .i64 pt] 37) := ⟨_, rfl⟩
  have HK2 : Hid (Blk W2 w.heap.size 37 [.bool false, .int .i64 0, .int .i64 0, .int .i64 0, .int .i64 0, .int .i64 0, .int .i64 0]) := by rw [hW2]; exact HK1.out.below ((Below.refl _ _).alloc (Nat.le_refl _) _)
  have B2 : Hid (Below w.heap.size w W2) := by rw [hW2]; exact B1.out.alloc (by omega) _
  have HRb : Hid (Box7 W2 w1.heap.size (.bool al) (.int .i64 i) (.int .i64 it) (.int .i64 o) (.int .i64 ot) (.int .i64 p) (.int .i64 pt)) := by rw [hW2]; exact box7_new w1 _ _ _ _ _ _ _ _
  obtain ⟨y0, y1, y2, y3, y4, y5, y6⟩ := HRb.out
  have k0 := (HK2.out.cell 0 _ rfl).1
  have r0 := (HK2.out.cell 0 _ rfl).2
  have k1 := (HK2.out.cell 1 _ rfl).1
  have r1 := (HK2.out.cell 1 _ rfl).2
  have k2 := (HK2.out.cell 2 _ rfl).1
  have r2 := (HK2.out.cell 2 _ rfl).2
  have k3 := (HK2.out.cell 3 _ rfl).1
  have r3 := (HK2.out.cell 3 _ rfl).2
  have k4 := (HK2.out.cell 4 _ rfl).1
  have r4 := (HK2.out.cell 4 _ rfl).2
  have k5 := (HK2.out.cell 5 _ rfl).1
  have r5 := (HK2.out.cell 5 _ rfl).2
  have k6 := (HK2.out.cell 6 _ rfl).1
  have r6 := (HK2.out.cell 6 _ rfl).2
  rw [← hW2]
  clear hW2
  go_region
  all_goals
    go_wp2
    have hq := blk_seven HK2.out rfl (.bool al) (.int .i64 i) (.int .i64 it) (.int .i64 o) (.int .i64 ot) (.int .i64 p) (.int .i64 pt)
    have q0 := (hq.cell 0 _ rfl).1
    have q1 := (hq.cell 1 _ rfl).1
    have q2 := (hq.cell 2 _ rfl).1
    have q3 := (hq.cell 3 _ rfl).1
    have q4 := (hq.cell 4 _ rfl).1
    have q5 := (hq.cell 5 _ rfl).1
    have q6 := (hq.cell 6 _ rfl).1
    refine bodyPost_ret (v := .tuple #[.agg #[.bool al, .int .i64 i, .int .i64 it, .int .i64 o, .int .i64 ot, .int .i64 p, .int .i64 pt], .bool true]) (by simp [results, Tryd.results18, go_sem, q0, q1, q2, q3, q4, q5, q6]) rfl ⟨rfl, ?_⟩
    repeat (first
      | with_reducible exact B2.out
      | with_reducible refine bR_dr ?_
      | with_reducible refine bR_7 ?_ (Nat.le_refl _) _ _ _ _ _ _ _)

set_option maxRecDepth 100000 in
set_option maxHeartbeats 3200000 in
theorem implRulRd_bad (s : ByteArray) (al : Bool) (i it o ot p pt : Int) (w : World) (hv : VarsR w)
    (h : ∀ w, VarsR w → Calls Tryd.prog 41 #[.string s] w fun e w' => (∃ tt q, e = .returned (.tuple #[.agg #[.bool al, .int .i64 i, .int .i64 it, .int .i64 o, .int .i64 ot, .int .i64 p, .int .i64 pt], .iface tt q])) ∧ Below w.heap.size w w') :
    Calls Tryd.prog 18 #[.string s] w fun e w' => e = .returned (.tuple #[.agg #[.bool al, .int .i64 i, .int .i64 it, .int .i64 o, .int .i64 ot, .int .i64 p, .int .i64 pt], .bool false]) ∧ Below w.heap.size w w' := by
  have H := Lib.hid h
  have HV := Lib.hid hv
  clear h hv
  have HN0 : Hid (Blk (w.alloc (.cells #[.bool false, .int .i64 0, .int .i64 0, .int .i64 0, .int .i64 0, .int .i64 0, .int .i64 0] 37)) w.heap.size 37 [.bool false, .int .i64 0, .int .i64 0, .int .i64 0, .int .i64 0, .int .i64 0, .int .i64 0]) := blk_zero7 w _
  go_enter Tryd.func18, Tryd.ntmps18
  go_wp2_with fail
  (go_at_call 41; refine (H.out _ (HV.out.below ((Below.refl _ _).alloc (Nat.le_refl _) _))).mono ?_; rintro e w1 ⟨⟨tt, qv, rfl⟩, b1⟩; have HK1 : Hid (Blk w1 w.heap.size 37 [.bool false, .int .i64 0, .int .i64 0, .int .i64 0, .int .i64 0, .int .i64 0, .int .i64 0]) := HN0.out.below b1; have B1 : Hid (Below w.heap.size w w1) := below_box b1; clear b1)
  have z1 : w.heap.size < w1.heap.size := HK1.out.lt
  have hne : ¬ w.heap.size = w1.heap.size := by omega
  go_wp2_with fail
  obtain ⟨W2, hW2⟩ : ∃ W2, W2 = w1.alloc (.cells #[.bool al, .int .i64 i, .int .i64 it, .int .i64 o, .int .i64 ot, .int .i64 p, .int .i64 pt] 37) := ⟨_, rfl⟩
  have HK2 : Hid (Blk W2 w.heap.size 37 [.bool false, .int .i64 0, .int .i64 0, .int .i64 0, .int .i64 0, .int .i64 0, .int .i64 0]) := by rw [hW2]; exact HK1.out.below ((Below.refl _ _).alloc (Nat.le_refl _) _)
  have B2 : Hid (Below w.heap.size w W2) := by rw [hW2]; exact B1.out.alloc (by omega) _
  have HRb : Hid (Box7 W2 w1.heap.size (.bool al) (.int .i64 i) (.int .i64 it) (.int .i64 o) (.int .i64 ot) (.int .i64 p) (.int .i64 pt)) := by rw [hW2]; exact box7_new w1 _ _ _ _ _ _ _ _
  obtain ⟨y0, y1, y2, y3, y4, y5, y6⟩ := HRb.out
  have k0 := (HK2.out.cell 0 _ rfl).1
  have r0 := (HK2.out.cell 0 _ rfl).2
  have k1 := (HK2.out.cell 1 _ rfl).1
  have r1 := (HK2.out.cell 1 _ rfl).2
  have k2 := (HK2.out.cell 2 _ rfl).1
  have r2 := (HK2.out.cell 2 _ rfl).2
  have k3 := (HK2.out.cell 3 _ rfl).1
  have r3 := (HK2.out.cell 3 _ rfl).2
  have k4 := (HK2.out.cell 4 _ rfl).1
  have r4 := (HK2.out.cell 4 _ rfl).2
  have k5 := (HK2.out.cell 5 _ rfl).1
  have r5 := (HK2.out.cell 5 _ rfl).2
  have k6 := (HK2.out.cell 6 _ rfl).1
  have r6 := (HK2.out.cell 6 _ rfl).2
  rw [← hW2]
  clear hW2
  go_region
  all_goals
    go_wp2
    have hq := blk_seven HK2.out rfl (.bool al) (.int .i64 i) (.int .i64 it) (.int .i64 o) (.int .i64 ot) (.int .i64 p) (.int .i64 pt)
    have q0 := (hq.cell 0 _ rfl).1
    have q1 := (hq.cell 1 _ rfl).1
    have q2 := (hq.cell 2 _ rfl).1
    have q3 := (hq.cell 3 _ rfl).1
    have q4 := (hq.cell 4 _ rfl).1
    have q5 := (hq.cell 5 _ rfl).1
    have q6 := (hq.cell 6 _ rfl).1
    refine bodyPost_ret (v := .tuple #[.agg #[.bool al, .int .i64 i, .int .i64 it, .int .i64 o, .int .i64 ot, .int .i64 p, .int .i64 pt], .bool false]) (by simp [results, Tryd.results18, go_sem, q0, q1, q2, q3, q4, q5, q6]) rfl ⟨rfl, ?_⟩
    repeat (first
      | with_reducible exact B2.out
      | with_reducible refine bR_dr ?_
      | with_reducible refine bR_7 ?_ (Nat.le_refl _) _ _ _ _ _ _ _)

theorem implRulRd_any (s : ByteArray) (w : World) (hs : s.size ≤ 2097152) (hv : VarsR w) :
    Calls Tryd.prog 18 #[.string s] w fun e w' => e = .returned (rdTV (rdT s.data.toList)) ∧ Below w.heap.size w w' := by
  rcases h : rdT s.data.toList with _ | r
  · exact implRulRd_bad s false 0 0 0 0 0 0 w hv fun w hv => (readRule_any s w hs hv).mono fun e w' ⟨he, hb⟩ => ⟨by rw [h] at he; exact he, hb⟩
  · exact implRulRd_good s r.al r.i r.it r.o r.ot r.p r.pt w hv fun w hv => (readRule_any s w hs hv).mono fun e w' ⟨he, hb⟩ => ⟨by rw [h] at he; exact he, hb⟩

theorem specRulRd_any (s : ByteArray) (w : World) (hs : s.size ≤ 2097152) :
    Calls Tryd.prog 19 #[.string s] w fun e w' => e = .returned (rdTV (rdT s.data.toList)) ∧ Below w.heap.size w w' := by
  by_cases h7 : (wordsL s.data.toList).length = 7
  · match hw : wordsL s.data.toList, h7 with
    | x0 :: [x1, x2, x3, x4, x5, x6], _ =>
      cases hh : headB x0
      · have e : rdT s.data.toList = none := by unfold rdT; rw [hw, rdW_six, if_neg (by rw [hh]; simp)]
        rw [e]
        exact specRulRd_head s x0 _ w hs hw rfl hh
      · have hx := head_word hh
        obtain ⟨al, hal⟩ : ∃ al, al = decide (x0 = allowL) := ⟨_, rfl⟩
        have hd : decide (wordR al = allowL) = al ∧ headB (wordR al) = true := by cases al <;> exact ⟨rfl, rfl⟩
        rw [← hal] at hx
        rw [hx] at hw
        have e : rdT s.data.toList = if ruleB ⟨al, numL x1, numL x2, numL x3, numL x4, numL x5, numL x6⟩ = true then some ⟨al, numL x1, numL x2, numL x3, numL x4, numL x5, numL x6⟩ else none := by
          unfold rdT; rw [hw, rdW_six, hd.1, hd.2]; simp
        refine (specRulRd_yes al s x1 x2 x3 x4 x5 x6 w hs hw).mono ?_
        rintro e' w' ⟨he, hb⟩
        refine ⟨?_, hb⟩
        rw [he, e]
        by_cases hr : ruleB ⟨al, numL x1, numL x2, numL x3, numL x4, numL x5, numL x6⟩ = true
        · rw [if_pos hr, if_pos hr]; rfl
        · rw [if_neg hr, if_neg hr]; rfl
  · have e : rdT s.data.toList = none := rdW_no h7
    rw [e]
    exact specRulRd_len s w hs h7

end Go.Proofs.YtjnhmobdigfpiaaDoor
