/- The law that a line that names an end inside is just that: at every two codes. Conditions: the codes lie in memory; the variables that are read hold what they are laid with. -/
import Derived.Test.YtllekjkmjadohaaDoorC2
import Derived.Test.YtllekjkmjadohaaDoorSLin
import Derived.Lib.SmallJoins
namespace Go.Proofs.YtllekjkmjadohaaDoor
open Go.RowKit Go.Sort

set_option maxRecDepth 100000 in
theorem drawLinSays_any (ao : Option Addr) (n cap : Nat) (w : World) (h : BytesIn w ao n) (hn : n ≤ cap) :
    Calls Tryd.prog 17 #[.slice ao n cap] w fun e w' => ∃ s : ByteArray, e = .returned (.string s) ∧ s.size ≤ 60 ∧ Below w.heap.size w w' := by
  have H := Lib.hid h
  clear h
  go_enter Tryd.func17, Tryd.ntmps17
  go_wp2_with fail
  (go_at_call 43; refine (drawLinOk_any ao n cap _ H.out hn).mono ?_; rintro e w1 ⟨s, rfl, hs, b1⟩)
  go_wp2_with fail
  go_ret
  exact ⟨s, rfl, hs, b1⟩

set_option maxRecDepth 100000 in
set_option maxHeartbeats 6400000 in
theorem lwLinSays_of (ao : Option Addr) (n cap : Nat) (ao2 : Option Addr) (n2 cap2 : Nat) (w : World) (h : BytesIn w ao n) (hn : n ≤ cap) (h2 : BytesIn w ao2 n2) (hn2 : n2 ≤ cap2) (hv : VarsOk w) (hb1 : ¬ 1048576 < n) (hb2 : ¬ 1048576 < n2) :
    Calls Tryd.prog 4 #[.slice ao n cap, .slice ao2 n2 cap2] w fun e w' => e = .returned (.bool true) ∧ Below w.heap.size w w' := by
  have H := Lib.hid h
  have H2 := Lib.hid h2
  have HV := Lib.hid hv
  clear h h2 hv
  go_enter Tryd.func4, Tryd.ntmps4
  go_wp2_with fail
  (go_at_call 17; refine (drawLinSays_any ao n cap _ H.out hn).mono ?_; rintro e w1 ⟨s, rfl, hs, b1⟩)
  have B1 := Lib.hid b1
  have H21 := Lib.hid (H2.out.below b1)
  clear b1
  go_wp2_with fail
  (go_at_call 18; refine (drawLinPort_any ao2 n2 cap2 _ H21.out hn2).mono ?_; rintro e w2 ⟨a, p, rfl, b2⟩)
  have B2 := Lib.hid ((B1.out.trans (b2.mono B1.out.size)).alloc (B1.out.trans (b2.mono B1.out.size)).size (.cells #[.int .i64 a, .int .i64 p] 24))
  have E2 := Lib.hid (C2.new w2 a p)
  have V2 := Lib.hid (HV.out.below B2.out)
  clear b2
  obtain ⟨a1, p1, o1, e1, hf1⟩ : ∃ (x q : Int) (o : Bool), saysV (saysE s.data.toList) = .tuple #[.agg #[.int .i64 x, .int .i64 q], .bool o] ∧ ((o = true ∧ insB x q = true ∧ s.data.toList = lpL x q) ∨ (o = false ∧ x = 0 ∧ q = 0)) := by
    rcases says_form (saysE s.data.toList) with ⟨x, q, h1, h2⟩ | ⟨h1, h2⟩
    · obtain ⟨k1, k2, k3⟩ := says_line h1
      exact ⟨x, q, true, h2, .inl ⟨rfl, k1, k3⟩⟩
    · exact ⟨0, 0, false, h2, .inr ⟨rfl, rfl, rfl⟩⟩
  have HI1 : Hid (∀ w, VarsOk w → Calls Tryd.prog 19 #[.string s] w fun e w' => e = .returned (.tuple #[.agg #[.int .i64 a1, .int .i64 p1], .bool o1]) ∧ Below w.heap.size w w') := fun w hv => by rw [← e1]; exact implSays_any s w (by omega) hv
  have HS1 : Hid (∀ w, Calls Tryd.prog 20 #[.string s] w fun e w' => e = .returned (.tuple #[.agg #[.int .i64 a1, .int .i64 p1], .bool o1]) ∧ Below w.heap.size w w') := fun w => by rw [← e1]; exact specSays_any s w (by omega)
  obtain ⟨T, hT⟩ : ∃ T : ByteArray, T = ⟨(lpL a p).toArray⟩ := ⟨_, rfl⟩
  have HI : Hid (∀ w, TabOk w → Calls Tryd.prog 21 #[.agg #[.int .i64 a, .int .i64 p]] w fun e w' => e = .returned (.string T) ∧ Below w.heap.size w w') := fun w ht => by rw [hT]; exact implLinPort_any a p w ht
  have HS : Hid (∀ w, Calls Tryd.prog 22 #[.agg #[.int .i64 a, .int .i64 p]] w fun e w' => e = .returned (.string T) ∧ Below w.heap.size w w') := fun w => by rw [hT]; exact specLinPort_any a p w
  have HT : Hid (T.data.toList = lpL a p) := by show T.data.toList = _; rw [hT]
  have hTl : T.size ≤ 20 := by rw [← len_list, HT.out]; exact lpL_len a p
  obtain ⟨bl, hbl⟩ : ∃ bl, bl = linB s.data.toList := ⟨_, rfl⟩
  have HLI : Hid (∀ w, Calls Tryd.prog 23 #[.string s] w fun e w' => e = .returned (.bool bl) ∧ Below w.heap.size w w') := fun w => by rw [hbl]; exact (implLin_all s w).mono fun _ _ ⟨h1, h2⟩ => ⟨h1, by subst h2; exact Below.refl _ _⟩
  have HLS : Hid (∀ w, Calls Tryd.prog 24 #[.string s] w fun e w' => e = .returned (.bool bl) ∧ Below w.heap.size w w') := fun w => by rw [hbl]; exact (specLin_any s w (by omega)).mono fun _ _ ⟨h1, h2⟩ => ⟨h1, by subst h2; exact Below.refl _ _⟩
  have F1 := Lib.hid hf1
  clear e1 hf1 hT hbl
  go_wp2_with fail
  (go_at_call 19; refine (HI1.out _ V2.out).mono ?_; rintro e w3 ⟨rfl, b3⟩)
  have E3 := Lib.hid ((E2.out.below b3).alloc (.cells #[.int .i64 a1, .int .i64 p1] 24))
  have X3 := Lib.hid (C2.new w3 a1 p1)
  have B3 := Lib.hid ((B2.out.trans (b3.mono B2.out.size)).alloc (B2.out.trans (b3.mono B2.out.size)).size (.cells #[.int .i64 a1, .int .i64 p1] 24))
  clear b3 E2
  go_wp2_with fail
  (go_at_call 20; refine (HS1.out _).mono ?_; rintro e w4 ⟨rfl, b4⟩)
  have E4 := Lib.hid ((E3.out.below b4).alloc (.cells #[.int .i64 a1, .int .i64 p1] 24))
  have X4 := Lib.hid ((X3.out.below b4).alloc (.cells #[.int .i64 a1, .int .i64 p1] 24))
  have Y4 := Lib.hid (C2.new w4 a1 p1)
  have B4 := Lib.hid ((B3.out.trans (b4.mono B3.out.size)).alloc (B3.out.trans (b4.mono B3.out.size)).size (.cells #[.int .i64 a1, .int .i64 p1] 24))
  have V4 := Lib.hid (HV.out.below B4.out)
  clear b4 E3 X3
  go_wp2_with fail
  obtain ⟨W5, hW5⟩ : ∃ W5, w4.alloc (.cells #[.int .i64 a1, .int .i64 p1] 24) = W5 := ⟨_, rfl⟩
  rw [hW5] at E4 X4 Y4 B4 V4 ⊢
  obtain ⟨ge, ke0, ke1⟩ := E4.out
  obtain ⟨gx, kx0, kx1⟩ := X4.out
  obtain ⟨gy, ky0, ky1⟩ := Y4.out
  have ke0 := cell_regrown ke0
  have ke1 := cell_regrown ke1
  have kx0 := cell_regrown kx0
  have kx1 := cell_regrown kx1
  have ky0 := cell_regrown ky0
  have ky1 := cell_regrown ky1
  have cI : ∀ d os, Calls Tryd.prog 21 #[.agg #[.int .i64 a, .int .i64 p]] (grow (redrawn W5 d) os) fun e w'' => e = .returned (.string T) ∧ ∃ p : Regrown, w'' = grow (redrawn W5 p.d) p.os := fun d os => Calls.regrown_of (HI.out _ (V4.out.tab.below (below_regrown W5 d os) (Nat.le_refl _)))
  have cS : ∀ d os, Calls Tryd.prog 22 #[.agg #[.int .i64 a, .int .i64 p]] (grow (redrawn W5 d) os) fun e w'' => e = .returned (.string T) ∧ ∃ p : Regrown, w'' = grow (redrawn W5 p.d) p.os := fun d os => Calls.regrown_of (HS.out _)
  have cL : ∀ d os, Calls Tryd.prog 23 #[.string s] (grow (redrawn W5 d) os) fun e w'' => e = .returned (.bool bl) ∧ ∃ p : Regrown, w'' = grow (redrawn W5 p.d) p.os := fun d os => Calls.regrown_of (HLI.out _)
  have cM : ∀ d os, Calls Tryd.prog 24 #[.string s] (grow (redrawn W5 d) os) fun e w'' => e = .returned (.bool bl) ∧ ∃ p : Regrown, w'' = grow (redrawn W5 p.d) p.os := fun d os => Calls.regrown_of (HLS.out _)
  refine wp_region_quiet_below (by kernel_rfl) (by kernel_rfl) ?_
  repeat (quiet_step (first | exact cI _ _ | exact cS _ _ | exact cL _ _ | exact cM _ _))
  refine wpQuiet_nil ?_
  intro _ hw'
  obtain ⟨⟨dq, osq⟩, hw''⟩ := hw'
  have bq : Below W5.heap.size W5 (grow (redrawn W5 dq) osq) := below_regrown W5 dq osq
  subst hw''
  obtain ⟨W6, hW6⟩ : ∃ W6, grow (redrawn W5 dq) osq = W6 := ⟨_, rfl⟩
  clear ke0 ke1 kx0 kx1 ky0 ky1 cI cS cL cM
  simp only [hW6] at bq ⊢
  have Et0 := Lib.hid (E4.out.below bq)
  have Xt := Lib.hid (X4.out.below bq)
  have Bt0 := Lib.hid (B4.out.trans (bq.mono B4.out.size))
  have Vt := Lib.hid (HV.out.below Bt0.out)
  obtain ⟨gt, ct0, ct1⟩ := Et0.out
  obtain ⟨gz, cx0, cx1⟩ := Xt.out
  clear bq E4 X4 Y4 B4 V4
  rcases F1.out with ⟨rfl, hk, hst⟩ | ⟨rfl, rfl, rfl⟩
  · have HX : Hid (∀ w, TabOk w → Calls Tryd.prog 21 #[.agg #[.int .i64 a1, .int .i64 p1]] w fun e w' => e = .returned (.string s) ∧ Below w.heap.size w w') := fun w ht => by
      have := implLinPort_any a1 p1 w ht
      rw [← hst] at this
      rw [show (⟨s.data.toList.toArray⟩ : ByteArray) = s from Lib.mk_data s] at this
      exact this
    clear hst
    go_wp2_with fail
    (go_at_call 25; refine (implInside_any a1 p1 _).mono ?_; rintro e wd ⟨rfl, bd⟩)
    have Ed := Lib.hid (Et0.out.below bd)
    obtain ⟨gd, cd0, cd1⟩ := Xt.out.below bd
    have Bd := Lib.hid (Bt0.out.trans (bd.mono Bt0.out.size))
    have Vd := Lib.hid (HV.out.below Bd.out)
    clear bd cx0 cx1 ct0 ct1 gt gz
    go_wp2_with fail
    (go_at_call 21; refine (HX.out _ Vd.out.tab).mono ?_; rintro e wf ⟨rfl, bf⟩)
    have Et := Lib.hid (Ed.out.below bf)
    have Bt := Lib.hid (Bd.out.trans (bf.mono Bd.out.size))
    obtain ⟨gt, ct0, ct1⟩ := Et.out
    clear bf cd0 cd1
    go_wp2_with fail
    (go_at_call 15; refine (specOk_any a p _).mono ?_; rintro e wa ⟨rfl, ba⟩)
    have Ea := Lib.hid (Et.out.below ba)
    have Ba := Lib.hid (Bt.out.trans (ba.mono Bt.out.size))
    have Va := Lib.hid (HV.out.below Ba.out)
    clear ba
    obtain ⟨ga, ca0, ca1⟩ := Ea.out
    by_cases he : endB a p = true
    · have HL : Hid (∀ w, Calls Tryd.prog 23 #[.string T] w fun e w' => e = .returned (.bool true) ∧ w = w') := fun w => by
        have := implLin_all T w
        rw [HT.out, lpL_lin he] at this; exact this
      obtain ⟨a3, p3, o3, HR, hF3⟩ : ∃ (a3 p3 : Int) (o3 : Bool), Hid (∀ w, VarsOk w → Calls Tryd.prog 19 #[.string T] w fun e w' => e = .returned (.tuple #[.agg #[.int .i64 a3, .int .i64 p3], .bool o3]) ∧ Below w.heap.size w w') ∧ ((o3 = true ∧ a3 = a ∧ p3 = p ∧ insB a p = true) ∨ (o3 = false ∧ insB a p = false)) := by
        by_cases hi : insB a p = true
        · refine ⟨a, p, true, fun w hv => ?_, .inl ⟨rfl, rfl, rfl, hi⟩⟩
          have := implSays_any T w (by omega) hv
          rw [HT.out, says_lpL he, if_pos hi] at this; exact this
        · refine ⟨0, 0, false, fun w hv => ?_, .inr ⟨rfl, by simpa using hi⟩⟩
          have := implSays_any T w (by omega) hv
          rw [HT.out, says_lpL he, if_neg hi] at this; exact this
      have F3 := Lib.hid hF3
      clear hF3
      go_wp2_with fail
      (go_at_call 21; refine (HI.out _ Va.out.tab).mono ?_; rintro e wb ⟨rfl, bb⟩)
      have Eb := Lib.hid (Ea.out.below bb)
      have Bb := Lib.hid (Ba.out.trans (bb.mono Ba.out.size))
      have Vb := Lib.hid (HV.out.below Bb.out)
      clear bb
      go_wp2_with fail
      (go_at_call 19; refine (HR.out _ Vb.out).mono ?_; rintro e wc ⟨rfl, bc⟩)
      have Ec := Lib.hid ((Eb.out.below bc).alloc (.cells #[.int .i64 a3, .int .i64 p3] 24))
      have Yc := Lib.hid (C2.new wc a3 p3)
      have Bc := Lib.hid ((Bb.out.trans (bc.mono Bb.out.size)).alloc (Bb.out.trans (bc.mono Bb.out.size)).size (.cells #[.int .i64 a3, .int .i64 p3] 24))
      have Vc := Lib.hid (HV.out.below Bc.out)
      obtain ⟨gc, cc0, cc1⟩ := Eb.out.below bc
      clear bc ca0 ca1
      go_wp2_with fail
      (go_at_call 21; refine (HI.out _ Vc.out.tab).mono ?_; rintro e wg ⟨rfl, bg⟩)
      have Eg := Lib.hid (Ec.out.below bg)
      have Yg := Lib.hid (Yc.out.below bg)
      have Bg := Lib.hid (Bc.out.trans (bg.mono Bc.out.size))
      clear bg cc0 cc1 gc
      go_wp2_with fail
      (go_at_call 23; refine (HL.out _).mono ?_; rintro e wh ⟨rfl, rfl⟩)
      obtain ⟨gg, cg0, cg1⟩ := Eg.out
      obtain ⟨gy, cy0, cy1⟩ := Yg.out
      rcases F3.out with ⟨rfl, rfl, rfl, hi⟩ | ⟨rfl, hi⟩
      · go_wp2_with fail
        (go_at_call 26; refine (specInside_any _ _ _).mono ?_; rintro e wi ⟨rfl, bi⟩)
        obtain ⟨gi, ci0, ci1⟩ := Eg.out.below bi
        obtain ⟨gj, cj0, cj1⟩ := Yg.out.below bi
        have Bi := Lib.hid (Bg.out.trans (bi.mono Bg.out.size))
        clear bi cg0 cg1 cy0 cy1 gg gy
        go_wp2_with fail
        go_ret
        exact ⟨rfl, Bi.out⟩
      · go_wp2_with fail
        (go_at_call 26; refine (specInside_any _ _ _).mono ?_; rintro e wi ⟨rfl, bi⟩)
        have Bi := Lib.hid (Bg.out.trans (bi.mono Bg.out.size))
        clear bi
        go_wp2_with fail
        go_ret
        exact ⟨rfl, Bi.out⟩
    · simp only [Bool.not_eq_true] at he
      have hT0 : T.toList = [] := by rw [Lib.toList_data, HT.out, lpL_no he]
      go_wp2_with fail
      (go_at_call 21; refine (HI.out _ Va.out.tab).mono ?_; rintro e wb ⟨rfl, bb⟩)
      have Bb := Lib.hid (Ba.out.trans (bb.mono Ba.out.size))
      clear bb
      go_wp2_with fail
      (go_at_call 16; refine (haOk_any _).mono ?_; rintro e wc ⟨rfl, rfl⟩)
      go_wp2_with fail
      go_ret
      exact ⟨rfl, Bb.out⟩
  · have Et := Et0
    have Bt := Bt0
    go_wp2_with fail
    (go_at_call 15; refine (specOk_any a p _).mono ?_; rintro e wa ⟨rfl, ba⟩)
    have Ea := Lib.hid (Et.out.below ba)
    have Ba := Lib.hid (Bt.out.trans (ba.mono Bt.out.size))
    have Va := Lib.hid (HV.out.below Ba.out)
    clear ba
    obtain ⟨ga, ca0, ca1⟩ := Ea.out
    by_cases he : endB a p = true
    · have HL : Hid (∀ w, Calls Tryd.prog 23 #[.string T] w fun e w' => e = .returned (.bool true) ∧ w = w') := fun w => by
        have := implLin_all T w
        rw [HT.out, lpL_lin he] at this; exact this
      obtain ⟨a3, p3, o3, HR, hF3⟩ : ∃ (a3 p3 : Int) (o3 : Bool), Hid (∀ w, VarsOk w → Calls Tryd.prog 19 #[.string T] w fun e w' => e = .returned (.tuple #[.agg #[.int .i64 a3, .int .i64 p3], .bool o3]) ∧ Below w.heap.size w w') ∧ ((o3 = true ∧ a3 = a ∧ p3 = p ∧ insB a p = true) ∨ (o3 = false ∧ insB a p = false)) := by
        by_cases hi : insB a p = true
        · refine ⟨a, p, true, fun w hv => ?_, .inl ⟨rfl, rfl, rfl, hi⟩⟩
          have := implSays_any T w (by omega) hv
          rw [HT.out, says_lpL he, if_pos hi] at this; exact this
        · refine ⟨0, 0, false, fun w hv => ?_, .inr ⟨rfl, by simpa using hi⟩⟩
          have := implSays_any T w (by omega) hv
          rw [HT.out, says_lpL he, if_neg hi] at this; exact this
      have F3 := Lib.hid hF3
      clear hF3
      go_wp2_with fail
      (go_at_call 21; refine (HI.out _ Va.out.tab).mono ?_; rintro e wb ⟨rfl, bb⟩)
      have Eb := Lib.hid (Ea.out.below bb)
      have Bb := Lib.hid (Ba.out.trans (bb.mono Ba.out.size))
      have Vb := Lib.hid (HV.out.below Bb.out)
      clear bb
      go_wp2_with fail
      (go_at_call 19; refine (HR.out _ Vb.out).mono ?_; rintro e wc ⟨rfl, bc⟩)
      have Ec := Lib.hid ((Eb.out.below bc).alloc (.cells #[.int .i64 a3, .int .i64 p3] 24))
      have Yc := Lib.hid (C2.new wc a3 p3)
      have Bc := Lib.hid ((Bb.out.trans (bc.mono Bb.out.size)).alloc (Bb.out.trans (bc.mono Bb.out.size)).size (.cells #[.int .i64 a3, .int .i64 p3] 24))
      have Vc := Lib.hid (HV.out.below Bc.out)
      obtain ⟨gc, cc0, cc1⟩ := Eb.out.below bc
      clear bc ca0 ca1
      go_wp2_with fail
      (go_at_call 21; refine (HI.out _ Vc.out.tab).mono ?_; rintro e wg ⟨rfl, bg⟩)
      have Eg := Lib.hid (Ec.out.below bg)
      have Yg := Lib.hid (Yc.out.below bg)
      have Bg := Lib.hid (Bc.out.trans (bg.mono Bc.out.size))
      clear bg cc0 cc1 gc
      go_wp2_with fail
      (go_at_call 23; refine (HL.out _).mono ?_; rintro e wh ⟨rfl, rfl⟩)
      obtain ⟨gg, cg0, cg1⟩ := Eg.out
      obtain ⟨gy, cy0, cy1⟩ := Yg.out
      rcases F3.out with ⟨rfl, rfl, rfl, hi⟩ | ⟨rfl, hi⟩
      · go_wp2_with fail
        (go_at_call 26; refine (specInside_any _ _ _).mono ?_; rintro e wi ⟨rfl, bi⟩)
        obtain ⟨gi, ci0, ci1⟩ := Eg.out.below bi
        obtain ⟨gj, cj0, cj1⟩ := Yg.out.below bi
        have Bi := Lib.hid (Bg.out.trans (bi.mono Bg.out.size))
        clear bi cg0 cg1 cy0 cy1 gg gy
        go_wp2_with fail
        go_ret
        exact ⟨rfl, Bi.out⟩
      · go_wp2_with fail
        (go_at_call 26; refine (specInside_any _ _ _).mono ?_; rintro e wi ⟨rfl, bi⟩)
        have Bi := Lib.hid (Bg.out.trans (bi.mono Bg.out.size))
        clear bi
        go_wp2_with fail
        go_ret
        exact ⟨rfl, Bi.out⟩
    · simp only [Bool.not_eq_true] at he
      have hT0 : T.toList = [] := by rw [Lib.toList_data, HT.out, lpL_no he]
      go_wp2_with fail
      (go_at_call 21; refine (HI.out _ Va.out.tab).mono ?_; rintro e wb ⟨rfl, bb⟩)
      have Bb := Lib.hid (Ba.out.trans (bb.mono Ba.out.size))
      clear bb
      go_wp2_with fail
      (go_at_call 16; refine (haOk_any _).mono ?_; rintro e wc ⟨rfl, rfl⟩)
      go_wp2_with fail
      go_ret
      exact ⟨rfl, Bb.out⟩

set_option maxRecDepth 100000 in
set_option maxHeartbeats 800000 in
theorem lwLinSays_any (ao : Option Addr) (n cap : Nat) (ao2 : Option Addr) (n2 cap2 : Nat) (w : World) (h : BytesIn w ao n) (hn : n ≤ cap) (h2 : BytesIn w ao2 n2) (hn2 : n2 ≤ cap2) (hv : VarsOk w) :
    Calls Tryd.prog 4 #[.slice ao n cap, .slice ao2 n2 cap2] w fun e w' => e = .returned (.bool true) ∧ Below w.heap.size w w' := by
  by_cases hb1 : 1048576 < n
  · clear h h2 hv
    go_enter Tryd.func4, Tryd.ntmps4
    go_wp2_with fail
    go_ret
    exact ⟨rfl, Below.refl _ _⟩
  · by_cases hb2 : 1048576 < n2
    · clear h h2 hv
      go_enter Tryd.func4, Tryd.ntmps4
      go_wp2_with fail
      go_ret
      exact ⟨rfl, Below.refl _ _⟩
    · exact lwLinSays_of ao n cap ao2 n2 cap2 w h hn h2 hn2 hv hb1 hb2

end Go.Proofs.YtllekjkmjadohaaDoor
