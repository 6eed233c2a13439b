/- The law that an end's text is read as it: at every two codes. Conditions: the codes lie in memory; the variables that are read hold what they are laid with. -/
import Derived.Test.YtllekjkmjadohaaDoorC2
import Derived.Lib.SmallJoins
namespace Go.Proofs.YtllekjkmjadohaaDoor
open Go.RowKit Go.Sort

set_option maxRecDepth 100000 in
set_option maxHeartbeats 6400000 in
theorem lwEndText_of (ao : Option Addr) (n cap : Nat) (ao2 : Option Addr) (n2 cap2 : Nat) (w : World) (h : BytesIn w ao n) (hn : n ≤ cap) (h2 : BytesIn w ao2 n2) (hn2 : n2 ≤ cap2) (hv : VarsOk w) (hb1 : ¬ 1048576 < n) (hb2 : ¬ 1048576 < n2) :
    Calls Tryd.prog 3 #[.slice ao n cap, .slice ao2 n2 cap2] w fun e w' => e = .returned (.bool true) ∧ Below w.heap.size w w' := by
  have H := Lib.hid h
  have H2 := Lib.hid h2
  have HV := Lib.hid hv
  clear h h2 hv
  go_enter Tryd.func3, Tryd.ntmps3
  go_wp2_with fail
  (go_at_call 8; refine (drawEndText_any ao n cap _ H.out hn).mono ?_; rintro e w1 ⟨a, p, rfl, b1⟩)
  have B1 := Lib.hid (b1.alloc b1.size (.cells #[.int .i64 a, .int .i64 p] 24))
  have E1 := Lib.hid (C2.new w1 a p)
  have H21 := Lib.hid (H2.out.below B1.out)
  clear b1
  go_wp2_with fail
  (go_at_call 9; refine (drawEndRead_any ao2 n2 cap2 _ H21.out hn2).mono ?_; rintro e w2 ⟨s, rfl, hs, b2⟩)
  have E2 := Lib.hid (E1.out.below b2)
  have B2 := Lib.hid (B1.out.trans (b2.mono B1.out.size))
  have V2 := Lib.hid (HV.out.below B2.out)
  clear b2 E1
  obtain ⟨a1, p1, o1, e1, hf1⟩ : ∃ (x q : Int) (o : Bool), saysV (rdE s.data.toList) = .tuple #[.agg #[.int .i64 x, .int .i64 q], .bool o] ∧ ((o = true ∧ endB x q = true ∧ s.data.toList = etL x q) ∨ (o = false ∧ x = 0 ∧ q = 0)) := by
    rcases says_form (rdE s.data.toList) with ⟨x, q, h1, h2⟩ | ⟨h1, h2⟩
    · obtain ⟨k1, k2⟩ := rdE_text h1
      exact ⟨x, q, true, h2, .inl ⟨rfl, k2, by rw [etL_yes k2]; exact k1⟩⟩
    · exact ⟨0, 0, false, h2, .inr ⟨rfl, rfl, rfl⟩⟩
  have HI1 : Hid (∀ w, VarsOk w → Calls Tryd.prog 10 #[.string s] w fun e w' => e = .returned (.tuple #[.agg #[.int .i64 a1, .int .i64 p1], .bool o1]) ∧ Below w.heap.size w w') := fun w hv => by rw [← e1]; exact implRead_says s w (by omega) hv
  have HS1 : Hid (∀ w, Calls Tryd.prog 11 #[.string s] w fun e w' => e = .returned (.tuple #[.agg #[.int .i64 a1, .int .i64 p1], .bool o1]) ∧ Below w.heap.size w w') := fun w => by rw [← e1]; exact specRead_says s w (by omega)
  obtain ⟨T, hT⟩ : ∃ T : ByteArray, T = ⟨(etL a p).toArray⟩ := ⟨_, rfl⟩
  have HI : Hid (∀ w, TabOk w → Calls Tryd.prog 12 #[.agg #[.int .i64 a, .int .i64 p]] w fun e w' => e = .returned (.string T) ∧ Below w.heap.size w w') := fun w ht => by rw [hT]; exact implText_all a p w ht
  have HS : Hid (∀ w, Calls Tryd.prog 13 #[.agg #[.int .i64 a, .int .i64 p]] w fun e w' => e = .returned (.string T) ∧ Below w.heap.size w w') := fun w => by rw [hT]; exact specText_all a p w
  have HT : Hid (T.data.toList = etL a p) := by show T.data.toList = _; rw [hT]
  have hTl : T.size ≤ 20 := by rw [← len_list, HT.out]; exact etL_len a p
  have F1 := Lib.hid hf1
  clear e1 hf1 hT
  go_wp2_with fail
  (go_at_call 10; refine (HI1.out _ V2.out).mono ?_; rintro e w3 ⟨rfl, b3⟩)
  have E3 := Lib.hid ((E2.out.below b3).alloc (.cells #[.int .i64 a1, .int .i64 p1] 24))
  have X3 := Lib.hid (C2.new w3 a1 p1)
  have B3 := Lib.hid ((B2.out.trans (b3.mono B2.out.size)).alloc (B2.out.trans (b3.mono B2.out.size)).size (.cells #[.int .i64 a1, .int .i64 p1] 24))
  clear b3 E2
  go_wp2_with fail
  (go_at_call 11; refine (HS1.out _).mono ?_; rintro e w4 ⟨rfl, b4⟩)
  have E4 := Lib.hid ((E3.out.below b4).alloc (.cells #[.int .i64 a1, .int .i64 p1] 24))
  have X4 := Lib.hid ((X3.out.below b4).alloc (.cells #[.int .i64 a1, .int .i64 p1] 24))
  have Y4 := Lib.hid (C2.new w4 a1 p1)
  have B4 := Lib.hid ((B3.out.trans (b4.mono B3.out.size)).alloc (B3.out.trans (b4.mono B3.out.size)).size (.cells #[.int .i64 a1, .int .i64 p1] 24))
  have V4 := Lib.hid (HV.out.below B4.out)
  clear b4 E3 X3
  go_wp2_with fail
  obtain ⟨W5, hW5⟩ : ∃ W5, w4.alloc (.cells #[.int .i64 a1, .int .i64 p1] 24) = W5 := ⟨_, rfl⟩
  rw [hW5] at E4 X4 Y4 B4 V4 ⊢
  obtain ⟨ge, ke0, ke1⟩ := E4.out
  obtain ⟨gx, kx0, kx1⟩ := X4.out
  obtain ⟨gy, ky0, ky1⟩ := Y4.out
  have ke0 := cell_regrown ke0
  have ke1 := cell_regrown ke1
  have kx0 := cell_regrown kx0
  have kx1 := cell_regrown kx1
  have ky0 := cell_regrown ky0
  have ky1 := cell_regrown ky1
  have cI : ∀ d os, Calls Tryd.prog 12 #[.agg #[.int .i64 a, .int .i64 p]] (grow (redrawn W5 d) os) fun e w'' => e = .returned (.string T) ∧ ∃ p : Regrown, w'' = grow (redrawn W5 p.d) p.os := fun d os => Calls.regrown_of (HI.out _ (V4.out.tab.below (below_regrown W5 d os) (Nat.le_refl _)))
  have cS : ∀ d os, Calls Tryd.prog 13 #[.agg #[.int .i64 a, .int .i64 p]] (grow (redrawn W5 d) os) fun e w'' => e = .returned (.string T) ∧ ∃ p : Regrown, w'' = grow (redrawn W5 p.d) p.os := fun d os => Calls.regrown_of (HS.out _)
  refine wp_region_quiet_below (by kernel_rfl) (by kernel_rfl) ?_
  repeat (quiet_step (first | exact cI _ _ | exact cS _ _))
  refine wpQuiet_nil ?_
  intro _ hw'
  obtain ⟨⟨dq, osq⟩, hw''⟩ := hw'
  have bq : Below W5.heap.size W5 (grow (redrawn W5 dq) osq) := below_regrown W5 dq osq
  subst hw''
  obtain ⟨W6, hW6⟩ : ∃ W6, grow (redrawn W5 dq) osq = W6 := ⟨_, rfl⟩
  clear ke0 ke1 kx0 kx1 ky0 ky1 cI cS
  simp only [hW6] at bq ⊢
  have Et0 := Lib.hid (E4.out.below bq)
  have Xt := Lib.hid (X4.out.below bq)
  have Bt0 := Lib.hid (B4.out.trans (bq.mono B4.out.size))
  have Vt := Lib.hid (HV.out.below Bt0.out)
  obtain ⟨gt, ct0, ct1⟩ := Et0.out
  obtain ⟨gz, cx0, cx1⟩ := Xt.out
  clear bq E4 X4 Y4 B4 V4
  rcases F1.out with ⟨rfl, hk, hst⟩ | ⟨rfl, rfl, rfl⟩
  · have HX : Hid (∀ w, TabOk w → Calls Tryd.prog 12 #[.agg #[.int .i64 a1, .int .i64 p1]] w fun e w' => e = .returned (.string s) ∧ Below w.heap.size w w') := fun w ht => by
      have := implText_all a1 p1 w ht
      rw [← hst] at this
      rw [show (⟨s.data.toList.toArray⟩ : ByteArray) = s from Lib.mk_data s] at this
      exact this
    clear hst
    go_wp2_with fail
    (go_at_call 14; refine (implOk_any a1 p1 _).mono ?_; rintro e wd ⟨rfl, bd⟩)
    have Ed := Lib.hid (Et0.out.below bd)
    obtain ⟨gd, cd0, cd1⟩ := Xt.out.below bd
    have Bd := Lib.hid (Bt0.out.trans (bd.mono Bt0.out.size))
    have Vd := Lib.hid (HV.out.below Bd.out)
    clear bd cx0 cx1 ct0 ct1 gt gz
    go_wp2_with fail
    (go_at_call 12; refine (HX.out _ Vd.out.tab).mono ?_; rintro e wf ⟨rfl, bf⟩)
    have Et := Lib.hid (Ed.out.below bf)
    have Bt := Lib.hid (Bd.out.trans (bf.mono Bd.out.size))
    obtain ⟨gt, ct0, ct1⟩ := Et.out
    clear bf cd0 cd1
    go_wp2_with fail
    (go_at_call 15; refine (specOk_any a p _).mono ?_; rintro e wa ⟨rfl, ba⟩)
    have Ea := Lib.hid (Et.out.below ba)
    have Ba := Lib.hid (Bt.out.trans (ba.mono Bt.out.size))
    have Va := Lib.hid (HV.out.below Ba.out)
    clear ba
    obtain ⟨ga, ca0, ca1⟩ := Ea.out
    by_cases he : endB a p = true
    · have HR : Hid (∀ w, VarsOk w → Calls Tryd.prog 10 #[.string T] w fun e w' => e = .returned (.tuple #[.agg #[.int .i64 a, .int .i64 p], .bool true]) ∧ Below w.heap.size w w') := fun w hv => by
        have := implRead_says T w (by omega) hv
        rw [HT.out, etL_yes he, rdE_endL he] at this; exact this
      go_wp2_with fail
      (go_at_call 12; refine (HI.out _ Va.out.tab).mono ?_; rintro e wb ⟨rfl, bb⟩)
      have Eb := Lib.hid (Ea.out.below bb)
      have Bb := Lib.hid (Ba.out.trans (bb.mono Ba.out.size))
      have Vb := Lib.hid (HV.out.below Bb.out)
      clear bb
      go_wp2_with fail
      (go_at_call 10; refine (HR.out _ Vb.out).mono ?_; rintro e wc ⟨rfl, bc⟩)
      have Bc := Lib.hid (Bb.out.trans (bc.mono Bb.out.size))
      obtain ⟨gc, cc0, cc1⟩ := Eb.out.below bc
      clear bc ca0 ca1
      go_wp2_with fail
      go_ret
      exact ⟨rfl, Bc.out.alloc Bc.out.size _⟩
    · simp only [Bool.not_eq_true] at he
      have hT0 : T.toList = [] := by rw [Lib.toList_data, HT.out, etL_no he]
      go_wp2_with fail
      (go_at_call 12; refine (HI.out _ Va.out.tab).mono ?_; rintro e wb ⟨rfl, bb⟩)
      have Bb := Lib.hid (Ba.out.trans (bb.mono Ba.out.size))
      clear bb
      go_wp2_with fail
      (go_at_call 16; refine (haOk_any _).mono ?_; rintro e wc ⟨rfl, rfl⟩)
      go_wp2_with fail
      go_ret
      exact ⟨rfl, Bb.out⟩
  · have Et := Et0
    have Bt := Bt0
    go_wp2_with fail
    (go_at_call 15; refine (specOk_any a p _).mono ?_; rintro e wa ⟨rfl, ba⟩)
    have Ea := Lib.hid (Et.out.below ba)
    have Ba := Lib.hid (Bt.out.trans (ba.mono Bt.out.size))
    have Va := Lib.hid (HV.out.below Ba.out)
    clear ba
    obtain ⟨ga, ca0, ca1⟩ := Ea.out
    by_cases he : endB a p = true
    · have HR : Hid (∀ w, VarsOk w → Calls Tryd.prog 10 #[.string T] w fun e w' => e = .returned (.tuple #[.agg #[.int .i64 a, .int .i64 p], .bool true]) ∧ Below w.heap.size w w') := fun w hv => by
        have := implRead_says T w (by omega) hv
        rw [HT.out, etL_yes he, rdE_endL he] at this; exact this
      go_wp2_with fail
      (go_at_call 12; refine (HI.out _ Va.out.tab).mono ?_; rintro e wb ⟨rfl, bb⟩)
      have Eb := Lib.hid (Ea.out.below bb)
      have Bb := Lib.hid (Ba.out.trans (bb.mono Ba.out.size))
      have Vb := Lib.hid (HV.out.below Bb.out)
      clear bb
      go_wp2_with fail
      (go_at_call 10; refine (HR.out _ Vb.out).mono ?_; rintro e wc ⟨rfl, bc⟩)
      have Bc := Lib.hid (Bb.out.trans (bc.mono Bb.out.size))
      obtain ⟨gc, cc0, cc1⟩ := Eb.out.below bc
      clear bc ca0 ca1
      go_wp2_with fail
      go_ret
      exact ⟨rfl, Bc.out.alloc Bc.out.size _⟩
    · simp only [Bool.not_eq_true] at he
      have hT0 : T.toList = [] := by rw [Lib.toList_data, HT.out, etL_no he]
      go_wp2_with fail
      (go_at_call 12; refine (HI.out _ Va.out.tab).mono ?_; rintro e wb ⟨rfl, bb⟩)
      have Bb := Lib.hid (Ba.out.trans (bb.mono Ba.out.size))
      clear bb
      go_wp2_with fail
      (go_at_call 16; refine (haOk_any _).mono ?_; rintro e wc ⟨rfl, rfl⟩)
      go_wp2_with fail
      go_ret
      exact ⟨rfl, Bb.out⟩

set_option maxRecDepth 100000 in
set_option maxHeartbeats 800000 in
theorem lwEndText_any (ao : Option Addr) (n cap : Nat) (ao2 : Option Addr) (n2 cap2 : Nat) (w : World) (h : BytesIn w ao n) (hn : n ≤ cap) (h2 : BytesIn w ao2 n2) (hn2 : n2 ≤ cap2) (hv : VarsOk w) :
    Calls Tryd.prog 3 #[.slice ao n cap, .slice ao2 n2 cap2] w fun e w' => e = .returned (.bool true) ∧ Below w.heap.size w w' := by
  by_cases hb1 : 1048576 < n
  · clear h h2 hv
    go_enter Tryd.func3, Tryd.ntmps3
    go_wp2_with fail
    go_ret
    exact ⟨rfl, Below.refl _ _⟩
  · by_cases hb2 : 1048576 < n2
    · clear h h2 hv
      go_enter Tryd.func3, Tryd.ntmps3
      go_wp2_with fail
      go_ret
      exact ⟨rfl, Below.refl _ _⟩
    · exact lwEndText_of ao n cap ao2 n2 cap2 w h hn h2 hn2 hv hb1 hb2

end Go.Proofs.YtllekjkmjadohaaDoor
