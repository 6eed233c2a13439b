/- l7Ctl of the specification: some box of the call's own, and some segments. Conditions: the table is ok; at most 1000 streams, whose texts are not long. (Several texts, joined: GCtl.) -/
import Derived.Test.YtgfkiljkpkfapaaGreatDoorTPlj
import Derived.Test.YtgfkiljkpkfapaaGreatDoorTPlh
import Derived.Test.YtgfkiljkpkfapaaGreatDoorTPlk

/- l7Ctl of the specification: some box of the call's own, and some segments. Conditions: the table is ok; at most 1000 streams, whose texts are not long. -/
namespace Go.Proofs.YtgfkiljkpkfapaaGreatDoor
open Go.RowKit Go.Sort

set_option maxRecDepth 100000 in
set_option maxHeartbeats 3200000 in
theorem specCtl7_some (B : Nat) (a1 a2 a3 : Option Addr) (n1 c1 c2 c3 : Nat) (es : List (Int × Int)) (cs : List Cn) (sa sp da dp sq ak : Int) (d : ByteArray) (port : Int) (w : World) (hm : mapB es = true) (hn : cs.length ≤ 1000) (hc : cnOk cs) (hd : d.size ≤ 120) (hk : -2000000 ≤ ak ∧ ak ≤ 2000000) (hw : ((Lit.int .i64 sa).wf = true ∧ (Lit.int .i64 sp).wf = true) ∧ ((Lit.int .i64 da).wf = true ∧ (Lit.int .i64 dp).wf = true)) (hB : B ≤ w.heap.size) (ht : OwnTab w B (.slice a2 es.length c2) es) (ho : OwnCn w B (.slice a3 cs.length c3) cs) :
    Calls Tryz.prog 140 #[.agg #[.slice a1 n1 c1, .slice a2 es.length c2, .slice a3 cs.length c3], .agg #[.int .i64 sa, .int .i64 sp, .int .i64 da, .int .i64 dp, .int .i64 sq, .int .i64 ak, .string d], .int .i64 port] w fun e w' =>
      ∃ (b2 : Option Addr) (d2 : Nat) (us : List (Int × Int)) (b3 : Option Addr) (d3 : Nat) (cs' : List Cn) (v : Value), e = .returned (.tuple #[.agg #[.slice a1 n1 c1, .slice b2 us.length d2, .slice b3 cs'.length d3], v]) ∧ OwnTab w' B (.slice b2 us.length d2) us ∧ mapB us = true ∧ OwnCn w' B (.slice b3 cs'.length d3) cs' ∧ cs'.length ≤ cs.length + 1 ∧ cnOk cs' ∧ KeepC B w w' := by
  obtain ⟨W, hW⟩ : ∃ W, W = ((w.alloc (.cells #[.slice a1 n1 c1, .slice a2 es.length c2, .slice a3 cs.length c3] 29)).alloc (.cells #[.int .i64 sa, .int .i64 sp, .int .i64 da, .int .i64 dp, .int .i64 sq, .int .i64 ak, .string d] 33)).alloc (.cells #[.slice none 0 0, .slice none 0 0, .slice none 0 0] 29) := ⟨_, rfl⟩
  have BW : Hid (Below w.heap.size w W) := by
    show Below _ _ _
    rw [hW]; exact (((Below.refl _ _).alloc (Nat.le_refl _) _).alloc (by simp) _).alloc (by simp <;> omega) _
  have hs : w.heap.size + 3 ≤ W.heap.size := by rw [hW]; simp
  have Q0 : Hid (CQ w.heap.size W [.slice a1 n1 c1, .slice a2 es.length c2, .slice a3 cs.length c3] [.int .i64 sa, .int .i64 sp, .int .i64 da, .int .i64 dp, .int .i64 sq, .int .i64 ak, .string d] [.slice none 0 0, .slice none 0 0, .slice none 0 0]) := by
    show CQ _ _ _ _ _
    rw [hW]; exact CQ.new w _ _ _
  have HT : Hid (OwnTab W B (.slice a2 es.length c2) es) := own_later ht BW.out
  have HO : Hid (OwnCn W B (.slice a3 cs.length c3) cs) := own_later ho BW.out
  obtain ⟨P, hP⟩ : ∃ P, P = (placeC cs sa sp da dp).1 := ⟨_, rfl⟩
  obtain ⟨q, hq⟩ : ∃ q, q = (placeC cs sa sp da dp).2 := ⟨_, rfl⟩
  have HP : Hid (cnOk P ∧ P.length ≤ cs.length + 1) := by rw [hP]; exact place_ok hc sa sp da dp hw
  have HQ : Hid (q = -1 ∨ ∃ m : Nat, q = m ∧ m < P.length) := by rw [hP, hq]; exact place_k cs sa sp da dp
  have HF : Hid (Calls Tryz.prog 159 #[.agg #[.slice a1 n1 c1, .slice a2 es.length c2, .slice a3 cs.length c3], .agg #[.int .i64 sa, .int .i64 sp], .agg #[.int .i64 da, .int .i64 dp]] W fun e w' => ∃ (a : Option Addr) (c : Nat), e = .returned (.tuple #[.agg #[.slice a1 n1 c1, .slice a2 es.length c2, .slice a P.length c], .int .i64 q]) ∧ OwnCn w' B (.slice a P.length c) P ∧ W.grownBy w' (Value.ownBlock (.slice a3 cs.length c3))) := by
    rw [hP, hq]
    exact specPlace_any B a1 a2 a3 n1 c1 es.length c2 c3 cs sa sp da dp W (by omega) (by omega) HO.out
  have HM := Lib.hid hm
  clear hP hq hc ht ho hm hw
  obtain ⟨ne, hne⟩ : ∃ n, n = es.length := ⟨_, rfl⟩
  obtain ⟨nc, hnc⟩ : ∃ n, n = cs.length := ⟨_, rfl⟩
  obtain ⟨np, hnp⟩ : ∃ n, n = P.length := ⟨_, rfl⟩
  have HNE := Lib.hid hne
  have HNC := Lib.hid hnc
  have HNP := Lib.hid hnp
  rw [← hne] at HT HF Q0 hW ⊢
  rw [← hnc] at HO HF Q0 HP hW hn ⊢
  rw [← hnp] at HF HP HQ
  clear hne hnc hnp
  subst hW
  obtain ⟨⟨p0, p1, p2⟩, u0, u1, u2⟩ := three_all Q0.out.1
  obtain ⟨⟨e0, e1, e2, e3, e4, e5, e6⟩, f0, f1, f2, f3, f4, f5, f6⟩ := seven_partsG Q0.out.2.1
  go_enter Tryz.func140, Tryz.ntmps140
  go_wp2_with fail
  (go_at_call 159; refine HF.out.mono ?_; rintro e w1 ⟨a4, c4, rfl, o1, g1⟩)
  have Q1 := Lib.hid (Q0.out.row HO.out g1)
  have T1 : Hid (OwnTab w1 B (.slice a2 ne c2) es) := by
    have h := HT.out
    show OwnTab _ _ _ _
    unfold OwnTab at h ⊢
    exact own_keptG h HO.out (by decide) g1
  have O1 := Lib.hid o1
  have G1 : Hid (KeepC B w w1) := (KeepC.of BW.out hB).trans (KeepC.row HO.out (Nat.le_trans hB BW.out.size) g1)
  have hs1 : w.heap.size + 3 ≤ w1.heap.size := Nat.le_trans hs g1.size
  clear p0 p1 p2 u0 u1 u2 e0 e1 e2 e3 e4 e5 e6 f0 f1 f2 f3 f4 f5 f6 o1 g1 Q0 HT HO BW HF hs
  obtain ⟨⟨p0, p1, p2⟩, u0, u1, u2⟩ := three_all Q1.out.1
  obtain ⟨W2, hW2⟩ : ∃ W2, W2 = ((w1.setCell ⟨w.heap.size, 0, none⟩ (.slice a1 n1 c1)).setCell ⟨w.heap.size, 1, none⟩ (.slice a2 ne c2)).setCell ⟨w.heap.size, 2, none⟩ (.slice a4 np c4) := ⟨_, rfl⟩
  have Q2 : Hid (CQ w.heap.size W2 [.slice a1 n1 c1, .slice a2 ne c2, .slice a4 np c4] [.int .i64 sa, .int .i64 sp, .int .i64 da, .int .i64 dp, .int .i64 sq, .int .i64 ak, .string d] [.slice none 0 0, .slice none 0 0, .slice none 0 0]) := by
    rw [hW2]; exact ((Q1.out.set3 0 _).set3 1 _).set3 2 _
  have T2 : Hid (OwnTab W2 B (.slice a2 ne c2) es) := by
    rw [hW2]
    exact own_setR (own_setR (own_setR T1.out Q1.out.1 (by decide) _ _) (Q1.out.1.set _ _) (by decide) _ _) ((Q1.out.1.set _ _).set _ _) (by decide) _ _
  have O2 : Hid (OwnCn W2 B (.slice a4 np c4) P) := by
    rw [hW2]
    exact own_setR (own_setR (own_setR O1.out Q1.out.1 (by decide) _ _) (Q1.out.1.set _ _) (by decide) _ _) ((Q1.out.1.set _ _).set _ _) (by decide) _ _
  have G2 : Hid (KeepC B w W2) := by
    rw [hW2]
    exact ((G1.out.putN (Nat.le_refl _) _ _).putN (Nat.le_refl _) _ _).putN (Nat.le_refl _) _ _
  have hs2 : w.heap.size + 3 ≤ W2.heap.size := by rw [hW2]; simpa using hs1
  go_upto_region 2 with fail
  rw [← hW2]
  clear hW2 p0 p1 p2 u0 u1 u2 Q1 T1 O1 G1 hs1
  rcases HQ.out with rfl | ⟨m, rfl, hmp⟩
  · obtain ⟨⟨p0, p1, p2⟩, -⟩ := three_all Q2.out.1
    have QA := Lib.hid (Q2.out.call ((Below.refl _ W2).alloc (Nat.le_refl _) (.cells #[] 33)))
    have BA : Hid (Below W2.heap.size W2 (W2.alloc (.cells #[] 33))) := (Below.refl _ W2).alloc (Nat.le_refl _) _
    obtain ⟨⟨r0, r1, r2⟩, f0, f1, f2⟩ := three_all QA.out.2.2
    go_wp2_with fail
    obtain ⟨⟨z0, z1, z2⟩, -⟩ := three_all (three_set QA.out.2.2 (.slice a1 n1 c1) (.slice a2 ne c2) (.slice a4 np c4))
    refine bodyPost_ret (v := .tuple #[.agg #[.slice a1 n1 c1, .slice a2 ne c2, .slice a4 np c4], .slice (some ⟨W2.heap.size, 0, none⟩) 0 0]) (by simp [results, Tryz.results140, go_sem, z0, z1, z2]) rfl ⟨a2, c2, es, a4, c4, P, ⟨_, by rw [← HNE.out, ← HNP.out]⟩, ?_, HM.out, ?_, (by rw [← HNP.out]; exact HP.out.2), HP.out.1, ?_⟩
    · rw [← HNE.out]
      exact own_setR (own_setR (own_setR (own_later T2.out BA.out) QA.out.2.2 (by decide) _ _) (QA.out.2.2.set _ _) (by decide) _ _) ((QA.out.2.2.set _ _).set _ _) (by decide) _ _
    · rw [← HNP.out]
      exact own_setR (own_setR (own_setR (own_later O2.out BA.out) QA.out.2.2 (by decide) _ _) (QA.out.2.2.set _ _) (by decide) _ _) ((QA.out.2.2.set _ _).set _ _) (by decide) _ _
    · exact (((G2.out.call BA.out).putN (by omega) _ _).putN (by omega) _ _).putN (by omega) _ _
  · obtain ⟨x, hx⟩ : ∃ x, P[m]? = some x := ⟨_, List.getElem?_eq_getElem (by rw [← HNP.out]; exact hmp)⟩
    obtain ⟨g, rfl, hgB, hgl, hcp, -, ⟨k0, k1, k2, k3, k4, k5, k6⟩, l0, l1, l2, l3, l4, l5, l6⟩ := own_conn O2.out hmp x hx
    have HC : Hid (x.kn.size ≤ 120 ∧ x.he.size ≤ 120 ∧ x.ne.size ≤ 240) := ⟨(HP.out.1 x (List.mem_of_getElem? hx)).1, (HP.out.1 x (List.mem_of_getElem? hx)).2.1, (HP.out.1 x (List.mem_of_getElem? hx)).2.2.1⟩
    have HCW : Hid (cnWf1 x) := (HP.out.1 x (List.mem_of_getElem? hx)).2.2.2
    obtain ⟨⟨p0, p1, p2⟩, u0, u1, u2⟩ := three_all Q2.out.1
    have hm0 : (0 : Int) ≤ (m : Int) := by omega
    have hmc : (m : Int) < (c4 : Int) := by omega
    have hmn : (m : Int) < (np : Int) := by omega
    have hg9 : Value.ownBlock (.slice (some ⟨g, 0, none⟩) np c4) ≠ some W2.heap.size := by intro e; simp [Value.ownBlock] at e; omega
    have S3 : Hid (CS B w.heap.size W2.heap.size w (W2.alloc (.cells #[.int .i64 x.ia, .int .i64 x.ip, .int .i64 x.oa, .int .i64 x.op, .string x.kn, .string x.he, .string x.ne] 49)) [.slice a1 n1 c1, .slice a2 ne c2, .slice (some ⟨g, 0, none⟩) np c4] [.int .i64 sa, .int .i64 sp, .int .i64 da, .int .i64 dp, .int .i64 sq, .int .i64 ak, .string d] [.slice none 0 0, .slice none 0 0, .slice none 0 0] [.int .i64 x.ia, .int .i64 x.ip, .int .i64 x.oa, .int .i64 x.op, .string x.kn, .string x.he, .string x.ne] (.slice a2 ne c2) es (.slice (some ⟨g, 0, none⟩) np c4) P) := by
      have hb : Below W2.heap.size W2 (W2.alloc (.cells #[.int .i64 x.ia, .int .i64 x.ip, .int .i64 x.oa, .int .i64 x.op, .string x.kn, .string x.he, .string x.ne] 49)) := (Below.refl _ _).alloc (Nat.le_refl _) _
      exact ⟨Q2.out.call hb, heap_at _ _ _ rfl, own_later T2.out hb, own_later O2.out hb, G2.out.call hb⟩
    obtain ⟨W3, hW3⟩ : ∃ W3, W3 = W2.alloc (.cells #[.int .i64 x.ia, .int .i64 x.ip, .int .i64 x.oa, .int .i64 x.op, .string x.kn, .string x.he, .string x.ne] 49) := ⟨_, rfl⟩
    obtain ⟨s, hss⟩ : ∃ s, s = w.heap.size := ⟨_, rfl⟩
    obtain ⟨g9, hgg⟩ : ∃ g9, g9 = W2.heap.size := ⟨_, rfl⟩
    rw [← hW3] at S3
    have hs3 : g9 < W3.heap.size := by rw [hW3, hgg]; simp
    go_upto_region 5 with fail
    rw [← hW3]
    rw [← hss] at S3 hs2 hB ⊢
    rw [← hgg] at S3 hs2 hg9 hgl ⊢
    clear hW3 k0 k1 k2 k3 k4 k5 k6 l0 l1 l2 l3 l4 l5 l6 p0 p1 p2 u0 u1 u2 Q2 T2 O2 G2 hgg
    have HSS := Lib.hid hss
    have hws : w.heap.size ≤ s := Nat.le_of_eq hss.symm
    clear hss
    obtain ⟨⟨x0, x1, x2, x3, x4, x5, x6⟩, y0, y1, y2, y3, y4, y5, y6⟩ := seven_partsG S3.out.2.1
    obtain ⟨⟨e0, e1, e2, e3, e4, e5, e6⟩, f0, f1, f2, f3, f4, f5, f6⟩ := seven_partsG S3.out.1.2.1
    obtain ⟨gr, hgr⟩ : ∃ gr, gr = addS x.kn sq d := ⟨_, rfl⟩
    obtain ⟨bS, hbS⟩ : ∃ b, b = strB gr.data.toList := ⟨_, rfl⟩
    have hkn := HC.out.1
    have hgl2 : gr.size ≤ 240 := by have := addS_len x.kn sq d; rw [← hgr] at this; omega
    have HG : Hid (∀ w', Calls Tryz.prog 153 #[.string x.kn, .agg #[.int .i64 sa, .int .i64 sp, .int .i64 da, .int .i64 dp, .int .i64 sq, .int .i64 ak, .string d]] w' fun e w'' => e = .returned (.string gr) ∧ Below w'.heap.size w' w'') := fun w' => by
      rw [hgr]; exact specGrown_any x.kn sa sp da dp sq ak d w' (by omega) (by omega)
    have HS : Hid (∀ w', Calls Tryz.prog 86 #[.string gr] w' fun e w'' => e = .returned (.bool bS) ∧ Below w'.heap.size w' w'') := fun w' => by
      rw [hbS]; exact specStr_any gr w' (by omega)
    have HZ : Hid (bS = true → gr.size ≤ 120) := fun h => by
      rw [h] at hbS
      have := (str_parts hbS.symm).1
      rw [len_list] at this
      exact this
    clear hgr hbS
    go_upto_if 37 with (first
      | (go_at_call 153; refine (HG.out _).mono ?_; rintro e w4 ⟨rfl, b4⟩; have S4 := Lib.hid (S3.out.call b4); have hs4 := Nat.lt_of_lt_of_le hs3 b4.size; clear b4)
      | (go_at_call 86; refine (HS.out _).mono ?_; rintro e w5 ⟨rfl, b5⟩; have S5 := Lib.hid (S4.out.call b5); have hs5 := Nat.lt_of_lt_of_le hs4 b5.size; clear b5))
    clear S4 S3 hs3 hs4 x0 x1 x2 x3 x4 x5 x6 y0 y1 y2 y3 y4 y5 y6 e0 e1 e2 e3 e4 e5 e6 f0 f1 f2 f3 f4 f5 f6
    obtain ⟨⟨x0, x1, x2, x3, x4, x5, x6⟩, y0, y1, y2, y3, y4, y5, y6⟩ := seven_partsG S5.out.2.1
    go_cut [] (fun wx => ∃ kn : ByteArray, kn.size ≤ 120 ∧ g9 < wx.heap.size ∧ CS B s g9 w wx [.slice a1 n1 c1, .slice a2 ne c2, .slice (some ⟨g, 0, none⟩) np c4] [.int .i64 sa, .int .i64 sp, .int .i64 da, .int .i64 dp, .int .i64 sq, .int .i64 ak, .string d] [.slice none 0 0, .slice none 0 0, .slice none 0 0] [.int .i64 x.ia, .int .i64 x.ip, .int .i64 x.oa, .int .i64 x.op, .string kn, .string x.he, .string x.ne] (.slice a2 ne c2) es (.slice (some ⟨g, 0, none⟩) np c4) P)
    case first =>
      cases bS
      · go_wp2_with fail
        go_meet
        exact ⟨x.kn, hkn, hs5, S5.out⟩
      · have hz := Lib.hid (HZ.out rfl)
        go_wp2_with fail
        go_meet
        exact ⟨gr, hz.out, by simpa using hs5, S5.out.set9 (by omega) (by omega) hg9 4 _⟩
    case rest =>
      obtain ⟨kn, hkn2, hs6, s6⟩ := hcut
      have S6 := Lib.hid s6
      clear s6 S5 hs5 HG HS HZ hgl2 x0 x1 x2 x3 x4 x5 x6 y0 y1 y2 y3 y4 y5 y6
      obtain ⟨us, hus⟩ : ∃ us, us = (streamE es (linesL kn.data.toList)).1 := ⟨_, rfl⟩
      obtain ⟨fl, hfl⟩ : ∃ fl : ByteArray, fl = ⟨(streamE es (linesL kn.data.toList)).2.toArray⟩ := ⟨_, rfl⟩
      have HMU : Hid (mapB us = true) := by rw [hus]; exact streamE_ok HM.out _
      have hfs : fl.size ≤ 17000 := by
        have h1 := strE_len (linesL kn.data.toList) 120 (fun y hy => by have := line_len hy; rw [len_list] at this; omega) (es, [])
        have h2 := lines_len kn.data.toList
        rw [len_list] at h2
        have h3 : (linesL kn.data.toList).length * (120 + 21) ≤ 120 * 141 := Nat.mul_le_mul (by omega) (by omega)
        rw [hfl]
        show (streamE es (linesL kn.data.toList)).2.toArray.size ≤ _
        simp only [List.size_toArray]
        unfold streamE
        simp only [List.length_nil] at h1
        omega
      obtain ⟨nu, hnu⟩ : ∃ n, n = us.length := ⟨_, rfl⟩
      have HNU := Lib.hid hnu
      have HST : Hid (∀ w', B ≤ w'.heap.size → OwnTab w' B (.slice a2 ne c2) es → Calls Tryz.prog 104 #[.agg #[.slice a2 ne c2], .string kn] w' fun e w'' => ∃ (g' : Option Addr) (c' : Nat), e = .returned (.tuple #[.agg #[.slice g' nu c'], .string fl]) ∧ OwnTab w'' B (.slice g' nu c') us ∧ Below w'.heap.size w' w'') := fun w' h1 h2 => by
        rw [HNE.out] at h2 ⊢
        rw [hnu, hus, hfl]
        exact specStream_anyG B a2 c2 es kn w' HM.out (by omega) h1 h2
      clear hus hfl hnu
      obtain ⟨⟨p0, p1, p2⟩, u0, u1, u2⟩ := three_all S6.out.1.1
      obtain ⟨⟨x0, x1, x2, x3, x4, x5, x6⟩, y0, y1, y2, y3, y4, y5, y6⟩ := seven_partsG S6.out.2.1
      go_upto_region 9 with (go_at_call 104; refine (HST.out _ (by omega) S6.out.2.2.1).mono ?_; rintro e w7 ⟨b2, d2, rfl, t7, b7⟩; have S7 := Lib.hid ((S6.out.call b7).tab t7); have hs7 := Nat.lt_of_lt_of_le hs6 b7.size; clear t7 b7 p0 p1 p2 u0 u1 u2 x0 x1 x2 x3 x4 x5 x6 y0 y1 y2 y3 y4 y5 y6)
      have BA : Hid (Below w7.heap.size w7 (w7.alloc (.cells #[.slice b2 nu d2] 26))) := (Below.refl _ _).alloc (Nat.le_refl _) _
      obtain ⟨W8, hW8⟩ : ∃ W8, W8 = w7.alloc (.cells #[.slice b2 nu d2] 26) := ⟨_, rfl⟩
      have k8 : W8.cell? ⟨w7.heap.size, 0, none⟩ = some (.slice b2 nu d2) := by rw [hW8]; exact (cell_new w7 _ _ 0).1
      rw [← hW8] at BA ⊢
      have S8 := Lib.hid (S7.out.call BA.out)
      have hs8 := Nat.lt_of_lt_of_le hs7 BA.out.size
      clear hW8 BA S7 hs7
      obtain ⟨⟨p0, p1, p2⟩, u0, u1, u2⟩ := three_all S8.out.1.1
      go_upto_region 10 with fail
      have S9 := Lib.hid (S8.out.set3 (by omega) hws 1 (.slice b2 nu d2))
      obtain ⟨W9, hW9⟩ : ∃ W9, W9 = W8.setCell ⟨s, 1, none⟩ (.slice b2 nu d2) := ⟨_, rfl⟩
      have hs9 : g9 < W9.heap.size := by rw [hW9]; simpa using hs8
      rw [← hW9] at S9 ⊢
      clear hW9 p0 p1 p2 u0 u1 u2 k8 S8 hs8
      obtain ⟨⟨p0, p1, p2⟩, u0, u1, u2⟩ := three_all S9.out.1.1
      obtain ⟨⟨x0, x1, x2, x3, x4, x5, x6⟩, y0, y1, y2, y3, y4, y5, y6⟩ := seven_partsG S9.out.2.1
      obtain ⟨gz, egz, -, -, -, -, ⟨k0, k1, k2, k3, k4, k5, k6⟩, l0, l1, l2, l3, l4, l5, l6⟩ := own_conn S9.out.2.2.2.1 hmp x hx
      injection egz with egz
      injection egz with egz
      subst egz
      have S10 := Lib.hid (S9.out.putC HNP.out hmp (by omega) ⟨x.ia, x.ip, x.oa, x.op, kn, x.he, x.ne⟩)
      obtain ⟨PX, hPX⟩ : ∃ PX, PX = P.set m ⟨x.ia, x.ip, x.oa, x.op, kn, x.he, x.ne⟩ := ⟨_, rfl⟩
      have HPX : Hid (cnOk PX ∧ np = PX.length) := by rw [hPX]; exact ⟨cnOk_set HP.out.1 m hkn2 HC.out.2.1 HC.out.2.2 HCW.out, by rw [List.length_set]; exact HNP.out⟩
      rw [← hPX] at S10
      simp only at S10
      go_upto_region 11 with fail
      obtain ⟨W10, hW10⟩ : ∃ W10, W10 = ((((((W9.setCell ⟨g, m * 7, none⟩ (.int .i64 x.ia)).setCell ⟨g, m * 7 + 1, none⟩ (.int .i64 x.ip)).setCell ⟨g, m * 7 + 2, none⟩ (.int .i64 x.oa)).setCell ⟨g, m * 7 + 3, none⟩ (.int .i64 x.op)).setCell ⟨g, m * 7 + 4, none⟩ (.string kn)).setCell ⟨g, m * 7 + 5, none⟩ (.string x.he)).setCell ⟨g, m * 7 + 6, none⟩ (.string x.ne) := ⟨_, rfl⟩
      have hs10 : g9 < W10.heap.size := by rw [hW10]; simpa using hs9
      rw [← hW10] at S10 ⊢
      clear hW10 hPX S9 hs9 S6 hs6 p0 p1 p2 u0 u1 u2 x0 x1 x2 x3 x4 x5 x6 y0 y1 y2 y3 y4 y5 y6 k0 k1 k2 k3 k4 k5 k6 l0 l1 l2 l3 l4 l5 l6 HST
      obtain ⟨⟨x0, x1, x2, x3, x4, x5, x6⟩, -⟩ := seven_partsG S10.out.2.1
      obtain ⟨⟨e0, e1, e2, e3, e4, e5, e6⟩, -⟩ := seven_partsG S10.out.1.2.1
      obtain ⟨L, hL⟩ : ∃ L, L = pairsL kn.data.toList fl.data.toList := ⟨_, rfl⟩
      have HBo : Hid (∀ w', Calls Tryz.prog 156 #[.string kn, .string fl] w' fun e w'' => ∃ v, e = .returned v ∧ RdSp w'' v (spansL L) ∧ Below w'.heap.size w' w'') := fun w' => by
        rw [hL]
        refine (specBoth_any kn fl w' (by omega) (by omega)).mono ?_
        rintro e w'' ⟨v, rfl, o, b⟩
        exact ⟨v, rfl, RdC.of_own spC_len (by decide) o, b⟩
      obtain ⟨n, hn1, hn2⟩ := outI_range L sq
      have hno : n ≤ 17000 := by
        have h1 := pairsL_outs kn.data.toList fl.data.toList
        rw [← hL, len_list] at h1
        omega
      have HOu : Hid (∀ w' v, RdSp w' v (spansL L) → Calls Tryz.prog 155 #[v, .int .i64 sq] w' fun e w'' => e = .returned (.int .i64 (n : Int)) ∧ w' = w'') := fun w' v hv => by
        rw [← hn1]
        have h1 := pairsL_ins kn.data.toList fl.data.toList
        have h2 := insL_ge L
        rw [← hL, len_list] at h1
        exact specOut_any v L sq w' (by omega) hv
      clear hL hn1 hn2
      go_cut [13] (fun s13 wx => s13 = .int .i64 (n : Int) ∧ g9 < wx.heap.size ∧ CS B s g9 w wx [.slice a1 n1 c1, .slice b2 nu d2, .slice (some ⟨g, 0, none⟩) np c4] [.int .i64 sa, .int .i64 sp, .int .i64 da, .int .i64 dp, .int .i64 sq, .int .i64 ak, .string d] [.slice none 0 0, .slice none 0 0, .slice none 0 0] [.int .i64 x.ia, .int .i64 x.ip, .int .i64 x.oa, .int .i64 x.op, .string kn, .string x.he, .string x.ne] (.slice b2 nu d2) us (.slice (some ⟨g, 0, none⟩) np c4) PX)
      case first =>
        go_region_with (first
          | (go_at_call 156; refine (HBo.out _).mono ?_; rintro e wa ⟨va, rfl, ra, ba⟩; have sa2 := CS.call (by first | exact S10.out | exact S10.out.drew) ba; have hsa := Nat.lt_of_lt_of_le (by first | exact hs10 | exact (show g9 < W10.drew.heap.size from hs10)) ba.size; clear x0 x1 x2 x3 x4 x5 x6 e0 e1 e2 e3 e4 e5 e6; obtain ⟨⟨x0, x1, x2, x3, x4, x5, x6⟩, -⟩ := seven_partsG sa2.2.1; obtain ⟨⟨e0, e1, e2, e3, e4, e5, e6⟩, -⟩ := seven_partsG sa2.1.2.1)
          | (go_at_call 155; refine (HOu.out _ _ ra).mono ?_; rintro e wb ⟨rfl, rfl⟩))
        all_goals (go_wp2_with fail; go_meet)
        all_goals first
          | exact ⟨rfl, hsa, sa2⟩
          | (trace_state; fail)
      case rest =>
        obtain ⟨rfl, hs11, s11⟩ := hcut
        have S11 := Lib.hid s11
        clear s11 S10 hs10 HBo HOu x0 x1 x2 x3 x4 x5 x6 e0 e1 e2 e3 e4 e5 e6
        obtain ⟨⟨e0, e1, e2, e3, e4, e5, e6⟩, f0, f1, f2, f3, f4, f5, f6⟩ := seven_partsG S11.out.1.2.1
        go_upto_region 13 with fail
        have S12 := Lib.hid ((S11.out.set4 (by omega) hws 0 (.int .i64 50)).set4 (by omega) hws 1 (.int .i64 port))
        obtain ⟨W12, hW12⟩ : ∃ W12, W12 = (wc.setCell ⟨s + 1, 0, none⟩ (.int .i64 50)).setCell ⟨s + 1, 1, none⟩ (.int .i64 port) := ⟨_, rfl⟩
        have hs12 : g9 < W12.heap.size := by rw [hW12]; simpa using hs11
        rw [← hW12] at S12 ⊢
        have S13 : Hid (CS B s g9 w W12 [.slice a1 n1 c1, .slice b2 nu d2, .slice (some ⟨g, 0, none⟩) np c4] [.int .i64 50, .int .i64 port, .int .i64 da, .int .i64 dp, .int .i64 sq, .int .i64 ak, .string d] [.slice none 0 0, .slice none 0 0, .slice none 0 0] [.int .i64 x.ia, .int .i64 x.ip, .int .i64 x.oa, .int .i64 x.op, .string kn, .string x.he, .string x.ne] (.slice b2 nu d2) us (.slice (some ⟨g, 0, none⟩) np c4) PX) := S12.out
        clear hW12 S11 hs11 S12 e0 e1 e2 e3 e4 e5 e6 f0 f1 f2 f3 f4 f5 f6
        obtain ⟨⟨x0, x1, x2, x3, x4, x5, x6⟩, -⟩ := seven_partsG S13.out.2.1
        obtain ⟨⟨e0, e1, e2, e3, e4, e5, e6⟩, f0, f1, f2, f3, f4, f5, f6⟩ := seven_partsG S13.out.1.2.1
        obtain ⟨L, hL⟩ : ∃ L, L = pairsL x.he.data.toList x.ne.data.toList := ⟨_, rfl⟩
        have hxe := HC.out.2.1
        have hxn := HC.out.2.2
        have HBo : Hid (∀ w', Calls Tryz.prog 156 #[.string x.he, .string x.ne] w' fun e w'' => ∃ v, e = .returned v ∧ RdSp w'' v (spansL L) ∧ Below w'.heap.size w' w'') := fun w' => by
          rw [hL]
          refine (specBoth_any x.he x.ne w' (by omega) (by omega)).mono ?_
          rintro e w'' ⟨v, rfl, o, b⟩
          exact ⟨v, rfl, RdC.of_own spC_len (by decide) o, b⟩
        obtain ⟨ak2, hak⟩ : ∃ k, k = backI L ak := ⟨_, rfl⟩
        have HBk : Hid (∀ w' v, RdSp w' v (spansL L) → Calls Tryz.prog 157 #[v, .int .i64 ak] w' fun e w'' => e = .returned (.int .i64 ak2) ∧ Below w'.heap.size w' w'') := fun w' v hv => by
          rw [hak]
          have h1 := pairsL_ins x.he.data.toList x.ne.data.toList
          have h3 := pairsL_outs x.he.data.toList x.ne.data.toList
          have h2 := insL_ge L
          rw [← hL, len_list] at h1 h3
          exact specBack4_any v L ak w' (by omega) (by omega) (by omega) (by omega) hv
        clear hL hak
        go_cut [] (fun wx => g9 < wx.heap.size ∧ CS B s g9 w wx [.slice a1 n1 c1, .slice b2 nu d2, .slice (some ⟨g, 0, none⟩) np c4] [.int .i64 50, .int .i64 port, .int .i64 da, .int .i64 dp, .int .i64 sq, .int .i64 ak2, .string d] [.slice none 0 0, .slice none 0 0, .slice none 0 0] [.int .i64 x.ia, .int .i64 x.ip, .int .i64 x.oa, .int .i64 x.op, .string kn, .string x.he, .string x.ne] (.slice b2 nu d2) us (.slice (some ⟨g, 0, none⟩) np c4) PX)
        case first =>
          go_region_with (first
            | (go_at_call 156; refine (HBo.out _).mono ?_; rintro e wa ⟨va, rfl, ra, ba⟩; have sa2 := CS.call (by first | exact S13.out | exact S13.out.drew) ba; have hsa := Nat.lt_of_lt_of_le (by first | exact hs12 | exact (show g9 < W12.drew.heap.size from hs12)) ba.size; clear x0 x1 x2 x3 x4 x5 x6 e0 e1 e2 e3 e4 e5 e6 f0 f1 f2 f3 f4 f5 f6; obtain ⟨⟨x0, x1, x2, x3, x4, x5, x6⟩, -⟩ := seven_partsG sa2.2.1; obtain ⟨⟨e0, e1, e2, e3, e4, e5, e6⟩, f0, f1, f2, f3, f4, f5, f6⟩ := seven_partsG sa2.1.2.1)
            | (go_at_call 157; refine (HBk.out _ _ ra).mono ?_; rintro e wb ⟨rfl, bb⟩; have sb2 := sa2.call bb; have hsb := Nat.lt_of_lt_of_le hsa bb.size; clear x0 x1 x2 x3 x4 x5 x6 e0 e1 e2 e3 e4 e5 e6 f0 f1 f2 f3 f4 f5 f6; obtain ⟨⟨e0, e1, e2, e3, e4, e5, e6⟩, f0, f1, f2, f3, f4, f5, f6⟩ := seven_partsG sb2.1.2.1))
          all_goals (go_wp2_with fail; go_meet)
          all_goals first
            | exact ⟨by simpa using hsb, sb2.set4 (by omega) hws 5 _⟩
            | (trace_state; fail)
        case rest =>
          obtain ⟨hs14, s14⟩ := hcut
          have S14 := Lib.hid s14
          clear s14 S13 hs12 HBo HBk x0 x1 x2 x3 x4 x5 x6 e0 e1 e2 e3 e4 e5 e6 f0 f1 f2 f3 f4 f5 f6
          obtain ⟨⟨e0, e1, e2, e3, e4, e5, e6⟩, -⟩ := seven_partsG S14.out.1.2.1
          obtain ⟨⟨p0, p1, p2⟩, -⟩ := three_all S14.out.1.1
          obtain ⟨⟨r0, r1, r2⟩, q0, q1, q2⟩ := three_all S14.out.1.2.2
          have HCu : Hid (∀ w', Calls Tryz.prog 158 #[.agg #[.int .i64 50, .int .i64 port, .int .i64 da, .int .i64 dp, .int .i64 sq, .int .i64 ak2, .string d], .string fl, .int .i64 (n : Int)] w' fun e w'' => ∃ v, e = .returned v ∧ Below w'.heap.size w' w'') := fun w' => by
            refine (specCut5_anyW 50 port da dp sq ak2 d fl n w' (by omega) (by omega)).mono ?_
            rintro e w'' ⟨v, rfl, -, b⟩
            exact ⟨v, rfl, b⟩
          go_upto_region 14 with fail
          go_region_with (first
            | (go_at_call 158; refine (HCu.out _).mono ?_; rintro e wa ⟨va, rfl, ba⟩; first
                | (have sa2 := CS.call (by first | exact S14.out | exact S14.out.drew) ba; clear e0 e1 e2 e3 e4 e5 e6 p0 p1 p2 r0 r1 r2 q0 q1 q2; obtain ⟨⟨e0, e1, e2, e3, e4, e5, e6⟩, -⟩ := seven_partsG sa2.1.2.1; obtain ⟨⟨p0, p1, p2⟩, -⟩ := three_all sa2.1.1; obtain ⟨⟨r0, r1, r2⟩, q0, q1, q2⟩ := three_all sa2.1.2.2)
                | (trace_state; fail)))
          all_goals go_wp2_with fail
          all_goals
            have sz := ((sa2.set6 (by omega) hws 0 (.slice a1 n1 c1)).set6 (by omega) hws 1 (.slice b2 nu d2)).set6 (by omega) hws 2 (.slice (some ⟨g, 0, none⟩) np c4)
            obtain ⟨⟨z0, z1, z2⟩, -⟩ := three_all sz.1.2.2
            have eZ : Ending.returned (.tuple #[.agg #[.slice a1 n1 c1, .slice b2 nu d2, .slice (some ⟨g, 0, none⟩) np c4], va]) = Ending.returned (.tuple #[.agg #[.slice a1 n1 c1, .slice b2 us.length d2, .slice (some ⟨g, 0, none⟩) PX.length c4], va]) := by rw [← HNU.out, ← HPX.out.2]
            have lZ : PX.length ≤ nc + 1 := by rw [← HPX.out.2]; exact HP.out.2
            refine bodyPost_ret (v := .tuple #[.agg #[.slice a1 n1 c1, .slice b2 nu d2, .slice (some ⟨g, 0, none⟩) np c4], va]) (by simp [results, Tryz.results140, go_sem, z0, z1, z2]) rfl ?_
            first
              | exact ⟨b2, d2, us, some ⟨g, 0, none⟩, c4, PX, va, eZ, (by rw [← HNU.out]; exact sz.2.2.1), HMU.out, (by rw [← HPX.out.2]; exact sz.2.2.2.1), lZ, HPX.out.1, sz.2.2.2.2⟩
              | exact ⟨b2, d2, us, some ⟨g, 0, none⟩, c4, PX, ⟨va, eZ⟩, (by rw [← HNU.out]; exact sz.2.2.1), HMU.out, (by rw [← HPX.out.2]; exact sz.2.2.2.1), lZ, HPX.out.1, sz.2.2.2.2⟩
              | (trace_state; fail)

end Go.Proofs.YtgfkiljkpkfapaaGreatDoor
