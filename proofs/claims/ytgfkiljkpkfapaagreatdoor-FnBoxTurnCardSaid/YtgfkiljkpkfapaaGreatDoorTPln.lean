/- l7In of the specification: some box of the call's own, and some segments. Conditions: the table is ok; the streams are among the box's; no text is long. (Several texts, joined: GIn.) -/
import Derived.Test.YtgfkiljkpkfapaaGreatDoorTPlj
import Derived.Test.YtgfkiljkpkfapaaGreatDoorTPlh
import Derived.Test.YtgfkiljkpkfapaaGreatDoorTPlk
import Derived.Test.YtgfkiljkpkfapaaGreatDoorTPlm

/- l7In of the specification: some box of the call's own, and some segments. Conditions: the table is ok; the streams are among the box's; no text is long. -/
namespace Go.Proofs.YtgfkiljkpkfapaaGreatDoor
open Go.RowKit Go.Sort

/-- Streams whose texts are not very long. -/
def cnBig (cs : List Cn) : Prop := ∀ c ∈ cs, c.kn.size ≤ 120 ∧ c.he.size ≤ 120 ∧ c.ne.size ≤ 20000 ∧ cnWf1 c
theorem cnBig.wf {cs : List Cn} (h : cnBig cs) : cnWf cs := fun c hc => (h c hc).2.2.2
theorem cnOk.big {cs : List Cn} (h : cnOk cs) : cnBig cs := fun c hc => ⟨(h c hc).1, (h c hc).2.1, by have := (h c hc).2.2.1; omega, (h c hc).2.2.2⟩
theorem cnBig_set {cs : List Cn} (h : cnBig cs) (k : Nat) {x : Cn} (h1 : x.kn.size ≤ 120) (h2 : x.he.size ≤ 120) (h3 : x.ne.size ≤ 20000) (hw : cnWf1 x) : cnBig (cs.set k x) := by
  intro c hc
  rcases List.mem_or_eq_of_mem_set hc with h4 | rfl
  · exact h c h4
  · exact ⟨h1, h2, h3, hw⟩
theorem addS_lines (kn : ByteArray) (q : Int) (d : ByteArray) : (linesL kn.data.toList).length ≤ (linesL (addS kn q d).data.toList).length := by
  have e : (addS kn q d).data.toList = addL kn.data.toList q d.data.toList := by simp [addS]
  rw [e]
  unfold addL
  split
  · exact (lines_prefix _ _).length_le
  · exact Nat.le_refl _

set_option maxRecDepth 100000 in
set_option maxHeartbeats 3200000 in
theorem specIn7_some (B : Nat) (a1 a2 a3 : Option Addr) (n1 c1 c2 c3 : Nat) (es : List (Int × Int)) (cs : List Cn) (sa sp da dp sq ak : Int) (d : ByteArray) (m : Nat) (w : World) (hm : mapB es = true) (hmc : m < cs.length) (hc : cnOk cs) (hd : d.size ≤ 120) (hk : -2000000 ≤ ak ∧ ak ≤ 2000000) (hB : B ≤ w.heap.size) (ht : OwnTab w B (.slice a2 es.length c2) es) (ho : OwnCn w B (.slice a3 cs.length c3) cs) :
    Calls Tryz.prog 139 #[.agg #[.slice a1 n1 c1, .slice a2 es.length c2, .slice a3 cs.length c3], .agg #[.int .i64 sa, .int .i64 sp, .int .i64 da, .int .i64 dp, .int .i64 sq, .int .i64 ak, .string d], .int .i64 (m : Int)] w fun e w' =>
      ∃ (cs' : List Cn) (v : Value), e = .returned (.tuple #[.agg #[.slice a1 n1 c1, .slice a2 es.length c2, .slice a3 cs'.length c3], v]) ∧ OwnTab w' B (.slice a2 es.length c2) es ∧ OwnCn w' B (.slice a3 cs'.length c3) cs' ∧ cs'.length = cs.length ∧ cnBig cs' ∧ KeepC B w w' := by
  obtain ⟨x, hx⟩ : ∃ x, cs[m]? = some x := ⟨_, List.getElem?_eq_getElem hmc⟩
  obtain ⟨W, hW⟩ : ∃ W, W = ((w.alloc (.cells #[.slice a1 n1 c1, .slice a2 es.length c2, .slice a3 cs.length c3] 29)).alloc (.cells #[.int .i64 sa, .int .i64 sp, .int .i64 da, .int .i64 dp, .int .i64 sq, .int .i64 ak, .string d] 33)).alloc (.cells #[.slice none 0 0, .slice none 0 0, .slice none 0 0] 29) := ⟨_, rfl⟩
  have BW : Hid (Below w.heap.size w W) := by
    show Below _ _ _
    rw [hW]; exact (((Below.refl _ _).alloc (Nat.le_refl _) _).alloc (by simp) _).alloc (by simp <;> omega) _
  have hs2 : w.heap.size + 3 ≤ W.heap.size := by rw [hW]; simp
  have Q2 : Hid (CQ w.heap.size W [.slice a1 n1 c1, .slice a2 es.length c2, .slice a3 cs.length c3] [.int .i64 sa, .int .i64 sp, .int .i64 da, .int .i64 dp, .int .i64 sq, .int .i64 ak, .string d] [.slice none 0 0, .slice none 0 0, .slice none 0 0]) := by
    show CQ _ _ _ _ _
    rw [hW]; exact CQ.new w _ _ _
  have T2 : Hid (OwnTab W B (.slice a2 es.length c2) es) := own_later ht BW.out
  have O2 : Hid (OwnCn W B (.slice a3 cs.length c3) cs) := own_later ho BW.out
  have G2 : Hid (KeepC B w W) := KeepC.of BW.out hB
  obtain ⟨g, rfl, hgB, hgl, hcp, -, ⟨k0, k1, k2, k3, k4, k5, k6⟩, l0, l1, l2, l3, l4, l5, l6⟩ := own_conn O2.out hmc x hx
  have HC : Hid (x.kn.size ≤ 120 ∧ x.he.size ≤ 120 ∧ x.ne.size ≤ 240) := ⟨(hc x (List.mem_of_getElem? hx)).1, (hc x (List.mem_of_getElem? hx)).2.1, (hc x (List.mem_of_getElem? hx)).2.2.1⟩
  have HCW : Hid (cnWf1 x) := (hc x (List.mem_of_getElem? hx)).2.2.2
  have HCC := Lib.hid hc
  have HM := Lib.hid hm
  obtain ⟨ne, hne⟩ : ∃ n, n = es.length := ⟨_, rfl⟩
  obtain ⟨nc, hnc⟩ : ∃ n, n = cs.length := ⟨_, rfl⟩
  have HNE := Lib.hid hne
  have HNC := Lib.hid hnc
  rw [← hne] at T2 Q2 hW ⊢
  rw [← hnc] at O2 Q2 hW hmc hcp ⊢
  clear hne hnc hc hm ht ho BW
  have hm0 : (0 : Int) ≤ (m : Int) := by omega
  have hmc3 : (m : Int) < (c3 : Int) := by omega
  have hmn : (m : Int) < (nc : Int) := by omega
  have hg9 : Value.ownBlock (.slice (some ⟨g, 0, none⟩) nc c3) ≠ some W.heap.size := by intro e; simp [Value.ownBlock] at e; omega
  have S3 : Hid (CS B w.heap.size W.heap.size w (W.alloc (.cells #[.int .i64 x.ia, .int .i64 x.ip, .int .i64 x.oa, .int .i64 x.op, .string x.kn, .string x.he, .string x.ne] 49)) [.slice a1 n1 c1, .slice a2 ne c2, .slice (some ⟨g, 0, none⟩) nc c3] [.int .i64 sa, .int .i64 sp, .int .i64 da, .int .i64 dp, .int .i64 sq, .int .i64 ak, .string d] [.slice none 0 0, .slice none 0 0, .slice none 0 0] [.int .i64 x.ia, .int .i64 x.ip, .int .i64 x.oa, .int .i64 x.op, .string x.kn, .string x.he, .string x.ne] (.slice a2 ne c2) es (.slice (some ⟨g, 0, none⟩) nc c3) cs) := by
    have hb : Below W.heap.size W (W.alloc (.cells #[.int .i64 x.ia, .int .i64 x.ip, .int .i64 x.oa, .int .i64 x.op, .string x.kn, .string x.he, .string x.ne] 49)) := (Below.refl _ _).alloc (Nat.le_refl _) _
    exact ⟨Q2.out.call hb, heap_at _ _ _ rfl, own_later T2.out hb, own_later O2.out hb, G2.out.call hb⟩
  obtain ⟨⟨p0, p1, p2⟩, u0, u1, u2⟩ := three_all Q2.out.1
  obtain ⟨W3, hW3⟩ : ∃ W3, W3 = W.alloc (.cells #[.int .i64 x.ia, .int .i64 x.ip, .int .i64 x.oa, .int .i64 x.op, .string x.kn, .string x.he, .string x.ne] 49) := ⟨_, rfl⟩
  rw [← hW3] at S3
  have hs3 : W.heap.size < W3.heap.size := by rw [hW3]; simp
  have e9 : W.heap.size = w.heap.size + 1 + 1 + 1 := by rw [hW]; simp
  rw [e9] at S3 hs3 hg9 hgl
  obtain ⟨s, hss⟩ : ∃ s, s = w.heap.size := ⟨_, rfl⟩
  obtain ⟨g9, hgg⟩ : ∃ g9, g9 = w.heap.size + 1 + 1 + 1 := ⟨_, rfl⟩
  clear e9 hs2
  subst hW
  go_enter Tryz.func139, Tryz.ntmps139
  go_upto_region 2 with fail
  rw [← hW3]
  clear hW3 k0 k1 k2 k3 k4 k5 k6 l0 l1 l2 l3 l4 l5 l6 p0 p1 p2 u0 u1 u2 Q2 T2 O2 G2
  rw [← hgg] at S3 hs3 hg9 hgl ⊢
  rw [← hss] at S3 hB hgg ⊢
  have hws : w.heap.size ≤ s := Nat.le_of_eq hss.symm
  have hsg : s + 2 < g9 := by omega
  have HSS := Lib.hid hss
  clear hss hgg
  obtain ⟨⟨x0, x1, x2, x3, x4, x5, x6⟩, y0, y1, y2, y3, y4, y5, y6⟩ := seven_partsG S3.out.2.1
  obtain ⟨⟨e0, e1, e2, e3, e4, e5, e6⟩, f0, f1, f2, f3, f4, f5, f6⟩ := seven_partsG S3.out.1.2.1
  obtain ⟨gr, hgr⟩ : ∃ gr, gr = addS x.he sq d := ⟨_, rfl⟩
  obtain ⟨bS, hbS⟩ : ∃ b, b = strB gr.data.toList := ⟨_, rfl⟩
  have hkn := HC.out.1
  have hhe := HC.out.2.1
  have hne := HC.out.2.2
  have hgl2 : gr.size ≤ 240 := by have := addS_len x.he sq d; rw [← hgr] at this; omega
  have HLL : Hid ((linesL x.he.data.toList).length ≤ (linesL gr.data.toList).length) := by rw [hgr]; exact addS_lines _ _ _
  have HG : Hid (∀ w', Calls Tryz.prog 153 #[.string x.he, .agg #[.int .i64 sa, .int .i64 sp, .int .i64 da, .int .i64 dp, .int .i64 sq, .int .i64 ak, .string d]] w' fun e w'' => e = .returned (.string gr) ∧ Below w'.heap.size w' w'') := fun w' => by
    rw [hgr]; exact specGrown_any x.he sa sp da dp sq ak d w' (by omega) (by omega)
  have HS : Hid (∀ w', Calls Tryz.prog 86 #[.string gr] w' fun e w'' => e = .returned (.bool bS) ∧ Below w'.heap.size w' w'') := fun w' => by
    rw [hbS]; exact specStr_any gr w' (by omega)
  have HZ : Hid (bS = true → gr.size ≤ 120) := fun h => by
    rw [h] at hbS
    have := (str_parts hbS.symm).1
    rw [len_list] at this
    exact this
  clear hgr hbS
  go_upto_if 26 with (first
    | (go_at_call 153; refine (HG.out _).mono ?_; rintro e w4 ⟨rfl, b4⟩; have S4 := Lib.hid (S3.out.call b4); have hs4 := Nat.lt_of_lt_of_le hs3 b4.size; clear b4)
    | (go_at_call 86; refine (HS.out _).mono ?_; rintro e w5 ⟨rfl, b5⟩; have S5 := Lib.hid (S4.out.call b5); have hs5 := Nat.lt_of_lt_of_le hs4 b5.size; clear b5))
  clear S4 S3 hs3 hs4 x0 x1 x2 x3 x4 x5 x6 y0 y1 y2 y3 y4 y5 y6 e0 e1 e2 e3 e4 e5 e6 f0 f1 f2 f3 f4 f5 f6
  obtain ⟨⟨x0, x1, x2, x3, x4, x5, x6⟩, y0, y1, y2, y3, y4, y5, y6⟩ := seven_partsG S5.out.2.1
  go_cut [] (fun wx => ∃ he ne' : ByteArray, he.size ≤ 120 ∧ ne'.size ≤ 17400 ∧ g9 < wx.heap.size ∧ CS B s g9 w wx [.slice a1 n1 c1, .slice a2 ne c2, .slice (some ⟨g, 0, none⟩) nc c3] [.int .i64 sa, .int .i64 sp, .int .i64 da, .int .i64 dp, .int .i64 sq, .int .i64 ak, .string d] [.slice none 0 0, .slice none 0 0, .slice none 0 0] [.int .i64 x.ia, .int .i64 x.ip, .int .i64 x.oa, .int .i64 x.op, .string x.kn, .string he, .string ne'] (.slice a2 ne c2) es (.slice (some ⟨g, 0, none⟩) nc c3) cs)
  case first =>
    cases bS
    · go_wp2_with fail
      go_meet
      exact ⟨x.he, x.ne, hhe, by omega, hs5, S5.out⟩
    · have hz := Lib.hid (HZ.out rfl)
      have HL1 : Hid (∀ w', Calls Tryz.prog 123 #[.string x.he] w' fun e w'' => ∃ v, e = .returned (.tuple #[v, .string ⟨(restL x.he.data.toList).toArray⟩]) ∧ w''.ownsRow w'.heap.size 9 1 v (linesL x.he.data.toList).length ((linesL x.he.data.toList).map strV) ∧ Below w'.heap.size w' w'') := fun w' => specLines_any x.he w' (by omega)
      have HL2 : Hid (∀ w', Calls Tryz.prog 123 #[.string gr] w' fun e w'' => ∃ v, e = .returned (.tuple #[v, .string ⟨(restL gr.data.toList).toArray⟩]) ∧ w''.ownsRow w'.heap.size 9 1 v (linesL gr.data.toList).length ((linesL gr.data.toList).map strV) ∧ Below w'.heap.size w' w'') := fun w' => specLines_any gr w' (by omega)
      obtain ⟨X1, hX1⟩ : ∃ X, X = linesL x.he.data.toList := ⟨_, rfl⟩
      obtain ⟨X2, hX2⟩ : ∃ X, X = linesL gr.data.toList := ⟨_, rfl⟩
      obtain ⟨R1, hR1⟩ : ∃ R : ByteArray, R = ⟨(restL x.he.data.toList).toArray⟩ := ⟨_, rfl⟩
      obtain ⟨R2, hR2⟩ : ∃ R : ByteArray, R = ⟨(restL gr.data.toList).toArray⟩ := ⟨_, rfl⟩
      have HX2 : Hid (X2.length ≤ 121 ∧ ∀ y ∈ X2, y.length ≤ 120) := by
        have hz2 := hz.out
        have h1 := lines_len gr.data.toList
        rw [← hX2, len_list] at h1
        refine ⟨by omega, fun y hy => ?_⟩
        rw [hX2] at hy
        have h2 := line_len hy
        rw [len_list] at h2
        omega
      rw [← hX1, ← hR1] at HL1
      rw [← hX2, ← hR2] at HL2
      rw [← hX1, ← hX2] at HLL
      obtain ⟨o1, ho1⟩ : ∃ n, n = X1.length := ⟨_, rfl⟩
      obtain ⟨o2, ho2⟩ : ∃ n, n = X2.length := ⟨_, rfl⟩
      have HO2 := Lib.hid ho2
      rw [← ho1] at HL1 HLL
      rw [← ho2] at HL2 HLL
      have hll : o1 ≤ o2 := HLL.out
      clear hX1 hX2 hR1 hR2 ho1 ho2 HLL
      go_upto_region 5 with (go_at_call 123; refine (HL1.out _).mono ?_; rintro e w6 ⟨v1, rfl, r1, b6⟩; have S6 := Lib.hid (S5.out.call b6); have hs6 := Nat.lt_of_lt_of_le hs5 b6.size; clear b6)
      go_upto_region 7 with (go_at_call 123; refine (HL2.out _).mono ?_; rintro e w7 ⟨v2, rfl, r2, b7⟩; have S7 := Lib.hid (S6.out.call b7); have hs7 := Nat.lt_of_lt_of_le hs6 b7.size; clear b7 x0 x1 x2 x3 x4 x5 x6 y0 y1 y2 y3 y4 y5 y6; obtain ⟨⟨x0, x1, x2, x3, x4, x5, x6⟩, y0, y1, y2, y3, y4, y5, y6⟩ := seven_partsG S7.out.2.1)
      have S8 := Lib.hid (S7.out.set9 hsg (by omega) hg9 5 (.string gr))
      obtain ⟨W8, hW8⟩ : ∃ W8, W8 = w7.setCell ⟨g9, 5, none⟩ (.string gr) := ⟨_, rfl⟩
      have hs8 : g9 < W8.heap.size := by rw [hW8]; simpa using hs7
      have hg96 : g9 < w6.heap.size := hs6
      have RL : Hid (∃ (b2 : Option Addr) (d2 : Nat), v2 = .slice b2 o2 d2 ∧ o2 ≤ d2 ∧ ((b2 = none ∧ o2 = 0 ∧ d2 = 0) ∨ ∃ g2, b2 = some ⟨g2, 0, none⟩ ∧ g2 < W8.heap.size ∧ ∀ k (hk : k < X2.length), W8.cell? ⟨g2, k, none⟩ = some (strV X2[k]))) := by
        rcases Nat.eq_zero_or_pos o2 with h0 | h0
        · rcases r2.2 with ⟨h1, h2⟩ | ⟨g2, cap, cur, h1, hB2, hg2, h3, h4, h5, h6⟩
          · exact ⟨none, 0, by rw [h1, h2], by omega, .inl ⟨rfl, h2, rfl⟩⟩
          · refine ⟨_, cap, h1, h3, .inr ⟨g2, rfl, ?_, fun k hk => absurd hk (by rw [← HO2.out]; omega)⟩⟩
            have := (Array.getElem?_eq_some_iff.1 hg2).1
            rw [hW8]; simpa using this
        · obtain ⟨g2, cap, h1, hB2, hl2, h3, h4⟩ := own_cells r2 h0
          refine ⟨_, cap, h1, h3, .inr ⟨g2, rfl, by rw [hW8]; simpa using hl2, fun k hk => ?_⟩⟩
          have h5 := (h4 k (by simpa using hk)).1
          rw [hW8, World.cell?_setCell_far w7 ⟨g9, 5, none⟩ ⟨g2, k, none⟩ _ (by show g9 ≠ g2; omega), h5]
          simp
      obtain ⟨b1, d1, hv1⟩ : ∃ b1 d1, v1 = .slice b1 o1 d1 := by
        rcases r1.2 with ⟨h1, h2⟩ | ⟨g2, cap, cur, h1, _⟩
        · exact ⟨none, 0, by rw [h1, h2]⟩
        · exact ⟨_, cap, h1⟩
      subst hv1
      rw [← hW8] at S8 ⊢
      obtain ⟨b2, d2, rfl, hd2, hb2⟩ := RL.out
      clear hW8 S7 hs7 r1 r2 RL x0 x1 x2 x3 x4 x5 x6 y0 y1 y2 y3 y4 y5 y6
      obtain ⟨⟨x0, x1, x2, x3, x4, x5, x6⟩, y0, y1, y2, y3, y4, y5, y6⟩ := seven_partsG S8.out.2.1
      obtain ⟨⟨p0, p1, p2⟩, -⟩ := three_all S8.out.1.1
      have HLi : Hid (∀ w' v, Below W8.heap.size W8 w' → RdL w' v (X2.drop o1) → Calls Tryz.prog 154 #[.agg #[.slice a2 ne c2], v] w' fun e w'' => ∃ o : ByteArray, e = .returned (.string o) ∧ o.size ≤ 17061 ∧ Below w'.heap.size w' w'') := fun w' v hb hv => by
        have h6 := mapB_le HM.out
        exact specLines7_some _ v es (X2.drop o1) w' (by omega) (fun y hy => HX2.out.2 y (List.mem_of_mem_drop hy)) (by rw [List.length_drop]; have := HX2.out.1; omega) (OwnTab.tab (own_later S8.out.2.2.1 hb)) hv
      have HL0 : Hid (∀ w' ao c, o2 = o1 → Below W8.heap.size W8 w' → Calls Tryz.prog 154 #[.agg #[.slice a2 ne c2], .slice ao 0 c] w' fun e w'' => ∃ o : ByteArray, e = .returned (.string o) ∧ o.size ≤ 17061 ∧ Below w'.heap.size w' w'') := fun w' ao c h hb => by
        have e0 : (X2.drop o1).length = 0 := by rw [List.length_drop]; have := HO2.out; omega
        exact HLi.out w' _ hb ⟨ao, c, by rw [e0], by omega, fun h => absurd h (by omega)⟩
      rcases hb2 with ⟨rfl, h2, rfl⟩ | ⟨g2, rfl, hg2, hcell⟩
      · have h1 : o1 = 0 := by omega
        subst h1
        subst h2
        go_region_with (go_at_call 154; refine (HL0.out _ _ _ rfl (by first | exact Below.refl _ _ | exact (Below.refl _ _).drew)).mono ?_; rintro e wa ⟨oz, rfl, hoz, ba⟩; have sa2 := CS.call (by first | exact S8.out | exact S8.out.drew) ba; have hsa := Nat.lt_of_lt_of_le (by first | exact hs8 | exact (show g9 < W8.drew.heap.size from hs8)) ba.size; clear x0 x1 x2 x3 x4 x5 x6 y0 y1 y2 y3 y4 y5 y6; obtain ⟨⟨x0, x1, x2, x3, x4, x5, x6⟩, y0, y1, y2, y3, y4, y5, y6⟩ := seven_partsG sa2.2.1)
        all_goals (go_wp2_with fail; go_meet)
        all_goals first
          | exact ⟨gr, _, hz.out, by first | (simp; omega) | (rw [ByteArray.size_append]; omega), by simpa using hsa, sa2.set9 hsg (by omega) hg9 6 _⟩
          | (trace_state; fail)
      · by_cases hd : d2 = o1
        · have hoo : o2 = o1 := by omega
          subst hd
          subst hoo
          go_region_with (go_at_call 154; refine (HL0.out _ _ _ rfl (by first | exact Below.refl _ _ | exact (Below.refl _ _).drew)).mono ?_; rintro e wa ⟨oz, rfl, hoz, ba⟩; have sa2 := CS.call (by first | exact S8.out | exact S8.out.drew) ba; have hsa := Nat.lt_of_lt_of_le (by first | exact hs8 | exact (show g9 < W8.drew.heap.size from hs8)) ba.size; clear x0 x1 x2 x3 x4 x5 x6 y0 y1 y2 y3 y4 y5 y6; obtain ⟨⟨x0, x1, x2, x3, x4, x5, x6⟩, y0, y1, y2, y3, y4, y5, y6⟩ := seven_partsG sa2.2.1)
          all_goals (go_wp2_with fail; go_meet)
          all_goals first
            | exact ⟨gr, _, hz.out, by first | (simp; omega) | (rw [ByteArray.size_append]; omega), by simpa using hsa, sa2.set9 hsg (by omega) hg9 6 _⟩
            | (trace_state; fail)
        · have HL1' : Hid (∀ w', Below W8.heap.size W8 w' → Calls Tryz.prog 154 #[.agg #[.slice a2 ne c2], .slice (some ⟨g2, o1, none⟩) (o2 - o1) (d2 - o1)] w' fun e w'' => ∃ o : ByteArray, e = .returned (.string o) ∧ o.size ≤ 17061 ∧ Below w'.heap.size w' w'') := fun w' hb => by
            have e0 : (X2.drop o1).length = o2 - o1 := by rw [List.length_drop]; have := HO2.out; omega
            refine HLi.out w' _ hb ⟨some ⟨g2, o1, none⟩, d2 - o1, by rw [e0], by omega, fun h => ⟨g2, o1, rfl, fun k hk => ⟨?_, Nat.lt_of_lt_of_le hg2 hb.size⟩⟩⟩
            have hk2 : o1 + k < X2.length := by rw [List.length_drop] at hk; omega
            have := hcell (o1 + k) hk2
            rw [hb.cell (p := ⟨g2, o1 + k, none⟩) hg2, this, List.getElem_drop]
          have hi1 : (o1 : Int) ≤ (d2 : Int) := by omega
          have hi2 : (o1 : Int) ≤ (o2 : Int) := by omega
          clear HL0 HLi hcell
          go_region_with (go_at_call 154; refine (HL1'.out _ (by first | exact Below.refl _ _ | exact (Below.refl _ _).drew)).mono ?_; rintro e wa ⟨oz, rfl, hoz, ba⟩; have sa2 := CS.call (by first | exact S8.out | exact S8.out.drew) ba; have hsa := Nat.lt_of_lt_of_le (by first | exact hs8 | exact (show g9 < W8.drew.heap.size from hs8)) ba.size; clear x0 x1 x2 x3 x4 x5 x6 y0 y1 y2 y3 y4 y5 y6; obtain ⟨⟨x0, x1, x2, x3, x4, x5, x6⟩, y0, y1, y2, y3, y4, y5, y6⟩ := seven_partsG sa2.2.1)
          all_goals (go_wp2_with fail; go_meet)
          all_goals first
            | exact ⟨gr, _, hz.out, by first | (simp; omega) | (rw [ByteArray.size_append]; omega), by simpa using hsa, sa2.set9 hsg (by omega) hg9 6 _⟩
            | (trace_state; fail)
  case rest =>
    obtain ⟨he, nr, hhe2, hnr, hs6, s6⟩ := hcut
    have S6 := Lib.hid s6
    clear s6 S5 hs5 HG HS HZ HLL hgl2 x0 x1 x2 x3 x4 x5 x6 y0 y1 y2 y3 y4 y5 y6
    obtain ⟨⟨p0, p1, p2⟩, -⟩ := three_all S6.out.1.1
    obtain ⟨⟨x0, x1, x2, x3, x4, x5, x6⟩, -⟩ := seven_partsG S6.out.2.1
    obtain ⟨gz, egz, -, -, -, -, ⟨k0, k1, k2, k3, k4, k5, k6⟩, l0, l1, l2, l3, l4, l5, l6⟩ := own_conn S6.out.2.2.2.1 hmc x hx
    injection egz with egz
    injection egz with egz
    subst egz
    have S10 := Lib.hid (S6.out.putC HNC.out hmc (by omega) ⟨x.ia, x.ip, x.oa, x.op, x.kn, he, nr⟩)
    obtain ⟨PX, hPX⟩ : ∃ PX, PX = cs.set m ⟨x.ia, x.ip, x.oa, x.op, x.kn, he, nr⟩ := ⟨_, rfl⟩
    have HPX : Hid (cnBig PX ∧ nc = PX.length) := by rw [hPX]; exact ⟨cnBig_set HCC.out.big m hkn hhe2 (by show nr.size ≤ _; omega) HCW.out, by rw [List.length_set]; exact HNC.out⟩
    rw [← hPX] at S10
    simp only at S10
    go_upto_region 9 with fail
    obtain ⟨W10, hW10⟩ : ∃ W10, W10 = ((((((wc.setCell ⟨g, m * 7, none⟩ (.int .i64 x.ia)).setCell ⟨g, m * 7 + 1, none⟩ (.int .i64 x.ip)).setCell ⟨g, m * 7 + 2, none⟩ (.int .i64 x.oa)).setCell ⟨g, m * 7 + 3, none⟩ (.int .i64 x.op)).setCell ⟨g, m * 7 + 4, none⟩ (.string x.kn)).setCell ⟨g, m * 7 + 5, none⟩ (.string he)).setCell ⟨g, m * 7 + 6, none⟩ (.string nr) := ⟨_, rfl⟩
    have hs10 : g9 < W10.heap.size := by rw [hW10]; simpa using hs6
    rw [← hW10] at S10 ⊢
    clear hW10 hPX S6 hs6 p0 p1 p2 x0 x1 x2 x3 x4 x5 x6 k0 k1 k2 k3 k4 k5 k6 l0 l1 l2 l3 l4 l5 l6
    obtain ⟨⟨p0, p1, p2⟩, -⟩ := three_all S10.out.1.1
    obtain ⟨⟨x0, x1, x2, x3, x4, x5, x6⟩, -⟩ := seven_partsG S10.out.2.1
    obtain ⟨fl, hfl⟩ : ∃ fl : ByteArray, fl = ⟨(streamE es (linesL x.kn.data.toList)).2.toArray⟩ := ⟨_, rfl⟩
    have hfs : fl.size ≤ 17000 := by
      have h1 := strE_len (linesL x.kn.data.toList) 120 (fun y hy => by have := line_len hy; rw [len_list] at this; omega) (es, [])
      have h2 := lines_len x.kn.data.toList
      rw [len_list] at h2
      have h3 : (linesL x.kn.data.toList).length * (120 + 21) ≤ 120 * 141 := Nat.mul_le_mul (by omega) (by omega)
      rw [hfl]
      show (streamE es (linesL x.kn.data.toList)).2.toArray.size ≤ _
      simp only [List.size_toArray]
      unfold streamE
      simp only [List.length_nil] at h1
      omega
    have HST : Hid (∀ w', B ≤ w'.heap.size → OwnTab w' B (.slice a2 ne c2) es → Calls Tryz.prog 60 #[.agg #[.slice a2 ne c2], .string x.kn] w' fun e w'' => e = .returned (.string fl) ∧ Below w'.heap.size w' w'') := fun w' h1 h2 => by
      rw [HNE.out] at h2 ⊢
      rw [hfl]
      exact specL7Far_anyG B a2 c2 es x.kn w' HM.out (by omega) h1 h2
    clear hfl
    go_upto_region 10 with (go_at_call 60; refine (HST.out _ (by omega) S10.out.2.2.1).mono ?_; rintro e w11 ⟨rfl, b11⟩; have S11 := Lib.hid (S10.out.call b11); have hs11 := Nat.lt_of_lt_of_le hs10 b11.size; clear b11 p0 p1 p2 x0 x1 x2 x3 x4 x5 x6)
    clear S10 hs10 HST
    obtain ⟨⟨x0, x1, x2, x3, x4, x5, x6⟩, -⟩ := seven_partsG S11.out.2.1
    obtain ⟨⟨e0, e1, e2, e3, e4, e5, e6⟩, f0, f1, f2, f3, f4, f5, f6⟩ := seven_partsG S11.out.1.2.1
    obtain ⟨L, hL⟩ : ∃ L, L = pairsL he.data.toList nr.data.toList := ⟨_, rfl⟩
    have HBo : Hid (∀ w', Calls Tryz.prog 156 #[.string he, .string nr] w' fun e w'' => ∃ v, e = .returned v ∧ RdSp w'' v (spansL L) ∧ Below w'.heap.size w' w'') := fun w' => by
      rw [hL]
      refine (specBoth_any he nr w' (by omega) (by omega)).mono ?_
      rintro e w'' ⟨v, rfl, o, b⟩
      exact ⟨v, rfl, RdC.of_own spC_len (by decide) o, b⟩
    obtain ⟨n, hn1, hn2⟩ := outI_range L sq
    have hno : n ≤ 17400 := by
      have h1 := pairsL_outs he.data.toList nr.data.toList
      rw [← hL, len_list] at h1
      omega
    have HOu : Hid (∀ w' v, RdSp w' v (spansL L) → Calls Tryz.prog 155 #[v, .int .i64 sq] w' fun e w'' => e = .returned (.int .i64 (n : Int)) ∧ w' = w'') := fun w' v hv => by
      rw [← hn1]
      have h1 := pairsL_ins he.data.toList nr.data.toList
      have h2 := insL_ge L
      rw [← hL, len_list] at h1
      exact specOut_any v L sq w' (by omega) hv
    clear hL hn1 hn2
    go_cut [15] (fun s15 wx => s15 = .int .i64 (n : Int) ∧ g9 < wx.heap.size ∧ CS B s g9 w wx [.slice a1 n1 c1, .slice a2 ne c2, .slice (some ⟨g, 0, none⟩) nc c3] [.int .i64 sa, .int .i64 sp, .int .i64 da, .int .i64 dp, .int .i64 sq, .int .i64 ak, .string d] [.slice none 0 0, .slice none 0 0, .slice none 0 0] [.int .i64 x.ia, .int .i64 x.ip, .int .i64 x.oa, .int .i64 x.op, .string x.kn, .string he, .string nr] (.slice a2 ne c2) es (.slice (some ⟨g, 0, none⟩) nc c3) PX)
    case first =>
      go_region_with (first
        | (go_at_call 156; refine (HBo.out _).mono ?_; rintro e wa ⟨va, rfl, ra, ba⟩; have sa2 := CS.call (by first | exact S11.out | exact S11.out.drew) ba; have hsa := Nat.lt_of_lt_of_le (by first | exact hs11 | exact (show g9 < w11.drew.heap.size from hs11)) ba.size; clear x0 x1 x2 x3 x4 x5 x6 e0 e1 e2 e3 e4 e5 e6 f0 f1 f2 f3 f4 f5 f6; obtain ⟨⟨x0, x1, x2, x3, x4, x5, x6⟩, -⟩ := seven_partsG sa2.2.1; obtain ⟨⟨e0, e1, e2, e3, e4, e5, e6⟩, -⟩ := seven_partsG sa2.1.2.1)
        | (go_at_call 155; refine (HOu.out _ _ ra).mono ?_; rintro e wb ⟨rfl, rfl⟩))
      all_goals (go_wp2_with fail; go_meet)
      all_goals first
        | exact ⟨rfl, hsa, sa2⟩
        | (trace_state; fail)
    case rest =>
      obtain ⟨rfl, hs12, s12⟩ := hcut
      have S13 := Lib.hid s12
      clear s12 S11 hs11 HBo HOu x0 x1 x2 x3 x4 x5 x6 e0 e1 e2 e3 e4 e5 e6 f0 f1 f2 f3 f4 f5 f6
      obtain ⟨⟨x0, x1, x2, x3, x4, x5, x6⟩, -⟩ := seven_partsG S13.out.2.1
      obtain ⟨⟨e0, e1, e2, e3, e4, e5, e6⟩, f0, f1, f2, f3, f4, f5, f6⟩ := seven_partsG S13.out.1.2.1
      obtain ⟨L, hL⟩ : ∃ L, L = pairsL x.kn.data.toList fl.data.toList := ⟨_, rfl⟩
      have HBo : Hid (∀ w', Calls Tryz.prog 156 #[.string x.kn, .string fl] w' fun e w'' => ∃ v, e = .returned v ∧ RdSp w'' v (spansL L) ∧ Below w'.heap.size w' w'') := fun w' => by
        rw [hL]
        refine (specBoth_any x.kn fl w' (by omega) (by omega)).mono ?_
        rintro e w'' ⟨v, rfl, o, b⟩
        exact ⟨v, rfl, RdC.of_own spC_len (by decide) o, b⟩
      obtain ⟨ak2, hak⟩ : ∃ k, k = backI L ak := ⟨_, rfl⟩
      have HBk : Hid (∀ w' v, RdSp w' v (spansL L) → Calls Tryz.prog 157 #[v, .int .i64 ak] w' fun e w'' => e = .returned (.int .i64 ak2) ∧ Below w'.heap.size w' w'') := fun w' v hv => by
        rw [hak]
        have h1 := pairsL_ins x.kn.data.toList fl.data.toList
        have h3 := pairsL_outs x.kn.data.toList fl.data.toList
        have h2 := insL_ge L
        rw [← hL, len_list] at h1 h3
        exact specBack4_any v L ak w' (by omega) (by omega) (by omega) (by omega) hv
      clear hL hak
      go_upto_region 11 with fail
      go_cut [] (fun wx => g9 < wx.heap.size ∧ CS B s g9 w wx [.slice a1 n1 c1, .slice a2 ne c2, .slice (some ⟨g, 0, none⟩) nc c3] [.int .i64 sa, .int .i64 sp, .int .i64 da, .int .i64 dp, .int .i64 sq, .int .i64 ak2, .string d] [.slice none 0 0, .slice none 0 0, .slice none 0 0] [.int .i64 x.ia, .int .i64 x.ip, .int .i64 x.oa, .int .i64 x.op, .string x.kn, .string he, .string nr] (.slice a2 ne c2) es (.slice (some ⟨g, 0, none⟩) nc c3) PX)
      case first =>
        go_region_with (first
          | (go_at_call 156; refine (HBo.out _).mono ?_; rintro e wa ⟨va, rfl, ra, ba⟩; have sa2 := CS.call (by first | exact S13.out | exact S13.out.drew) ba; have hsa := Nat.lt_of_lt_of_le (by first | exact hs12 | exact (show g9 < (World.drew _).heap.size from hs12)) ba.size; clear x0 x1 x2 x3 x4 x5 x6 e0 e1 e2 e3 e4 e5 e6 f0 f1 f2 f3 f4 f5 f6; obtain ⟨⟨x0, x1, x2, x3, x4, x5, x6⟩, -⟩ := seven_partsG sa2.2.1; obtain ⟨⟨e0, e1, e2, e3, e4, e5, e6⟩, f0, f1, f2, f3, f4, f5, f6⟩ := seven_partsG sa2.1.2.1)
          | (go_at_call 157; refine (HBk.out _ _ ra).mono ?_; rintro e wb ⟨rfl, bb⟩; have sb2 := sa2.call bb; have hsb := Nat.lt_of_lt_of_le hsa bb.size; clear x0 x1 x2 x3 x4 x5 x6 e0 e1 e2 e3 e4 e5 e6 f0 f1 f2 f3 f4 f5 f6; obtain ⟨⟨e0, e1, e2, e3, e4, e5, e6⟩, f0, f1, f2, f3, f4, f5, f6⟩ := seven_partsG sb2.1.2.1))
        all_goals (go_wp2_with fail; go_meet)
        all_goals first
          | exact ⟨by simpa using hsb, sb2.set4 hsg hws 5 _⟩
          | (trace_state; fail)
      case rest =>
        obtain ⟨hs14, s14⟩ := hcut
        have S14 := Lib.hid s14
        clear s14 S13 hs12 HBo HBk x0 x1 x2 x3 x4 x5 x6 e0 e1 e2 e3 e4 e5 e6 f0 f1 f2 f3 f4 f5 f6
        obtain ⟨⟨x0, x1, x2, x3, x4, x5, x6⟩, -⟩ := seven_partsG S14.out.2.1
        obtain ⟨⟨e0, e1, e2, e3, e4, e5, e6⟩, f0, f1, f2, f3, f4, f5, f6⟩ := seven_partsG S14.out.1.2.1
        go_upto_region 13 with fail
        have S15 := Lib.hid ((S14.out.set4 hsg hws 2 (.int .i64 x.ia)).set4 hsg hws 3 (.int .i64 x.ip))
        obtain ⟨W15, hW15⟩ : ∃ W15, W15 = (wc.setCell ⟨s + 1, 2, none⟩ (.int .i64 x.ia)).setCell ⟨s + 1, 3, none⟩ (.int .i64 x.ip) := ⟨_, rfl⟩
        rw [← hW15] at S15 ⊢
        have S16 : Hid (CS B s g9 w W15 [.slice a1 n1 c1, .slice a2 ne c2, .slice (some ⟨g, 0, none⟩) nc c3] [.int .i64 sa, .int .i64 sp, .int .i64 x.ia, .int .i64 x.ip, .int .i64 sq, .int .i64 ak2, .string d] [.slice none 0 0, .slice none 0 0, .slice none 0 0] [.int .i64 x.ia, .int .i64 x.ip, .int .i64 x.oa, .int .i64 x.op, .string x.kn, .string he, .string nr] (.slice a2 ne c2) es (.slice (some ⟨g, 0, none⟩) nc c3) PX) := S15.out
        clear hW15 S14 hs14 S15 x0 x1 x2 x3 x4 x5 x6 e0 e1 e2 e3 e4 e5 e6 f0 f1 f2 f3 f4 f5 f6
        obtain ⟨⟨x0, x1, x2, x3, x4, x5, x6⟩, -⟩ := seven_partsG S16.out.2.1
        obtain ⟨⟨e0, e1, e2, e3, e4, e5, e6⟩, -⟩ := seven_partsG S16.out.1.2.1
        obtain ⟨⟨p0, p1, p2⟩, -⟩ := three_all S16.out.1.1
        obtain ⟨⟨r0, r1, r2⟩, q0, q1, q2⟩ := three_all S16.out.1.2.2
        have HCu : Hid (∀ w', Calls Tryz.prog 158 #[.agg #[.int .i64 sa, .int .i64 sp, .int .i64 x.ia, .int .i64 x.ip, .int .i64 sq, .int .i64 ak2, .string d], .string nr, .int .i64 (n : Int)] w' fun e w'' => ∃ v, e = .returned v ∧ Below w'.heap.size w' w'') := fun w' => by
          refine (specCut5_anyW sa sp x.ia x.ip sq ak2 d nr n w' (by omega) (by omega)).mono ?_
          rintro e w'' ⟨v, rfl, -, b⟩
          exact ⟨v, rfl, b⟩
        go_region_with (first
          | (go_at_call 158; refine (HCu.out _).mono ?_; rintro e wa ⟨va, rfl, ba⟩; first
              | (have sa2 := CS.call (by first | exact S16.out | exact S16.out.drew) ba; clear x0 x1 x2 x3 x4 x5 x6 e0 e1 e2 e3 e4 e5 e6 p0 p1 p2 r0 r1 r2 q0 q1 q2; obtain ⟨⟨x0, x1, x2, x3, x4, x5, x6⟩, -⟩ := seven_partsG sa2.2.1; obtain ⟨⟨e0, e1, e2, e3, e4, e5, e6⟩, -⟩ := seven_partsG sa2.1.2.1; obtain ⟨⟨p0, p1, p2⟩, -⟩ := three_all sa2.1.1; obtain ⟨⟨r0, r1, r2⟩, q0, q1, q2⟩ := three_all sa2.1.2.2)
              | (trace_state; fail)))
        all_goals go_wp2_with fail
        all_goals
          have sz := ((sa2.set6 hsg hws 0 (.slice a1 n1 c1)).set6 hsg hws 1 (.slice a2 ne c2)).set6 hsg hws 2 (.slice (some ⟨g, 0, none⟩) nc c3)
          obtain ⟨⟨z0, z1, z2⟩, -⟩ := three_all sz.1.2.2
          have eZ : Ending.returned (.tuple #[.agg #[.slice a1 n1 c1, .slice a2 ne c2, .slice (some ⟨g, 0, none⟩) nc c3], va]) = Ending.returned (.tuple #[.agg #[.slice a1 n1 c1, .slice a2 ne c2, .slice (some ⟨g, 0, none⟩) PX.length c3], va]) := by rw [← HPX.out.2]
          refine bodyPost_ret (v := .tuple #[.agg #[.slice a1 n1 c1, .slice a2 ne c2, .slice (some ⟨g, 0, none⟩) nc c3], va]) (by simp [results, Tryz.results139, go_sem, z0, z1, z2]) rfl ?_
          first
            | exact ⟨PX, va, eZ, sz.2.2.1, (by rw [← HPX.out.2]; exact sz.2.2.2.1), HPX.out.2.symm, HPX.out.1, sz.2.2.2.2⟩
            | exact ⟨PX, ⟨va, eZ⟩, sz.2.2.1, (by rw [← HPX.out.2]; exact sz.2.2.2.1), HPX.out.2.symm, HPX.out.1, sz.2.2.2.2⟩
            | (trace_state; fail)

end Go.Proofs.YtgfkiljkpkfapaaGreatDoor
