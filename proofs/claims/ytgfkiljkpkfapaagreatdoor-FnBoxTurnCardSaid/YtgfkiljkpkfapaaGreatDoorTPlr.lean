/- A drawn box with one part turned: its table, its rules, a cell of its first streams. No condition. (Several texts, joined: GBin, GDrawC, GDrawO.) -/
import Derived.Test.YtgfkiljkpkfapaaGreatDoorTPlo
import Derived.Test.YtgfkiljkpkfapaaGreatDoorTPlp
import Derived.Test.YtgfkiljkpkfapaaGreatDoorTPlq
import Derived.Test.YtgfkiljkpkfapaaGreatDoorTPlj

/- BoxIn of the specification: some box of the call's own. Conditions: as BoxOut. -/
namespace Go.Proofs.YtgfkiljkpkfapaaGreatDoor
open Go.RowKit Go.Sort

set_option maxRecDepth 100000 in
set_option maxHeartbeats 6400000 in
/-- BoxIn of the specification answers some box of the call's own. -/
theorem specIn7b_some (B : Nat) (v : Value) (b : Bx) (sa sp da dp sq ak : Int) (d : ByteArray) (w : World) (hs : bxSz b) (hM : bxIn6 b) (hd : d.size ≤ 120) (hk : -2000000 ≤ ak ∧ ak ≤ 2000000) (hB : B ≤ w.heap.size) (ho : GBx w B v b) :
    Calls Tryz.prog 112 #[v, .agg #[.int .i64 sa, .int .i64 sp, .int .i64 da, .int .i64 dp, .int .i64 sq, .int .i64 ak, .string d]] w fun e w' => ∃ (u v' : Value) (b' : Bx), e = .returned (.tuple #[u, v']) ∧ OwG w' w.heap.size u b' ∧ (bxSz b' ∧ bxIn6 b') ∧ Below w.heap.size w w' := by
  have HGB := Lib.hid ho
  obtain ⟨a1, c1, a2, c2, a3, c3, rfl, o1, o2, o3⟩ := ho
  have HOk : Hid (∀ w', Below w.heap.size w w' → Calls Tryz.prog 10 #[.agg #[.slice a1 b.rs.length c1, .slice a2 b.es.length c2, .slice a3 b.cs.length c3]] w' fun e w'' => e = .returned (.bool (boxOkB b)) ∧ Below w'.heap.size w' w'') := fun w' h => specBoxOk_anyG B _ b w' hs (Nat.le_trans hB h.size) (HGB.out.later h)
  have HSm : Hid (∀ w', Below w.heap.size w w' → Calls Tryz.prog 36 #[.agg #[.slice a1 b.rs.length c1, .slice a2 b.es.length c2, .slice a3 b.cs.length c3]] w' fun e w'' => ∃ u b', e = .returned u ∧ OwG w'' w'.heap.size u b' ∧ (bxSz b' ∧ bxIn6 b') ∧ Below w'.heap.size w' w'') := fun w' h => specSame_someM B _ b w' hs hM (Nat.le_trans hB h.size) (HGB.out.later h)
  have HCp : Hid (∀ w', Below w.heap.size w w' → Calls Tryz.prog 37 #[.agg #[.slice a1 b.rs.length c1, .slice a2 b.es.length c2, .slice a3 b.cs.length c3]] w' fun e w'' => ∃ u, e = .returned u ∧ OwB w'' w'.heap.size u b ∧ Below w'.heap.size w' w'') := fun w' h => specCopy7_anyG B _ b w' hs (HGB.out.later h)
  have HSo : Hid (∀ w', Calls Tryz.prog 13 #[.agg #[.int .i64 sa, .int .i64 sp, .int .i64 da, .int .i64 dp, .int .i64 sq, .int .i64 ak, .string d]] w' fun e w'' => e = .returned (.bool (segOkB ⟨sa, sp, da, dp, sq, ak, d.data.toList⟩)) ∧ Below w'.heap.size w' w'') := fun w' => specSegOk_any sa sp da dp sq ak d w' (by omega)
  have HOu : Hid (∀ w', Calls Tryz.prog 85 #[.agg #[.int .i64 sa, .int .i64 sp]] w' fun e w'' => e = .returned (.bool (outB sa sp)) ∧ Below w'.heap.size w' w'') := fun w' => specOutside_any sa sp w'
  have HEn : Hid (∀ w', Below w.heap.size w w' → Calls Tryz.prog 38 #[.agg #[.slice a2 b.es.length c2], .int .i64 dp] w' fun e w'' => e = .returned (endV (endI b.es dp)) ∧ Below w'.heap.size w' w'') := fun w' h => specMapEnd_any _ b.es dp w' (by have := hs.2.1; omega) (OwnTab.tab (own_later o2 h))
  have HMy : Hid (∀ ea ep w', Below w.heap.size w w' → Calls Tryz.prog 138 #[.slice a1 b.rs.length c1, .agg #[.int .i64 ea, .int .i64 ep], .agg #[.int .i64 sa, .int .i64 sp]] w' fun e w'' => e = .returned (.bool (mayL b.rs ea sa sp)) ∧ Below w'.heap.size w' w'') := fun ea ep w' h => specMayL_any _ b.rs ea ep sa sp w' (by have := hs.1; omega) (o1.below h)
  have HFi : Hid (∀ ea ep w', Below w.heap.size w w' → Calls Tryz.prog 89 #[.slice a3 b.cs.length c3, .agg #[.int .i64 ea, .int .i64 ep], .agg #[.int .i64 sa, .int .i64 sp]] w' fun e w'' => e = .returned (.int .i64 (findCn b.cs ea ep sa sp)) ∧ Below w'.heap.size w' w'') := fun ea ep w' h => specFindCn_any _ b.cs ea ep sa sp w' (by have := hs.2.2.1; omega) (o3.below h)
  obtain ⟨bO, hbO⟩ : ∃ x, x = boxOkB b := ⟨_, rfl⟩
  obtain ⟨bS, hbS⟩ : ∃ x, x = segOkB ⟨sa, sp, da, dp, sq, ak, d.data.toList⟩ := ⟨_, rfl⟩
  obtain ⟨bU, hbU⟩ : ∃ x, x = outB sa sp := ⟨_, rfl⟩
  rw [← hbO] at HOk
  rw [← hbS] at HSo
  rw [← hbU] at HOu
  have HSML : Hid (bO = true → mapB b.es = true ∧ b.rs.length ≤ 5 ∧ b.es.length ≤ 6 ∧ b.cs.length ≤ 3 ∧ cnOk b.cs) := fun h => boxOk_small (by rw [← hbO]; exact h)
  clear hbO hbS hbU o1 o2 o3
  have QQ : Hid (CQ w.heap.size (((w.alloc (.cells #[.slice a1 b.rs.length c1, .slice a2 b.es.length c2, .slice a3 b.cs.length c3] 29)).alloc (.cells #[.int .i64 sa, .int .i64 sp, .int .i64 da, .int .i64 dp, .int .i64 sq, .int .i64 ak, .string d] 33)).alloc (.cells #[.slice none 0 0, .slice none 0 0, .slice none 0 0] 29)) [.slice a1 b.rs.length c1, .slice a2 b.es.length c2, .slice a3 b.cs.length c3] [.int .i64 sa, .int .i64 sp, .int .i64 da, .int .i64 dp, .int .i64 sq, .int .i64 ak, .string d] [.slice none 0 0, .slice none 0 0, .slice none 0 0]) := CQ.new w _ _ _
  have BQ : Hid (Below w.heap.size w (((w.alloc (.cells #[.slice a1 b.rs.length c1, .slice a2 b.es.length c2, .slice a3 b.cs.length c3] 29)).alloc (.cells #[.int .i64 sa, .int .i64 sp, .int .i64 da, .int .i64 dp, .int .i64 sq, .int .i64 ak, .string d] 33)).alloc (.cells #[.slice none 0 0, .slice none 0 0, .slice none 0 0] 29))) := (((Below.refl _ _).alloc (Nat.le_refl _) _).alloc (by simp) _).alloc (by simp <;> omega) _
  go_enter Tryz.func112, Tryz.ntmps112
  go_upto_region 1 with fail
  obtain ⟨W, hW⟩ : ∃ W, W = (((w.alloc (.cells #[.slice a1 b.rs.length c1, .slice a2 b.es.length c2, .slice a3 b.cs.length c3] 29)).alloc (.cells #[.int .i64 sa, .int .i64 sp, .int .i64 da, .int .i64 dp, .int .i64 sq, .int .i64 ak, .string d] 33)).alloc (.cells #[.slice none 0 0, .slice none 0 0, .slice none 0 0] 29)) := ⟨_, rfl⟩
  have hs3 : w.heap.size + 3 ≤ W.heap.size := by rw [hW]; simp
  rw [← hW] at QQ BQ ⊢
  clear hW
  obtain ⟨s, hss⟩ : ∃ s, s = w.heap.size := ⟨_, rfl⟩
  rw [← hss] at QQ hs3 ⊢
  have hws : w.heap.size ≤ s := Nat.le_of_eq hss.symm
  have hws2 : s ≤ w.heap.size := Nat.le_of_eq hss
  clear hss
  obtain ⟨⟨p0, p1, p2⟩, -⟩ := three_all QQ.out.1
  obtain ⟨⟨e0, e1, e2, e3, e4, e5, e6⟩, -⟩ := seven_partsG QQ.out.2.1
  obtain ⟨bT, hbT⟩ : ∃ x, x = (bO && (bS && (bU && (da == 50)))) := ⟨_, rfl⟩
  have HBT := Lib.hid hbT
  go_cut [29] (fun s38 wx => s38 = .bool (!bT) ∧ s + 3 ≤ wx.heap.size ∧ CQ s wx [.slice a1 b.rs.length c1, .slice a2 b.es.length c2, .slice a3 b.cs.length c3] [.int .i64 sa, .int .i64 sp, .int .i64 da, .int .i64 dp, .int .i64 sq, .int .i64 ak, .string d] [.slice none 0 0, .slice none 0 0, .slice none 0 0] ∧ Below w.heap.size w wx)
  case first =>
    have key : (bO = false ∧ bT = false) ∨ (bO = true ∧ bS = false ∧ bT = false) ∨ (bO = true ∧ bS = true ∧ bU = false ∧ bT = false) ∨ (bO = true ∧ bS = true ∧ bU = true ∧ bT = false ∧ (da == 50) = false) ∨ (bO = true ∧ bS = true ∧ bU = true ∧ bT = true ∧ da = 50) := by
      by_cases hda : da = 50
      · have h1 : (da == 50) = true := by simp [hda]
        rw [h1] at hbT
        cases bO <;> cases bS <;> cases bU <;> simp at hbT <;> simp [hbT, hda]
      · have h1 : (da == 50) = false := by rw [beq_eq_false_iff_ne]; exact hda
        rw [h1] at hbT
        cases bO <;> cases bS <;> cases bU <;> simp at hbT <;> simp [hbT, hda]
    clear hbT HBT HSML
    rcases key with ⟨rfl, rfl⟩ | ⟨rfl, rfl, rfl⟩ | ⟨rfl, rfl, rfl, rfl⟩ | ⟨rfl, rfl, rfl, rfl, hda⟩ | ⟨rfl, rfl, rfl, rfl, rfl⟩
    all_goals
      go_wp2_with (first
        | (go_at_call 10; refine (HOk.out _ BQ.out).mono ?_; rintro e w1 ⟨rfl, b1⟩; have QQ := Lib.hid (QQ.out.call b1); have BQ := Lib.hid (BQ.out.trans (b1.mono BQ.out.size)); clear b1 p0 p1 p2 e0 e1 e2 e3 e4 e5 e6; obtain ⟨⟨p0, p1, p2⟩, -⟩ := three_all QQ.out.1; obtain ⟨⟨e0, e1, e2, e3, e4, e5, e6⟩, -⟩ := seven_partsG QQ.out.2.1)
        | (go_at_call 13; refine (HSo.out _).mono ?_; rintro e w1 ⟨rfl, b1⟩; have QQ := Lib.hid (QQ.out.call b1); have BQ := Lib.hid (BQ.out.trans (b1.mono BQ.out.size)); clear b1 p0 p1 p2 e0 e1 e2 e3 e4 e5 e6; obtain ⟨⟨p0, p1, p2⟩, -⟩ := three_all QQ.out.1; obtain ⟨⟨e0, e1, e2, e3, e4, e5, e6⟩, -⟩ := seven_partsG QQ.out.2.1)
        | (go_at_call 85; refine (HOu.out _).mono ?_; rintro e w1 ⟨rfl, b1⟩; have QQ := Lib.hid (QQ.out.call b1); have BQ := Lib.hid (BQ.out.trans (b1.mono BQ.out.size)); clear b1 p0 p1 p2 e0 e1 e2 e3 e4 e5 e6; obtain ⟨⟨p0, p1, p2⟩, -⟩ := three_all QQ.out.1; obtain ⟨⟨e0, e1, e2, e3, e4, e5, e6⟩, -⟩ := seven_partsG QQ.out.2.1))
      go_meet
      exact ⟨(by first | rfl | (show Value.bool (!(da == 50)) = _; rw [hda])), (by have h1 := QQ.out.2.2.lt; omega), QQ.out, BQ.out⟩
  case rest =>
    obtain ⟨rfl, hs4, q4, b4⟩ := hcut
    have QQ := Lib.hid q4
    have BQ := Lib.hid b4
    have BQ0 : w.heap.size ≤ wc.heap.size := b4.size
    clear q4 b4 hbT HOk HSo HOu hs3 p0 p1 p2 e0 e1 e2 e3 e4 e5 e6
    obtain ⟨⟨p0, p1, p2⟩, -⟩ := three_all QQ.out.1
    cases bT
    · clear HCp HBT HSML HEn HMy HFi
      go_wp2_with (go_at_call 36; refine (HSm.out _ BQ.out).mono ?_; rintro e w5 ⟨u, b', rfl, oG, hsz, b5⟩; obtain ⟨y1, d1, y2, d2, y3, d3, rfl, g1, g2, g3⟩ := oG; have OG := Lib.hid (OwG.later ⟨_, _, _, _, _, _, rfl, g1, g2, g3⟩ ((Below.refl _ w5).alloc (Nat.le_refl _) (.cells #[] 33))); have BQ := Lib.hid ((BQ.out.trans (b5.mono BQ.out.size)).trans (((Below.refl _ w5).alloc (Nat.le_refl _) (.cells #[] 33)).mono (Nat.le_trans BQ.out.size b5.size))); have QQ := Lib.hid ((QQ.out.call b5).call ((Below.refl _ w5).alloc (Nat.le_refl _) (.cells #[] 33))); clear g1 g2 g3 b5 p0 p1 p2; obtain ⟨⟨r0, r1, r2⟩, q0, q1, q2⟩ := three_all QQ.out.2.2)
      obtain ⟨⟨z0, z1, z2⟩, -⟩ := three_all (three_set QQ.out.2.2 (.slice y1 b'.rs.length d1) (.slice y2 b'.es.length d2) (.slice y3 b'.cs.length d3))
      refine bodyPost_ret (v := .tuple #[.agg #[.slice y1 b'.rs.length d1, .slice y2 b'.es.length d2, .slice y3 b'.cs.length d3], .slice (some ⟨w5.heap.size, 0, none⟩) 0 0]) (by simp [results, Tryz.results112, go_sem, z0, z1, z2]) rfl ?_
      have hz := OwG.ans (x1 := .slice y1 b'.rs.length d1) (x2 := .slice y2 b'.es.length d2) (x3 := .slice y3 b'.cs.length d3) OG.out QQ.out BQ.out BQ0 hws
      exact ⟨_, _, b', rfl, hz.1, hsz, hz.2⟩
    · clear HSm
      have e1 : bO = true := by
        have h := HBT.out
        cases bO <;> simp at h <;> simp
      have HSMA := Lib.hid (HSML.out e1)
      clear e1 HBT HSML
      go_upto_region 4 with (go_at_call 37; refine (HCp.out _ BQ.out).mono ?_; rintro e w5 ⟨u, rfl, oB, b5⟩; obtain ⟨x1, d1, x2, d2, x3, d3, rfl, m1, m2, m3⟩ := oB)
      have hb6 : Below w5.heap.size w5 (w5.alloc (.cells #[.slice (some x1) b.rs.length d1, .slice (some x2) b.es.length d2, .slice (some x3) b.cs.length d3] 29)) := (Below.refl _ _).alloc (Nat.le_refl _) _
      have S6 : Hid (OS wc.heap.size s w5.heap.size w (w5.alloc (.cells #[.slice (some x1) b.rs.length d1, .slice (some x2) b.es.length d2, .slice (some x3) b.cs.length d3] 29)) [.slice a1 b.rs.length c1, .slice a2 b.es.length c2, .slice a3 b.cs.length c3] [.int .i64 sa, .int .i64 sp, .int .i64 da, .int .i64 dp, .int .i64 sq, .int .i64 ak, .string d] [.slice none 0 0, .slice none 0 0, .slice none 0 0] (.slice (some x1) b.rs.length d1) (.slice (some x2) b.es.length d2) (.slice (some x3) b.cs.length d3) b.rs b.es b.cs) :=
        ⟨(QQ.out.call b5).call hb6, heap_at _ _ _ rfl, own_later m1 hb6, own_later (ends_own m2) hb6, own_later m3 hb6, (BQ.out.trans (b5.mono BQ.out.size)).trans (hb6.mono (Nat.le_trans BQ.out.size b5.size)), Nat.le_trans b5.size hb6.size⟩
      obtain ⟨W6, hW6⟩ : ∃ W6, W6 = w5.alloc (.cells #[.slice (some x1) b.rs.length d1, .slice (some x2) b.es.length d2, .slice (some x3) b.cs.length d3] 29) := ⟨_, rfl⟩
      have hsg : s + 2 < w5.heap.size := by have := b5.size; omega
      have hg6 : w5.heap.size < W6.heap.size := by rw [hW6]; simp
      rw [← hW6] at S6 ⊢
      obtain ⟨be, hbe⟩ : ∃ be, be = wc.heap.size := ⟨_, rfl⟩
      have hwb : w.heap.size ≤ be := by rw [hbe]; exact BQ0
      rw [← hbe] at S6
      clear hW6 hb6 m1 m2 m3 b5 hbe p0 p1 p2 QQ HCp
      obtain ⟨g6, hgg⟩ : ∃ g6, g6 = w5.heap.size := ⟨_, rfl⟩
      rw [← hgg] at S6 hsg hg6 ⊢
      clear hgg
      obtain ⟨n1, hn1⟩ : ∃ n, n = b.rs.length := ⟨_, rfl⟩
      obtain ⟨n2, hn2⟩ : ∃ n, n = b.es.length := ⟨_, rfl⟩
      obtain ⟨n3, hn3⟩ : ∃ n, n = b.cs.length := ⟨_, rfl⟩
      have HN1 := Lib.hid hn1
      have HN2 := Lib.hid hn2
      have HN3 := Lib.hid hn3
      rw [← hn1, ← hn2, ← hn3] at S6
      rw [← hn1] at HMy
      rw [← hn2] at HEn
      rw [← hn3] at HFi
      clear hn1 hn2 hn3
      obtain ⟨⟨k0, k1, k2⟩, -⟩ := three_all S6.out.1.1
      obtain ⟨⟨e0, e1, e2, e3, e4, e5, e6⟩, -⟩ := seven_partsG S6.out.1.2.1
      rcases hE : endI b.es dp with _ | ⟨ea, ep⟩
      · rw [hE] at HEn
        simp only [endV] at HEn
        clear hE
        go_upto_region 5 with (go_at_call 38; refine (HEn.out _ S6.out.2.2.2.2.2.1).mono ?_; rintro e w7 ⟨rfl, b7⟩)
        have hb8 : Below w7.heap.size w7 (w7.alloc (.cells #[.int .i64 0, .int .i64 0] 31)) := (Below.refl _ _).alloc (Nat.le_refl _) _
        have S8 := Lib.hid ((S6.out.call b7).call hb8)
        obtain ⟨W8, hW8⟩ : ∃ W8, W8 = w7.alloc (.cells #[.int .i64 0, .int .i64 0] 31) := ⟨_, rfl⟩
        rw [← hW8] at S8 ⊢
        clear hW8 hb8 b7 S6 hg6 e0 e1 e2 e3 e4 e5 e6 k0 k1 k2
        have S9 := Lib.hid (S8.out.call ((Below.refl _ W8).alloc (Nat.le_refl _) (.cells #[] 33)))
        obtain ⟨⟨p0, p1, p2⟩, -⟩ := three_all S8.out.2.1
        obtain ⟨⟨r0, r1, r2⟩, q0, q1, q2⟩ := three_all S9.out.1.2.2
        go_wp2_with fail
        have hz := OwG.ans (x1 := .slice (some x1) n1 d1) (x2 := .slice (some x2) n2 d2) (x3 := .slice (some x3) n3 d3) (S9.out.own HN1.out HN2.out HN3.out) S9.out.1 S9.out.2.2.2.2.2.1 hwb hws
        obtain ⟨⟨z0, z1, z2⟩, -⟩ := three_all (three_set S9.out.1.2.2 (.slice (some x1) n1 d1) (.slice (some x2) n2 d2) (.slice (some x3) n3 d3))
        refine bodyPost_ret (v := .tuple #[.agg #[.slice (some x1) n1 d1, .slice (some x2) n2 d2, .slice (some x3) n3 d3], .slice (some ⟨W8.heap.size, 0, none⟩) 0 0]) (by simp [results, Tryz.results112, go_sem, z0, z1, z2]) rfl ?_
        first | exact ⟨_, _, _, rfl, hz.1, ⟨hs, hM⟩, hz.2⟩ | exact ⟨_, ⟨_, rfl⟩, _, hz.1, ⟨hs, hM⟩, hz.2⟩
      · rw [hE] at HEn
        simp only [endV] at HEn
        clear hE
        go_upto_region 5 with (go_at_call 38; refine (HEn.out _ S6.out.2.2.2.2.2.1).mono ?_; rintro e w7 ⟨rfl, b7⟩)
        have hb8 : Below w7.heap.size w7 (w7.alloc (.cells #[.int .i64 ea, .int .i64 ep] 31)) := (Below.refl _ _).alloc (Nat.le_refl _) _
        have S8 := Lib.hid ((S6.out.call b7).call hb8)
        have E8 : Hid (Blk (w7.alloc (.cells #[.int .i64 ea, .int .i64 ep] 31)) w7.heap.size 31 [.int .i64 ea, .int .i64 ep]) := heap_at _ _ _ rfl
        have hse : s + 2 < w7.heap.size := Nat.lt_of_lt_of_le (Nat.lt_trans hsg hg6) b7.size
        obtain ⟨W8, hW8⟩ : ∃ W8, W8 = w7.alloc (.cells #[.int .i64 ea, .int .i64 ep] 31) := ⟨_, rfl⟩
        rw [← hW8] at S8 E8 ⊢
        clear hW8 hb8 b7 S6 hg6 e0 e1 e2 e3 e4 e5 e6 k0 k1 k2
        obtain ⟨b8, hb8⟩ : ∃ b8, b8 = w7.heap.size := ⟨_, rfl⟩
        rw [← hb8] at E8 hse ⊢
        clear hb8
        obtain ⟨⟨k0, k1, k2⟩, -⟩ := three_all S8.out.1.1
        obtain ⟨⟨e0, e1, e2, e3, e4, e5, e6⟩, -⟩ := seven_partsG S8.out.1.2.1
        have j0 := (E8.out.cell 0 _ rfl).1
        have j1 := (E8.out.cell 1 _ rfl).1
        obtain ⟨bM, hbM⟩ : ∃ bM, bM = mayL b.rs ea sa sp := ⟨_, rfl⟩
        have HMa : Hid (∀ w', Below w.heap.size w w' → Calls Tryz.prog 138 #[.slice a1 n1 c1, .agg #[.int .i64 ea, .int .i64 ep], .agg #[.int .i64 sa, .int .i64 sp]] w' fun e w'' => e = .returned (.bool bM) ∧ Below w'.heap.size w' w'') := fun w' h => by rw [hbM]; exact HMy.out ea ep w' h
        clear hbM HMy
        go_upto_if 54 with (go_at_call 138; refine (HMa.out _ S8.out.2.2.2.2.2.1).mono ?_; rintro e w9 ⟨rfl, b9⟩; have S9 := Lib.hid (S8.out.call b9); have E9 := Lib.hid (E8.out.below b9); clear b9 k0 k1 k2 e0 e1 e2 e3 e4 e5 e6 j0 j1)
        clear S8 E8
        cases bM
        · clear E9
          have SZ := Lib.hid (S9.out.call ((Below.refl _ w9).alloc (Nat.le_refl _) (.cells #[] 33)))
          obtain ⟨⟨p0, p1, p2⟩, -⟩ := three_all S9.out.2.1
          obtain ⟨⟨r0, r1, r2⟩, q0, q1, q2⟩ := three_all SZ.out.1.2.2
          go_wp2_with fail
          have hz := OwG.ans (x1 := .slice (some x1) n1 d1) (x2 := .slice (some x2) n2 d2) (x3 := .slice (some x3) n3 d3) (SZ.out.own HN1.out HN2.out HN3.out) SZ.out.1 SZ.out.2.2.2.2.2.1 hwb hws
          obtain ⟨⟨z0, z1, z2⟩, -⟩ := three_all (three_set SZ.out.1.2.2 (.slice (some x1) n1 d1) (.slice (some x2) n2 d2) (.slice (some x3) n3 d3))
          refine bodyPost_ret (v := .tuple #[.agg #[.slice (some x1) n1 d1, .slice (some x2) n2 d2, .slice (some x3) n3 d3], .slice (some ⟨w9.heap.size, 0, none⟩) 0 0]) (by simp [results, Tryz.results112, go_sem, z0, z1, z2]) rfl ?_
          first | exact ⟨_, _, _, rfl, hz.1, ⟨hs, hM⟩, hz.2⟩ | exact ⟨_, ⟨_, rfl⟩, _, hz.1, ⟨hs, hM⟩, hz.2⟩
        · obtain ⟨⟨k0, k1, k2⟩, -⟩ := three_all S9.out.1.1
          obtain ⟨⟨e0, e1, e2, e3, e4, e5, e6⟩, -⟩ := seven_partsG S9.out.1.2.1
          have j0 := (E9.out.cell 0 _ rfl).1
          have j1 := (E9.out.cell 1 _ rfl).1
          obtain ⟨q, hq⟩ : ∃ q, q = findCn b.cs ea ep sa sp := ⟨_, rfl⟩
          have HFq : Hid (∀ w', Below w.heap.size w w' → Calls Tryz.prog 89 #[.slice a3 n3 c3, .agg #[.int .i64 ea, .int .i64 ep], .agg #[.int .i64 sa, .int .i64 sp]] w' fun e w'' => e = .returned (.int .i64 q) ∧ Below w'.heap.size w' w'') := fun w' h => by rw [hq]; exact HFi.out ea ep w' h
          have HQ : Hid (0 ≤ q → ∃ m : Nat, q = m ∧ m < b.cs.length) := fun h => findCn_lt hq.symm h
          clear hq HFi
          go_upto_if 64 with (go_at_call 89; refine (HFq.out _ S9.out.2.2.2.2.2.1).mono ?_; rintro e w10 ⟨rfl, b10⟩; have S10 := Lib.hid (S9.out.call b10); have E10 := Lib.hid (E9.out.below b10); clear b10 k0 k1 k2 e0 e1 e2 e3 e4 e5 e6 j0 j1)
          clear S9 E9
          by_cases hq0 : 0 ≤ q
          · obtain ⟨m, rfl, hm⟩ := HQ.out hq0
            clear E10 hq0 HQ
            have hm0 : (0 : Int) ≤ (m : Int) := by omega
            obtain ⟨⟨p0, p1, p2⟩, -⟩ := three_all S10.out.2.1
            obtain ⟨⟨e0, e1, e2, e3, e4, e5, e6⟩, -⟩ := seven_partsG S10.out.1.2.1
            have HIn7 : Hid (∀ w', be ≤ w'.heap.size → OwnTab w' be (.slice (some x2) n2 d2) b.es → OwnCn w' be (.slice (some x3) n3 d3) b.cs → Calls Tryz.prog 139 #[.agg #[.slice (some x1) n1 d1, .slice (some x2) n2 d2, .slice (some x3) n3 d3], .agg #[.int .i64 sa, .int .i64 sp, .int .i64 da, .int .i64 dp, .int .i64 sq, .int .i64 ak, .string d], .int .i64 (m : Int)] w' fun e w'' => ∃ (cs' : List Cn) (v : Value), e = .returned (.tuple #[.agg #[.slice (some x1) n1 d1, .slice (some x2) n2 d2, .slice (some x3) cs'.length d3], v]) ∧ OwnTab w'' be (.slice (some x2) n2 d2) b.es ∧ OwnCn w'' be (.slice (some x3) cs'.length d3) cs' ∧ cs'.length = b.cs.length ∧ cnBig cs' ∧ KeepC be w' w'') := fun w' h1 h2 h3 => by
              rw [HN2.out] at h2 ⊢
              rw [HN3.out] at h3 ⊢
              exact specIn7_some be (some x1) (some x2) (some x3) n1 d1 d2 d3 b.es b.cs sa sp da dp sq ak d m w' HSMA.out.1 hm HSMA.out.2.2.2.2 hd hk h1 h2 h3
            go_wp2_with (go_at_call 139; refine (HIn7.out _ S10.out.2.2.2.2.2.2 S10.out.2.2.2.1 S10.out.2.2.2.2.1).mono ?_; rintro e w11 ⟨cs', v, rfl, t11, o11, l11, k11, kp⟩; have Q11 := Lib.hid (S10.out.1.keep kp); have R11 : Hid (OwnRl w11 be (.slice (some x1) n1 d1) b.rs) := kp.own S10.out.2.2.1 (by decide); have B11 : Hid (Below w.heap.size w w11) := S10.out.2.2.2.2.2.1.trans (kp.2.1.mono hwb); have T11 := Lib.hid t11; have O11 := Lib.hid o11; have K11 := Lib.hid k11; have L11 := Lib.hid l11; clear l11 t11 o11 k11 kp p0 p1 p2 e0 e1 e2 e3 e4 e5 e6; obtain ⟨⟨r0, r1, r2⟩, q0, q1, q2⟩ := three_all Q11.out.2.2)
            obtain ⟨⟨z0, z1, z2⟩, -⟩ := three_all (three_set Q11.out.2.2 (.slice (some x1) n1 d1) (.slice (some x2) n2 d2) (.slice (some x3) cs'.length d3))
            have hz := OwG.ans (x1 := .slice (some x1) n1 d1) (x2 := .slice (some x2) n2 d2) (x3 := .slice (some x3) cs'.length d3) (v := .agg #[.slice (some x1) n1 d1, .slice (some x2) n2 d2, .slice (some x3) cs'.length d3]) (b := ⟨b.rs, b.es, cs'⟩) ⟨some x1, d1, some x2, d2, some x3, d3, by rw [HN1.out, HN2.out], by rw [← HN1.out]; exact R11.out, by rw [← HN2.out]; exact T11.out, O11.out⟩ Q11.out B11.out hwb hws
            refine bodyPost_ret (v := .tuple #[.agg #[.slice (some x1) n1 d1, .slice (some x2) n2 d2, .slice (some x3) cs'.length d3], v]) (by simp [results, Tryz.results112, go_sem, z0, z1, z2]) rfl ?_
            first | exact ⟨_, _, _, rfl, hz.1, ⟨⟨hs.1, hs.2.1, by show cs'.length ≤ _; have := hs.2.2.1; have := L11.out; omega, K11.out.inn⟩, ⟨K11.out.in6, by show cs'.length ≤ _; have := hM.2.1; have := L11.out; omega, K11.out.wf, hM.2.2.2⟩⟩, hz.2⟩ | exact ⟨_, ⟨_, rfl⟩, _, hz.1, ⟨⟨hs.1, hs.2.1, by show cs'.length ≤ _; have := hs.2.2.1; have := L11.out; omega, K11.out.inn⟩, ⟨K11.out.in6, by show cs'.length ≤ _; have := hM.2.1; have := L11.out; omega, K11.out.wf, hM.2.2.2⟩⟩, hz.2⟩
          · have hq1 : q < 0 := by omega
            clear HQ
            obtain ⟨⟨e0, e1, e2, e3, e4, e5, e6⟩, f0, f1, f2, f3, f4, f5, f6⟩ := seven_partsG S10.out.1.2.1
            have j0 := (E10.out.cell 0 _ rfl).1
            have j1 := (E10.out.cell 1 _ rfl).1
            go_upto_region 11 with fail
            have S11a := Lib.hid ((S10.out.set4 hsg hws 2 (.int .i64 ea)).set4 hsg hws 3 (.int .i64 ep))
            obtain ⟨W10, hW10⟩ : ∃ W10, W10 = (w10.setCell ⟨s + 1, 2, none⟩ (.int .i64 ea)).setCell ⟨s + 1, 3, none⟩ (.int .i64 ep) := ⟨_, rfl⟩
            rw [← hW10] at S11a ⊢
            clear hW10 S10 e0 e1 e2 e3 e4 e5 e6 f0 f1 f2 f3 f4 f5 f6 j0 j1 E10
            have S11 : Hid (OS be s g6 w W10 [.slice a1 n1 c1, .slice a2 n2 c2, .slice a3 n3 c3] [.int .i64 sa, .int .i64 sp, .int .i64 ea, .int .i64 ep, .int .i64 sq, .int .i64 ak, .string d] [.slice none 0 0, .slice none 0 0, .slice none 0 0] (.slice (some x1) n1 d1) (.slice (some x2) n2 d2) (.slice (some x3) n3 d3) b.rs b.es b.cs) := S11a.out
            have SA : Hid (∀ o, OS be s g6 w (W10.alloc o) [.slice a1 n1 c1, .slice a2 n2 c2, .slice a3 n3 c3] [.int .i64 sa, .int .i64 sp, .int .i64 ea, .int .i64 ep, .int .i64 sq, .int .i64 ak, .string d] [.slice none 0 0, .slice none 0 0, .slice none 0 0] (.slice (some x1) n1 d1) (.slice (some x2) n2 d2) (.slice (some x3) n3 d3) b.rs b.es b.cs) := fun o => S11.out.call ((Below.refl _ W10).alloc (Nat.le_refl _) o)
            clear S11a
            obtain ⟨⟨p0, p1, p2⟩, -⟩ := three_all S11.out.2.1
            obtain ⟨⟨e0, e1, e2, e3, e4, e5, e6⟩, -⟩ := seven_partsG S11.out.1.2.1
            obtain ⟨⟨r0, r1, r2⟩, q0, q1, q2⟩ := three_all S11.out.1.2.2
            have p0x := fun o => (three_all (SA.out o).2.1).1.1
            have p1x := fun o => (three_all (SA.out o).2.1).1.2.1
            have p2x := fun o => (three_all (SA.out o).2.1).1.2.2
            have r0x := fun o => (three_all (SA.out o).1.2.2).1.1
            have r1x := fun o => (three_all (SA.out o).1.2.2).1.2.1
            have r2x := fun o => (three_all (SA.out o).1.2.2).1.2.2
            have q0x := fun o => (three_all (SA.out o).1.2.2).2.1
            have q1x := fun o => (three_all (SA.out o).1.2.2).2.2.1
            have q2x := fun o => (three_all (SA.out o).1.2.2).2.2.2
            have h6s : g6 ≠ s + 1 + 1 := by omega
            go_region
            all_goals go_wp2_with fail
            all_goals first
              | (have hz := OwG.ans (x1 := .slice (some x1) n1 d1) (x2 := .slice (some x2) n2 d2) (x3 := .slice (some x3) n3 d3) ((SA.out (.cells #[.int .i64 sa, .int .i64 sp, .int .i64 ea, .int .i64 ep, .int .i64 sq, .int .i64 ak, .string d] 33)).own HN1.out HN2.out HN3.out) (SA.out (.cells #[.int .i64 sa, .int .i64 sp, .int .i64 ea, .int .i64 ep, .int .i64 sq, .int .i64 ak, .string d] 33)).1 (SA.out (.cells #[.int .i64 sa, .int .i64 sp, .int .i64 ea, .int .i64 ep, .int .i64 sq, .int .i64 ak, .string d] 33)).2.2.2.2.2.1 hwb hws
                 obtain ⟨⟨z0, z1, z2⟩, -⟩ := three_all (three_set (SA.out (.cells #[.int .i64 sa, .int .i64 sp, .int .i64 ea, .int .i64 ep, .int .i64 sq, .int .i64 ak, .string d] 33)).1.2.2 (.slice (some x1) n1 d1) (.slice (some x2) n2 d2) (.slice (some x3) n3 d3))
                 refine bodyPost_ret (v := .tuple #[.agg #[.slice (some x1) n1 d1, .slice (some x2) n2 d2, .slice (some x3) n3 d3], .slice (some ⟨W10.heap.size, 0, none⟩) 1 1]) (by simp [results, Tryz.results112, go_sem, z0, z1, z2]) rfl ?_
                 first | exact ⟨_, _, _, rfl, hz.1.later (Below.refl _ _).drew, ⟨hs, hM⟩, hz.2.drew⟩ | exact ⟨_, ⟨_, rfl⟩, _, hz.1.later (Below.refl _ _).drew, ⟨hs, hM⟩, hz.2.drew⟩)
              | (have hz := OwG.ans (x1 := .slice (some x1) n1 d1) (x2 := .slice (some x2) n2 d2) (x3 := .slice (some x3) n3 d3) (S11.out.own HN1.out HN2.out HN3.out) S11.out.1 S11.out.2.2.2.2.2.1 hwb hws
                 obtain ⟨⟨z0, z1, z2⟩, -⟩ := three_all ((three_set S11.out.1.2.2 (.slice (some x1) n1 d1) (.slice (some x2) n2 d2) (.slice (some x3) n3 d3)).alloc (.cells #[.int .i64 sa, .int .i64 sp, .int .i64 ea, .int .i64 ep, .int .i64 sq, .int .i64 ak, .string d] 33))
                 refine bodyPost_ret (v := .tuple #[.agg #[.slice (some x1) n1 d1, .slice (some x2) n2 d2, .slice (some x3) n3 d3], .slice (some ⟨W10.heap.size, 0, none⟩) 1 1]) (by simp [results, Tryz.results112, go_sem, z0, z1, z2]) rfl ?_
                 first | exact ⟨_, _, _, rfl, (hz.1.later ((Below.refl _ _).alloc (Nat.le_refl _) _)).later (Below.refl _ _).drew, ⟨hs, hM⟩, (hz.2.alloc hz.2.size _).drew⟩ | exact ⟨_, ⟨_, rfl⟩, _, (hz.1.later ((Below.refl _ _).alloc (Nat.le_refl _) _)).later (Below.refl _ _).drew, ⟨hs, hM⟩, (hz.2.alloc hz.2.size _).drew⟩)
              | (trace_state; fail)

end Go.Proofs.YtgfkiljkpkfapaaGreatDoor

/- What is called while a box is drawn: a segment for it, and the box behind that. Conditions: as of these. -/
namespace Go.Proofs.YtgfkiljkpkfapaaGreatDoor
open Go.RowKit Go.Sort

/-- A segment, as a value. -/
def sgV (sa sp da dp sq ak : Int) (d : ByteArray) : Value := .agg #[.int .i64 sa, .int .i64 sp, .int .i64 da, .int .i64 dp, .int .i64 sq, .int .i64 ak, .string d]
theorem bs_to (B R s b3 L : Nat) (w0 w : World) (t2 : List Value) (x1 x2 x3 : Value) (b : Bx) (h : BS B R s b3 L w0 w t2 x1 x2 x3 b) (hL : L ≤ 980000) (hRs : R < s) (hsb : s < b3) :
    Calls Tryz.prog 113 #[.pointer (some ⟨R, 0, none⟩), .agg #[x1, x2, x3]] w fun e w' => ∃ sa sp da dp sq ak d, e = .returned (.agg #[.int .i64 sa, .int .i64 sp, .int .i64 da, .int .i64 dp, .int .i64 sq, .int .i64 ak, .string d]) ∧ (-2000000 ≤ ak ∧ ak ≤ 2000000) ∧ d.size ≤ 120 ∧ w.grownBy w' (some R) ∧ BS B R s b3 (L + 70) w0 w' t2 x1 x2 x3 b := by
  obtain ⟨h1, h2, ⟨a1, c1, a2, c2, a3, c3, e, o1, o2, o3⟩, hs, hg, hr⟩ := h
  simp only [Value.agg.injEq, Array.mk.injEq, List.cons.injEq, and_true] at e
  obtain ⟨rfl, rfl, rfl⟩ := e
  refine (to7_any B R L (s + 1) a1 a2 a3 b.rs.length c1 c2 c3 b.es b.cs w hr hL (by omega) hs.1.2.2.1 hs.1.2.2.2 hs.1.2.1 o2 o3).mono ?_
  rintro e w' ⟨sa, sp, da, dp, sq, ak, d, rfl, hk, hd, g, r⟩
  exact ⟨sa, sp, da, dp, sq, ak, d, rfl, hk, hd, g, BS.grown ⟨h1, h2, ⟨a1, c1, a2, c2, a3, c3, rfl, o1, o2, o3⟩, hs, hg, hr⟩ g r hRs hsb⟩
theorem bs_from (B R s b3 L : Nat) (w0 w : World) (t2 : List Value) (x1 x2 x3 : Value) (b : Bx) (h : BS B R s b3 L w0 w t2 x1 x2 x3 b) (hL : L ≤ 980000) (hRs : R < s) (hsb : s < b3) :
    Calls Tryz.prog 26 #[.pointer (some ⟨R, 0, none⟩), .agg #[x1, x2, x3]] w fun e w' => ∃ sa sp da dp sq ak d, e = .returned (.agg #[.int .i64 sa, .int .i64 sp, .int .i64 da, .int .i64 dp, .int .i64 sq, .int .i64 ak, .string d]) ∧ (-2000000 ≤ ak ∧ ak ≤ 2000000) ∧ d.size ≤ 120 ∧ w.grownBy w' (some R) ∧ BS B R s b3 (L + 70) w0 w' t2 x1 x2 x3 b := by
  obtain ⟨h1, h2, ⟨a1, c1, a2, c2, a3, c3, e, o1, o2, o3⟩, hs, hg, hr⟩ := h
  simp only [Value.agg.injEq, Array.mk.injEq, List.cons.injEq, and_true] at e
  obtain ⟨rfl, rfl, rfl⟩ := e
  refine (from7_any B R L (s + 1) a1 a2 a3 b.rs.length c1 b.es.length c2 c3 b.cs w hr hL (by omega) hs.1.2.2.1 hs.1.2.2.2 o3).mono ?_
  rintro e w' ⟨sa, sp, da, dp, sq, ak, d, rfl, hk, hd, g, r⟩
  exact ⟨sa, sp, da, dp, sq, ak, d, rfl, hk, hd, g, BS.grown ⟨h1, h2, ⟨a1, c1, a2, c2, a3, c3, rfl, o1, o2, o3⟩, hs, hg, hr⟩ g r hRs hsb⟩
theorem bs_in (B R s b3 L : Nat) (w0 w : World) (t2 : List Value) (x1 x2 x3 : Value) (b : Bx) (sa sp da dp sq ak : Int) (d : ByteArray) (h : BS B R s b3 L w0 w t2 x1 x2 x3 b) (hd : d.size ≤ 120) (hk : -2000000 ≤ ak ∧ ak ≤ 2000000) (hRs : R < s) (hsb : s < b3) :
    Calls Tryz.prog 112 #[.agg #[x1, x2, x3], .agg #[.int .i64 sa, .int .i64 sp, .int .i64 da, .int .i64 dp, .int .i64 sq, .int .i64 ak, .string d]] w fun e w' => ∃ (p1 p2 p3 : Option Addr) (m1 d1 m2 d2 m3 d3 : Nat) (v' : Value) (b' : Bx), e = .returned (.tuple #[.agg #[.slice p1 m1 d1, .slice p2 m2 d2, .slice p3 m3 d3], v']) ∧ OwH w' (s + 1) (.agg #[.slice p1 m1 d1, .slice p2 m2 d2, .slice p3 m3 d3]) b' ∧ bxSm b' ∧ Below w.heap.size w w' ∧ BS B R s b3 L w0 w' t2 x1 x2 x3 b := by
  have hl := h.1.lt
  refine (specIn7b_some (s + 1) _ b sa sp da dp sq ak d w h.2.2.2.1.1 h.2.2.2.1.2 hd hk hl h.2.2.1.gen).mono ?_
  rintro e w' ⟨u, v', b', rfl, og, hs', hb⟩
  obtain ⟨a1, c1, a2, c2, a3, c3, rfl, o1, o2, o3⟩ := og
  exact ⟨_, _, _, _, _, _, _, _, _, v', b', rfl, OwH.mono (OwG.toH ⟨a1, c1, a2, c2, a3, c3, rfl, o1, o2, o3⟩) hl, hs', hb, h.below hb hRs hsb⟩
theorem bs_out (B R s b3 L : Nat) (w0 w : World) (t2 : List Value) (x1 x2 x3 : Value) (b : Bx) (sa sp da dp sq ak : Int) (d : ByteArray) (h : BS B R s b3 L w0 w t2 x1 x2 x3 b) (hd : d.size ≤ 120) (hk : -2000000 ≤ ak ∧ ak ≤ 2000000) (hRs : R < s) (hsb : s < b3) :
    Calls Tryz.prog 114 #[.agg #[x1, x2, x3], .agg #[.int .i64 sa, .int .i64 sp, .int .i64 da, .int .i64 dp, .int .i64 sq, .int .i64 ak, .string d]] w fun e w' => ∃ (p1 p2 p3 : Option Addr) (m1 d1 m2 d2 m3 d3 : Nat) (v' : Value) (b' : Bx), e = .returned (.tuple #[.agg #[.slice p1 m1 d1, .slice p2 m2 d2, .slice p3 m3 d3], v']) ∧ OwH w' (s + 1) (.agg #[.slice p1 m1 d1, .slice p2 m2 d2, .slice p3 m3 d3]) b' ∧ bxSm b' ∧ Below w.heap.size w w' ∧ BS B R s b3 L w0 w' t2 x1 x2 x3 b := by
  have hl := h.1.lt
  refine (specOut7_some (s + 1) _ b sa sp da dp sq ak d w h.2.2.2.1.1 h.2.2.2.1.2 hd hk hl h.2.2.1.gen).mono ?_
  rintro e w' ⟨u, v', b', rfl, og, hs', hb⟩
  obtain ⟨a1, c1, a2, c2, a3, c3, rfl, o1, o2, o3⟩ := og
  exact ⟨_, _, _, _, _, _, _, _, _, v', b', rfl, OwH.mono (OwG.toH ⟨a1, c1, a2, c2, a3, c3, rfl, o1, o2, o3⟩) hl, hs', hb, h.below hb hRs hsb⟩
theorem OwH.setB {w : World} {B g : Nat} {l : List Value} {v : Value} {b : Bx} (h : OwH w B v b) (hb : Blk w g 29 l) (i : Nat) (u : Value) : OwH (w.setCell ⟨g, i, none⟩ u) B v b := by
  obtain ⟨a1, c1, a2, c2, a3, c3, rfl, h1, h2, h3⟩ := h
  exact ⟨a1, c1, a2, c2, a3, c3, rfl, h1.elim Or.inl (fun h => Or.inr (own_setR h hb (by decide) i u)), own_setR h2 hb (by decide) i u, own_setR h3 hb (by decide) i u⟩
/-- The box that was just answered becomes the box. -/
theorem BS.turn {B R s b3 L : Nat} {w0 w : World} {t2 : List Value} {x1 x2 x3 y1 y2 y3 : Value} {b b' : Bx} (h : BS B R s b3 L w0 w t2 x1 x2 x3 b) (hy : OwH w (s + 1) (.agg #[y1, y2, y3]) b') (hz : bxSm b') (hRs : R < s) (hBR : B ≤ R) (hsb : s < b3) (h0 : w0.heap.size ≤ s) :
    BS B R s b3 L w0 (((w.setCell ⟨b3, 0, none⟩ y1).setCell ⟨b3, 1, none⟩ y2).setCell ⟨b3, 2, none⟩ y3) t2 y1 y2 y3 b' :=
  ⟨((h.1.setO (by omega) 0 y1).setO (by omega) 1 y2).setO (by omega) 2 y3, ((h.2.1.set 0 y1).set 1 y2).set 2 y3,
   (((hy.setB h.2.1 0 y1).setB (h.2.1.set 0 y1) 1 y2).setB ((h.2.1.set 0 y1).set 1 y2) 2 y3), hz,
   grown_putR (grown_putR (grown_putR h.2.2.2.2.1 (by omega) 0 y1) (by omega) 1 y2) (by omega) 2 y3,
   rd_put (rd_put (rd_put h.2.2.2.2.2 y1 (by omega) (by omega)) y2 (by omega) (by omega)) y3 (by omega) (by omega)⟩
/-- Stores into another box of a box's. -/
theorem BS.put3 {B R s b3 g L : Nat} {w0 w : World} {t2 l : List Value} {x1 x2 x3 : Value} {b : Bx} (h : BS B R s b3 L w0 w t2 x1 x2 x3 b) (hg : Blk w g 29 l) (hRs : R < s) (hBR : B ≤ R) (hsb : s < b3) (hbg : b3 < g) (h0 : w0.heap.size ≤ s) (y1 y2 y3 : Value) :
    BS B R s b3 L w0 (((w.setCell ⟨g, 0, none⟩ y1).setCell ⟨g, 1, none⟩ y2).setCell ⟨g, 2, none⟩ y3) t2 x1 x2 x3 b :=
  ⟨((h.1.setO (by omega) 0 y1).setO (by omega) 1 y2).setO (by omega) 2 y3, ((h.2.1.setO (by omega) 0 y1).setO (by omega) 1 y2).setO (by omega) 2 y3,
   ((h.2.2.1.setB hg 0 y1).setB (hg.set 0 y1) 1 y2).setB ((hg.set 0 y1).set 1 y2) 2 y3, h.2.2.2.1,
   grown_putR (grown_putR (grown_putR h.2.2.2.2.1 (by omega) 0 y1) (by omega) 1 y2) (by omega) 2 y3,
   rd_put (rd_put (rd_put h.2.2.2.2.2 y1 (by omega) (by omega)) y2 (by omega) (by omega)) y3 (by omega) (by omega)⟩
theorem BS.drew {B R s b3 L : Nat} {w0 w : World} {t2 : List Value} {x1 x2 x3 : Value} {b : Bx} (h : BS B R s b3 L w0 w t2 x1 x2 x3 b) : BS B R s b3 L w0 w.drew t2 x1 x2 x3 b :=
  ⟨h.1, h.2.1, h.2.2.1.later (Below.refl _ _).drew, h.2.2.2.1, grown_drewG h.2.2.2.2.1, rd_drewD h.2.2.2.2.2⟩

end Go.Proofs.YtgfkiljkpkfapaaGreatDoor

/- A drawn box with one part turned: its table, its rules, a cell of its first streams. No condition. -/
namespace Go.Proofs.YtgfkiljkpkfapaaGreatDoor
open Go.RowKit Go.Sort

theorem OwH.parts {w : World} {B n1 c1 n2 c2 n3 c3 : Nat} {a1 a2 a3 : Option Addr} {b : Bx} (h : OwH w B (.agg #[.slice a1 n1 c1, .slice a2 n2 c2, .slice a3 n3 c3]) b) :
    n1 = b.rs.length ∧ n2 = b.es.length ∧ n3 = b.cs.length ∧ FrRl w B (.slice a1 n1 c1) b.rs ∧ OwnTab w B (.slice a2 n2 c2) b.es ∧ OwnCn w B (.slice a3 n3 c3) b.cs := by
  obtain ⟨a1', c1', a2', c2', a3', c3', e, o1, o2, o3⟩ := h
  simp only [Value.agg.injEq, Array.mk.injEq, List.cons.injEq, Value.slice.injEq, and_true] at e
  obtain ⟨⟨rfl, rfl, rfl⟩, ⟨rfl, rfl, rfl⟩, rfl, rfl, rfl⟩ := e
  exact ⟨rfl, rfl, rfl, o1, o2, o3⟩
theorem OwH.form {w : World} {B : Nat} {x1 x2 x3 : Value} {b : Bx} (h : OwH w B (.agg #[x1, x2, x3]) b) : ∃ a1 c1 a2 c2 a3 c3, x1 = .slice a1 b.rs.length c1 ∧ x2 = .slice a2 b.es.length c2 ∧ x3 = .slice a3 b.cs.length c3 := by
  obtain ⟨a1, c1, a2, c2, a3, c3, e, -⟩ := h
  simp only [Value.agg.injEq, Array.mk.injEq, List.cons.injEq, and_true] at e
  exact ⟨a1, c1, a2, c2, a3, c3, e.1, e.2.1, e.2.2⟩
/-- Where a drawn box stands at last. -/
def BF (B R s b3 L : Nat) (w0 w : World) (t2 : List Value) (x1 x2 x3 : Value) (b : Bx) : Prop :=
  Blk w s 29 t2 ∧ Blk w b3 29 [x1, x2, x3] ∧ OwH w (s + 1) (.agg #[x1, x2, x3]) b ∧ (bxSz b ∧ wfE b.es ∧ cnWf b.cs) ∧ w0.grownBy w (some R) ∧ Rd B R L w
theorem BS.fin {B R s b3 L : Nat} {w0 w : World} {t2 : List Value} {x1 x2 x3 : Value} {b : Bx} (h : BS B R s b3 L w0 w t2 x1 x2 x3 b) : BF B R s b3 L w0 w t2 x1 x2 x3 b := ⟨h.1, h.2.1, h.2.2.1, ⟨h.2.2.2.1.1, h.2.2.2.1.2.2.2.2, h.2.2.2.1.2.2.2.1⟩, h.2.2.2.2.1, h.2.2.2.2.2⟩
section
variable {B R s b3 L n1 c1 n2 c2 n3 c3 : Nat} {a1 a2 a3 : Option Addr} {w0 w : World} {t2 : List Value} {b : Bx}
/-- One cell of the box itself. -/
theorem BS.cell3 {x1 x2 x3 : Value} (h : BS B R s b3 L w0 w t2 x1 x2 x3 b) (hRs : R < s) (hBR : B ≤ R) (hsb : s < b3) (h0 : w0.heap.size ≤ s) (i : Nat) (u : Value) :
    Blk (w.setCell ⟨b3, i, none⟩ u) s 29 t2 ∧ Blk (w.setCell ⟨b3, i, none⟩ u) b3 29 ([x1, x2, x3].set i u) ∧ OwH (w.setCell ⟨b3, i, none⟩ u) (s + 1) (.agg #[x1, x2, x3]) b ∧ w0.grownBy (w.setCell ⟨b3, i, none⟩ u) (some R) ∧ Rd B R L (w.setCell ⟨b3, i, none⟩ u) :=
  ⟨h.1.setO (by omega) i u, h.2.1.set i u, h.2.2.1.setB h.2.1 i u, grown_putR h.2.2.2.2.1 (by omega) i u, rd_put h.2.2.2.2.2 u (by omega) (by omega)⟩
theorem BS.tab {g : Option Addr} {c : Nat} {us : List (Int × Int)} (h : BS B R s b3 L w0 w t2 (.slice a1 n1 c1) (.slice a2 n2 c2) (.slice a3 n3 c3) b) (hRs : R < s) (hBR : B ≤ R) (hsb : s < b3) (h0 : w0.heap.size ≤ s) (ho : OwnTab w (s + 1) (.slice g us.length c) us) (hu : us.length ≤ 8) (hw : wfE us) :
    BF B R s b3 L w0 (w.setCell ⟨b3, 1, none⟩ (.slice g us.length c)) t2 (.slice a1 n1 c1) (.slice g us.length c) (.slice a3 n3 c3) ⟨b.rs, us, b.cs⟩ := by
  obtain ⟨k1, k2, k3, k4, k5⟩ := h.cell3 hRs hBR hsb h0 1 (.slice g us.length c)
  obtain ⟨e1, e2, e3, o1, o2, o3⟩ := k3.parts
  subst e1 e2 e3
  exact ⟨k1, k2, ⟨a1, c1, g, c, a3, c3, rfl, o1, own_setR ho h.2.1 (by decide) 1 _, o3⟩, ⟨⟨h.2.2.2.1.1.1, by show us.length ≤ _; omega, h.2.2.2.1.1.2.2.1, h.2.2.2.1.1.2.2.2⟩, hw, h.2.2.2.1.2.2.2.1⟩, k4, k5⟩
theorem BS.rul {g : Option Addr} {c : Nat} {l : List Rl} (h : BS B R s b3 L w0 w t2 (.slice a1 n1 c1) (.slice a2 n2 c2) (.slice a3 n3 c3) b) (hRs : R < s) (hBR : B ≤ R) (hsb : s < b3) (h0 : w0.heap.size ≤ s) (ho : OwnRl w (s + 1) (.slice g l.length c) l) (hu : l.length ≤ 8) :
    BF B R s b3 L w0 (w.setCell ⟨b3, 0, none⟩ (.slice g l.length c)) t2 (.slice g l.length c) (.slice a2 n2 c2) (.slice a3 n3 c3) ⟨l, b.es, b.cs⟩ := by
  obtain ⟨k1, k2, k3, k4, k5⟩ := h.cell3 hRs hBR hsb h0 0 (.slice g l.length c)
  obtain ⟨e1, e2, e3, o1, o2, o3⟩ := k3.parts
  subst e1 e2 e3
  exact ⟨k1, k2, ⟨g, c, a2, c2, a3, c3, rfl, FrL.own (own_setR ho h.2.1 (by decide) 0 _), o2, o3⟩, ⟨⟨by show l.length ≤ _; omega, h.2.2.2.1.1.2.1, h.2.2.2.1.1.2.2.1, h.2.2.2.1.1.2.2.2⟩, h.2.2.2.1.2.2.2.2, h.2.2.2.1.2.2.2.1⟩, k4, k5⟩
/-- A cell of the first streams. -/
theorem BS.put1 {g : Nat} {cs' : List Cn} (h : BS B R s b3 L w0 w t2 (.slice a1 n1 c1) (.slice a2 n2 c2) (.slice (some ⟨g, 0, none⟩) n3 c3) b) (hRs : R < s) (hBR : B ≤ R) (h0 : w0.heap.size ≤ s) (j : Nat) (u : Value) (hset : (flatC cnC b.cs).set j u = flatC cnC cs') (hl : cs'.length = b.cs.length) (hc : cnIn cs' 1048576) (hw : cnWf cs') :
    BF B R s b3 L w0 (w.setCell ⟨g, j, none⟩ u) t2 (.slice a1 n1 c1) (.slice a2 n2 c2) (.slice (some ⟨g, 0, none⟩) n3 c3) ⟨b.rs, b.es, cs'⟩ := by
  obtain ⟨e1, e2, e3, o1, o2, o3⟩ := h.2.2.1.parts
  subst e1 e2 e3
  have hgB := (World.ownsRow.lt o3 g rfl).1
  obtain ⟨l, hb⟩ : ∃ l, Blk w g 49 l := by
    rcases o3.2 with ⟨h0, _⟩ | ⟨g', cap, cur, hv, _, hg, _⟩
    · cases h0
    · simp at hv
      obtain ⟨rfl, rfl⟩ := hv
      obtain ⟨cl⟩ := cur
      exact ⟨cl, hg⟩
  have hty : ∀ {x : Nat} {t : TypeId} {l2 : List Value}, Blk w x t l2 → t ≠ 49 → x ≠ g := fun hb hne e => own_tyG o3 hb hne (by rw [e]; rfl)
  have o3' := own_setI o3 j u
  refine ⟨h.1.setO (hty h.1 (by decide)) j u, h.2.1.setO (hty h.2.1 (by decide)) j u, ⟨a1, c1, a2, c2, some ⟨g, 0, none⟩, c3, by rw [← hl], o1.elim Or.inl (fun o => Or.inr (own_setR o hb (by decide) j u)), own_setR o2 hb (by decide) j u, ?_⟩, ⟨⟨h.2.2.2.1.1.1, h.2.2.2.1.1.2.1, by show cs'.length ≤ _; rw [hl]; exact h.2.2.2.1.1.2.2.1, hc⟩, h.2.2.2.1.2.2.2.2, hw⟩, grown_putR h.2.2.2.2.1 (by omega) j u, rd_put h.2.2.2.2.2 u (by omega) (by omega)⟩
  show World.ownsRow _ _ _ _ _ _ _
  rw [hset] at o3'
  rw [hl]
  exact o3'
theorem BS.own (h : BS B R s b3 L w0 w t2 (.slice a1 n1 c1) (.slice a2 n2 c2) (.slice a3 n3 c3) b) (o : Obj) : (w.alloc o).ownsRow (s + 1) 49 7 (.slice a3 n3 c3) n3 (flatC cnC b.cs) := by
  have h5 := (h.alloc o).2.2.1.parts
  have h6 := h5.2.2.2.2.2
  unfold OwnCn at h6
  rw [← h5.2.2.1] at h6
  exact h6
/-- One stream more, by append. -/
theorem BS.app {x' : Cn} {o : Obj} {w' : World} {v' : Value} (h : BS B R s b3 L w0 w t2 (.slice a1 n1 c1) (.slice a2 n2 c2) (.slice a3 n3 c3) b) (hRs : R < s) (hBR : B ≤ R) (hsb : s < b3) (h0 : w0.heap.size ≤ s)
    (hg : (w.alloc o).grownBy w' (Value.ownBlock (.slice a3 n3 c3))) (ho : w'.ownsRow (s + 1) 49 7 v' (n3 + 1) (flatC cnC b.cs ++ cnC x')) (hx : (x'.kn.size : Int) ≤ 1048576 ∧ (x'.he.size : Int) ≤ 1048576 ∧ (x'.ne.size : Int) ≤ 1048576) (hw : cnWf1 x') :
    ∃ a' c', v' = .slice a' (n3 + 1) c' ∧ Blk w' s 29 t2 ∧ Blk w' b3 29 [.slice a1 n1 c1, .slice a2 n2 c2, .slice a3 n3 c3] ∧
      BF B R s b3 L w0 (w'.setCell ⟨b3, 2, none⟩ (.slice a' (n3 + 1) c')) t2 (.slice a1 n1 c1) (.slice a2 n2 c2) (.slice a' (n3 + 1) c') ⟨b.rs, b.es, b.cs ++ [x']⟩ := by
  have hn := h.2.2.2.1.2.2.1
  obtain ⟨a', c', rfl⟩ : ∃ a' c', v' = .slice a' (n3 + 1) c' := by
    rcases ho.2 with ⟨_, h5⟩ | ⟨g, cap, _, h5, _⟩
    · omega
    · exact ⟨_, _, h5⟩
  have hS := (h.alloc o)
  obtain ⟨e1, e2, e3, o1, o2, o3⟩ := hS.2.2.1.parts
  have k1 : Blk w' s 29 t2 := hS.1.grownR hg (own_tyG o3 hS.1 (by decide))
  have k2 : Blk w' b3 29 [.slice a1 n1 c1, .slice a2 n2 c2, .slice a3 n3 c3] := hS.2.1.grownR hg (own_tyG o3 hS.2.1 (by decide))
  have hge := own_ge o3
  have r1 : FrRl w' (s + 1) (.slice a1 n1 c1) b.rs := o1.elim Or.inl (fun q => Or.inr (own_keptG q o3 (by decide) hg))
  have r2 : OwnTab w' (s + 1) (.slice a2 n2 c2) b.es := own_keptG o2 o3 (by decide) hg
  have g2 : w0.grownBy w' (some R) := by
    refine ⟨hg.os.trans hS.2.2.2.2.1.os, hg.tape.trans hS.2.2.2.2.1.tape, hg.output.trans hS.2.2.2.2.1.output, Nat.le_trans hS.2.2.2.2.1.size hg.size, fun k hk hne => ?_⟩
    refine (hg.block k (Nat.lt_of_lt_of_le hk hS.2.2.2.2.1.size) (fun e => ?_)).trans (hS.2.2.2.2.1.block k hk hne)
    have := hge k e.symm
    omega
  have r3 : Rd B R L w' := rd_kept hS.2.2.2.2.2 hg (fun k e => by have := hge k e; omega)
  subst e1 e2
  refine ⟨a', c', rfl, k1, k2, k1.setO (by omega) 2 _, k2.set 2 _, ⟨a1, c1, a2, c2, a', c', by simp [← e3], ?_, own_setR r2 k2 (by decide) 2 _, ?_⟩, ⟨⟨h.2.2.2.1.1.1, h.2.2.2.1.1.2.1, ?_, ?_⟩, h.2.2.2.1.2.2.2.2, ?_⟩, grown_putR g2 (by omega) 2 _, rd_put r3 _ (by omega) (by omega)⟩
  · exact r1.elim Or.inl (fun q => Or.inr (own_setR q k2 (by decide) 2 _))
  · show World.ownsRow _ _ _ _ _ _ _
    have h5 := own_setR ho k2 (by decide) 2 (.slice a' (n3 + 1) c')
    rw [flatC_app, List.length_append]
    simpa [flatC, e3] using h5
  · show (b.cs ++ [x']).length ≤ _
    rw [List.length_append, List.length_singleton]; omega
  · intro c hc
    rcases List.mem_append.1 hc with h1 | h1
    · have h4 := h.2.2.2.1.2.1 c h1
      exact ⟨by omega, by omega, by omega⟩
    · simp at h1
      subst h1
      exact hx
  · intro c hc
    rcases List.mem_append.1 hc with h1 | h1
    · exact h.2.2.2.1.2.2.2.1 c h1
    · simp at h1
      subst h1
      exact hw
end
theorem cnWf_tail {x x' : Cn} {r : List Cn} (h : cnWf (x :: r)) (hx : cnWf1 x') : cnWf (x' :: r) := by
  intro c hc
  rcases List.mem_cons.1 hc with rfl | hc
  · exact hx
  · exact h c (List.mem_cons_of_mem _ hc)
theorem cnIn_tail {x x' : Cn} {r : List Cn} (h : cnIn (x :: r) 1000000) (h1 : (x'.kn.size : Int) ≤ 1048576) (h2 : (x'.he.size : Int) ≤ 1048576) (h3 : (x'.ne.size : Int) ≤ 1048576) : cnIn (x' :: r) 1048576 := by
  intro c hc
  rcases List.mem_cons.1 hc with rfl | hc
  · exact ⟨h1, h2, h3⟩
  · have h4 := h c (List.mem_cons_of_mem _ hc)
    exact ⟨by omega, by omega, by omega⟩

end Go.Proofs.YtgfkiljkpkfapaaGreatDoor
