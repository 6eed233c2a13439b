/- A box that is being drawn: where it stands, and what stays. No condition. (Several texts, joined: GOut, GDraw.) -/
import Derived.Test.YtgfkiljkpkfapaaGreatDoorTPll
import Derived.Test.YtgfkiljkpkfapaaGreatDoorTPln
import Derived.Test.YtgfkiljkpkfapaaGreatDoorTPla
import Derived.Test.YtgfkiljkpkfapaaGreatDoorTPlk
import Derived.Test.YtgfkiljkpkfapaaGreatDoorTPlg

/- BoxOut of the specification: some box of the call's own. Conditions: at most 2^20 rules, ends and streams each, no text longer; the segment's numbers are within a million. -/
namespace Go.Proofs.YtgfkiljkpkfapaaGreatDoor
open Go.RowKit Go.Sort

theorem wf_small {a : Int} (h1 : 0 ≤ a) (h2 : a ≤ 1000) : (Lit.int .i64 a).wf = true := by
  simp [Lit.wf, IntKind.min, IntKind.max, IntKind.signed, IntKind.bits]
  omega
theorem insWf {a p : Int} (h : insB a p = true) : (Lit.int .i64 a).wf = true ∧ (Lit.int .i64 p).wf = true := by
  simp only [insB, inB, Bool.and_eq_true, decide_eq_true_eq] at h
  exact ⟨wf_small (by omega) (by omega), wf_small (by omega) (by omega)⟩
theorem outsWf {a p : Int} (h : outB a p = true) : (Lit.int .i64 a).wf = true ∧ (Lit.int .i64 p).wf = true := by
  simp only [outB, inB, Bool.and_eq_true, decide_eq_true_eq] at h
  exact ⟨wf_small (by omega) (by omega), wf_small (by omega) (by omega)⟩
theorem mapWf {us : List (Int × Int)} (h : mapB us = true) : wfE us := fun e he => insWf (mapB_ins h e he)
theorem boxOk_small {b : Bx} (h : boxOkB b = true) : mapB b.es = true ∧ b.rs.length ≤ 5 ∧ b.es.length ≤ 6 ∧ b.cs.length ≤ 3 ∧ cnOk b.cs := by
  obtain ⟨h1, h2, h3, h4⟩ := boxOk_parts h
  refine ⟨h1, ?_, mapB_le h1, h3, fun c hc => ?_⟩
  · unfold rulesB at h2
    simp only [Bool.and_eq_true, decide_eq_true_eq] at h2
    exact h2.1
  · obtain ⟨k, hk, rfl⟩ := List.getElem_of_mem hc
    obtain ⟨h9, h10, -, -, h5, h6, -, h8, -⟩ := conn_parts (h4 k hk)
    rw [getD_at hk] at h5 h6 h8 h9 h10
    have e5 := (str_parts h5).1
    have e6 := (str_parts h6).1
    unfold nearB at h8
    simp only [Bool.and_eq_true, decide_eq_true_eq] at h8
    have e8 := h8.1.2
    rw [len_list] at e5 e6 e8
    exact ⟨e5, e6, e8, insWf h9, outsWf h10⟩
theorem OwG.setB {w : World} {B g : Nat} {l : List Value} {v : Value} {b : Bx} (h : OwG w B v b) (hb : Blk w g 29 l) (i : Nat) (u : Value) : OwG (w.setCell ⟨g, i, none⟩ u) B v b := by
  obtain ⟨a1, c1, a2, c2, a3, c3, rfl, h1, h2, h3⟩ := h
  exact ⟨a1, c1, a2, c2, a3, c3, rfl, own_setR h1 hb (by decide) i u, own_setR h2 hb (by decide) i u, own_setR h3 hb (by decide) i u⟩
theorem OwG.setS {w : World} {B g : Nat} {l : List Value} {v : Value} {b : Bx} (h : OwG w B v b) (hb : Blk w g 33 l) (i : Nat) (u : Value) : OwG (w.setCell ⟨g, i, none⟩ u) B v b := by
  obtain ⟨a1, c1, a2, c2, a3, c3, rfl, h1, h2, h3⟩ := h
  exact ⟨a1, c1, a2, c2, a3, c3, rfl, own_setR h1 hb (by decide) i u, own_setR h2 hb (by decide) i u, own_setR h3 hb (by decide) i u⟩
theorem CQ.keep {s B : Nat} {w w' : World} {t3 t4 t6 : List Value} (h : CQ s w t3 t4 t6) (k : KeepC B w w') : CQ s w' t3 t4 t6 := ⟨k.2.2 _ _ _ h.1 (by decide), k.2.2 _ _ _ h.2.1 (by decide), k.2.2 _ _ _ h.2.2 (by decide)⟩
/-- A box that is written into the box of the answer. -/
theorem OwG.ans {w0 w : World} {s B : Nat} {t3 t4 t6 : List Value} {x1 x2 x3 v : Value} {b : Bx} (h : OwG w B v b) (q : CQ s w t3 t4 t6) (hb : Below w0.heap.size w0 w) (hB : w0.heap.size ≤ B) (hs : w0.heap.size ≤ s) :
    OwG (((w.setCell ⟨s + 1 + 1, 0, none⟩ x1).setCell ⟨s + 1 + 1, 1, none⟩ x2).setCell ⟨s + 1 + 1, 2, none⟩ x3) w0.heap.size v b ∧ Below w0.heap.size w0 (((w.setCell ⟨s + 1 + 1, 0, none⟩ x1).setCell ⟨s + 1 + 1, 1, none⟩ x2).setCell ⟨s + 1 + 1, 2, none⟩ x3) :=
  ⟨(((h.setB q.2.2 0 x1).setB (q.2.2.set 0 x1) 1 x2).setB ((q.2.2.set 0 x1).set 1 x2) 2 x3).mono hB, ((hb.setCell (by show _ ≤ s + 1 + 1; omega) _).setCell (by show _ ≤ s + 1 + 1; omega) _).setCell (by show _ ≤ s + 1 + 1; omega) _⟩

/-- How things stand in BoxOut and BoxIn behind the copy: the boxes of the call, the copy's box g6, and its lists. -/
def OS (be s g6 : Nat) (w0 w : World) (t3 t4 t6 : List Value) (x1 x2 x3 : Value) (rs : List Rl) (us : List (Int × Int)) (cs : List Cn) : Prop :=
  CQ s w t3 t4 t6 ∧ Blk w g6 29 [x1, x2, x3] ∧ OwnRl w be x1 rs ∧ OwnTab w be x2 us ∧ OwnCn w be x3 cs ∧ Below w0.heap.size w0 w ∧ be ≤ w.heap.size
theorem OS.call {be s g6 : Nat} {w0 w w' : World} {t3 t4 t6 : List Value} {x1 x2 x3 : Value} {rs : List Rl} {us : List (Int × Int)} {cs : List Cn} (h : OS be s g6 w0 w t3 t4 t6 x1 x2 x3 rs us cs) (hb : Below w.heap.size w w') : OS be s g6 w0 w' t3 t4 t6 x1 x2 x3 rs us cs := by
  obtain ⟨q, k, r, t, c, b, e⟩ := h
  exact ⟨q.call hb, k.below hb, own_later r hb, own_later t hb, own_later c hb, b.trans (hb.mono b.size), Nat.le_trans e hb.size⟩
/-- The copy's table written. -/
theorem OS.tab {be s g6 : Nat} {w0 w : World} {t3 t4 t6 : List Value} {x1 x2 x3 x2' : Value} {rs : List Rl} {us us' : List (Int × Int)} {cs : List Cn} (h : OS be s g6 w0 w t3 t4 t6 x1 x2 x3 rs us cs) (ht : OwnTab w be x2' us') (hs : s + 2 < g6) (h0 : w0.heap.size ≤ s) :
    OS be s g6 w0 (w.setCell ⟨g6, 1, none⟩ x2') t3 t4 t6 x1 x2' x3 rs us' cs := by
  obtain ⟨q, k, r, t, c, b, e⟩ := h
  exact ⟨⟨q.1.setO (by omega) _ _, q.2.1.setO (by omega) _ _, q.2.2.setO (by omega) _ _⟩, k.set 1 x2', own_setR r k (by decide) _ _, own_setR ht k (by decide) _ _, own_setR c k (by decide) _ _, b.setCell (by show _ ≤ g6; omega) _, by simpa using e⟩
theorem OS.set4 {be s g6 : Nat} {w0 w : World} {t3 t4 t6 : List Value} {x1 x2 x3 : Value} {rs : List Rl} {us : List (Int × Int)} {cs : List Cn} (h : OS be s g6 w0 w t3 t4 t6 x1 x2 x3 rs us cs) (hs : s + 2 < g6) (h0 : w0.heap.size ≤ s) (i : Nat) (u : Value) :
    OS be s g6 w0 (w.setCell ⟨s + 1, i, none⟩ u) t3 (t4.set i u) t6 x1 x2 x3 rs us cs := by
  obtain ⟨q, k, r, t, c, b, e⟩ := h
  exact ⟨q.set4 i u, k.setO (by omega) _ _, own_setR r q.2.1 (by decide) _ _, own_setR t q.2.1 (by decide) _ _, own_setR c q.2.1 (by decide) _ _, b.setCell (by show _ ≤ s + 1; omega) _, by simpa using e⟩
theorem OS.own {be s g6 n1 n2 n3 c1 c2 c3 : Nat} {a1 a2 a3 : Option Addr} {w0 w : World} {t3 t4 t6 : List Value} {rs : List Rl} {us : List (Int × Int)} {cs : List Cn} (h : OS be s g6 w0 w t3 t4 t6 (.slice a1 n1 c1) (.slice a2 n2 c2) (.slice a3 n3 c3) rs us cs) (h1 : n1 = rs.length) (h2 : n2 = us.length) (h3 : n3 = cs.length) :
    OwG w be (.agg #[.slice a1 n1 c1, .slice a2 n2 c2, .slice a3 n3 c3]) ⟨rs, us, cs⟩ := by
  subst h1 h2 h3
  exact ⟨_, _, _, _, _, _, rfl, h.2.2.1, h.2.2.2.1, h.2.2.2.2.1⟩

theorem cnBig.in6 {cs : List Cn} (h : cnBig cs) : cnIn cs 1000000 := fun c hc => by
  obtain ⟨h1, h2, h3, -⟩ := h c hc
  exact ⟨by omega, by omega, by omega⟩
/-- A box's streams are not many, their texts not long; its numbers are numbers. -/
def bxIn6 (b : Bx) : Prop := cnIn b.cs 1000000 ∧ b.cs.length ≤ 1000000 ∧ cnWf b.cs ∧ wfE b.es
/-- What l7Same answers, with a bound on its streams. -/
theorem specSame_someM (B : Nat) (v : Value) (b : Bx) (w : World) (hs : bxSz b) (hM : bxIn6 b) (hB : B ≤ w.heap.size) (ho : GBx w B v b) :
    Calls Tryz.prog 36 #[v] w fun e w' => ∃ u b', e = .returned u ∧ OwG w' w.heap.size u b' ∧ (bxSz b' ∧ bxIn6 b') ∧ Below w.heap.size w w' := by
  cases hok : boxOkB b
  · have hf : ∃ a b c, v = .agg #[a, b, c] := by
      obtain ⟨a1, c1, a2, c2, a3, c3, rfl, -⟩ := ho
      exact ⟨_, _, _, rfl⟩
    refine (specSame_not v w hf (Lib.hid fun w' h => ?_)).mono ?_
    · rw [← hok]
      exact specBoxOk_anyG B v b w' hs (Nat.le_trans hB h.size) (ho.later h)
    · rintro e w' ⟨rfl, b1⟩
      exact ⟨_, _, rfl, OwG.nil _ _, ⟨bxSz_nil, ⟨(by intro c hc; cases hc), (by simp), (by intro c hc; cases hc), (by intro c hc; cases hc)⟩⟩, b1⟩
  · refine (specSame_yesG B v b w hs hB ho hok).mono ?_
    rintro e w' ⟨u, rfl, o, b1⟩
    exact ⟨_, _, rfl, o.own, ⟨hs, hM⟩, b1⟩
theorem cnBig.inn {cs : List Cn} (h : cnBig cs) : cnIn cs 1048576 := fun c hc => by
  obtain ⟨h1, h2, h3, -⟩ := h c hc
  exact ⟨by omega, by omega, by omega⟩

set_option maxRecDepth 100000 in
set_option maxHeartbeats 6400000 in
/-- BoxOut of the specification answers some box of the call's own. -/
theorem specOut7_some (B : Nat) (v : Value) (b : Bx) (sa sp da dp sq ak : Int) (d : ByteArray) (w : World) (hs : bxSz b) (hM : bxIn6 b) (hd : d.size ≤ 120) (hk : -2000000 ≤ ak ∧ ak ≤ 2000000) (hB : B ≤ w.heap.size) (ho : GBx w B v b) :
    Calls Tryz.prog 114 #[v, .agg #[.int .i64 sa, .int .i64 sp, .int .i64 da, .int .i64 dp, .int .i64 sq, .int .i64 ak, .string d]] w fun e w' => ∃ (u v' : Value) (b' : Bx), e = .returned (.tuple #[u, v']) ∧ OwG w' w.heap.size u b' ∧ (bxSz b' ∧ bxIn6 b') ∧ Below w.heap.size w w' := by
  have HGB := Lib.hid ho
  obtain ⟨a1, c1, a2, c2, a3, c3, rfl, o1, o2, o3⟩ := ho
  have HOk : Hid (∀ w', Below w.heap.size w w' → Calls Tryz.prog 10 #[.agg #[.slice a1 b.rs.length c1, .slice a2 b.es.length c2, .slice a3 b.cs.length c3]] w' fun e w'' => e = .returned (.bool (boxOkB b)) ∧ Below w'.heap.size w' w'') := fun w' h => specBoxOk_anyG B _ b w' hs (Nat.le_trans hB h.size) (HGB.out.later h)
  have HSm : Hid (∀ w', Below w.heap.size w w' → Calls Tryz.prog 36 #[.agg #[.slice a1 b.rs.length c1, .slice a2 b.es.length c2, .slice a3 b.cs.length c3]] w' fun e w'' => ∃ u b', e = .returned u ∧ OwG w'' w'.heap.size u b' ∧ (bxSz b' ∧ bxIn6 b') ∧ Below w'.heap.size w' w'') := fun w' h => specSame_someM B _ b w' hs hM (Nat.le_trans hB h.size) (HGB.out.later h)
  have HCp : Hid (∀ w', Below w.heap.size w w' → Calls Tryz.prog 37 #[.agg #[.slice a1 b.rs.length c1, .slice a2 b.es.length c2, .slice a3 b.cs.length c3]] w' fun e w'' => ∃ u, e = .returned u ∧ OwB w'' w'.heap.size u b ∧ Below w'.heap.size w' w'') := fun w' h => specCopy7_anyG B _ b w' hs (HGB.out.later h)
  have HSo : Hid (∀ w', Calls Tryz.prog 13 #[.agg #[.int .i64 sa, .int .i64 sp, .int .i64 da, .int .i64 dp, .int .i64 sq, .int .i64 ak, .string d]] w' fun e w'' => e = .returned (.bool (segOkB ⟨sa, sp, da, dp, sq, ak, d.data.toList⟩)) ∧ Below w'.heap.size w' w'') := fun w' => specSegOk_any sa sp da dp sq ak d w' (by omega)
  have HIn : Hid (∀ w', Calls Tryz.prog 14 #[.agg #[.int .i64 sa, .int .i64 sp]] w' fun e w'' => e = .returned (.bool (insB sa sp)) ∧ Below w'.heap.size w' w'') := fun w' => specInside_any sa sp w'
  have HOu : Hid (∀ w', Calls Tryz.prog 85 #[.agg #[.int .i64 da, .int .i64 dp]] w' fun e w'' => e = .returned (.bool (outB da dp)) ∧ Below w'.heap.size w' w'') := fun w' => specOutside_any da dp w'
  have HMy : Hid (∀ w', Below w.heap.size w w' → Calls Tryz.prog 138 #[.slice a1 b.rs.length c1, .agg #[.int .i64 sa, .int .i64 sp], .agg #[.int .i64 da, .int .i64 dp]] w' fun e w'' => e = .returned (.bool (mayL b.rs sa da dp)) ∧ Below w'.heap.size w' w'') := fun w' h => specMayL_any _ b.rs sa sp da dp w' (by have := hs.1; omega) (o1.below h)
  obtain ⟨bO, hbO⟩ : ∃ x, x = boxOkB b := ⟨_, rfl⟩
  obtain ⟨bS, hbS⟩ : ∃ x, x = segOkB ⟨sa, sp, da, dp, sq, ak, d.data.toList⟩ := ⟨_, rfl⟩
  obtain ⟨bI, hbI⟩ : ∃ x, x = insB sa sp := ⟨_, rfl⟩
  obtain ⟨bU, hbU⟩ : ∃ x, x = outB da dp := ⟨_, rfl⟩
  obtain ⟨bM, hbM⟩ : ∃ x, x = mayL b.rs sa da dp := ⟨_, rfl⟩
  rw [← hbO] at HOk
  rw [← hbS] at HSo
  rw [← hbI] at HIn
  rw [← hbU] at HOu
  rw [← hbM] at HMy
  have HSML : Hid (bO = true → mapB b.es = true ∧ b.rs.length ≤ 5 ∧ b.es.length ≤ 6 ∧ b.cs.length ≤ 3 ∧ cnOk b.cs) := fun h => boxOk_small (by rw [← hbO]; exact h)
  have HIB : Hid (bI = insB sa sp) := hbI
  have HUB : Hid (bU = outB da dp) := hbU
  clear hbO hbS hbI hbU hbM o1 o2 o3
  have QQ : Hid (CQ w.heap.size (((w.alloc (.cells #[.slice a1 b.rs.length c1, .slice a2 b.es.length c2, .slice a3 b.cs.length c3] 29)).alloc (.cells #[.int .i64 sa, .int .i64 sp, .int .i64 da, .int .i64 dp, .int .i64 sq, .int .i64 ak, .string d] 33)).alloc (.cells #[.slice none 0 0, .slice none 0 0, .slice none 0 0] 29)) [.slice a1 b.rs.length c1, .slice a2 b.es.length c2, .slice a3 b.cs.length c3] [.int .i64 sa, .int .i64 sp, .int .i64 da, .int .i64 dp, .int .i64 sq, .int .i64 ak, .string d] [.slice none 0 0, .slice none 0 0, .slice none 0 0]) := CQ.new w _ _ _
  have BQ : Hid (Below w.heap.size w (((w.alloc (.cells #[.slice a1 b.rs.length c1, .slice a2 b.es.length c2, .slice a3 b.cs.length c3] 29)).alloc (.cells #[.int .i64 sa, .int .i64 sp, .int .i64 da, .int .i64 dp, .int .i64 sq, .int .i64 ak, .string d] 33)).alloc (.cells #[.slice none 0 0, .slice none 0 0, .slice none 0 0] 29))) := (((Below.refl _ _).alloc (Nat.le_refl _) _).alloc (by simp) _).alloc (by simp <;> omega) _
  go_enter Tryz.func114, Tryz.ntmps114
  go_upto_region 1 with fail
  obtain ⟨W, hW⟩ : ∃ W, W = (((w.alloc (.cells #[.slice a1 b.rs.length c1, .slice a2 b.es.length c2, .slice a3 b.cs.length c3] 29)).alloc (.cells #[.int .i64 sa, .int .i64 sp, .int .i64 da, .int .i64 dp, .int .i64 sq, .int .i64 ak, .string d] 33)).alloc (.cells #[.slice none 0 0, .slice none 0 0, .slice none 0 0] 29)) := ⟨_, rfl⟩
  have hs3 : w.heap.size + 3 ≤ W.heap.size := by rw [hW]; simp
  rw [← hW] at QQ BQ ⊢
  clear hW
  obtain ⟨s, hss⟩ : ∃ s, s = w.heap.size := ⟨_, rfl⟩
  rw [← hss] at QQ hs3 ⊢
  have hws : w.heap.size ≤ s := Nat.le_of_eq hss.symm
  have hws2 : s ≤ w.heap.size := Nat.le_of_eq hss
  clear hss
  obtain ⟨⟨p0, p1, p2⟩, -⟩ := three_all QQ.out.1
  obtain ⟨⟨e0, e1, e2, e3, e4, e5, e6⟩, -⟩ := seven_partsG QQ.out.2.1
  obtain ⟨bT, hbT⟩ : ∃ x, x = (bO && (bS && (bI && (bU && bM)))) := ⟨_, rfl⟩
  have HBT := Lib.hid hbT
  go_cut [38] (fun s38 wx => s38 = .bool (!bT) ∧ s + 3 ≤ wx.heap.size ∧ CQ s wx [.slice a1 b.rs.length c1, .slice a2 b.es.length c2, .slice a3 b.cs.length c3] [.int .i64 sa, .int .i64 sp, .int .i64 da, .int .i64 dp, .int .i64 sq, .int .i64 ak, .string d] [.slice none 0 0, .slice none 0 0, .slice none 0 0] ∧ Below w.heap.size w wx)
  case first =>
    have key : (bO = false ∧ bT = false) ∨ (bO = true ∧ bS = false ∧ bT = false) ∨ (bO = true ∧ bS = true ∧ bI = false ∧ bT = false) ∨ (bO = true ∧ bS = true ∧ bI = true ∧ bU = false ∧ bT = false) ∨ (bO = true ∧ bS = true ∧ bI = true ∧ bU = true ∧ bM = false ∧ bT = false) ∨ (bO = true ∧ bS = true ∧ bI = true ∧ bU = true ∧ bM = true ∧ bT = true) := by
      cases bO <;> cases bS <;> cases bI <;> cases bU <;> cases bM <;> simp at hbT <;> simp [hbT]
    clear hbT HBT HSML HIB HUB
    rcases key with ⟨rfl, rfl⟩ | ⟨rfl, rfl, rfl⟩ | ⟨rfl, rfl, rfl, rfl⟩ | ⟨rfl, rfl, rfl, rfl, rfl⟩ | ⟨rfl, rfl, rfl, rfl, rfl, rfl⟩ | ⟨rfl, rfl, rfl, rfl, rfl, rfl⟩
    all_goals
      go_wp2_with (first
        | (go_at_call 10; refine (HOk.out _ BQ.out).mono ?_; rintro e w1 ⟨rfl, b1⟩; have QQ := Lib.hid (QQ.out.call b1); have BQ := Lib.hid (BQ.out.trans (b1.mono BQ.out.size)); clear b1 p0 p1 p2 e0 e1 e2 e3 e4 e5 e6; obtain ⟨⟨p0, p1, p2⟩, -⟩ := three_all QQ.out.1; obtain ⟨⟨e0, e1, e2, e3, e4, e5, e6⟩, -⟩ := seven_partsG QQ.out.2.1)
        | (go_at_call 13; refine (HSo.out _).mono ?_; rintro e w1 ⟨rfl, b1⟩; have QQ := Lib.hid (QQ.out.call b1); have BQ := Lib.hid (BQ.out.trans (b1.mono BQ.out.size)); clear b1 p0 p1 p2 e0 e1 e2 e3 e4 e5 e6; obtain ⟨⟨p0, p1, p2⟩, -⟩ := three_all QQ.out.1; obtain ⟨⟨e0, e1, e2, e3, e4, e5, e6⟩, -⟩ := seven_partsG QQ.out.2.1)
        | (go_at_call 14; refine (HIn.out _).mono ?_; rintro e w1 ⟨rfl, b1⟩; have QQ := Lib.hid (QQ.out.call b1); have BQ := Lib.hid (BQ.out.trans (b1.mono BQ.out.size)); clear b1 p0 p1 p2 e0 e1 e2 e3 e4 e5 e6; obtain ⟨⟨p0, p1, p2⟩, -⟩ := three_all QQ.out.1; obtain ⟨⟨e0, e1, e2, e3, e4, e5, e6⟩, -⟩ := seven_partsG QQ.out.2.1)
        | (go_at_call 85; refine (HOu.out _).mono ?_; rintro e w1 ⟨rfl, b1⟩; have QQ := Lib.hid (QQ.out.call b1); have BQ := Lib.hid (BQ.out.trans (b1.mono BQ.out.size)); clear b1 p0 p1 p2 e0 e1 e2 e3 e4 e5 e6; obtain ⟨⟨p0, p1, p2⟩, -⟩ := three_all QQ.out.1; obtain ⟨⟨e0, e1, e2, e3, e4, e5, e6⟩, -⟩ := seven_partsG QQ.out.2.1)
        | (go_at_call 138; refine (HMy.out _ BQ.out).mono ?_; rintro e w1 ⟨rfl, b1⟩; have QQ := Lib.hid (QQ.out.call b1); have BQ := Lib.hid (BQ.out.trans (b1.mono BQ.out.size)); clear b1 p0 p1 p2 e0 e1 e2 e3 e4 e5 e6; obtain ⟨⟨p0, p1, p2⟩, -⟩ := three_all QQ.out.1; obtain ⟨⟨e0, e1, e2, e3, e4, e5, e6⟩, -⟩ := seven_partsG QQ.out.2.1))
      go_meet
      exact ⟨rfl, (by have h1 := QQ.out.2.2.lt; omega), QQ.out, BQ.out⟩
  case rest =>
    obtain ⟨rfl, hs4, q4, b4⟩ := hcut
    have QQ := Lib.hid q4
    have BQ := Lib.hid b4
    have BQ0 : w.heap.size ≤ wc.heap.size := b4.size
    clear q4 b4 hbT HOk HSo HIn HOu HMy hs3 p0 p1 p2 e0 e1 e2 e3 e4 e5 e6
    obtain ⟨⟨p0, p1, p2⟩, -⟩ := three_all QQ.out.1
    cases bT
    · clear HCp HBT HSML HIB HUB
      go_wp2_with (go_at_call 36; refine (HSm.out _ BQ.out).mono ?_; rintro e w5 ⟨u, b', rfl, oG, hsz, b5⟩; obtain ⟨y1, d1, y2, d2, y3, d3, rfl, g1, g2, g3⟩ := oG; have OG := Lib.hid (OwG.later ⟨_, _, _, _, _, _, rfl, g1, g2, g3⟩ ((Below.refl _ w5).alloc (Nat.le_refl _) (.cells #[] 33))); have BQ := Lib.hid ((BQ.out.trans (b5.mono BQ.out.size)).trans (((Below.refl _ w5).alloc (Nat.le_refl _) (.cells #[] 33)).mono (Nat.le_trans BQ.out.size b5.size))); have QQ := Lib.hid ((QQ.out.call b5).call ((Below.refl _ w5).alloc (Nat.le_refl _) (.cells #[] 33))); clear g1 g2 g3 b5 p0 p1 p2; obtain ⟨⟨r0, r1, r2⟩, q0, q1, q2⟩ := three_all QQ.out.2.2)
      obtain ⟨⟨z0, z1, z2⟩, -⟩ := three_all (three_set QQ.out.2.2 (.slice y1 b'.rs.length d1) (.slice y2 b'.es.length d2) (.slice y3 b'.cs.length d3))
      refine bodyPost_ret (v := .tuple #[.agg #[.slice y1 b'.rs.length d1, .slice y2 b'.es.length d2, .slice y3 b'.cs.length d3], .slice (some ⟨w5.heap.size, 0, none⟩) 0 0]) (by simp [results, Tryz.results114, go_sem, z0, z1, z2]) rfl ?_
      have hz := OwG.ans (x1 := .slice y1 b'.rs.length d1) (x2 := .slice y2 b'.es.length d2) (x3 := .slice y3 b'.cs.length d3) OG.out QQ.out BQ.out BQ0 hws
      exact ⟨_, _, b', rfl, hz.1, hsz, hz.2⟩
    · clear HSm
      obtain ⟨e1, e2, e3, e4, e5⟩ : bO = true ∧ bS = true ∧ bI = true ∧ bU = true ∧ bM = true := by
        have h := HBT.out
        cases bO <;> cases bS <;> cases bI <;> cases bU <;> cases bM <;> simp at h <;> simp
      have HSMA := Lib.hid (HSML.out e1)
      have HIT : Hid (insB sa sp = true) := by show _ = _; rw [← HIB.out]; exact e3
      have HUT : Hid (outB da dp = true) := by show _ = _; rw [← HUB.out]; exact e4
      clear e1 e2 e3 e4 e5 HBT HSML HIB HUB
      go_upto_region 4 with (go_at_call 37; refine (HCp.out _ BQ.out).mono ?_; rintro e w5 ⟨u, rfl, oB, b5⟩; obtain ⟨x1, d1, x2, d2, x3, d3, rfl, m1, m2, m3⟩ := oB)
      have hb6 : Below w5.heap.size w5 (w5.alloc (.cells #[.slice (some x1) b.rs.length d1, .slice (some x2) b.es.length d2, .slice (some x3) b.cs.length d3] 29)) := (Below.refl _ _).alloc (Nat.le_refl _) _
      have S6 : Hid (OS wc.heap.size s w5.heap.size w (w5.alloc (.cells #[.slice (some x1) b.rs.length d1, .slice (some x2) b.es.length d2, .slice (some x3) b.cs.length d3] 29)) [.slice a1 b.rs.length c1, .slice a2 b.es.length c2, .slice a3 b.cs.length c3] [.int .i64 sa, .int .i64 sp, .int .i64 da, .int .i64 dp, .int .i64 sq, .int .i64 ak, .string d] [.slice none 0 0, .slice none 0 0, .slice none 0 0] (.slice (some x1) b.rs.length d1) (.slice (some x2) b.es.length d2) (.slice (some x3) b.cs.length d3) b.rs b.es b.cs) :=
        ⟨(QQ.out.call b5).call hb6, heap_at _ _ _ rfl, own_later m1 hb6, own_later (ends_own m2) hb6, own_later m3 hb6, (BQ.out.trans (b5.mono BQ.out.size)).trans (hb6.mono (Nat.le_trans BQ.out.size b5.size)), Nat.le_trans b5.size hb6.size⟩
      obtain ⟨W6, hW6⟩ : ∃ W6, W6 = w5.alloc (.cells #[.slice (some x1) b.rs.length d1, .slice (some x2) b.es.length d2, .slice (some x3) b.cs.length d3] 29) := ⟨_, rfl⟩
      have hsg : s + 2 < w5.heap.size := by have := b5.size; omega
      have hg6 : w5.heap.size < W6.heap.size := by rw [hW6]; simp
      rw [← hW6] at S6 ⊢
      obtain ⟨be, hbe⟩ : ∃ be, be = wc.heap.size := ⟨_, rfl⟩
      have hwb : w.heap.size ≤ be := by rw [hbe]; exact BQ0
      rw [← hbe] at S6
      clear hW6 hb6 m1 m2 m3 b5 hbe p0 p1 p2 QQ BQ HCp
      obtain ⟨g6, hgg⟩ : ∃ g6, g6 = w5.heap.size := ⟨_, rfl⟩
      rw [← hgg] at S6 hsg hg6 ⊢
      clear hgg
      obtain ⟨n1, hn1⟩ : ∃ n, n = b.rs.length := ⟨_, rfl⟩
      obtain ⟨n2, hn2⟩ : ∃ n, n = b.es.length := ⟨_, rfl⟩
      obtain ⟨n3, hn3⟩ : ∃ n, n = b.cs.length := ⟨_, rfl⟩
      have HN1 := Lib.hid hn1
      have HN2 := Lib.hid hn2
      have HN3 := Lib.hid hn3
      obtain ⟨us, hus⟩ : ∃ us, us = (putE b.es (sa, sp)).1 := ⟨_, rfl⟩
      obtain ⟨pt, hpt⟩ : ∃ pt, pt = (putE b.es (sa, sp)).2 := ⟨_, rfl⟩
      obtain ⟨nu, hnu⟩ : ∃ n, n = us.length := ⟨_, rfl⟩
      have HNU := Lib.hid hnu
      have HMU : Hid (mapB us = true) := by rw [hus]; exact putE_ok HSMA.out.1 HIT.out
      have HPt : Hid (∀ w', be ≤ w'.heap.size → OwnTab w' be (.slice (some x2) n2 d2) b.es → Calls Tryz.prog 39 #[.agg #[.slice (some x2) n2 d2], .agg #[.int .i64 sa, .int .i64 sp]] w' fun e w'' => ∃ g c, e = .returned (.tuple #[.agg #[.slice (some g) nu c], .int .i64 pt]) ∧ OwnTab w'' be (.slice (some g) nu c) us ∧ Below w'.heap.size w' w'') := fun w' h1 h2 => by
        rw [HN2.out] at h2 ⊢
        rw [hnu, hus, hpt]
        exact specPut_any be x2 d2 b.es sa sp w' (by have := HSMA.out.2.2.1; omega) h1 h2
      rw [← hn1, ← hn2, ← hn3] at S6
      clear hn1 hn2 hn3 hus hpt hnu
      obtain ⟨⟨p0, p1, p2⟩, -⟩ := three_all S6.out.2.1
      obtain ⟨⟨e0, e1, e2, e3, e4, e5, e6⟩, -⟩ := seven_partsG S6.out.1.2.1
      go_upto_region 5 with (go_at_call 39; refine (HPt.out _ S6.out.2.2.2.2.2.2 S6.out.2.2.2.1).mono ?_; rintro e w7 ⟨g7, c7, rfl, t7, b7⟩)
      have hb8 : Below w7.heap.size w7 (w7.alloc (.cells #[.slice (some g7) nu c7] 26)) := (Below.refl _ _).alloc (Nat.le_refl _) _
      have S8 := Lib.hid ((S6.out.call b7).call hb8)
      have T8 : Hid (OwnTab _ be (.slice (some g7) nu c7) us) := own_later t7 hb8
      have hg8 := Nat.lt_of_lt_of_le hg6 (Nat.le_trans b7.size hb8.size)
      have k8 : (w7.alloc (.cells #[.slice (some g7) nu c7] 26)).cell? ⟨w7.heap.size, 0, none⟩ = some (.slice (some g7) nu c7) := (cell_new w7 _ _ 0).1
      obtain ⟨W8, hW8⟩ : ∃ W8, W8 = w7.alloc (.cells #[.slice (some g7) nu c7] 26) := ⟨_, rfl⟩
      rw [← hW8] at S8 T8 hg8 k8 ⊢
      clear hW8 hb8 t7 b7 S6 hg6 p0 p1 p2 e0 e1 e2 e3 e4 e5 e6 HPt
      obtain ⟨⟨p0, p1, p2⟩, u0, u1, u2⟩ := three_all S8.out.2.1
      by_cases hp0 : pt = 0
      · subst hp0
        have hb9 : Below W8.heap.size W8 (W8.alloc (.cells #[] 33)) := (Below.refl _ _).alloc (Nat.le_refl _) _
        have S9 := Lib.hid (S8.out.call hb9)
        clear hb9
        obtain ⟨⟨r0, r1, r2⟩, q0, q1, q2⟩ := three_all S9.out.1.2.2
        go_wp2_with fail
        have hz := OwG.ans (x1 := .slice (some x1) n1 d1) (x2 := .slice (some x2) n2 d2) (x3 := .slice (some x3) n3 d3) (OS.own S9.out HN1.out HN2.out HN3.out) S9.out.1 S9.out.2.2.2.2.2.1 hwb hws
        obtain ⟨⟨z0, z1, z2⟩, -⟩ := three_all (three_set S9.out.1.2.2 (.slice (some x1) n1 d1) (.slice (some x2) n2 d2) (.slice (some x3) n3 d3))
        refine bodyPost_ret (v := .tuple #[.agg #[.slice (some x1) n1 d1, .slice (some x2) n2 d2, .slice (some x3) n3 d3], .slice (some ⟨W8.heap.size, 0, none⟩) 0 0]) (by simp [results, Tryz.results114, go_sem, z0, z1, z2]) rfl ?_
        exact ⟨_, _, _, rfl, hz.1, ⟨hs, hM⟩, hz.2⟩
      · have hp0i : (pt == 0) = false := by rw [beq_eq_false_iff_ne]; exact hp0
        go_upto_region 8 with fail
        have S9 := Lib.hid (S8.out.tab T8.out hsg hws)
        obtain ⟨W9, hW9⟩ : ∃ W9, W9 = W8.setCell ⟨g6, 1, none⟩ (.slice (some g7) nu c7) := ⟨_, rfl⟩
        have hg9 : g6 < W9.heap.size := by rw [hW9]; simpa using hg8
        rw [← hW9] at S9 ⊢
        clear hW9 S8 T8 hg8 k8 p0 p1 p2 u0 u1 u2
        obtain ⟨⟨p0, p1, p2⟩, -⟩ := three_all S9.out.2.1
        obtain ⟨⟨e0, e1, e2, e3, e4, e5, e6⟩, f0, f1, f2, f3, f4, f5, f6⟩ := seven_partsG S9.out.1.2.1
        by_cases hdp : dp = 21
        · subst hdp
          have HCt : Hid (∀ w', be ≤ w'.heap.size → OwnTab w' be (.slice (some g7) nu c7) us → OwnCn w' be (.slice (some x3) n3 d3) b.cs → Calls Tryz.prog 140 #[.agg #[.slice (some x1) n1 d1, .slice (some g7) nu c7, .slice (some x3) n3 d3], .agg #[.int .i64 sa, .int .i64 sp, .int .i64 da, .int .i64 21, .int .i64 sq, .int .i64 ak, .string d], .int .i64 pt] w' fun e w'' => ∃ (b2 : Option Addr) (d2 : Nat) (us' : List (Int × Int)) (b3 : Option Addr) (d3' : Nat) (cs' : List Cn) (v : Value), e = .returned (.tuple #[.agg #[.slice (some x1) n1 d1, .slice b2 us'.length d2, .slice b3 cs'.length d3'], v]) ∧ OwnTab w'' be (.slice b2 us'.length d2) us' ∧ mapB us' = true ∧ OwnCn w'' be (.slice b3 cs'.length d3') cs' ∧ cs'.length ≤ 4 ∧ cnOk cs' ∧ KeepC be w' w'') := fun w' h1 h2 h3 => by
            have h5 := HSMA.out.2.2.2.1
            rw [HNU.out] at h2 ⊢
            rw [HN3.out] at h3 ⊢
            refine (specCtl7_some be (some x1) (some g7) (some x3) n1 d1 c7 d3 us b.cs sa sp da 21 sq ak d pt w' HMU.out (by omega) HSMA.out.2.2.2.2 hd hk ⟨insWf HIT.out, outsWf HUT.out⟩ h1 h2 h3).mono ?_
            rintro e w'' ⟨b2, d2, us', b3, d3', cs', v, rfl, q1, q2, q3, q4, q5, q6⟩
            exact ⟨b2, d2, us', b3, d3', cs', v, rfl, q1, q2, q3, by omega, q5, q6⟩
          go_wp2_with (go_at_call 140; refine (HCt.out _ S9.out.2.2.2.2.2.2 S9.out.2.2.2.1 S9.out.2.2.2.2.1).mono ?_; rintro e w10 ⟨b2, d2, us', b3, d3', cs', v, rfl, t10, m10, o10, l10, k10, kp⟩; have Q10 := Lib.hid (S9.out.1.keep kp); have R10 : Hid (OwnRl w10 be (.slice (some x1) n1 d1) b.rs) := kp.own S9.out.2.2.1 (by decide); have B10 : Hid (Below w.heap.size w w10) := S9.out.2.2.2.2.2.1.trans (kp.2.1.mono hwb); have T10 := Lib.hid t10; have O10 := Lib.hid o10; have K10 := Lib.hid k10; have M10 := Lib.hid m10; clear t10 o10 k10 m10 kp p0 p1 p2 e0 e1 e2 e3 e4 e5 e6 f0 f1 f2 f3 f4 f5 f6; obtain ⟨⟨r0, r1, r2⟩, q0, q1, q2⟩ := three_all Q10.out.2.2)
          obtain ⟨⟨z0, z1, z2⟩, -⟩ := three_all (three_set Q10.out.2.2 (.slice (some x1) n1 d1) (.slice b2 us'.length d2) (.slice b3 cs'.length d3'))
          have hz := OwG.ans (x1 := .slice (some x1) n1 d1) (x2 := .slice b2 us'.length d2) (x3 := .slice b3 cs'.length d3') (v := .agg #[.slice (some x1) n1 d1, .slice b2 us'.length d2, .slice b3 cs'.length d3']) (b := ⟨b.rs, us', cs'⟩) ⟨some x1, d1, b2, d2, b3, d3', by rw [HN1.out], by rw [← HN1.out]; exact R10.out, T10.out, O10.out⟩ Q10.out B10.out hwb hws
          refine bodyPost_ret (v := .tuple #[.agg #[.slice (some x1) n1 d1, .slice b2 us'.length d2, .slice b3 cs'.length d3'], v]) (by simp [results, Tryz.results114, go_sem, z0, z1, z2]) rfl ?_
          exact ⟨_, _, _, rfl, hz.1, ⟨⟨hs.1, by show us'.length ≤ _; have := mapB_le M10.out; omega, by show cs'.length ≤ _; omega, K10.out.big.inn⟩, ⟨K10.out.big.in6, by show cs'.length ≤ _; omega, K10.out.wf, mapWf M10.out⟩⟩, hz.2⟩
        · have hdpi : (dp == 21) = false := by rw [beq_eq_false_iff_ne]; exact hdp
          clear hdp
          go_upto_region 11 with fail
          have S10 := Lib.hid ((S9.out.set4 hsg hws 0 (.int .i64 50)).set4 hsg hws 1 (.int .i64 pt))
          obtain ⟨W10, hW10⟩ : ∃ W10, W10 = (W9.setCell ⟨s + 1, 0, none⟩ (.int .i64 50)).setCell ⟨s + 1, 1, none⟩ (.int .i64 pt) := ⟨_, rfl⟩
          rw [← hW10] at S10 ⊢
          clear hW10 S9 hg9 p0 p1 p2 e0 e1 e2 e3 e4 e5 e6 f0 f1 f2 f3 f4 f5 f6
          have S11 : Hid (OS be s g6 w W10 [.slice a1 n1 c1, .slice a2 n2 c2, .slice a3 n3 c3] [.int .i64 50, .int .i64 pt, .int .i64 da, .int .i64 dp, .int .i64 sq, .int .i64 ak, .string d] [.slice none 0 0, .slice none 0 0, .slice none 0 0] (.slice (some x1) n1 d1) (.slice (some g7) nu c7) (.slice (some x3) n3 d3) b.rs us b.cs) := S10.out
          have SA : Hid (∀ o, OS be s g6 w (W10.alloc o) [.slice a1 n1 c1, .slice a2 n2 c2, .slice a3 n3 c3] [.int .i64 50, .int .i64 pt, .int .i64 da, .int .i64 dp, .int .i64 sq, .int .i64 ak, .string d] [.slice none 0 0, .slice none 0 0, .slice none 0 0] (.slice (some x1) n1 d1) (.slice (some g7) nu c7) (.slice (some x3) n3 d3) b.rs us b.cs) := fun o => S11.out.call ((Below.refl _ W10).alloc (Nat.le_refl _) o)
          clear S10
          obtain ⟨⟨p0, p1, p2⟩, -⟩ := three_all S11.out.2.1
          obtain ⟨⟨e0, e1, e2, e3, e4, e5, e6⟩, -⟩ := seven_partsG S11.out.1.2.1
          obtain ⟨⟨r0, r1, r2⟩, q0, q1, q2⟩ := three_all S11.out.1.2.2
          have p0x := fun o => (three_all (SA.out o).2.1).1.1
          have p1x := fun o => (three_all (SA.out o).2.1).1.2.1
          have p2x := fun o => (three_all (SA.out o).2.1).1.2.2
          have r0x := fun o => (three_all (SA.out o).1.2.2).1.1
          have r1x := fun o => (three_all (SA.out o).1.2.2).1.2.1
          have r2x := fun o => (three_all (SA.out o).1.2.2).1.2.2
          have q0x := fun o => (three_all (SA.out o).1.2.2).2.1
          have q1x := fun o => (three_all (SA.out o).1.2.2).2.2.1
          have q2x := fun o => (three_all (SA.out o).1.2.2).2.2.2
          have h6s : g6 ≠ s + 1 + 1 := by omega
          go_region
          all_goals go_wp2_with fail
          all_goals first
            | (have hz := OwG.ans (x1 := .slice (some x1) n1 d1) (x2 := .slice (some g7) nu c7) (x3 := .slice (some x3) n3 d3) ((SA.out (.cells #[.int .i64 50, .int .i64 pt, .int .i64 da, .int .i64 dp, .int .i64 sq, .int .i64 ak, .string d] 33)).own HN1.out HNU.out HN3.out) (SA.out (.cells #[.int .i64 50, .int .i64 pt, .int .i64 da, .int .i64 dp, .int .i64 sq, .int .i64 ak, .string d] 33)).1 (SA.out (.cells #[.int .i64 50, .int .i64 pt, .int .i64 da, .int .i64 dp, .int .i64 sq, .int .i64 ak, .string d] 33)).2.2.2.2.2.1 hwb hws
               obtain ⟨⟨z0, z1, z2⟩, -⟩ := three_all (three_set (SA.out (.cells #[.int .i64 50, .int .i64 pt, .int .i64 da, .int .i64 dp, .int .i64 sq, .int .i64 ak, .string d] 33)).1.2.2 (.slice (some x1) n1 d1) (.slice (some g7) nu c7) (.slice (some x3) n3 d3))
               refine bodyPost_ret (v := .tuple #[.agg #[.slice (some x1) n1 d1, .slice (some g7) nu c7, .slice (some x3) n3 d3], .slice (some ⟨W10.heap.size, 0, none⟩) 1 1]) (by simp [results, Tryz.results114, go_sem, z0, z1, z2]) rfl ?_
               exact ⟨_, _, _, rfl, hz.1.later (Below.refl _ _).drew, ⟨⟨hs.1, by show us.length ≤ _; have := mapB_le HMU.out; omega, hs.2.2.1, hs.2.2.2⟩, hM.1, hM.2.1, hM.2.2.1, mapWf HMU.out⟩, hz.2.drew⟩)
            | (have hz := OwG.ans (x1 := .slice (some x1) n1 d1) (x2 := .slice (some g7) nu c7) (x3 := .slice (some x3) n3 d3) (S11.out.own HN1.out HNU.out HN3.out) S11.out.1 S11.out.2.2.2.2.2.1 hwb hws
               obtain ⟨⟨z0, z1, z2⟩, -⟩ := three_all ((three_set S11.out.1.2.2 (.slice (some x1) n1 d1) (.slice (some g7) nu c7) (.slice (some x3) n3 d3)).alloc (.cells #[.int .i64 50, .int .i64 pt, .int .i64 da, .int .i64 dp, .int .i64 sq, .int .i64 ak, .string d] 33))
               refine bodyPost_ret (v := .tuple #[.agg #[.slice (some x1) n1 d1, .slice (some g7) nu c7, .slice (some x3) n3 d3], .slice (some ⟨W10.heap.size, 0, none⟩) 1 1]) (by simp [results, Tryz.results114, go_sem, z0, z1, z2]) rfl ?_
               exact ⟨_, _, _, rfl, (hz.1.later ((Below.refl _ _).alloc (Nat.le_refl _) _)).later (Below.refl _ _).drew, ⟨⟨hs.1, by show us.length ≤ _; have := mapB_le HMU.out; omega, hs.2.2.1, hs.2.2.2⟩, hM.1, hM.2.1, hM.2.2.1, mapWf HMU.out⟩, (hz.2.alloc hz.2.size _).drew⟩)
            | (trace_state; fail)

end Go.Proofs.YtgfkiljkpkfapaaGreatDoor

/- A box that is being drawn: where it stands, and what stays. No condition. -/
namespace Go.Proofs.YtgfkiljkpkfapaaGreatDoor
open Go.RowKit Go.Sort

/-- A box in the call's own memory; its rules may be an empty list at any address. -/
def OwH (w : World) (B : Nat) (v : Value) (b : Bx) : Prop := ∃ a1 c1 a2 c2 a3 c3, v = .agg #[.slice a1 b.rs.length c1, .slice a2 b.es.length c2, .slice a3 b.cs.length c3] ∧
  FrRl w B (.slice a1 b.rs.length c1) b.rs ∧ OwnTab w B (.slice a2 b.es.length c2) b.es ∧ OwnCn w B (.slice a3 b.cs.length c3) b.cs
theorem OwG.toH {w : World} {B : Nat} {v : Value} {b : Bx} (h : OwG w B v b) : OwH w B v b := by
  obtain ⟨a1, c1, a2, c2, a3, c3, rfl, h1, h2, h3⟩ := h
  exact ⟨_, _, _, _, _, _, rfl, FrL.own h1, h2, h3⟩
theorem OwH.gen {w : World} {B : Nat} {v : Value} {b : Bx} (h : OwH w B v b) : GBx w B v b := by
  obtain ⟨a1, c1, a2, c2, a3, c3, rfl, h1, h2, h3⟩ := h
  exact ⟨_, _, _, _, _, _, rfl, FrRl.rd h1, h2, OwnCn.rd h3⟩
theorem OwH.later {w w' : World} {B : Nat} {v : Value} {b : Bx} (h : OwH w B v b) (hb : Below w.heap.size w w') : OwH w' B v b := by
  obtain ⟨a1, c1, a2, c2, a3, c3, rfl, h1, h2, h3⟩ := h
  exact ⟨a1, c1, a2, c2, a3, c3, rfl, FrL.later h1 hb, own_later h2 hb, own_later h3 hb⟩
theorem OwH.mono {w : World} {B B' : Nat} {v : Value} {b : Bx} (h : OwH w B v b) (hB : B' ≤ B) : OwH w B' v b := by
  obtain ⟨a1, c1, a2, c2, a3, c3, rfl, h1, h2, h3⟩ := h
  exact ⟨a1, c1, a2, c2, a3, c3, rfl, FrL.base h1 hB, own_monoG h2 hB, own_monoG h3 hB⟩
theorem OwH.grown {w w' : World} {B R : Nat} {v : Value} {b : Bx} (h : OwH w B v b) (hg : w.grownBy w' (some R)) (hR : R < B) : OwH w' B v b := by
  obtain ⟨a1, c1, a2, c2, a3, c3, rfl, h1, h2, h3⟩ := h
  exact ⟨a1, c1, a2, c2, a3, c3, rfl, h1.elim Or.inl (fun h => Or.inr (own_grownR h hg hR)), own_grownR h2 hg hR, own_grownR h3 hg hR⟩
/-- Not large, its texts smaller still. -/
def bxSm (b : Bx) : Prop := bxSz b ∧ bxIn6 b
/-- How things stand while a box is drawn: the result's box, the box, the reader. -/
def BS (B R s b3 L : Nat) (w0 w : World) (t2 : List Value) (x1 x2 x3 : Value) (b : Bx) : Prop :=
  Blk w s 29 t2 ∧ Blk w b3 29 [x1, x2, x3] ∧ OwH w (s + 1) (.agg #[x1, x2, x3]) b ∧ bxSm b ∧ w0.grownBy w (some R) ∧ Rd B R L w
theorem BS.grown {B R s b3 L L' : Nat} {w0 w w' : World} {t2 : List Value} {x1 x2 x3 : Value} {b : Bx} (h : BS B R s b3 L w0 w t2 x1 x2 x3 b) (hg : w.grownBy w' (some R)) (hr : Rd B R L' w') (hRs : R < s) (hsb : s < b3) : BS B R s b3 L' w0 w' t2 x1 x2 x3 b :=
  ⟨h.1.grown hg (by omega), h.2.1.grown hg (by omega), h.2.2.1.grown hg (by omega), h.2.2.2.1, h.2.2.2.2.1.trans hg, hr⟩
theorem BS.alloc {B R s b3 L : Nat} {w0 w : World} {t2 : List Value} {x1 x2 x3 : Value} {b : Bx} (h : BS B R s b3 L w0 w t2 x1 x2 x3 b) (o : Obj) : BS B R s b3 L w0 (w.alloc o) t2 x1 x2 x3 b :=
  ⟨h.1.alloc o, h.2.1.alloc o, h.2.2.1.later ((Below.refl _ _).alloc (Nat.le_refl _) _), h.2.2.2.1, grown_alloc h.2.2.2.2.1 o, rd_alloc h.2.2.2.2.2 o⟩
theorem BS.below {B R s b3 L : Nat} {w0 w w' : World} {t2 : List Value} {x1 x2 x3 : Value} {b : Bx} (h : BS B R s b3 L w0 w t2 x1 x2 x3 b) (hb : Below w.heap.size w w') (hRs : R < s) (hsb : s < b3) : BS B R s b3 L w0 w' t2 x1 x2 x3 b :=
  h.grown (grown_ofR hb) (rd_below h.2.2.2.2.2 hb (Nat.le_refl _)) hRs hsb

end Go.Proofs.YtgfkiljkpkfapaaGreatDoor
