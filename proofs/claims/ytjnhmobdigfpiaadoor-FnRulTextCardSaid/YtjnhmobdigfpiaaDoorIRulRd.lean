/- readRule and RulRead of the program. Conditions: the text has at most 2^21 bytes; the variables that are read hold what they are laid with. -/
import Derived.Test.YtjnhmobdigfpiaaDoorRdT
import Derived.Test.YtjnhmobdigfpiaaDoorIBounds
namespace Go.Proofs.YtjnhmobdigfpiaaDoor
open Go.RowKit Go.Sort

theorem cutR_parts (s : ByteArray) (hs : s.size ≤ 2097152) : ∃ (X Y : ByteArray) (f : Bool), X.data.toList = (Lib.cut s.data.toList [32]).1 ∧ Y.data.toList = (Lib.cut s.data.toList [32]).2.1 ∧ X.size ≤ 2097152 ∧ Y.size ≤ 2097152 ∧
    ∀ w, Calls Tryd.prog 63 #[.string s, .string ⟨#[32]⟩] w fun e w' => e = .returned (.tuple #[.string X, .string Y, .bool f]) ∧ Below w.heap.size w w' := by
  have h1 : (Lib.cut s.data.toList [32]).1.length ≤ s.size := by
    unfold Lib.cut; split
    · simp; omega
    · simp
  have h2 : (Lib.cut s.data.toList [32]).2.1.length ≤ s.size := by
    unfold Lib.cut; split
    · simp
    · simp
  refine ⟨⟨(Lib.cut s.data.toList [32]).1.toArray⟩, ⟨(Lib.cut s.data.toList [32]).2.1.toArray⟩, (Lib.cut s.data.toList [32]).2.2, by simp, by simp, by simp [ByteArray.size]; omega, by simp [ByteArray.size]; omega, fun w => (cut_any s w (by omega)).mono ?_⟩
  rintro e w' ⟨rfl, n, rfl⟩
  exact ⟨rfl, Joins.below_draws _ _ _⟩

theorem blk_zero7 (w : World) (t : TypeId) : Blk (w.alloc (.cells #[.bool false, .int .i64 0, .int .i64 0, .int .i64 0, .int .i64 0, .int .i64 0, .int .i64 0] t)) w.heap.size t [.bool false, .int .i64 0, .int .i64 0, .int .i64 0, .int .i64 0, .int .i64 0, .int .i64 0] := blk_new w [.bool false, .int .i64 0, .int .i64 0, .int .i64 0, .int .i64 0, .int .i64 0, .int .i64 0] t
theorem blk_seven {w : World} {g : Nat} {t : TypeId} {l : List Value} (h : Blk w g t l) (hl : l.length = 7) (u0 u1 u2 u3 u4 u5 u6 : Value) : Blk (((((((w.setCell ⟨g, 0, none⟩ u0).setCell ⟨g, 1, none⟩ u1).setCell ⟨g, 2, none⟩ u2).setCell ⟨g, 3, none⟩ u3).setCell ⟨g, 4, none⟩ u4).setCell ⟨g, 5, none⟩ u5).setCell ⟨g, 6, none⟩ u6) g t [u0, u1, u2, u3, u4, u5, u6] := by
  match l, hl with
  | [y0, y1, y2, y3, y4, y5, y6], _ => exact ((((((h.set 0 u0).set 1 u1).set 2 u2).set 3 u3).set 4 u4).set 5 u5).set 6 u6

/-- What readRule answers. -/
def RulPost : Option Rl → Ending → Prop
  | some r, e => e = .returned (.tuple #[.agg #[.bool r.al, .int .i64 r.i, .int .i64 r.it, .int .i64 r.o, .int .i64 r.ot, .int .i64 r.p, .int .i64 r.pt], .nilIface])
  | none, e => ∃ t p, e = .returned (.tuple #[.agg #[.bool false, .int .i64 0, .int .i64 0, .int .i64 0, .int .i64 0, .int .i64 0, .int .i64 0], .iface t p])

set_option maxRecDepth 100000 in
set_option maxHeartbeats 3200000 in
theorem readRule_head (s : ByteArray) (w : World) (hs : s.size ≤ 2097152) (h : headB (Lib.cut s.data.toList [32]).1 = false) (hv : VarsR w) :
    Calls Tryd.prog 41 #[.string s] w fun e w' => (∃ t p, e = .returned (.tuple #[.agg #[.bool false, .int .i64 0, .int .i64 0, .int .i64 0, .int .i64 0, .int .i64 0, .int .i64 0], .iface t p])) ∧ Below w.heap.size w w' := by
  obtain ⟨t, p, hn⟩ := hv.noRule
  have hlt := World.block_lt_of_cell? w _ hn
  obtain ⟨X, Y, f, hX, hY, sX, sY, hc⟩ := cutR_parts s hs
  have HC := Lib.hid hc
  rw [← hX] at h
  unfold headB at h
  simp only [Bool.or_eq_false_iff, decide_eq_false_iff_not] at h
  rw [← Lib.toList_data] at h
  have h1 : (X.toList == [97, 108, 108, 111, 119]) = false := by rw [beq_eq_false_iff_ne]; exact h.1
  have h2 : (X.toList == [100, 101, 110, 121]) = false := by rw [beq_eq_false_iff_ne]; exact h.2
  clear hc h hX hY
  have HN0 : Hid (Blk (w.alloc (.cells #[.bool false, .int .i64 0, .int .i64 0, .int .i64 0, .int .i64 0, .int .i64 0, .int .i64 0] 37)) w.heap.size 37 [.bool false, .int .i64 0, .int .i64 0, .int .i64 0, .int .i64 0, .int .i64 0, .int .i64 0]) := blk_zero7 w _
  go_enter Tryd.func41, Tryd.ntmps41
  go_wp2_with fail
  (go_at_call 63; refine (HC.out _).mono ?_; rintro e w1 ⟨rfl, b1⟩; have hk := HN0.out.below b1; have B1 : Hid (Below w.heap.size w w1) := below_box b1; clear b1)
  have hn1 : w1.cell? ⟨3, 0, none⟩ = some (.iface t p) := (B1.out.cell hlt).trans hn
  clear hn
  have k0 := (hk.cell 0 _ rfl).1
  have r0 := (hk.cell 0 _ rfl).2
  have k1 := (hk.cell 1 _ rfl).1
  have r1 := (hk.cell 1 _ rfl).2
  have k2 := (hk.cell 2 _ rfl).1
  have r2 := (hk.cell 2 _ rfl).2
  have k3 := (hk.cell 3 _ rfl).1
  have r3 := (hk.cell 3 _ rfl).2
  have k4 := (hk.cell 4 _ rfl).1
  have r4 := (hk.cell 4 _ rfl).2
  have k5 := (hk.cell 5 _ rfl).1
  have r5 := (hk.cell 5 _ rfl).2
  have k6 := (hk.cell 6 _ rfl).1
  have r6 := (hk.cell 6 _ rfl).2
  go_wp2_with fail
  go_region
  all_goals
    go_wp2
    have hq := blk_seven hk rfl (.bool false) (.int .i64 0) (.int .i64 0) (.int .i64 0) (.int .i64 0) (.int .i64 0) (.int .i64 0)
    have q0 := (hq.cell 0 _ rfl).1
    have q1 := (hq.cell 1 _ rfl).1
    have q2 := (hq.cell 2 _ rfl).1
    have q3 := (hq.cell 3 _ rfl).1
    have q4 := (hq.cell 4 _ rfl).1
    have q5 := (hq.cell 5 _ rfl).1
    have q6 := (hq.cell 6 _ rfl).1
    refine bodyPost_ret (v := .tuple #[.agg #[.bool false, .int .i64 0, .int .i64 0, .int .i64 0, .int .i64 0, .int .i64 0, .int .i64 0], .iface t p]) (by simp [results, Tryd.results41, go_sem, q0, q1, q2, q3, q4, q5, q6]) rfl ⟨⟨t, p, rfl⟩, ?_⟩
    repeat (first
      | with_reducible exact B1.out
      | with_reducible refine bR_dr ?_
      | with_reducible refine bR_7 ?_ (Nat.le_refl _) _ _ _ _ _ _ _)

set_option maxRecDepth 100000 in
set_option maxHeartbeats 3200000 in
theorem readRule_tail (al : Bool) (l : List UInt8) (s Y : ByteArray) (fb : Bool) (w : World) (hv : VarsR w)
    (hc : ∀ w, Calls Tryd.prog 63 #[.string s, .string ⟨#[32]⟩] w fun e w' => e = .returned (.tuple #[.string ⟨(wordR al).toArray⟩, .string Y, .bool fb]) ∧ Below w.heap.size w w')
    (hbd : ∀ w, VarsR w → Calls Tryd.prog 64 #[.string Y] w fun e w' => ((∃ a b c d ee f : Int, (rdT l = if ruleB ⟨al, a, b, c, d, ee, f⟩ = true then some ⟨al, a, b, c, d, ee, f⟩ else none) ∧ e = .returned (.tuple #[.agg #[.int .i64 a, .int .i64 b, .int .i64 c, .int .i64 d, .int .i64 ee, .int .i64 f], .nilIface])) ∨ (rdT l = none ∧ ∃ t p, e = .returned (.tuple #[.agg #[.int .i64 0, .int .i64 0, .int .i64 0, .int .i64 0, .int .i64 0, .int .i64 0], .iface t p]))) ∧ Below w.heap.size w w') :
    Calls Tryd.prog 41 #[.string s] w fun e w' => RulPost (rdT l) e ∧ Below w.heap.size w w' := by
  obtain ⟨t, p, hn⟩ := hv.noRule
  have hlt := World.block_lt_of_cell? w _ hn
  have HC := Lib.hid hc
  have HBd := Lib.hid hbd
  have HV := Lib.hid hv
  obtain ⟨o, ho⟩ : ∃ o, o = rdT l := ⟨_, rfl⟩
  rw [← ho] at HBd ⊢
  clear hc hbd hv ho
  have HN0 : Hid (Blk (w.alloc (.cells #[.bool false, .int .i64 0, .int .i64 0, .int .i64 0, .int .i64 0, .int .i64 0, .int .i64 0] 37)) w.heap.size 37 [.bool false, .int .i64 0, .int .i64 0, .int .i64 0, .int .i64 0, .int .i64 0, .int .i64 0]) := blk_zero7 w _
  cases al
  · simp only [wordR, if_false, Bool.false_eq_true] at HC
    go_enter Tryd.func41, Tryd.ntmps41
    go_wp2_with fail
    (go_at_call 63; refine (HC.out _).mono ?_; rintro e w1 ⟨rfl, b1⟩; have HK1 : Hid (Blk w1 w.heap.size 37 [.bool false, .int .i64 0, .int .i64 0, .int .i64 0, .int .i64 0, .int .i64 0, .int .i64 0]) := HN0.out.below b1; have B1 : Hid (Below w.heap.size w w1) := below_box b1; clear b1)
    go_wp2_with fail
    (go_at_call 64; refine (HBd.out _ (HV.out.below B1.out)).mono ?_; rintro e w2 ⟨he, b2⟩; have HK2 : Hid (Blk w2 w.heap.size 37 [.bool false, .int .i64 0, .int .i64 0, .int .i64 0, .int .i64 0, .int .i64 0, .int .i64 0]) := HK1.out.below b2; have B2 : Hid (Below w.heap.size w w2) := B1.out.trans (b2.mono B1.out.size); clear b2)
    have hn2 : w2.cell? ⟨3, 0, none⟩ = some (.iface t p) := (B2.out.cell hlt).trans hn
    rcases he with ⟨a, b, c, d, ee, f, hro, rfl⟩ | ⟨hro, t2, p2, rfl⟩
    · have HM : Hid (∀ w, Calls Tryd.prog 22 #[.agg #[.bool false, .int .i64 a, .int .i64 b, .int .i64 c, .int .i64 d, .int .i64 ee, .int .i64 f]] w fun e w' => e = .returned (.bool (ruleB ⟨false, a, b, c, d, ee, f⟩)) ∧ Below w.heap.size w w') := fun w => implRulOk_any false a b c d ee f w
      obtain ⟨q, hq0⟩ : ∃ q, q = ruleB ⟨false, a, b, c, d, ee, f⟩ := ⟨_, rfl⟩
      rw [← hq0] at HM hro
      clear hq0 HBd
      have zw2 : w.heap.size < w2.heap.size := HK2.out.lt
      have HBx : ∀ x y, Below w2.heap.size w2 ((w2.alloc x).alloc y) := fun x y => ((Below.refl _ _).alloc (Nat.le_refl _) _).alloc (by simp) _
      have HRb : Hid (Box7 ((w2.alloc (.cells #[.int .i64 a, .int .i64 b, .int .i64 c, .int .i64 d, .int .i64 ee, .int .i64 f] 47)).alloc (.cells #[.bool false, .int .i64 a, .int .i64 b, .int .i64 c, .int .i64 d, .int .i64 ee, .int .i64 f] 37)) (w2.heap.size + 1) (.bool false) (.int .i64 a) (.int .i64 b) (.int .i64 c) (.int .i64 d) (.int .i64 ee) (.int .i64 f)) := by
        have := box7_new (w2.alloc (.cells #[.int .i64 a, .int .i64 b, .int .i64 c, .int .i64 d, .int .i64 ee, .int .i64 f] 47)) (.bool false) (.int .i64 a) (.int .i64 b) (.int .i64 c) (.int .i64 d) (.int .i64 ee) (.int .i64 f) 37
        rw [show (w2.alloc (.cells #[.int .i64 a, .int .i64 b, .int .i64 c, .int .i64 d, .int .i64 ee, .int .i64 f] 47)).heap.size = w2.heap.size + 1 by simp] at this
        exact this
      cases q
      · have hro2 : o = none := hro
        subst hro2
        have HBB := Lib.hid HBx
        clear hro HBx
        go_wp2_with fail
        (go_at_call 22; refine (HM.out _).mono ?_; rintro e w4 ⟨rfl, b4⟩; have B24 : Below w2.heap.size w2 w4 := (HBB.out _ _).trans (b4.mono (by simp; omega)); have HK4 : Hid (Blk w4 w.heap.size 37 [.bool false, .int .i64 0, .int .i64 0, .int .i64 0, .int .i64 0, .int .i64 0, .int .i64 0]) := HK2.out.below B24; have B4 : Hid (Below w.heap.size w w4) := B2.out.trans (B24.mono (by omega)); clear b4 B24)
        have hn4 : w4.cell? ⟨3, 0, none⟩ = some (.iface t p) := (B4.out.cell hlt).trans hn
        have k0 := (HK4.out.cell 0 _ rfl).1
        have r0 := (HK4.out.cell 0 _ rfl).2
        have k1 := (HK4.out.cell 1 _ rfl).1
        have r1 := (HK4.out.cell 1 _ rfl).2
        have k2 := (HK4.out.cell 2 _ rfl).1
        have r2 := (HK4.out.cell 2 _ rfl).2
        have k3 := (HK4.out.cell 3 _ rfl).1
        have r3 := (HK4.out.cell 3 _ rfl).2
        have k4 := (HK4.out.cell 4 _ rfl).1
        have r4 := (HK4.out.cell 4 _ rfl).2
        have k5 := (HK4.out.cell 5 _ rfl).1
        have r5 := (HK4.out.cell 5 _ rfl).2
        have k6 := (HK4.out.cell 6 _ rfl).1
        have r6 := (HK4.out.cell 6 _ rfl).2
        clear hn hn2
        go_wp2_with fail
        go_region
        all_goals
          go_wp2
          have hq := blk_seven HK4.out rfl (.bool false) (.int .i64 0) (.int .i64 0) (.int .i64 0) (.int .i64 0) (.int .i64 0) (.int .i64 0)
          have q0 := (hq.cell 0 _ rfl).1
          have q1 := (hq.cell 1 _ rfl).1
          have q2 := (hq.cell 2 _ rfl).1
          have q3 := (hq.cell 3 _ rfl).1
          have q4 := (hq.cell 4 _ rfl).1
          have q5 := (hq.cell 5 _ rfl).1
          have q6 := (hq.cell 6 _ rfl).1
          refine bodyPost_ret (v := .tuple #[.agg #[.bool false, .int .i64 0, .int .i64 0, .int .i64 0, .int .i64 0, .int .i64 0, .int .i64 0], .iface t p]) (by simp [results, Tryd.results41, go_sem, q0, q1, q2, q3, q4, q5, q6]) rfl ⟨⟨t, p, rfl⟩, ?_⟩
          repeat (first
            | with_reducible exact B4.out
            | with_reducible refine bR_dr ?_
            | with_reducible refine bR_7 ?_ (Nat.le_refl _) _ _ _ _ _ _ _)
      · have hro2 : o = some ⟨false, a, b, c, d, ee, f⟩ := hro
        subst hro2
        have HBB := Lib.hid HBx
        clear hro HBx
        go_wp2_with fail
        (go_at_call 22; refine (HM.out _).mono ?_; rintro e w4 ⟨rfl, b4⟩; have B24 : Below w2.heap.size w2 w4 := (HBB.out _ _).trans (b4.mono (by simp; omega)); have HK4 : Hid (Blk w4 w.heap.size 37 [.bool false, .int .i64 0, .int .i64 0, .int .i64 0, .int .i64 0, .int .i64 0, .int .i64 0]) := HK2.out.below B24; have B4 : Hid (Below w.heap.size w w4) := B2.out.trans (B24.mono (by omega)); obtain ⟨y0, y1, y2, y3, y4, y5, y6⟩ := HRb.out.below b4 (by simp); clear b4 B24)
        have k0 := (HK4.out.cell 0 _ rfl).1
        have r0 := (HK4.out.cell 0 _ rfl).2
        have k1 := (HK4.out.cell 1 _ rfl).1
        have r1 := (HK4.out.cell 1 _ rfl).2
        have k2 := (HK4.out.cell 2 _ rfl).1
        have r2 := (HK4.out.cell 2 _ rfl).2
        have k3 := (HK4.out.cell 3 _ rfl).1
        have r3 := (HK4.out.cell 3 _ rfl).2
        have k4 := (HK4.out.cell 4 _ rfl).1
        have r4 := (HK4.out.cell 4 _ rfl).2
        have k5 := (HK4.out.cell 5 _ rfl).1
        have r5 := (HK4.out.cell 5 _ rfl).2
        have k6 := (HK4.out.cell 6 _ rfl).1
        have r6 := (HK4.out.cell 6 _ rfl).2
        clear hn hn2
        go_wp2_with fail
        have hq := blk_seven HK4.out rfl (.bool false) (.int .i64 a) (.int .i64 b) (.int .i64 c) (.int .i64 d) (.int .i64 ee) (.int .i64 f)
        have q0 := (hq.cell 0 _ rfl).1
        have q1 := (hq.cell 1 _ rfl).1
        have q2 := (hq.cell 2 _ rfl).1
        have q3 := (hq.cell 3 _ rfl).1
        have q4 := (hq.cell 4 _ rfl).1
        have q5 := (hq.cell 5 _ rfl).1
        have q6 := (hq.cell 6 _ rfl).1
        refine bodyPost_ret (v := .tuple #[.agg #[.bool false, .int .i64 a, .int .i64 b, .int .i64 c, .int .i64 d, .int .i64 ee, .int .i64 f], .nilIface]) (by simp [results, Tryd.results41, go_sem, q0, q1, q2, q3, q4, q5, q6]) rfl ⟨rfl, ?_⟩
        repeat (first
          | with_reducible exact B4.out
          | with_reducible refine bR_dr ?_
          | with_reducible refine bR_7 ?_ (Nat.le_refl _) _ _ _ _ _ _ _)
    · subst hro
      have HKA : ∀ x, Blk (w2.alloc x) w.heap.size 37 [.bool false, .int .i64 0, .int .i64 0, .int .i64 0, .int .i64 0, .int .i64 0, .int .i64 0] := fun x => HK2.out.below ((Below.refl _ _).alloc (Nat.le_refl _) _)
      have k0 := (HK2.out.cell 0 _ rfl).1
      have r0 := (HK2.out.cell 0 _ rfl).2
      have k1 := (HK2.out.cell 1 _ rfl).1
      have r1 := (HK2.out.cell 1 _ rfl).2
      have k2 := (HK2.out.cell 2 _ rfl).1
      have r2 := (HK2.out.cell 2 _ rfl).2
      have k3 := (HK2.out.cell 3 _ rfl).1
      have r3 := (HK2.out.cell 3 _ rfl).2
      have k4 := (HK2.out.cell 4 _ rfl).1
      have r4 := (HK2.out.cell 4 _ rfl).2
      have k5 := (HK2.out.cell 5 _ rfl).1
      have r5 := (HK2.out.cell 5 _ rfl).2
      have k6 := (HK2.out.cell 6 _ rfl).1
      have r6 := (HK2.out.cell 6 _ rfl).2
      have HKH := Lib.hid HKA
      have zw2 : w.heap.size < w2.heap.size := HK2.out.lt
      have hne : ¬ w.heap.size = w2.heap.size := by omega
      clear HKA HBd
      go_wp2_with fail
      have hq := (blk_seven HK2.out rfl (.bool false) (.int .i64 0) (.int .i64 0) (.int .i64 0) (.int .i64 0) (.int .i64 0) (.int .i64 0)).below ((Below.refl _ _).alloc (Nat.le_refl _) (.cells #[.int .i64 0, .int .i64 0, .int .i64 0, .int .i64 0, .int .i64 0, .int .i64 0] 47))
      have q0 := (hq.cell 0 _ rfl).1
      have q1 := (hq.cell 1 _ rfl).1
      have q2 := (hq.cell 2 _ rfl).1
      have q3 := (hq.cell 3 _ rfl).1
      have q4 := (hq.cell 4 _ rfl).1
      have q5 := (hq.cell 5 _ rfl).1
      have q6 := (hq.cell 6 _ rfl).1
      refine bodyPost_ret (v := .tuple #[.agg #[.bool false, .int .i64 0, .int .i64 0, .int .i64 0, .int .i64 0, .int .i64 0, .int .i64 0], .iface t2 p2]) (by simp [results, Tryd.results41, go_sem, q0, q1, q2, q3, q4, q5, q6]) rfl ⟨⟨t2, p2, rfl⟩, ?_⟩
      exact (bR_7 B2.out (Nat.le_refl _) _ _ _ _ _ _ _).alloc (by simp; omega) _
  · simp only [wordR, if_true] at HC
    go_enter Tryd.func41, Tryd.ntmps41
    go_wp2_with fail
    (go_at_call 63; refine (HC.out _).mono ?_; rintro e w1 ⟨rfl, b1⟩; have HK1 : Hid (Blk w1 w.heap.size 37 [.bool false, .int .i64 0, .int .i64 0, .int .i64 0, .int .i64 0, .int .i64 0, .int .i64 0]) := HN0.out.below b1; have B1 : Hid (Below w.heap.size w w1) := below_box b1; clear b1)
    go_wp2_with fail
    (go_at_call 64; refine (HBd.out _ (HV.out.below B1.out)).mono ?_; rintro e w2 ⟨he, b2⟩; have HK2 : Hid (Blk w2 w.heap.size 37 [.bool false, .int .i64 0, .int .i64 0, .int .i64 0, .int .i64 0, .int .i64 0, .int .i64 0]) := HK1.out.below b2; have B2 : Hid (Below w.heap.size w w2) := B1.out.trans (b2.mono B1.out.size); clear b2)
    have hn2 : w2.cell? ⟨3, 0, none⟩ = some (.iface t p) := (B2.out.cell hlt).trans hn
    rcases he with ⟨a, b, c, d, ee, f, hro, rfl⟩ | ⟨hro, t2, p2, rfl⟩
    · have HM : Hid (∀ w, Calls Tryd.prog 22 #[.agg #[.bool true, .int .i64 a, .int .i64 b, .int .i64 c, .int .i64 d, .int .i64 ee, .int .i64 f]] w fun e w' => e = .returned (.bool (ruleB ⟨true, a, b, c, d, ee, f⟩)) ∧ Below w.heap.size w w') := fun w => implRulOk_any true a b c d ee f w
      obtain ⟨q, hq0⟩ : ∃ q, q = ruleB ⟨true, a, b, c, d, ee, f⟩ := ⟨_, rfl⟩
      rw [← hq0] at HM hro
      clear hq0 HBd
      have zw2 : w.heap.size < w2.heap.size := HK2.out.lt
      have HBx : ∀ x y, Below w2.heap.size w2 ((w2.alloc x).alloc y) := fun x y => ((Below.refl _ _).alloc (Nat.le_refl _) _).alloc (by simp) _
      have HRb : Hid (Box7 ((w2.alloc (.cells #[.int .i64 a, .int .i64 b, .int .i64 c, .int .i64 d, .int .i64 ee, .int .i64 f] 47)).alloc (.cells #[.bool true, .int .i64 a, .int .i64 b, .int .i64 c, .int .i64 d, .int .i64 ee, .int .i64 f] 37)) (w2.heap.size + 1) (.bool true) (.int .i64 a) (.int .i64 b) (.int .i64 c) (.int .i64 d) (.int .i64 ee) (.int .i64 f)) := by
        have := box7_new (w2.alloc (.cells #[.int .i64 a, .int .i64 b, .int .i64 c, .int .i64 d, .int .i64 ee, .int .i64 f] 47)) (.bool true) (.int .i64 a) (.int .i64 b) (.int .i64 c) (.int .i64 d) (.int .i64 ee) (.int .i64 f) 37
        rw [show (w2.alloc (.cells #[.int .i64 a, .int .i64 b, .int .i64 c, .int .i64 d, .int .i64 ee, .int .i64 f] 47)).heap.size = w2.heap.size + 1 by simp] at this
        exact this
      cases q
      · have hro2 : o = none := hro
        subst hro2
        have HBB := Lib.hid HBx
        clear hro HBx
        go_wp2_with fail
        (go_at_call 22; refine (HM.out _).mono ?_; rintro e w4 ⟨rfl, b4⟩; have B24 : Below w2.heap.size w2 w4 := (HBB.out _ _).trans (b4.mono (by simp; omega)); have HK4 : Hid (Blk w4 w.heap.size 37 [.bool false, .int .i64 0, .int .i64 0, .int .i64 0, .int .i64 0, .int .i64 0, .int .i64 0]) := HK2.out.below B24; have B4 : Hid (Below w.heap.size w w4) := B2.out.trans (B24.mono (by omega)); clear b4 B24)
        have hn4 : w4.cell? ⟨3, 0, none⟩ = some (.iface t p) := (B4.out.cell hlt).trans hn
        have k0 := (HK4.out.cell 0 _ rfl).1
        have r0 := (HK4.out.cell 0 _ rfl).2
        have k1 := (HK4.out.cell 1 _ rfl).1
        have r1 := (HK4.out.cell 1 _ rfl).2
        have k2 := (HK4.out.cell 2 _ rfl).1
        have r2 := (HK4.out.cell 2 _ rfl).2
        have k3 := (HK4.out.cell 3 _ rfl).1
        have r3 := (HK4.out.cell 3 _ rfl).2
        have k4 := (HK4.out.cell 4 _ rfl).1
        have r4 := (HK4.out.cell 4 _ rfl).2
        have k5 := (HK4.out.cell 5 _ rfl).1
        have r5 := (HK4.out.cell 5 _ rfl).2
        have k6 := (HK4.out.cell 6 _ rfl).1
        have r6 := (HK4.out.cell 6 _ rfl).2
        clear hn hn2
        go_wp2_with fail
        go_region
        all_goals
          go_wp2
          have hq := blk_seven HK4.out rfl (.bool false) (.int .i64 0) (.int .i64 0) (.int .i64 0) (.int .i64 0) (.int .i64 0) (.int .i64 0)
          have q0 := (hq.cell 0 _ rfl).1
          have q1 := (hq.cell 1 _ rfl).1
          have q2 := (hq.cell 2 _ rfl).1
          have q3 := (hq.cell 3 _ rfl).1
          have q4 := (hq.cell 4 _ rfl).1
          have q5 := (hq.cell 5 _ rfl).1
          have q6 := (hq.cell 6 _ rfl).1
          refine bodyPost_ret (v := .tuple #[.agg #[.bool false, .int .i64 0, .int .i64 0, .int .i64 0, .int .i64 0, .int .i64 0, .int .i64 0], .iface t p]) (by simp [results, Tryd.results41, go_sem, q0, q1, q2, q3, q4, q5, q6]) rfl ⟨⟨t, p, rfl⟩, ?_⟩
          repeat (first
            | with_reducible exact B4.out
            | with_reducible refine bR_dr ?_
            | with_reducible refine bR_7 ?_ (Nat.le_refl _) _ _ _ _ _ _ _)
      · have hro2 : o = some ⟨true, a, b, c, d, ee, f⟩ := hro
        subst hro2
        have HBB := Lib.hid HBx
        clear hro HBx
        go_wp2_with fail
        (go_at_call 22; refine (HM.out _).mono ?_; rintro e w4 ⟨rfl, b4⟩; have B24 : Below w2.heap.size w2 w4 := (HBB.out _ _).trans (b4.mono (by simp; omega)); have HK4 : Hid (Blk w4 w.heap.size 37 [.bool false, .int .i64 0, .int .i64 0, .int .i64 0, .int .i64 0, .int .i64 0, .int .i64 0]) := HK2.out.below B24; have B4 : Hid (Below w.heap.size w w4) := B2.out.trans (B24.mono (by omega)); obtain ⟨y0, y1, y2, y3, y4, y5, y6⟩ := HRb.out.below b4 (by simp); clear b4 B24)
        have k0 := (HK4.out.cell 0 _ rfl).1
        have r0 := (HK4.out.cell 0 _ rfl).2
        have k1 := (HK4.out.cell 1 _ rfl).1
        have r1 := (HK4.out.cell 1 _ rfl).2
        have k2 := (HK4.out.cell 2 _ rfl).1
        have r2 := (HK4.out.cell 2 _ rfl).2
        have k3 := (HK4.out.cell 3 _ rfl).1
        have r3 := (HK4.out.cell 3 _ rfl).2
        have k4 := (HK4.out.cell 4 _ rfl).1
        have r4 := (HK4.out.cell 4 _ rfl).2
        have k5 := (HK4.out.cell 5 _ rfl).1
        have r5 := (HK4.out.cell 5 _ rfl).2
        have k6 := (HK4.out.cell 6 _ rfl).1
        have r6 := (HK4.out.cell 6 _ rfl).2
        clear hn hn2
        go_wp2_with fail
        have hq := blk_seven HK4.out rfl (.bool true) (.int .i64 a) (.int .i64 b) (.int .i64 c) (.int .i64 d) (.int .i64 ee) (.int .i64 f)
        have q0 := (hq.cell 0 _ rfl).1
        have q1 := (hq.cell 1 _ rfl).1
        have q2 := (hq.cell 2 _ rfl).1
        have q3 := (hq.cell 3 _ rfl).1
        have q4 := (hq.cell 4 _ rfl).1
        have q5 := (hq.cell 5 _ rfl).1
        have q6 := (hq.cell 6 _ rfl).1
        refine bodyPost_ret (v := .tuple #[.agg #[.bool true, .int .i64 a, .int .i64 b, .int .i64 c, .int .i64 d, .int .i64 ee, .int .i64 f], .nilIface]) (by simp [results, Tryd.results41, go_sem, q0, q1, q2, q3, q4, q5, q6]) rfl ⟨rfl, ?_⟩
        repeat (first
          | with_reducible exact B4.out
          | with_reducible refine bR_dr ?_
          | with_reducible refine bR_7 ?_ (Nat.le_refl _) _ _ _ _ _ _ _)
    · subst hro
      have HKA : ∀ x, Blk (w2.alloc x) w.heap.size 37 [.bool false, .int .i64 0, .int .i64 0, .int .i64 0, .int .i64 0, .int .i64 0, .int .i64 0] := fun x => HK2.out.below ((Below.refl _ _).alloc (Nat.le_refl _) _)
      have k0 := (HK2.out.cell 0 _ rfl).1
      have r0 := (HK2.out.cell 0 _ rfl).2
      have k1 := (HK2.out.cell 1 _ rfl).1
      have r1 := (HK2.out.cell 1 _ rfl).2
      have k2 := (HK2.out.cell 2 _ rfl).1
      have r2 := (HK2.out.cell 2 _ rfl).2
      have k3 := (HK2.out.cell 3 _ rfl).1
      have r3 := (HK2.out.cell 3 _ rfl).2
      have k4 := (HK2.out.cell 4 _ rfl).1
      have r4 := (HK2.out.cell 4 _ rfl).2
      have k5 := (HK2.out.cell 5 _ rfl).1
      have r5 := (HK2.out.cell 5 _ rfl).2
      have k6 := (HK2.out.cell 6 _ rfl).1
      have r6 := (HK2.out.cell 6 _ rfl).2
      have HKH := Lib.hid HKA
      have zw2 : w.heap.size < w2.heap.size := HK2.out.lt
      have hne : ¬ w.heap.size = w2.heap.size := by omega
      clear HKA HBd
      go_wp2_with fail
      have hq := (blk_seven HK2.out rfl (.bool false) (.int .i64 0) (.int .i64 0) (.int .i64 0) (.int .i64 0) (.int .i64 0) (.int .i64 0)).below ((Below.refl _ _).alloc (Nat.le_refl _) (.cells #[.int .i64 0, .int .i64 0, .int .i64 0, .int .i64 0, .int .i64 0, .int .i64 0] 47))
      have q0 := (hq.cell 0 _ rfl).1
      have q1 := (hq.cell 1 _ rfl).1
      have q2 := (hq.cell 2 _ rfl).1
      have q3 := (hq.cell 3 _ rfl).1
      have q4 := (hq.cell 4 _ rfl).1
      have q5 := (hq.cell 5 _ rfl).1
      have q6 := (hq.cell 6 _ rfl).1
      refine bodyPost_ret (v := .tuple #[.agg #[.bool false, .int .i64 0, .int .i64 0, .int .i64 0, .int .i64 0, .int .i64 0, .int .i64 0], .iface t2 p2]) (by simp [results, Tryd.results41, go_sem, q0, q1, q2, q3, q4, q5, q6]) rfl ⟨⟨t2, p2, rfl⟩, ?_⟩
      exact (bR_7 B2.out (Nat.le_refl _) _ _ _ _ _ _ _).alloc (by simp; omega) _

end Go.Proofs.YtjnhmobdigfpiaaDoor
