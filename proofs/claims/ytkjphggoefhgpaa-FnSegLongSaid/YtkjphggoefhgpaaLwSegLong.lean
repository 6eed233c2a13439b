/- The law that bytes are as many as they must be, and that unlike segments have unlike bytes: at every two codes. Condition: the codes lie in memory. -/
import Derived.Test.YtkjphggoefhgpaaDrawSegBytes
import Derived.Test.YtkjphggoefhgpaaHaBytes
import Derived.Test.YtkjphggoefhgpaaHaOk
import Derived.Test.YtkjphggoefhgpaaSegBy
import Derived.Deep.RegionHeld3
import Derived.Deep.RegionLaw
import Derived.IntWalk
import Derived.Deep.DeepCutAuto
import Derived.Lib.SmallJoins
namespace Go.Proofs.Ytkjphggoefhgpaa
open Go.RowKit

theorem segBytes_inj {a b : Sg} (ha : segOkB a = true) (hb : segOkB b = true) (h : segBytesL a = segBytesL b) : a = b := by
  unfold segBytesL at h
  rw [if_pos ha, if_pos hb] at h
  have h1 := readL_seg ha
  rw [h, readL_seg hb] at h1
  exact (Option.some.inj h1).symm
theorem segBytes_none {a : Sg} (ha : segOkB a = false) : segBytesL a = [] := by unfold segBytesL; rw [ha]; rfl
theorem segBytes_long {a : Sg} (ha : segOkB a = true) : (segBytesL a).length = 15 + a.data.length := by unfold segBytesL; rw [if_pos ha]; exact segL_len a
theorem eqSegs1 : Try.prog.stoodInHeld 29 = false := by kernel_rfl
theorem eqSegs2 : Try.prog.eqGuardType Try.prog.depth 29 = false := by kernel_rfl

theorem ite_seven {α : Type} {P1 P2 P3 P4 P5 P6 P7 : Prop} [Decidable P1] [Decidable P2] [Decidable P3] [Decidable P4] [Decidable P5] [Decidable P6] [Decidable P7] (h : ¬ (P1 ∧ P2 ∧ P3 ∧ P4 ∧ P5 ∧ P6 ∧ P7)) (x y : α) :
    (if P1 then if P2 then if P3 then if P4 then if P5 then if P6 then if P7 then x else y else y else y else y else y else y else y) = y := by
  repeat' split
  all_goals first | rfl | exact absurd ⟨‹_›, ‹_›, ‹_›, ‹_›, ‹_›, ‹_›, ‹_›⟩ h

/-- A call of SegBytes, as bytes that may be read. -/
theorem implBytes_rd (sa sp da dp sq ak : Int) (d : ByteArray) (l : List UInt8) (n : Nat) (hl : l = segBytesL ⟨sa, sp, da, dp, sq, ak, d.data.toList⟩) (hn : n = l.length) (hd : d.size ≤ 2097152) (w : World) :
    Calls Try.prog 18 #[.agg #[.int .i64 sa, .int .i64 sp, .int .i64 da, .int .i64 dp, .int .i64 sq, .int .i64 ak, .string d]] w fun e w' => ∃ ao cap, e = .returned (.slice ao n cap) ∧ RdB w' (.slice ao n cap) l ∧ Below w.heap.size w w' := by
  refine (implBytes_any sa sp da dp sq ak d w hd).mono ?_
  rintro e w' ⟨v, rfl, ho, hb⟩
  obtain ⟨a, cap, rfl⟩ := ho.form
  subst hl
  subst hn
  exact ⟨a, cap, rfl, ho.rd, hb⟩
theorem specBytes_rd (sa sp da dp sq ak : Int) (d : ByteArray) (l : List UInt8) (n : Nat) (hl : l = segBytesL ⟨sa, sp, da, dp, sq, ak, d.data.toList⟩) (hn : n = l.length) (hd : d.size ≤ 2097152) (w : World) :
    Calls Try.prog 20 #[.agg #[.int .i64 sa, .int .i64 sp, .int .i64 da, .int .i64 dp, .int .i64 sq, .int .i64 ak, .string d]] w fun e w' => ∃ ao cap, e = .returned (.slice ao n cap) ∧ RdB w' (.slice ao n cap) l ∧ Below w.heap.size w w' := by
  refine (specBytes_any sa sp da dp sq ak d w hd).mono ?_
  rintro e w' ⟨g, cap, rfl, ho, hb⟩
  subst hl
  subst hn
  exact ⟨_, cap, rfl, ho.rd, hb⟩

set_option maxRecDepth 100000 in
set_option maxHeartbeats 3200000 in
theorem lwSegLong_any (ao : Option Addr) (n cap : Nat) (ao2 : Option Addr) (n2 cap2 : Nat) (w : World) (h : BytesIn w ao n) (hn : n ≤ cap) (h2 : BytesIn w ao2 n2) (hn2 : n2 ≤ cap2) :
    Calls Try.prog 6 #[.slice ao n cap, .slice ao2 n2 cap2] w fun e w' => e = .returned (.bool true) ∧ Below w.heap.size w w' := by
  have H := Lib.hid h
  have H2 := Lib.hid h2
  clear h h2
  by_cases hl1 : 1048576 < n
  · go_enter Try.func6, Try.ntmps6
    go_wp2_with fail
    go_ret
    exact ⟨rfl, Below.refl _ _⟩
  by_cases hl2 : 1048576 < n2
  · go_enter Try.func6, Try.ntmps6
    go_wp2_with fail
    go_ret
    exact ⟨rfl, Below.refl _ _⟩
  go_enter Try.func6, Try.ntmps6
  go_wp2_with fail
  (go_at_call 17; refine (drawSegBytes_any ao n cap _ H.out hn).mono ?_; rintro e w1 ⟨sa, sp, da, dp, sq, ak, d, rfl, hD, b1⟩)
  have hd : d.size ≤ 2097152 := by have := hD.2.2; omega
  have A1 : Hid (At7 (w1.alloc (.cells #[.int .i64 sa, .int .i64 sp, .int .i64 da, .int .i64 dp, .int .i64 sq, .int .i64 ak, .string d] 29)) w1.heap.size (.int .i64 sa) (.int .i64 sp) (.int .i64 da) (.int .i64 dp) (.int .i64 sq) (.int .i64 ak) (.string d)) := at7_new w1 _ _ _ _ _ _ _ _
  have B1 : Hid (Below w.heap.size w (w1.alloc (.cells #[.int .i64 sa, .int .i64 sp, .int .i64 da, .int .i64 dp, .int .i64 sq, .int .i64 ak, .string d] 29))) := b1.alloc b1.size _
  obtain ⟨b0, hb0⟩ : ∃ b0, b0 = w1.heap.size := ⟨_, rfl⟩
  have hwb : w.heap.size ≤ b0 := by rw [hb0]; exact b1.size
  rw [← hb0] at A1
  obtain ⟨W1, hW1⟩ : ∃ W1, W1 = w1.alloc (.cells #[.int .i64 sa, .int .i64 sp, .int .i64 da, .int .i64 dp, .int .i64 sq, .int .i64 ak, .string d] 29) := ⟨_, rfl⟩
  rw [← hW1] at A1 B1
  go_wp2_with fail
  rw [← hb0, ← hW1]
  clear hW1 hb0 b1 hD
  (go_at_call 17; refine (drawSegBytes_any ao2 n2 cap2 _ (H2.out.below B1.out) hn2).mono ?_; rintro e w2 ⟨ua, up, ea, ep, uq, uk, u, rfl, hU, b2⟩)
  have hu : u.size ≤ 2097152 := by have := hU.2.2; omega
  have A2 : Hid (At7 (w2.alloc (.cells #[.int .i64 ua, .int .i64 up, .int .i64 ea, .int .i64 ep, .int .i64 uq, .int .i64 uk, .string u] 29)) b0 (.int .i64 sa) (.int .i64 sp) (.int .i64 da) (.int .i64 dp) (.int .i64 sq) (.int .i64 ak) (.string d)) := (A1.out.below b2).alloc _
  have U2 : Hid (At7 (w2.alloc (.cells #[.int .i64 ua, .int .i64 up, .int .i64 ea, .int .i64 ep, .int .i64 uq, .int .i64 uk, .string u] 29)) w2.heap.size (.int .i64 ua) (.int .i64 up) (.int .i64 ea) (.int .i64 ep) (.int .i64 uq) (.int .i64 uk) (.string u)) := at7_new w2 _ _ _ _ _ _ _ _
  have B2 : Hid (Below w.heap.size w (w2.alloc (.cells #[.int .i64 ua, .int .i64 up, .int .i64 ea, .int .i64 ep, .int .i64 uq, .int .i64 uk, .string u] 29))) := by
    have hx := B1.out.trans (b2.mono B1.out.size)
    exact hx.alloc hx.size _
  obtain ⟨b3, hb3⟩ : ∃ b3, b3 = w2.heap.size := ⟨_, rfl⟩
  rw [← hb3] at U2
  obtain ⟨W2, hW2⟩ : ∃ W2, W2 = w2.alloc (.cells #[.int .i64 ua, .int .i64 up, .int .i64 ea, .int .i64 ep, .int .i64 uq, .int .i64 uk, .string u] 29) := ⟨_, rfl⟩
  obtain ⟨uz, ⟨c0, c1, c2, c3, c4, c5, c6⟩, _⟩ := A2.out
  rw [← hW2] at A2 B2 U2
  obtain ⟨LA, hLA⟩ : ∃ LA, LA = segBytesL ⟨sa, sp, da, dp, sq, ak, d.data.toList⟩ := ⟨_, rfl⟩
  obtain ⟨LB, hLB⟩ : ∃ LB, LB = segBytesL ⟨ua, up, ea, ep, uq, uk, u.data.toList⟩ := ⟨_, rfl⟩
  obtain ⟨nA, hnA⟩ : ∃ nA, nA = LA.length := ⟨_, rfl⟩
  obtain ⟨nB, hnB⟩ : ∃ nB, nB = LB.length := ⟨_, rfl⟩
  have HIA : Hid (∀ w, Calls Try.prog 18 #[.agg #[.int .i64 sa, .int .i64 sp, .int .i64 da, .int .i64 dp, .int .i64 sq, .int .i64 ak, .string d]] w fun e w' => ∃ ao cap, e = .returned (.slice ao nA cap) ∧ RdB w' (.slice ao nA cap) LA ∧ Below w.heap.size w w') := fun w => implBytes_rd sa sp da dp sq ak d LA nA hLA hnA hd w
  have HSA : Hid (∀ w, Calls Try.prog 20 #[.agg #[.int .i64 sa, .int .i64 sp, .int .i64 da, .int .i64 dp, .int .i64 sq, .int .i64 ak, .string d]] w fun e w' => ∃ ao cap, e = .returned (.slice ao nA cap) ∧ RdB w' (.slice ao nA cap) LA ∧ Below w.heap.size w w') := fun w => specBytes_rd sa sp da dp sq ak d LA nA hLA hnA hd w
  have HIB : Hid (∀ w, Calls Try.prog 18 #[.agg #[.int .i64 ua, .int .i64 up, .int .i64 ea, .int .i64 ep, .int .i64 uq, .int .i64 uk, .string u]] w fun e w' => ∃ ao cap, e = .returned (.slice ao nB cap) ∧ RdB w' (.slice ao nB cap) LB ∧ Below w.heap.size w w') := fun w => implBytes_rd ua up ea ep uq uk u LB nB hLB hnB hu w
  have lenA : LA.length ≤ 4194304 := by
    rw [hLA]
    cases hq : segOkB ⟨sa, sp, da, dp, sq, ak, d.data.toList⟩
    · rw [segBytes_none hq]; decide
    · rw [segBytes_long hq]; simp only [len_list]; omega
  have HES : Hid (∀ v1 v2 w, RdB w v1 LA → RdB w v2 LA → Calls Try.prog 19 #[v1, v2] w fun e w' => e = .returned (.bool true) ∧ Below w.heap.size w w') := fun v1 v2 w k1 k2 => haBytes_same LA v1 v2 w lenA k1 k2
  have HEA : Hid (∀ v1 v2 w, RdB w v1 LA → RdB w v2 LB → Calls Try.prog 19 #[v1, v2] w fun e w' => e = .returned (.bool (decide (LA = LB))) ∧ Below w.heap.size w w') := fun v1 v2 w k1 k2 => haBytes_any LA LB v1 v2 w lenA k1 k2
  obtain ⟨qa, hqa⟩ : ∃ q, q = segOkB ⟨sa, sp, da, dp, sq, ak, d.data.toList⟩ := ⟨_, rfl⟩
  obtain ⟨qb, hqb⟩ : ∃ q, q = segOkB ⟨ua, up, ea, ep, uq, uk, u.data.toList⟩ := ⟨_, rfl⟩
  have HOA : Hid (∀ w, Calls Try.prog 14 #[.agg #[.int .i64 sa, .int .i64 sp, .int .i64 da, .int .i64 dp, .int .i64 sq, .int .i64 ak, .string d]] w fun e w' => e = .returned (.bool qa) ∧ Below w.heap.size w w') := fun w => by rw [hqa]; exact specSegOk_any sa sp da dp sq ak d w hd
  have HOB : Hid (∀ w, Calls Try.prog 14 #[.agg #[.int .i64 ua, .int .i64 up, .int .i64 ea, .int .i64 ep, .int .i64 uq, .int .i64 uk, .string u]] w fun e w' => e = .returned (.bool qb) ∧ Below w.heap.size w w') := fun w => by rw [hqb]; exact specSegOk_any ua up ea ep uq uk u w hu
  have HNA : Hid (qa = false → nA = 0) := fun hq => by rw [hnA, hLA, segBytes_none (by rw [← hqa]; exact hq)]; rfl
  have HLA : Hid (qa = true → nA = 15 + d.size) := fun hq => by rw [hnA, hLA, segBytes_long (by rw [← hqa]; exact hq)]; simp only [len_list]
  have HEQ : Hid (qa = true → qb = true → (decide (LA = LB) = true ↔ (sa = ua ∧ sp = up ∧ da = ea ∧ dp = ep ∧ sq = uq ∧ ak = uk ∧ d = u))) := fun h1 h2 => by
    constructor
    · intro he
      have he := of_decide_eq_true he
      rw [hLA, hLB] at he
      have := segBytes_inj (by rw [← hqa]; exact h1) (by rw [← hqb]; exact h2) he
      simp only [Sg.mk.injEq] at this
      obtain ⟨e1, e2, e3, e4, e5, e6, e7⟩ := this
      exact ⟨e1, e2, e3, e4, e5, e6, ByteArray.ext (Array.ext' e7)⟩
    · rintro ⟨rfl, rfl, rfl, rfl, rfl, rfl, rfl⟩
      exact decide_eq_true (by rw [hLA, hLB])
  clear hLA hLB hnA hnB lenA hqa hqb hu hU b2

  go_wp2_with fail
  rw [← hb3, ← hW2]
  clear c0 c1 c2 c3 c4 c5 c6 uz hW2 hb3
  (go_at_call 18; refine (HIA.out _).mono ?_; rintro e w3 ⟨a3, p3, rfl, hx3, g3⟩; have A3 := Lib.hid (A2.out.below g3); have U3 := Lib.hid (U2.out.below g3); have X3 := Lib.hid hx3; have B3 := Lib.hid (B2.out.trans (g3.mono B2.out.size)); clear hx3 g3 A2 U2 B2)
  obtain ⟨uz, ⟨c0, c1, c2, c3, c4, c5, c6⟩, _⟩ := A3.out
  go_wp2_with fail
  (go_at_call 20; refine (HSA.out _).mono ?_; rintro e w4 ⟨a4, p4, rfl, hx4, g4⟩; have A4 := Lib.hid (A3.out.below g4); have U4 := Lib.hid (U3.out.below g4); have X4 := Lib.hid (X3.out.below g4); have Y4 := Lib.hid hx4; have B4 := Lib.hid (B3.out.trans (g4.mono B3.out.size)); clear hx4 g4 A3 U3 X3 B3 uz c0 c1 c2 c3 c4 c5 c6)
  go_wp2_with fail
  (go_at_call 19; refine (HES.out _ _ _ X4.out Y4.out).mono ?_; rintro e w5 ⟨rfl, g5⟩; have A5 := Lib.hid (A4.out.below g5); have U5 := Lib.hid (U4.out.below g5); have X5 := Lib.hid (X4.out.below g5); have B5 := Lib.hid (B4.out.trans (g5.mono B4.out.size)); clear g5 A4 U4 X4 B4 Y4)
  obtain ⟨uz, ⟨c0, c1, c2, c3, c4, c5, c6⟩, _⟩ := A5.out
  go_wp2_with fail
  (go_at_call 14; refine (HOA.out _).mono ?_; rintro e w6 ⟨rfl, g6⟩; have A6 := Lib.hid (A5.out.below g6); have U6 := Lib.hid (U5.out.below g6); have X6 := Lib.hid (X5.out.below g6); have B6 := Lib.hid (B5.out.trans (g6.mono B5.out.size)); clear g6 A5 U5 X5 B5 uz c0 c1 c2 c3 c4 c5 c6)
  cases qa
  · obtain ⟨uz, ⟨c0, c1, c2, c3, c4, c5, c6⟩, _⟩ := A6.out
    obtain rfl : nA = 0 := HNA.out rfl
    go_wp2_with fail
    (go_at_call 14; refine (HOA.out _).mono ?_; rintro e w7 ⟨rfl, g7⟩; have B7 := Lib.hid (B6.out.trans (g7.mono B6.out.size)); clear g7 A6 U6 X6 B6 uz c0 c1 c2 c3 c4 c5 c6)
    go_wp2_with fail
    (go_at_call 15; refine (haOk_any _).mono ?_; rintro e w8 ⟨rfl, rfl⟩)
    go_wp2_with fail
    go_ret
    exact ⟨rfl, B7.out⟩
  · obtain ⟨vz, ⟨d0, d1, d2, d3, d4, d5, d6⟩, _⟩ := U6.out
    go_wp2_with fail
    (go_at_call 14; refine (HOB.out _).mono ?_; rintro e w7 ⟨rfl, g7⟩; have A7 := Lib.hid (A6.out.below g7); have U7 := Lib.hid (U6.out.below g7); have X7 := Lib.hid (X6.out.below g7); have B7 := Lib.hid (B6.out.trans (g7.mono B6.out.size)); clear g7 A6 U6 X6 B6 vz d0 d1 d2 d3 d4 d5 d6)
    obtain ⟨uz, ⟨c0, c1, c2, c3, c4, c5, c6⟩, _⟩ := A7.out
    obtain ⟨vz, ⟨d0, d1, d2, d3, d4, d5, d6⟩, _⟩ := U7.out
    cases qb
    · go_wp2_with fail
      (go_at_call 14; refine (HOA.out _).mono ?_; rintro e w8 ⟨rfl, g8⟩; have B8 := Lib.hid (B7.out.trans (g8.mono B7.out.size)); clear g8 A7 U7 X7 B7 uz c0 c1 c2 c3 c4 c5 c6 vz d0 d1 d2 d3 d4 d5 d6)
      go_wp2_with fail
      (go_at_call 15; refine (haOk_any _).mono ?_; rintro e w9 ⟨rfl, rfl⟩)
      go_wp2_with fail
      go_ret
      exact ⟨rfl, B8.out⟩
    · obtain rfl : nA = 15 + d.size := HLA.out (by simp)
      have HE2 := Lib.hid (HEQ.out (by simp) (by simp))
      obtain ⟨t, ht⟩ : ∃ t, t = decide (LA = LB) := ⟨_, rfl⟩
      rw [← ht] at HEA HE2
      clear ht HNA HLA HEQ
      have g1 := eqSegs1
      have g2 := eqSegs2
      have hwr : IntKind.i64.wrap (15 + (d.size : Int)) = 15 + (d.size : Int) := IntWalk.i64_in _ (by omega)
      by_cases heq : sa = ua ∧ sp = up ∧ da = ea ∧ dp = ep ∧ sq = uq ∧ ak = uk ∧ d = u
      · obtain rfl : t = true := HE2.out.2 heq
        obtain ⟨rfl, rfl, rfl, rfl, rfl, rfl, rfl⟩ := heq
        go_wp2_with fail
        go_region_law (first
          | (go_simp; go_at_call 18; refine (HIB.out _).mono ?_; rintro e wN ⟨aN, pN, rfl, hxN, bN⟩; have YN := Lib.hid hxN; have cc : Hid (Below w7.heap.size w7 wN) := (by first | exact bN | exact ((Below.refl _ w7).drew).trans bN); obtain ⟨xz, ⟨x0, x1, x2, x3, x4, x5, x6⟩, _⟩ := A7.out.below cc.out; obtain ⟨yz, ⟨y0, y1, y2, y3, y4, y5, y6⟩, _⟩ := U7.out.below cc.out; clear hxN bN)
          | (go_simp; go_at_call 19; refine (HEA.out _ _ _ (by first | exact X7.out.below cc.out | exact (X7.out.below cc.out).below (Below.refl _ _).drew) (by first | exact YN.out | exact YN.out.below (Below.refl _ _).drew)).mono ?_; rintro e wM ⟨rfl, bM⟩; have dd : Hid (Below w7.heap.size w7 wM) := (by first | exact cc.out.trans (bM.mono cc.out.size) | exact cc.out.trans ((((Below.refl _ _).drew).trans bM).mono cc.out.size)); obtain ⟨xz, ⟨x0, x1, x2, x3, x4, x5, x6⟩, _⟩ := A7.out.below dd.out; obtain ⟨yz, ⟨y0, y1, y2, y3, y4, y5, y6⟩, _⟩ := U7.out.below dd.out; clear bM))
        all_goals
          go_wp2_with fail
          go_ret
          first
            | exact ⟨rfl, B7.out.trans (dd.out.mono B7.out.size)⟩
            | exact ⟨rfl, B7.out.trans (dd.out.drew.mono B7.out.size)⟩
      · obtain rfl : t = false := by
          cases t
          · rfl
          · exact absurd (HE2.out.1 rfl) heq
        have hIf : ∀ {α : Type} (x y : α), (if sa = ua then if sp = up then if da = ea then if dp = ep then if sq = uq then if ak = uk then if d.toList = u.toList then x else y else y else y else y else y else y else y) = y := fun x y => ite_seven (fun h => heq ⟨h.1, h.2.1, h.2.2.1, h.2.2.2.1, h.2.2.2.2.1, h.2.2.2.2.2.1, ByteArray.ext (Array.ext' (by rw [← ByteArray.toList_eq, ← ByteArray.toList_eq]; exact h.2.2.2.2.2.2))⟩) x y
        clear heq HE2
        go_wp2_with fail
        go_region_law (first
          | (go_simp; go_at_call 18; refine (HIB.out _).mono ?_; rintro e wN ⟨aN, pN, rfl, hxN, bN⟩; have YN := Lib.hid hxN; have cc : Hid (Below w7.heap.size w7 wN) := (by first | exact bN | exact ((Below.refl _ w7).drew).trans bN); obtain ⟨xz, ⟨x0, x1, x2, x3, x4, x5, x6⟩, _⟩ := A7.out.below cc.out; obtain ⟨yz, ⟨y0, y1, y2, y3, y4, y5, y6⟩, _⟩ := U7.out.below cc.out; clear hxN bN)
          | (go_simp; go_at_call 19; refine (HEA.out _ _ _ (by first | exact X7.out.below cc.out | exact (X7.out.below cc.out).below (Below.refl _ _).drew) (by first | exact YN.out | exact YN.out.below (Below.refl _ _).drew)).mono ?_; rintro e wM ⟨rfl, bM⟩; have dd : Hid (Below w7.heap.size w7 wM) := (by first | exact cc.out.trans (bM.mono cc.out.size) | exact cc.out.trans ((((Below.refl _ _).drew).trans bM).mono cc.out.size)); obtain ⟨xz, ⟨x0, x1, x2, x3, x4, x5, x6⟩, _⟩ := A7.out.below dd.out; obtain ⟨yz, ⟨y0, y1, y2, y3, y4, y5, y6⟩, _⟩ := U7.out.below dd.out; clear bM))
        all_goals
          go_wp2_with fail
          go_ret
          first
            | exact ⟨rfl, B7.out.trans (dd.out.mono B7.out.size)⟩
            | exact ⟨rfl, B7.out.trans (dd.out.drew.mono B7.out.size)⟩

end Go.Proofs.Ytkjphggoefhgpaa
