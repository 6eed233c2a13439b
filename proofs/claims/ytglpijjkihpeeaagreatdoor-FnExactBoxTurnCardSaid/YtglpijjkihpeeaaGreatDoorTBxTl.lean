/- The law of BoxTurn but for its three regions that draw their order. Conditions: the arguments' lists lie in the machine's memory, at any address; the variables that are read hold what they are laid with. (Several texts, joined: LawTurnS.) -/
import Derived.Test.YtglpijjkihpeeaaGreatDoorTBxTk
import Derived.Deep.RegionHeld3
import Derived.Deep.DeepCutAuto
import Derived.Test.YtglpijjkihpeeaaGreatDoorSegLaw
import Derived.Deep.RegionWith

/- The law of BoxTurn but for its three regions that draw their order. Conditions: the arguments' lists lie in the machine's memory, at any address; the variables that are read hold what they are laid with. -/
namespace Go.Proofs.YtglpijjkihpeeaaGreatDoor
open Go.RowKit Go.Sort

/-- A proposition, shut up: no tactic takes it for something else. -/
structure Shut (P : Prop) : Prop where
  out : P
/-- A proposition that follows from three others. -/
structure Three (M : Prop) where
  A : Prop
  B : Prop
  C : Prop
  main : Shut A → Shut B → Shut C → M

set_option maxRecDepth 100000 in
set_option maxHeartbeats 64000000 in
def lawTurnS : Three (∀ (v : Value) (b : Bx) (sa sp da dp sq ak : Int) (d : ByteArray) (w : World) (_ : ArgBx w v b) (_ : bxMax b) (_ : d.size ≤ maxLen) (_ : (Lit.int .i64 dp).wf = true) (_ : VarsOk w) (_ : TabOk w),
    Calls Tryz.prog 4 #[v, .agg #[.int .i64 sa, .int .i64 sp, .int .i64 da, .int .i64 dp, .int .i64 sq, .int .i64 ak, .string d]] w fun e w' => e = .returned (.bool true) ∧ Below w.heap.size w w') := by
  apply Three.mk
  case main =>
    intro hR1 hR2 hR3 v b sa sp da dp sq ak d w hv hm hd wd hvars htb
    obtain ⟨a1, k1, a2, k2, a3, k3, rfl⟩ := hv.form
    obtain ⟨W0, hW0⟩ : ∃ W, W = (w.alloc (.cells #[.slice a1 b.rs.length k1, .slice a2 b.es.length k2, .slice a3 b.cs.length k3] 46)).alloc (.cells #[.int .i64 sa, .int .i64 sp, .int .i64 da, .int .i64 dp, .int .i64 sq, .int .i64 ak, .string d] 50) := ⟨_, rfl⟩
    have hA : Below w.heap.size w W0 := by rw [hW0]; exact ((Below.refl _ _).alloc (Nat.le_refl _) _).alloc (by simp) _
    have hz : w.heap.size + 1 < W0.heap.size := by rw [hW0]; simp
    have K1 : Blk W0 w.heap.size 46 [.slice a1 b.rs.length k1, .slice a2 b.es.length k2, .slice a3 b.cs.length k3] := by rw [hW0]; exact (three_new w _ _ _ _).below ((Below.refl _ _).alloc (Nat.le_refl _) _)
    have K2 : Blk W0 (w.heap.size + 1) 50 [.int .i64 sa, .int .i64 sp, .int .i64 da, .int .i64 dp, .int .i64 sq, .int .i64 ak, .string d] := by
      rw [hW0]
      have := heap_last3 (w.alloc (.cells #[.slice a1 b.rs.length k1, .slice a2 b.es.length k2, .slice a3 b.cs.length k3] 46)) (.cells #[.int .i64 sa, .int .i64 sp, .int .i64 da, .int .i64 dp, .int .i64 sq, .int .i64 ak, .string d] 50)
      unfold Blk
      simpa using this
    have KK : Hid (∀ w', Below W0.heap.size W0 w' → (w'.cell? ⟨w.heap.size, 0, none⟩ = some (.slice a1 b.rs.length k1) ∧ w'.cell? ⟨w.heap.size, 1, none⟩ = some (.slice a2 b.es.length k2) ∧ w'.cell? ⟨w.heap.size, 2, none⟩ = some (.slice a3 b.cs.length k3)) ∧ ArgBx w' (.agg #[.slice a1 b.rs.length k1, .slice a2 b.es.length k2, .slice a3 b.cs.length k3]) b ∧ Below w.heap.size w w' ∧ VarsOk w' ∧ TabOk w' ∧ Blk w' (w.heap.size + 1) 50 [.int .i64 sa, .int .i64 sp, .int .i64 da, .int .i64 dp, .int .i64 sq, .int .i64 ak, .string d]) := fun w' h =>
      have hb := hA.trans (h.mono hA.size)
      ⟨(three_all (K1.below h)).1, hv.below hb, hb, hvars.below hb, htb.below hb (Nat.le_refl _), K2.below h⟩
    have HZ : Hid (∀ w', ArgBx w' (.agg #[.slice a1 b.rs.length k1, .slice a2 b.es.length k2, .slice a3 b.cs.length k3]) b → Calls Tryz.prog 14 #[.agg #[.slice a1 b.rs.length k1, .slice a2 b.es.length k2, .slice a3 b.cs.length k3], .int .i64 1048576] w' fun e w'' => ∃ z : Int, e = .returned (.int .i64 z) ∧ (z = -1 ∨ (0 ≤ z ∧ z ≤ 1048576 ∧ bxSz b)) ∧ Below w'.heap.size w' w'') := fun w' h => szBox_any _ b w' h hm
    have HZ2 : Hid (∀ z w', 0 ≤ z → z ≤ 1048576 → Calls Tryz.prog 15 #[.agg #[.int .i64 sa, .int .i64 sp, .int .i64 da, .int .i64 dp, .int .i64 sq, .int .i64 ak, .string d], .int .i64 z] w' fun e w'' => ∃ y : Int, e = .returned (.int .i64 y) ∧ (y = -1 ∨ (0 ≤ y ∧ d.size ≤ 1048576)) ∧ Below w'.heap.size w' w'') := fun z w' h0 h1 => by
      refine (szSeg_any sa sp da dp sq ak d z w' hd h0 (by omega)).mono ?_
      rintro e w'' ⟨rfl, hb⟩
      refine ⟨_, rfl, ?_, hb⟩
      split
      · exact .inl rfl
      · exact .inr ⟨by omega, by omega⟩
    have hwf : Hid (wfE b.es ∧ cnWf b.cs) := ⟨hm.2.2.2.2.1, hm.2.2.2.2.2⟩
    have BB : Hid (Below W0.heap.size W0 W0) := Below.refl _ _
    clear hA K1 K2 hvars htb hv hm hd
    have HW0 := Lib.hid hz
    clear hz
    subst hW0
    obtain ⟨⟨x0, x1, x2⟩, -, -, -, -, ks⟩ := KK.out _ BB.out
    go_enter Tryz.func4, Tryz.ntmps4
    go_wp2_with fail
    (go_at_call 14; refine (HZ.out _ (KK.out _ BB.out).2.1).mono ?_; rintro e w1 ⟨z, rfl, hz1, b1⟩)
    have C1 := Lib.hid b1
    clear b1 BB HZ x0 x1 x2 ks
    obtain ⟨⟨x0, x1, x2⟩, -, bw1, -, -, ks⟩ := KK.out _ C1.out
    obtain ⟨s0, s1, s2, s3, s4, s5, s6⟩ := seven_all ks
    clear ks
    rcases hz1 with rfl | ⟨hz1, hz1', hs⟩
    · go_wp2_with fail
      go_ret
      exact ⟨rfl, bw1⟩
    have hz2 : ¬ z < 0 := by omega
    have S := Lib.hid hs
    go_wp2_with fail
    (go_at_call 15; refine (HZ2.out _ _ hz1 hz1').mono ?_; rintro e w1' ⟨y, rfl, hy1, b1⟩)
    have C1' := Lib.hid (C1.out.trans (b1.mono C1.out.size))
    clear b1 HZ2 x0 x1 x2 s0 s1 s2 s3 s4 s5 s6 bw1 hz2 hz1 hz1' hs
    obtain ⟨⟨x0, x1, x2⟩, -, bw1, -, -, ks⟩ := KK.out _ C1'.out
    obtain ⟨s0, s1, s2, s3, s4, s5, s6⟩ := seven_all ks
    clear ks C1
    rcases hy1 with rfl | ⟨hy1, hd⟩
    · go_wp2_with fail
      go_ret
      exact ⟨rfl, bw1⟩
    have hy2 : ¬ y < 0 := by omega
    obtain ⟨ub, r0, r1, r2, r3, r4, r5, rs, bb, hub, hspec, himpl⟩ := turn_both b sa sp da dp sq ak d S.out hwf.out.1 hwf.out.2 (by omega) wd
    have HT : Hid (∀ w', ArgBx w' (.agg #[.slice a1 b.rs.length k1, .slice a2 b.es.length k2, .slice a3 b.cs.length k3]) b → Calls Tryz.prog 17 #[.agg #[.slice a1 b.rs.length k1, .slice a2 b.es.length k2, .slice a3 b.cs.length k3]] w' fun e w'' => ∃ g1 g2 c2 g3, e = .returned (.agg #[.slice (some ⟨g1, 0, none⟩) b.rs.length b.rs.length, .slice (some ⟨g2, 0, none⟩) b.es.length c2, .slice (some ⟨g3, 0, none⟩) b.cs.length b.cs.length]) ∧ OwnBx w'' w'.heap.size (.agg #[.slice (some ⟨g1, 0, none⟩) b.rs.length b.rs.length, .slice (some ⟨g2, 0, none⟩) b.es.length c2, .slice (some ⟨g3, 0, none⟩) b.cs.length b.cs.length]) b ∧ Below w'.heap.size w' w'') := fun w' h => toBox_form _ b w' S.out h
    have HG : Hid (∀ w', Calls Tryz.prog 18 #[.agg #[.int .i64 sa, .int .i64 sp, .int .i64 da, .int .i64 dp, .int .i64 sq, .int .i64 ak, .string d]] w' fun e w'' => e = .returned (.agg #[.int .i64 sa, .int .i64 sp, .int .i64 da, .int .i64 dp, .int .i64 sq, .int .i64 ak, .string d]) ∧ Below w'.heap.size w' w'') := fun w' => toSeg_any sa sp da dp sq ak d w'
    have HM := Lib.hid hspec
    have HI := Lib.hid himpl
    have HE : Hid (∀ u1 u2 w', RdBx w' u1 ub → RdBx w' u2 ub → Calls Tryz.prog 20 #[u1, u2] w' fun e w'' => e = .returned (.bool true) ∧ Below w'.heap.size w' w'') := fun u1 u2 w' h1 h2 => eqBox_same u1 u2 ub w' (by omega) (by omega) (by omega) h1 h2
    have HEb : Hid (∀ u1 u2 w', RdBx w' u1 b → RdBx w' u2 b → Calls Tryz.prog 20 #[u1, u2] w' fun e w'' => e = .returned (.bool true) ∧ Below w'.heap.size w' w'') := fun u1 u2 w' h1 h2 => eqBox_same u1 u2 b w' (by have := S.out.1; omega) (by have := S.out.2.1; omega) (by have := S.out.2.2.1; omega) h1 h2
    have HES : Hid (∀ w', Calls Tryz.prog 21 #[.agg #[.int .i64 r0, .int .i64 r1, .int .i64 r2, .int .i64 r3, .int .i64 r4, .int .i64 r5, .string rs], .agg #[.int .i64 r0, .int .i64 r1, .int .i64 r2, .int .i64 r3, .int .i64 r4, .int .i64 r5, .string rs]] w' fun e w'' => e = .returned (.bool true) ∧ Below w'.heap.size w' w'') := fun w' => eqSeg_same r0 r1 r2 r3 r4 r5 rs w'
    obtain ⟨mb, hmb⟩ : ∃ m : Int, m = ((bxN b : Nat) : Int) := ⟨_, rfl⟩
    obtain ⟨mu, hmu⟩ : ∃ m : Int, m = ((bxN ub : Nat) : Int) := ⟨_, rfl⟩
    have HK : Hid (∀ B v w, B ≤ w.heap.size → FrBx w B v b → Calls Tryz.prog 22 #[v, .int .i64 1] w fun e w' => e = .returned (.int .i64 mb) ∧ MkBx w' v b ∧ Below B w w' ∧ ∀ k, OffBx v b k → k < w.heap.size → w'.heap[k]? = w.heap[k]?) := fun B v w hB h => by rw [hmb]; exact markBoxO_any B v b w (by have := S.out.1; omega) (by have := S.out.2.1; omega) (by have := S.out.2.2.1; omega) hB h
    have HX : Hid (∀ B v w, B ≤ w.heap.size → FrBx w B v ub → Calls Tryz.prog 22 #[v, .int .i64 1] w fun e w' => e = .returned (.int .i64 mu) ∧ MkBx w' v ub ∧ Below B w w' ∧ ∀ k, OffBx v ub k → k < w.heap.size → w'.heap[k]? = w.heap[k]?) := fun B v w hB h => by rw [hmu]; exact markBoxO_any B v ub w (by omega) (by omega) (by omega) hB h
    have HH : Hid (∀ v w, MkBx w v ub → Calls Tryz.prog 23 #[v, .int .i64 1] w fun e w' => e = .returned (.int .i64 mu) ∧ Below w.heap.size w w') := fun v w h => by rw [hmu]; exact heldBox_any v ub w (by omega) (by omega) (by omega) h
    have hmb' : ¬ mb < 0 := by omega
    have hmu' : ¬ mu < 0 := by omega
    clear hspec himpl hub hmb hmu hd hy1 wd
    have SD : Hid (Sd w.heap.size (w.heap.size + 1) w1' (.slice a1 b.rs.length k1) (.slice a2 b.es.length k2) (.slice a3 b.cs.length k3) (.int .i64 sa) (.int .i64 sp) (.int .i64 da) (.int .i64 dp) (.int .i64 sq) (.int .i64 ak) (.string d) w1') := ⟨Below.refl _ _, x0, x1, x2, s0, s1, s2, s3, s4, s5, s6⟩
    have KW : Hid (∀ w', Below w1'.heap.size w1' w' → ArgBx w' (.agg #[.slice a1 b.rs.length k1, .slice a2 b.es.length k2, .slice a3 b.cs.length k3]) b ∧ VarsOk w' ∧ TabOk w') := fun w' h => by
      have k := KK.out w' (C1'.out.trans (h.mono C1'.out.size))
      exact ⟨k.2.1, k.2.2.2.1, k.2.2.2.2.1⟩
    have ZM : Hid (w.heap.size < w1'.heap.size) := World.block_lt_of_cell? w1' _ x0
    have ZN : Hid (w.heap.size + 1 < w1'.heap.size) := World.block_lt_of_cell? w1' _ s0
    have ZW : Hid (w1'.heap.size ≤ w1'.heap.size) := Nat.le_refl _
    clear x0 x1 x2 s0 s1 s2 s3 s4 s5 s6 bw1
    go_upto_region 8 with fail
    go_cut [6, 7, 8] (fun s6 s7 s8 wx => Fin w1' ub r0 r1 r2 r3 r4 r5 rs bb s6 s7 s8 wx)
    case first =>
      rename_i Kr hKr Jx Kx hJ hK
      clear hKr KK HE HEb HES HK HX HH HI S hwf hmb' hmu' HW0 C1' hy2
      revert b sa sp da dp sq ak d w a1 k1 a2 k2 a3 k3 w1 z w1' y ub r0 r1 r2 r3 r4 r5 rs bb HT HG HM mb mu SD KW ZM ZN ZW Kr Jx Kx hJ hK
      exact hR1.out
    case rest =>
      obtain ⟨d6, d7, v0, v1, v2, rfl, rfl, rfl, l6, l7, m6, m7, fw, bw⟩ := hcut
      obtain ⟨w5, hw5⟩ : ∃ w5, w5 = wc := ⟨_, rfl⟩
      rw [← hw5] at m6 m7 fw bw ⊢
      clear hw5
      have C5 := Lib.hid (C1'.out.trans (bw.mono C1'.out.size))
      have N5 := Lib.hid C5.out.size
      have S5 : Hid (∀ w', Below w5.heap.size w5 w' → Blk w' d6 30 [v0, v1, v2] ∧ Blk w' d7 55 [.int .i64 r0, .int .i64 r1, .int .i64 r2, .int .i64 r3, .int .i64 r4, .int .i64 r5, .string rs] ∧ RdBx w' (.agg #[v0, v1, v2]) ub) := fun w' h => ⟨m6.below h, m7.below h, fw.rd.below h⟩
      clear m6 m7 fw bw l6 l7 SD KW ZM ZN ZW C1' HM hy2
      obtain ⟨⟨x0, x1, x2⟩, -, -, -, -, -⟩ := KK.out _ C5.out
      go_wp2_with fail
      (go_at_call 17; refine (HT.out _ (KK.out _ C5.out).2.1).mono ?_; rintro e w6 ⟨g1, g2, c2, g3, rfl, o6, b6⟩)
      have aX : Below w6.heap.size w6 (w6.alloc (.cells #[.slice (some ⟨g1, 0, none⟩) b.rs.length b.rs.length, .slice (some ⟨g2, 0, none⟩) b.es.length c2, .slice (some ⟨g3, 0, none⟩) b.cs.length b.cs.length] 30)) := (Below.refl _ _).alloc (Nat.le_refl _) _
      have C7 := Lib.hid (b6.trans (aX.mono b6.size))
      have O7 := Lib.hid (o6.later aX)
      have U6 := Lib.hid o6.fr.up
      have X7 := Lib.hid (three_new w6 (.slice (some ⟨g1, 0, none⟩) b.rs.length b.rs.length) (.slice (some ⟨g2, 0, none⟩) b.es.length c2) (.slice (some ⟨g3, 0, none⟩) b.cs.length b.cs.length) 30)
      clear b6 aX o6 x0 x1 x2
      go_upto_region 10 with fail
      obtain ⟨w7, hw7⟩ : ∃ W, W = w6.alloc (.cells #[.slice (some ⟨g1, 0, none⟩) b.rs.length b.rs.length, .slice (some ⟨g2, 0, none⟩) b.es.length c2, .slice (some ⟨g3, 0, none⟩) b.cs.length b.cs.length] 30) := ⟨_, rfl⟩
      obtain ⟨bX, hbX⟩ : ∃ k, k = w6.heap.size := ⟨_, rfl⟩
      rw [← hw7, ← hbX]
      rw [← hw7] at C7 O7 X7
      rw [← hbX] at X7 U6
      have hbl : bX < w7.heap.size := by rw [hw7, hbX]; simp
      clear hw7 hbX
      have U7 : Hid (UpBx w7.heap.size (.agg #[.slice (some ⟨g1, 0, none⟩) b.rs.length b.rs.length, .slice (some ⟨g2, 0, none⟩) b.es.length c2, .slice (some ⟨g3, 0, none⟩) b.cs.length b.cs.length]) b) := by
        intro r t c e
        have k := U6.out r t c e
        exact ⟨fun h g hg => Nat.lt_trans (k.1 h g hg) hbl, fun h g hg => Nat.lt_trans (k.2.1 h g hg) hbl, fun h g hg => Nat.lt_trans (k.2.2 h g hg) hbl⟩
      have D7 := Lib.hid (C5.out.trans (C7.out.mono C5.out.size))
      obtain ⟨-, -, -, -, -, ks⟩ := KK.out _ D7.out
      have SD : Hid (Sd bX (w.heap.size + 1) w7 (.slice (some ⟨g1, 0, none⟩) b.rs.length b.rs.length) (.slice (some ⟨g2, 0, none⟩) b.es.length c2) (.slice (some ⟨g3, 0, none⟩) b.cs.length b.cs.length) (.int .i64 sa) (.int .i64 sp) (.int .i64 da) (.int .i64 dp) (.int .i64 sq) (.int .i64 ak) (.string d) w7) := Sd.of X7.out ks
      have KW : Hid (∀ w', Below w7.heap.size w7 w' → ArgBx w' (.agg #[.slice a1 b.rs.length k1, .slice a2 b.es.length k2, .slice a3 b.cs.length k3]) b ∧ VarsOk w' ∧ TabOk w') := fun w' h => by
        have k := KK.out w' (D7.out.trans (h.mono D7.out.size))
        exact ⟨k.2.1, k.2.2.2.1, k.2.2.2.2.1⟩
      have XO : Hid (∀ w', Below w7.heap.size w7 w' → OwnBx w' w5.heap.size (.agg #[.slice (some ⟨g1, 0, none⟩) b.rs.length b.rs.length, .slice (some ⟨g2, 0, none⟩) b.es.length c2, .slice (some ⟨g3, 0, none⟩) b.cs.length b.cs.length]) b) := fun w' h => O7.out.later h
      have ZM : Hid (bX < w7.heap.size) := hbl
      have ZN : Hid (w.heap.size + 1 < w7.heap.size) := ks.lt
      have ZW : Hid (w7.heap.size ≤ w7.heap.size) := Nat.le_refl _
      clear ks hbl U6
      go_cut [10, 11, 12] (fun s6 s7 s8 wx => Fin w7 ub r0 r1 r2 r3 r4 r5 rs bb s6 s7 s8 wx)
      case first =>
        rename_i Kr hKr Jx Kx hJ hK
        clear hKr KK HE HEb HES HT HK HX HH S hwf hmb' hmu' HW0 S5 U7 O7 X7 C7 D7 C5 N5
        revert b sa sp da dp sq ak d w a1 k1 a2 k2 a3 k3 w1 z w1' y ub r0 r1 r2 r3 r4 r5 rs bb HG HI mb mu wc u19 u20 u21 u22 u23 u24 u25 u26 u27 u28 u29 u30 u31 u32 u33 u34 u35 u36 u37 u38 u39 u40 u41 u42 u43 u44 u45 u46 u47 u48 u49 u50 u51 u52 u53 u54 u55 u56 u57 u58 u59 u60 u61 u62 u63 u64 u65 u66 u67 u68 u69 u70 u71 u72 u73 u74 u75 u76 u77 u78 u79 u80 u81 u82 u83 u84 u85 u86 u87 u88 u89 u90 u91 u92 u93 u94 u95 u96 u97 u98 u99 u100 u101 u102 u103 u104 u105 u106 u107 u108 u109 u110 u111 u112 u113 u114 u115 u116 u117 u118 u119 u120 u121 u122 u123 u124 u125 u126 u127 u128 u129 u130 u131 u132 d6 d7 v0 v1 v2 w5 w6 g1 g2 c2 g3 Kr w7 bX SD KW XO ZM ZN ZW Jx Kx hJ hK
        exact hR2.out
      case rest =>
        obtain ⟨dG, dH, y0, y1, y2, rfl, rfl, rfl, l6, l7, m6, m7, fw, bw⟩ := hcut
        obtain ⟨w8, hw8⟩ : ∃ w8, w8 = wc := ⟨_, rfl⟩
        rw [← hw8] at m6 m7 fw bw ⊢
        clear hw8
        have D8 := Lib.hid (D7.out.trans (bw.mono D7.out.size))
        have T8 := Lib.hid (C7.out.trans (bw.mono C7.out.size))
        have G8 : Hid (∀ w', Below w8.heap.size w8 w' → Blk w' dG 30 [y0, y1, y2] ∧ Blk w' dH 55 [.int .i64 r0, .int .i64 r1, .int .i64 r2, .int .i64 r3, .int .i64 r4, .int .i64 r5, .string rs] ∧ FrBx w' w7.heap.size (.agg #[y0, y1, y2]) ub) := fun w' h => ⟨m6.below h, m7.below h, fw.later h⟩
        have X8 : Hid (∀ w', Below w8.heap.size w8 w' → Blk w' bX 30 [.slice (some ⟨g1, 0, none⟩) b.rs.length b.rs.length, .slice (some ⟨g2, 0, none⟩) b.es.length c2, .slice (some ⟨g3, 0, none⟩) b.cs.length b.cs.length] ∧ OwnBx w' w5.heap.size (.agg #[.slice (some ⟨g1, 0, none⟩) b.rs.length b.rs.length, .slice (some ⟨g2, 0, none⟩) b.es.length c2, .slice (some ⟨g3, 0, none⟩) b.cs.length b.cs.length]) b) := fun w' h => ⟨X7.out.below (bw.trans (h.mono bw.size)), XO.out w' (bw.trans (h.mono bw.size))⟩
        have N8 : Hid (w7.heap.size ≤ w8.heap.size) := bw.size
        have N7 : Hid (w5.heap.size ≤ w7.heap.size) := C7.out.size
        have L6 := Lib.hid l6
        have L7 := Lib.hid l7
        have FW := Lib.hid fw
        obtain ⟨⟨p0, p1, p2⟩, -⟩ := three_all m6
        obtain ⟨⟨q0, q1, q2⟩, -⟩ := three_all (S5.out _ T8.out).1
        clear m6 m7 fw bw SD KW XO X7 O7 C7 D7 C5 ZM ZN ZW l6 l7
        go_wp2_with fail
        (go_at_call 20; refine (HE.out _ _ _ FW.out.rd (S5.out _ T8.out).2.2).mono ?_; rintro e w9 ⟨rfl, b9⟩)
        have B9 := Lib.hid b9
        have T9 := Lib.hid (T8.out.trans (b9.mono T8.out.size))
        clear b9 p0 p1 p2 q0 q1 q2 FW
        obtain ⟨p0, p1, p2, p3, p4, p5, p6⟩ := seven_all (G8.out _ B9.out).2.1
        obtain ⟨q0, q1, q2, q3, q4, q5, q6⟩ := seven_all (S5.out _ T9.out).2.1
        go_wp2_with fail
        (go_at_call 21; refine (HES.out _).mono ?_; rintro e w10 ⟨rfl, b10⟩)
        have B10 := Lib.hid (B9.out.trans (b10.mono B9.out.size))
        have T10 := Lib.hid (T9.out.trans (b10.mono T9.out.size))
        have D10 := Lib.hid (D8.out.trans (B10.out.mono D8.out.size))
        clear b10 p0 p1 p2 p3 p4 p5 p6 q0 q1 q2 q3 q4 q5 q6 B9 T9 D8
        obtain ⟨⟨x0, x1, x2⟩, -, -, -, -, -⟩ := KK.out _ D10.out
        obtain ⟨⟨p0, p1, p2⟩, -⟩ := three_all (X8.out _ B10.out).1
        go_wp2_with fail
        go_cut [67] (fun s wx => s = .bool false ∧ Below w10.heap.size w10 wx)
        case first =>
          go_region_with (first
            | (go_at_call 17; refine (HT.out _ (KK.out _ D10.out.drew).2.1).mono ?_; rintro e w11 ⟨i1, i2, j2, i3, rfl, o11, b11⟩; have R11 := Lib.hid o11.rd; have d11 : Below w10.heap.size w10 w11 := ((Below.refl _ _).drew).trans b11; have S11 := X8.out _ (B10.out.trans (d11.mono B10.out.size)); obtain ⟨⟨p0', p1', p2'⟩, -⟩ := three_all S11.1; have S12 := Lib.hid S11.2.rd; clear o11 b11 S11)
            | (go_at_call 20; refine (HEb.out _ _ _ S12.out R11.out).mono ?_; rintro e w12 ⟨rfl, b12⟩; have bw12 := d11.trans (b12.mono d11.size)))
          all_goals
            go_wp2
            go_meet
            exact ⟨rfl, bw12⟩
        case rest =>
          obtain ⟨rfl, b12⟩ := hcut
          obtain ⟨w12, hw12⟩ : ∃ w12, w12 = wc := ⟨_, rfl⟩
          rw [← hw12] at b12 ⊢
          clear hw12 x0 x1 x2 p0 p1 p2
          have B12 := Lib.hid (B10.out.trans (b12.mono B10.out.size))
          have T12 := Lib.hid (T10.out.trans (b12.mono T10.out.size))
          have D12 := Lib.hid (D10.out.trans (b12.mono D10.out.size))
          clear b12 B10 T10 D10
          obtain ⟨⟨p0, p1, p2⟩, -⟩ := three_all (X8.out _ B12.out).1
          go_wp2_with fail
          (go_at_call 22; refine (HK.out w5.heap.size _ _ T12.out.size (X8.out _ B12.out).2.fr).mono ?_; rintro e w13 ⟨rfl, -, b13, k13⟩)
          have T13 := Lib.hid (T12.out.trans b13)
          have D13 := Lib.hid (D12.out.trans (b13.mono N5.out))
          have N13 : Hid (w7.heap.size ≤ w13.heap.size) := Nat.le_trans N8.out (Nat.le_trans B12.out.size b13.size)
          have G13 : Hid (∀ w', Below w13.heap.size w13 w' → Blk w' dG 30 [y0, y1, y2] ∧ Blk w' dH 55 [.int .i64 r0, .int .i64 r1, .int .i64 r2, .int .i64 r3, .int .i64 r4, .int .i64 r5, .string rs] ∧ FrBx w' w7.heap.size (.agg #[y0, y1, y2]) ub) := fun w' h => by
            have kk : ∀ k, w7.heap.size ≤ k → k < w12.heap.size → w13.heap[k]? = w12.heap[k]? := fun k h1 h2 => k13 k (U7.out.off h1) h2
            obtain ⟨a1', a2', a3'⟩ := G8.out _ B12.out
            exact ⟨(Blk.keepU a1' kk L6.out).below h, (Blk.keepU a2' kk L7.out).below h, (FrBx.keepU a3' kk (Nat.le_refl _)).later h⟩
          clear b13 k13 p0 p1 p2 G8 X8 B12 T12 D12 U7 HK HEb N8
          have B13 : Hid (Below w13.heap.size w13 w13) := Below.refl _ _
          obtain ⟨⟨p0, p1, p2⟩, -⟩ := three_all (G13.out _ B13.out).1
          obtain ⟨⟨q0, q1, q2⟩, -⟩ := three_all (S5.out _ T13.out).1
          go_wp2_with fail
          (go_at_call 20; refine (HE.out _ _ _ (G13.out _ B13.out).2.2.rd (S5.out _ T13.out).2.2).mono ?_; rintro e w14 ⟨rfl, b14⟩)
          have B14 := Lib.hid b14
          have T14 := Lib.hid (T13.out.trans (b14.mono T13.out.size))
          clear b14 p0 p1 p2 q0 q1 q2
          obtain ⟨p0, p1, p2, p3, p4, p5, p6⟩ := seven_all (G13.out _ B14.out).2.1
          obtain ⟨q0, q1, q2, q3, q4, q5, q6⟩ := seven_all (S5.out _ T14.out).2.1
          go_wp2_with fail
          (go_at_call 21; refine (HES.out _).mono ?_; rintro e w15 ⟨rfl, b15⟩)
          have B15 := Lib.hid (B14.out.trans (b15.mono B14.out.size))
          have T15 := Lib.hid (T14.out.trans (b15.mono T14.out.size))
          have D15 := Lib.hid (D13.out.trans (B15.out.mono D13.out.size))
          clear b15 p0 p1 p2 p3 p4 p5 p6 q0 q1 q2 q3 q4 q5 q6 B14 T14 D13 T13 B13
          obtain ⟨⟨p0, p1, p2⟩, -⟩ := three_all (G13.out _ B15.out).1
          go_wp2_with fail
          (go_at_call 22; refine (HX.out w7.heap.size _ _ (Nat.le_trans N13.out B15.out.size) (G13.out _ B15.out).2.2).mono ?_; rintro e w16 ⟨rfl, mk16, b16, k16⟩)
          have T16 := Lib.hid (T15.out.trans (b16.mono N7.out))
          have D16 := Lib.hid (D15.out.trans (b16.mono (Nat.le_trans N5.out N7.out)))
          have G16 : Hid (∀ w', Below w16.heap.size w16 w' → Blk w' dG 30 [y0, y1, y2] ∧ MkBx w' (.agg #[y0, y1, y2]) ub) := fun w' h => by
            obtain ⟨a1', a2', a3'⟩ := G13.out _ B15.out
            have off := FrBx.off a3' a1' (by decide) (by decide) (by decide)
            exact ⟨Blk.below ((k16 dG off a1'.lt).trans a1' : Blk w16 dG _ _) h, mk16.below h⟩
          have B16 : Hid (Below w16.heap.size w16 w16) := Below.refl _ _
          clear b16 k16 mk16 p0 p1 p2 G13 B15 T15 D15 HX N13 L6 L7 N7 N5
          obtain ⟨⟨p0, p1, p2⟩, -⟩ := three_all (G16.out _ B16.out).1
          go_wp2_with fail
          (go_at_call 23; refine (HH.out _ _ (G16.out _ B16.out).2).mono ?_; rintro e w17 ⟨rfl, b17⟩)
          have B17 := Lib.hid b17
          have T17 := Lib.hid (T16.out.trans (b17.mono T16.out.size))
          have D17 := Lib.hid (D16.out.trans (b17.mono D16.out.size))
          clear b17 p0 p1 p2 B16 T16 D16
          obtain ⟨⟨x0, x1, x2⟩, -, -, -, -, ks⟩ := KK.out _ D17.out
          obtain ⟨s0, s1, s2, s3, s4, s5, s6⟩ := seven_all ks
          have SD : Hid (Sd w.heap.size (w.heap.size + 1) w17 (.slice a1 b.rs.length k1) (.slice a2 b.es.length k2) (.slice a3 b.cs.length k3) (.int .i64 sa) (.int .i64 sp) (.int .i64 da) (.int .i64 dp) (.int .i64 sq) (.int .i64 ak) (.string d) w17) := ⟨Below.refl _ _, x0, x1, x2, s0, s1, s2, s3, s4, s5, s6⟩
          have KW : Hid (∀ w', Below w17.heap.size w17 w' → ArgBx w' (.agg #[.slice a1 b.rs.length k1, .slice a2 b.es.length k2, .slice a3 b.cs.length k3]) b ∧ VarsOk w' ∧ TabOk w') := fun w' h => by
            have k := KK.out w' (D17.out.trans (h.mono D17.out.size))
            exact ⟨k.2.1, k.2.2.2.1, k.2.2.2.2.1⟩
          have ZM : Hid (w.heap.size < w17.heap.size) := World.block_lt_of_cell? w17 _ x0
          have ZN : Hid (w.heap.size + 1 < w17.heap.size) := ks.lt
          have ZW : Hid (w17.heap.size ≤ w17.heap.size) := Nat.le_refl _
          clear x0 x1 x2 s0 s1 s2 s3 s4 s5 s6 ks
          go_upto_region 27 with fail
          go_cut [16, 17, 18] (fun s6 s7 s8 wx => Fin w17 ub r0 r1 r2 r3 r4 r5 rs bb s6 s7 s8 wx)
          case first =>
            rename_i Kr hKr Jx Kx hJ hK
            clear hKr KK HE HES HH S hwf hmu' HW0 S5 G16 B17 T17 D17
            revert b sa sp da dp sq ak d w a1 k1 a2 k2 a3 k3 w1 z w1' y ub r0 r1 r2 r3 r4 r5 rs bb HT HG HI mb mu hmb' d6 d7 v0 v1 v2 w5 w6 g1 g2 c2 g3 w7 bX u67 dG dH y0 y1 y2 w8 T8 w9 w10 wc u19 u20 u21 u22 u23 u24 u25 u26 u27 u28 u29 u30 u31 u32 u33 u34 u35 u36 u37 u38 u39 u40 u41 u42 u43 u44 u45 u46 u47 u48 u49 u50 u51 u52 u53 u54 u55 u56 u57 u58 u59 u60 u61 u62 u63 u64 u65 u66 u68 u69 u70 u71 u72 u73 u74 u75 u76 u77 u78 u79 u80 u81 u82 u83 u84 u85 u86 u87 u88 u89 u90 u91 u92 u93 u94 u95 u96 u97 u98 u99 u100 u101 u102 u103 u104 u105 u106 u107 u108 u109 u110 u111 u112 u113 u114 u115 u116 u117 u118 u119 u120 u121 u122 u123 u124 u125 u126 u127 u128 u129 u130 u131 u132 w12 w13 w14 w15 w16 w17 SD KW ZM ZN ZW Kr Jx Kx hJ hK
            exact hR3.out
          case rest =>
            obtain ⟨eG, eH, z0, z1, z2, rfl, rfl, rfl, l6, l7, m6, m7, fw, bw⟩ := hcut
            obtain ⟨w18, hw18⟩ : ∃ w18, w18 = wc := ⟨_, rfl⟩
            rw [← hw18] at m6 m7 fw bw ⊢
            clear hw18
            have B18 := Lib.hid (B17.out.trans (bw.mono B17.out.size))
            have T18 := Lib.hid (T17.out.trans (bw.mono T17.out.size))
            have D18 := Lib.hid (D17.out.trans (bw.mono D17.out.size))
            have M7 := Lib.hid m7
            have FW := Lib.hid fw.rd
            obtain ⟨⟨p0, p1, p2⟩, -⟩ := three_all m6
            obtain ⟨⟨q0, q1, q2⟩, -⟩ := three_all (S5.out _ T18.out).1
            clear m6 m7 fw bw SD KW ZM ZN ZW l6 l7 B17 T17 D17
            go_wp2_with fail
            (go_at_call 20; refine (HE.out _ _ _ FW.out (S5.out _ T18.out).2.2).mono ?_; rintro e w19 ⟨rfl, b19⟩)
            have T19 := Lib.hid (T18.out.trans (b19.mono T18.out.size))
            have B19 := Lib.hid (B18.out.trans (b19.mono B18.out.size))
            have D19 := Lib.hid (D18.out.trans (b19.mono D18.out.size))
            clear p0 p1 p2 q0 q1 q2
            obtain ⟨p0, p1, p2, p3, p4, p5, p6⟩ := seven_all (M7.out.below b19)
            obtain ⟨q0, q1, q2, q3, q4, q5, q6⟩ := seven_all (S5.out _ T19.out).2.1
            go_wp2_with fail
            (go_at_call 21; refine (HES.out _).mono ?_; rintro e w20 ⟨rfl, b20⟩)
            have B20 := Lib.hid (B19.out.trans (b20.mono B19.out.size))
            have D20 := Lib.hid (D19.out.trans (b20.mono D19.out.size))
            clear b20 b19 p0 p1 p2 p3 p4 p5 p6 q0 q1 q2 q3 q4 q5 q6
            obtain ⟨⟨p0, p1, p2⟩, -⟩ := three_all (G16.out _ B20.out).1
            go_wp2_with fail
            (go_at_call 23; refine (HH.out _ _ (G16.out _ B20.out).2).mono ?_; rintro e w21 ⟨rfl, b21⟩)
            go_wp2_with fail
            go_ret
            exact ⟨rfl, (KK.out _ (D20.out.trans (b21.mono D20.out.size))).2.2.1⟩

end Go.Proofs.YtglpijjkihpeeaaGreatDoor
