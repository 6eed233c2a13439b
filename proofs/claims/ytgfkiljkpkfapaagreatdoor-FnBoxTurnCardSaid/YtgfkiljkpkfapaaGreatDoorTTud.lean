/- The law that who is inside finds who is inside by the box's port: at every code. Conditions: the code lies in memory; the variables that are read hold what they are laid with. (Several texts, joined: HaKept, HaOk, LwBoxTurn.) -/
import Derived.Test.YtgfkiljkpkfapaaGreatDoorTTuc
import Derived.Test.YtgfkiljkpkfapaaGreatDoorHaEnds
import Derived.Test.YtgfkiljkpkfapaaGreatDoorHaStarts
import Derived.Deep.RegionHeld3
import Derived.Deep.DeepCutAuto
import Derived.Test.YtgfkiljkpkfapaaGreatDoorTPld
import Derived.Test.YtgfkiljkpkfapaaGreatDoorTTua
import Derived.Test.YtgfkiljkpkfapaaGreatDoorTPlh

/- How the laws say that a box keeps what one knew: one with more ends does. Condition: at most 2^22 rules, ends and streams each. -/
namespace Go.Proofs.YtgfkiljkpkfapaaGreatDoor
open Go.RowKit Go.Sort

theorem boxAtK {w w' : World} {b i : Nat} {v : Value} (h : w.cell? ⟨b, i, none⟩ = some v) (hb : Below w.heap.size w w') : w'.cell? ⟨b, i, none⟩ = some v := by
  rw [hb.cell (p := ⟨b, i, none⟩) (World.block_lt_of_cell? w _ h)]; exact h

set_option maxRecDepth 100000 in
set_option maxHeartbeats 1600000 in
theorem haKept_more (b : Bx) (tl : List (Int × Int)) (v1 v2 : Value) (w : World) (n1 : b.rs.length ≤ 4194304) (n2 : (b.es ++ tl).length ≤ 4194304) (n3 : b.cs.length ≤ 4194304) (h1 : RdBx w v1 ⟨b.rs, b.es ++ tl, b.cs⟩) (h2 : RdBx w v2 b) :
    Calls Tryz.prog 17 #[v1, v2] w fun e w' => e = .returned (.bool true) ∧ Below w.heap.size w w' := by
  obtain ⟨p0, p1, p2, rfl, r1, t1, c1⟩ := h1
  obtain ⟨q0, q1, q2, rfl, r2, t2, c2⟩ := h2
  have hA : Below w.heap.size w ((w.alloc (.cells #[p0, p1, p2] 29)).alloc (.cells #[q0, q1, q2] 29)) := ((Below.refl _ _).alloc (Nat.le_refl _) _).alloc (by simp) _
  have C1 : Hid (∀ w', Below w.heap.size w w' → RdCn w' p2 b.cs) := fun w' h => c1.below h
  have C2 : Hid (∀ w', Below w.heap.size w w' → RdCn w' q2 b.cs) := fun w' h => c2.below h
  obtain ⟨x1, k1, ex1, -, -⟩ := c1
  simp only at ex1
  subst ex1
  obtain ⟨u1, l1, et1, -, -⟩ := id t1
  simp only at et1
  subst et1
  obtain ⟨u2, l2, rfl, -, -⟩ := id t2
  obtain ⟨x2, k2, rfl, -, -⟩ := c2
  have HK := Lib.hid (new_boxes3 w p0 (.slice u1 (b.es ++ tl).length l1) (.slice x1 b.cs.length k1) q0 (.slice u2 b.es.length l2) (.slice x2 b.cs.length k2) 29)
  obtain ⟨W0, hW0⟩ : ∃ W, W = (w.alloc (.cells #[p0, .slice u1 (b.es ++ tl).length l1, .slice x1 b.cs.length k1] 29)).alloc (.cells #[q0, .slice u2 b.es.length l2, .slice x2 b.cs.length k2] 29) := ⟨_, rfl⟩
  rw [← hW0] at hA
  simp only [← hW0] at HK
  have HE : Hid (∀ w', Below W0.heap.size W0 w' → Calls Tryz.prog 56 #[.slice u1 (b.es ++ tl).length l1, .slice u2 b.es.length l2] w' fun e w'' => e = .returned (.bool true) ∧ Below w'.heap.size w' w'') := fun w' hb => by
    have := hA.trans (hb.mono hA.size)
    exact haFirst_pre u1 l1 u2 l2 (b.es ++ tl) b.es tl w' n2 rfl (t1.below this) (t2.below this)
  have HR : Hid (∀ w', Below W0.heap.size W0 w' → Calls Tryz.prog 41 #[p0, q0] w' fun e w'' => e = .returned (.bool true) ∧ Below w'.heap.size w' w'') := fun w' hb => by
    have := hA.trans (hb.mono hA.size)
    exact haRules_same b.rs p0 q0 w' n1 (r1.below this) (r2.below this)
  have HA := Lib.hid hA
  obtain ⟨nc, hnc⟩ : ∃ n, n = b.cs.length := ⟨_, rfl⟩
  have HN := Lib.hid hnc
  obtain ⟨x0, x1', x2', y0, y1, y2⟩ := HK.out _ (Below.refl _ _)
  rw [← hnc] at n3 hW0 HK x2' y2 ⊢
  obtain ⟨ne2, hne2⟩ : ∃ n, n = (b.es ++ tl).length := ⟨_, rfl⟩
  rw [← hne2] at hW0 HK HE x1' ⊢
  clear hne2
  clear hA r1 r2 t1 t2 n1 n2 hnc
  subst hW0
  go_enter Tryz.func17, Tryz.ntmps17
  go_wp2_with fail
  (go_at_call 41; refine (HR.out _ (Below.refl _ _)).mono ?_; rintro e w1 ⟨rfl, b1⟩)
  have D1 := Lib.hid b1
  clear x0 x1' x2' y0 y1 y2
  obtain ⟨x0, x1', x2', y0, y1, y2⟩ := HK.out _ b1
  clear b1
  go_wp2_with fail
  (go_at_call 56; refine (HE.out _ D1.out).mono ?_; rintro e w2 ⟨rfl, b2⟩)
  have D2 := Lib.hid (D1.out.trans (b2.mono D1.out.size))
  clear x0 x1' x2' y0 y1 y2 b2
  obtain ⟨x0, x1', x2', y0, y1, y2⟩ := HK.out _ D2.out
  go_wp2_with fail
  go_loopw [5] (fun i wr => ∃ k : Nat, k ≤ nc ∧ i = .int .i64 k ∧ Below w2.heap.size w2 wr) (fun i _ => nc - (intOf i).toNat)
  case atStart => exact ⟨0, Nat.zero_le _, rfl, Below.refl _ _⟩
  case round =>
    obtain ⟨k, hk, rfl, hb⟩ := hrel
    have D3 := Lib.hid (D2.out.trans (hb.mono D2.out.size))
    have E3 := Lib.hid (HA.out.trans (D3.out.mono HA.out.size))
    have HB := Lib.hid hb
    clear hb
    obtain ⟨x0, x1', x2', y0, y1, y2⟩ := HK.out _ D3.out
    by_cases hlt : k < nc
    · have hlt2 : k < b.cs.length := by rw [← HN.out]; exact hlt
      obtain ⟨⟨ia, ip, oa, op, kn, he, ne⟩, hc⟩ : ∃ c, c = b.cs[k] := ⟨_, rfl⟩
      obtain ⟨a1, cp1, e1, hcp1, hr1⟩ := C1.out _ E3.out
      obtain ⟨a2, cp2, e2, hcp2, hr2⟩ := C2.out _ E3.out
      rw [← HN.out] at e1 e2 hcp1 hcp2
      simp only [Value.slice.injEq, true_and] at e1 e2
      obtain ⟨rfl, rfl⟩ := e1
      obtain ⟨rfl, rfl⟩ := e2
      obtain ⟨g1, rfl, w1r⟩ := hr1 (by omega)
      obtain ⟨g2, rfl, w2r⟩ := hr2 (by omega)
      obtain ⟨⟨s0, s1, s2, s3, s4, s5, s6⟩, -⟩ := RowAt.conn w1r k hlt2 _ hc
      obtain ⟨⟨z0, z1, z2, z3, z4, z5, z6⟩, -⟩ := RowAt.conn w2r k hlt2 _ hc
      simp only at s0 s1 s2 s3 s4 s5 s6 z0 z1 z2 z3 z4 z5 z6
      have hi1 : (k : Int) < (nc : Int) := by omega
      have hi2 : (k : Int) < (k1 : Int) := by omega
      have hi3 : (k : Int) < (k2 : Int) := by omega
      clear hr1 hr2 w1r w2r hc hlt2
      have mk : Hid (∀ w', Below wr.heap.size wr w' → Below wr.heap.size wr w' ∧ w'.cell? ⟨w.heap.size, 2, none⟩ = some (.slice (some ⟨g1, 0, none⟩) nc k1) ∧ w'.cell? ⟨w.heap.size + 1, 2, none⟩ = some (.slice (some ⟨g2, 0, none⟩) nc k2) ∧ (w'.cell? ⟨g1, k * 7, none⟩ = some (.int .i64 ia) ∧ w'.cell? ⟨g1, k * 7 + 1, none⟩ = some (.int .i64 ip) ∧ w'.cell? ⟨g1, k * 7 + 2, none⟩ = some (.int .i64 oa) ∧ w'.cell? ⟨g1, k * 7 + 3, none⟩ = some (.int .i64 op) ∧ w'.cell? ⟨g1, k * 7 + 4, none⟩ = some (.string kn) ∧ w'.cell? ⟨g1, k * 7 + 5, none⟩ = some (.string he) ∧ w'.cell? ⟨g1, k * 7 + 6, none⟩ = some (.string ne)) ∧ (w'.cell? ⟨g2, k * 7, none⟩ = some (.int .i64 ia) ∧ w'.cell? ⟨g2, k * 7 + 1, none⟩ = some (.int .i64 ip) ∧ w'.cell? ⟨g2, k * 7 + 2, none⟩ = some (.int .i64 oa) ∧ w'.cell? ⟨g2, k * 7 + 3, none⟩ = some (.int .i64 op) ∧ w'.cell? ⟨g2, k * 7 + 4, none⟩ = some (.string kn) ∧ w'.cell? ⟨g2, k * 7 + 5, none⟩ = some (.string he) ∧ w'.cell? ⟨g2, k * 7 + 6, none⟩ = some (.string ne))) := fun w' h =>
        ⟨h, boxAtK x2' h, boxAtK y2 h, ⟨boxAtK s0 h, boxAtK s1 h, boxAtK s2 h, boxAtK s3 h, boxAtK s4 h, boxAtK s5 h, boxAtK s6 h⟩, boxAtK z0 h, boxAtK z1 h, boxAtK z2 h, boxAtK z3 h, boxAtK z4 h, boxAtK z5 h, boxAtK z6 h⟩
      have HST : Hid (∀ (s : ByteArray) (w : World), Calls Tryz.prog 57 #[.string s, .string s] w fun e w' => e = .returned (.bool true) ∧ w = w') := fun s w => haStarts_pre s s [] w (by simp)
      go_upto_region 6 with fail
      go_cut [113] (fun s wx => s = .bool false ∧ Below wr.heap.size wr wx)
      case first =>
        simp only [List.append]
        go_region_held3 (fun w' => Below wr.heap.size wr w' ∧ w'.cell? ⟨w.heap.size, 2, none⟩ = some (.slice (some ⟨g1, 0, none⟩) nc k1) ∧ w'.cell? ⟨w.heap.size + 1, 2, none⟩ = some (.slice (some ⟨g2, 0, none⟩) nc k2) ∧ (w'.cell? ⟨g1, k * 7, none⟩ = some (.int .i64 ia) ∧ w'.cell? ⟨g1, k * 7 + 1, none⟩ = some (.int .i64 ip) ∧ w'.cell? ⟨g1, k * 7 + 2, none⟩ = some (.int .i64 oa) ∧ w'.cell? ⟨g1, k * 7 + 3, none⟩ = some (.int .i64 op) ∧ w'.cell? ⟨g1, k * 7 + 4, none⟩ = some (.string kn) ∧ w'.cell? ⟨g1, k * 7 + 5, none⟩ = some (.string he) ∧ w'.cell? ⟨g1, k * 7 + 6, none⟩ = some (.string ne)) ∧ (w'.cell? ⟨g2, k * 7, none⟩ = some (.int .i64 ia) ∧ w'.cell? ⟨g2, k * 7 + 1, none⟩ = some (.int .i64 ip) ∧ w'.cell? ⟨g2, k * 7 + 2, none⟩ = some (.int .i64 oa) ∧ w'.cell? ⟨g2, k * 7 + 3, none⟩ = some (.int .i64 op) ∧ w'.cell? ⟨g2, k * 7 + 4, none⟩ = some (.string kn) ∧ w'.cell? ⟨g2, k * 7 + 5, none⟩ = some (.string he) ∧ w'.cell? ⟨g2, k * 7 + 6, none⟩ = some (.string ne)))
          (first
            | exact mk.out _ (Below.refl _ _).drew
            | assumption
            | (trace_state; fail))
          (first
            | (go_at_call 57; refine (HST.out _ _).mono ?_; rintro e wS ⟨rfl, rfl⟩))
        all_goals (go_wp2_with fail; go_meet)
        all_goals (first | exact ⟨rfl, (Below.refl _ _).drew⟩ | exact ⟨rfl, Below.refl _ _⟩ | (trace_state; fail))
      case rest =>
        obtain ⟨rfl, hbx⟩ := hcut
        have HBX := Lib.hid (HB.out.trans (hbx.mono HB.out.size))
        clear hbx s0 s1 s2 s3 s4 s5 s6 z0 z1 z2 z3 z4 z5 z6 mk HST
        go_wp2_with fail
        go_roundw
        case rel => exact ⟨k + 1, by omega, by go_num, HBX.out⟩
        case measure => simp [intOf]; omega
    · have hkn : k = nc := by omega
      subst hkn
      go_wp2_with fail
      go_ret
      exact ⟨rfl, E3.out⟩

end Go.Proofs.YtgfkiljkpkfapaaGreatDoor

/- That a line of one letter is a line, which each law asks. No condition. -/
namespace Go.Proofs.YtgfkiljkpkfapaaGreatDoor
open Go.RowKit

theorem haOk_any (w : World) :
    Calls Tryz.prog 11 #[] w fun e w' => e = .returned (.bool true) ∧ w = w' := by
  have hl : linB (⟨#[97]⟩ : ByteArray).data.toList = true := by decide
  have HL : Hid (∀ w, Calls Tryz.prog 45 #[.string ⟨#[97]⟩] w fun e w' => e = .returned (.bool true) ∧ w = w') := fun w => by
    have := implLin_all ⟨#[97]⟩ w; rw [hl] at this; exact this
  go_enter Tryz.func11, Tryz.ntmps11
  go_wp2_with (go_at_call 45; refine (HL.out _).mono ?_; rintro e w' ⟨rfl, rfl⟩)
  go_ret
  exact ⟨rfl, rfl⟩

end Go.Proofs.YtgfkiljkpkfapaaGreatDoor

/- The law that who is inside finds who is inside by the box's port: at every code. Conditions: the code lies in memory; the variables that are read hold what they are laid with. -/
namespace Go.Proofs.YtgfkiljkpkfapaaGreatDoor
open Go.RowKit Go.Sort

/-- Two boxes that were just laid. -/
theorem two_laid (w : World) (l1 l2 : List Value) (t1 t2 : TypeId) : ∀ w', Below ((w.alloc (.cells ⟨l1⟩ t1)).alloc (.cells ⟨l2⟩ t2)).heap.size ((w.alloc (.cells ⟨l1⟩ t1)).alloc (.cells ⟨l2⟩ t2)) w' → Below w.heap.size w w' ∧ Blk w' w.heap.size t1 l1 ∧ Blk w' (w.heap.size + 1) t2 l2 := by
  intro w' h
  have q : Below w.heap.size w ((w.alloc (.cells ⟨l1⟩ t1)).alloc (.cells ⟨l2⟩ t2)) := ((Below.refl _ _).alloc (Nat.le_refl _) _).alloc (by simp) _
  have k1 : Blk (w.alloc (.cells ⟨l1⟩ t1)) w.heap.size t1 l1 := heap_at _ _ _ rfl
  have k2 : Blk ((w.alloc (.cells ⟨l1⟩ t1)).alloc (.cells ⟨l2⟩ t2)) (w.heap.size + 1) t2 l2 := heap_at _ _ _ (by simp)
  exact ⟨q.trans (h.mono q.size), (k1.alloc _).below h, k2.below h⟩
theorem FrBx.gen {w : World} {B : Nat} {v : Value} {b : Bx} (h : FrBx w B v b) (hn : b.es ≠ []) : GBx w B v b := by
  obtain ⟨r, t, c, rfl, h1, h2, h3⟩ := h
  obtain ⟨a1, c1, rfl, -⟩ := FrL.form h1
  obtain ⟨a2, c2, rfl, -⟩ := FrL.form h2
  obtain ⟨a3, c3, rfl, -⟩ := FrL.form h3
  exact ⟨a1, c1, a2, c2, a3, c3, rfl, FrRl.rd h1, h2.elim (fun h => absurd h.1 hn) (fun h => ends_own h), FrCn.rd h3⟩
theorem OwH.owf {w : World} {B : Nat} {v : Value} {b : Bx} (h : OwH w B v b) : OwF w B v b := by
  obtain ⟨a1, c1, a2, c2, a3, c3, rfl, h1, h2, h3⟩ := h
  exact ⟨_, _, _, _, _, _, rfl, h1, FrL.own (own_ends h2), FrL.own h3⟩
set_option maxRecDepth 100000 in
set_option maxHeartbeats 12800000 in
theorem lwBoxTurn_of (ao : Option Addr) (n cap : Nat) (w : World) (h : BytesIn w ao n) (hn : n ≤ cap) (hv : VarsOk w) (htb : TabOk w) (hb1 : ¬ 1048576 < n) :
    Calls Tryz.prog 3 #[.slice ao n cap] w fun e w' => e = .returned (.bool true) ∧ Below w.heap.size w w' := by
  have H := Lib.hid h
  have HV : Hid (∀ w', Below w.heap.size w w' → VarsOk w' ∧ TabOk w') := fun w' h => ⟨hv.below h, htb.below h (Nat.le_refl _)⟩
  clear h hv htb
  go_enter Tryz.func3, Tryz.ntmps3
  go_wp2_with fail
  (go_at_call 6; refine (drawBoxTurn_any ao n cap _ H.out hn).mono ?_; rintro e w1 ⟨v1, v2, v3, b, sa, sp, da, dp, sq, ak, d, rfl, oh, ⟨hs, hwf, hcw⟩, hwd, hd, b1⟩)
  obtain ⟨a1, c1, a2, c2, a3, c3, rfl, rfl, rfl⟩ := oh.form
  have BW := Lib.hid b1
  have OG := Lib.hid oh.gen
  have OF := Lib.hid oh.owf
  have HV1 : Hid (∀ w', Below w1.heap.size w1 w' → VarsOk w' ∧ TabOk w') := fun w' h => HV.out w' (b1.trans (h.mono b1.size))
  have hbw := b1.size
  obtain ⟨_, _, _, _, _, _, ev, o1, o2, o3⟩ := id oh.gen
  simp only [Value.agg.injEq, Array.mk.injEq, List.cons.injEq, Value.slice.injEq, and_true, true_and] at ev
  obtain ⟨⟨rfl, rfl⟩, ⟨rfl, rfl⟩, rfl, rfl⟩ := ev
  obtain ⟨ub, r0, r1, r2, r3, r4, r5, rd, gB, ⟨z1, z2, z3⟩, TF, SP, IM⟩ := turn_bothG b sa sp da dp sq ak d hs hwf hcw (by omega) hwd
  have HF := Lib.hid TF
  have HB := Lib.hid (show bxSz b ∧ wfE b.es ∧ cnWf b.cs from ⟨hs, hwf, hcw⟩)
  have HIM : Hid (∀ w', Below w1.heap.size w1 w' → Calls Tryz.prog 7 #[.agg #[.slice a1 b.rs.length c1, .slice a2 b.es.length c2, .slice a3 b.cs.length c3], .agg #[.int .i64 sa, .int .i64 sp, .int .i64 da, .int .i64 dp, .int .i64 sq, .int .i64 ak, .string d]] w' (TurnR w' ub r0 r1 r2 r3 r4 r5 rd gB)) := fun w' h => IM w.heap.size _ w' (OG.out.later h) (OF.out.later h) (HV1.out w' h).1 (HV1.out w' h).2
  have HSP : Hid (∀ w', Below w1.heap.size w1 w' → Calls Tryz.prog 8 #[.agg #[.slice a1 b.rs.length c1, .slice a2 b.es.length c2, .slice a3 b.cs.length c3], .agg #[.int .i64 sa, .int .i64 sp, .int .i64 da, .int .i64 dp, .int .i64 sq, .int .i64 ak, .string d]] w' (TurnR w' ub r0 r1 r2 r3 r4 r5 rd gB)) := fun w' h => SP w.heap.size _ w' (Nat.le_trans hbw h.size) (OG.out.later h)
  obtain ⟨bO, hbO⟩ : ∃ x, x = boxOkB b := ⟨_, rfl⟩
  have HSo : Hid (∀ w', Below w1.heap.size w1 w' → Calls Tryz.prog 10 #[.agg #[.slice a1 b.rs.length c1, .slice a2 b.es.length c2, .slice a3 b.cs.length c3]] w' fun e w'' => e = .returned (.bool bO) ∧ Below w'.heap.size w' w'') := fun w' h => by
    rw [hbO]; exact specBoxOk_anyG w.heap.size _ b w' hs (Nat.le_trans hbw h.size) (OG.out.later h)
  have HRB : Hid (∀ w', Below w1.heap.size w1 w' → RdBx w' (.agg #[.slice a1 b.rs.length c1, .slice a2 b.es.length c2, .slice a3 b.cs.length c3]) b) := fun w' h => (OG.out.later h).rd
  have HME : Hid (∀ w', Below w1.heap.size w1 w' → Calls Tryz.prog 12 #[.agg #[.slice a2 b.es.length c2], .int .i64 dp] w' fun e w'' => e = .returned (endV (endI b.es dp)) ∧ Below w'.heap.size w' w'') := fun w' h => implMapEnd_any _ b.es dp w' (by have := hs.2.1; omega) hwf hwd (OwnTab.tab (own_later o2 h))
  have HBO := Lib.hid hbO
  obtain ⟨n1, hn1⟩ : ∃ n, n = b.rs.length := ⟨_, rfl⟩
  obtain ⟨n2, hn2⟩ : ∃ n, n = b.es.length := ⟨_, rfl⟩
  obtain ⟨n3, hn3⟩ : ∃ n, n = b.cs.length := ⟨_, rfl⟩
  have HN2 := Lib.hid hn2
  rw [← hn1, ← hn2, ← hn3] at HIM HSP HSo HRB
  rw [← hn2] at HME
  rw [← hn1, ← hn2, ← hn3]
  clear hn1 hn2 hn3 hbO OG OF o1 o2 o3 oh hs hwf hcw b1 hbw HV H TF SP IM
  go_upto_region 4 with fail
  have MA := Lib.hid (two_laid w1 [.slice a1 n1 c1, .slice a2 n2 c2, .slice a3 n3 c3] [.int .i64 sa, .int .i64 sp, .int .i64 da, .int .i64 dp, .int .i64 sq, .int .i64 ak, .string d] 29 33)
  obtain ⟨W1, hW1⟩ : ∃ W, W = (w1.alloc (.cells #[.slice a1 n1 c1, .slice a2 n2 c2, .slice a3 n3 c3] 29)).alloc (.cells #[.int .i64 sa, .int .i64 sp, .int .i64 da, .int .i64 dp, .int .i64 sq, .int .i64 ak, .string d] 33) := ⟨_, rfl⟩
  rw [← hW1]
  have M1 : Hid (∀ w', Below W1.heap.size W1 w' → Below w1.heap.size w1 w' ∧ Blk w' w1.heap.size 29 [.slice a1 n1 c1, .slice a2 n2 c2, .slice a3 n3 c3] ∧ Blk w' (w1.heap.size + 1) 33 [.int .i64 sa, .int .i64 sp, .int .i64 da, .int .i64 dp, .int .i64 sq, .int .i64 ak, .string d]) := by rw [hW1]; exact MA.out
  obtain ⟨bb, hbb⟩ : ∃ b, b = w1.heap.size := ⟨_, rfl⟩
  have BW1 : Hid (∀ w', Below W1.heap.size W1 w' → Below w.heap.size w w') := fun w' h => BW.out.trans ((M1.out w' h).1.mono BW.out.size)
  have MK : Hid (∀ w', Below W1.heap.size W1 w' → Below w1.heap.size w1 w' ∧ Blk w' bb 29 [.slice a1 n1 c1, .slice a2 n2 c2, .slice a3 n3 c3] ∧ Blk w' (bb + 1) 33 [.int .i64 sa, .int .i64 sp, .int .i64 da, .int .i64 dp, .int .i64 sq, .int .i64 ak, .string d]) := by rw [hbb]; exact M1.out
  rw [← hbb]
  clear hW1 hbb MA M1 BW
  obtain ⟨d1, kb, ks⟩ := MK.out _ (Below.refl _ _)
  obtain ⟨⟨p0, p1, p2⟩, -⟩ := three_all kb
  obtain ⟨⟨q0, q1, q2, q3, q4, q5, q6⟩, -⟩ := seven_partsG ks
  go_wp2_with fail
  (go_at_call 7; refine (HIM.out _ d1).mono ?_; rintro e w2 ⟨ux, rfl, fx, b2⟩)
  obtain ⟨x1, k1, x2, k2, x3, k3, rfl⟩ := fx.form
  have FX := Lib.hid fx
  have D2 := Lib.hid b2
  clear b2 fx d1 kb ks p0 p1 p2 q0 q1 q2 q3 q4 q5 q6 HIM
  obtain ⟨m1, hm1⟩ : ∃ n, n = ub.rs.length := ⟨_, rfl⟩
  obtain ⟨m2, hm2⟩ : ∃ n, n = ub.es.length := ⟨_, rfl⟩
  obtain ⟨m3, hm3⟩ : ∃ n, n = ub.cs.length := ⟨_, rfl⟩
  have HM3 := Lib.hid hm3
  have HMZ := Lib.hid (show m1 = ub.rs.length ∧ m2 = ub.es.length ∧ m3 = ub.cs.length from ⟨hm1, hm2, hm3⟩)
  rw [← hm1, ← hm2, ← hm3] at FX ⊢
  clear hm1 hm2 hm3
  go_upto_region 5 with fail
  have MA := Lib.hid (two_laid w2 [.slice x1 m1 k1, .slice x2 m2 k2, .slice x3 m3 k3] [.int .i64 r0, .int .i64 r1, .int .i64 r2, .int .i64 r3, .int .i64 r4, .int .i64 r5, .string rd] 29 33)
  obtain ⟨W2, hW2⟩ : ∃ W, W = (w2.alloc (.cells #[.slice x1 m1 k1, .slice x2 m2 k2, .slice x3 m3 k3] 29)).alloc (.cells #[.int .i64 r0, .int .i64 r1, .int .i64 r2, .int .i64 r3, .int .i64 r4, .int .i64 r5, .string rd] 33) := ⟨_, rfl⟩
  rw [← hW2]
  have M2 : Hid (∀ w', Below W2.heap.size W2 w' → Below w2.heap.size w2 w' ∧ Blk w' w2.heap.size 29 [.slice x1 m1 k1, .slice x2 m2 k2, .slice x3 m3 k3] ∧ Blk w' (w2.heap.size + 1) 33 [.int .i64 r0, .int .i64 r1, .int .i64 r2, .int .i64 r3, .int .i64 r4, .int .i64 r5, .string rd]) := by rw [hW2]; exact MA.out
  obtain ⟨bx, hbx⟩ : ∃ b, b = w2.heap.size := ⟨_, rfl⟩
  have MX : Hid (∀ w', Below W2.heap.size W2 w' → Below W1.heap.size W1 w' ∧ FrBx w' W1.heap.size (.agg #[.slice x1 m1 k1, .slice x2 m2 k2, .slice x3 m3 k3]) ub ∧ Blk w' bx 29 [.slice x1 m1 k1, .slice x2 m2 k2, .slice x3 m3 k3] ∧ Blk w' (bx + 1) 33 [.int .i64 r0, .int .i64 r1, .int .i64 r2, .int .i64 r3, .int .i64 r4, .int .i64 r5, .string rd]) := fun w' h => by
    obtain ⟨h1, h2, h3⟩ := M2.out w' h
    rw [hbx]
    exact ⟨D2.out.trans (h1.mono D2.out.size), FX.out.later h1, h2, h3⟩
  rw [← hbx]
  clear hW2 hbx MA M2 D2 FX
  obtain ⟨e1, fx, kx, kg⟩ := MX.out _ (Below.refl _ _)
  obtain ⟨d1, kb, ks⟩ := MK.out _ e1
  obtain ⟨⟨p0, p1, p2⟩, -⟩ := three_all kb
  obtain ⟨⟨q0, q1, q2, q3, q4, q5, q6⟩, -⟩ := seven_partsG ks
  go_wp2_with fail
  (go_at_call 8; refine (HSP.out _ d1).mono ?_; rintro e w3 ⟨uy, rfl, fy, b3⟩)
  obtain ⟨y1, l1, y2, l2, y3, l3, rfl⟩ := fy.form
  have FY := Lib.hid fy
  have D3 := Lib.hid b3
  clear b3 fy fx e1 kx kg d1 kb ks p0 p1 p2 q0 q1 q2 q3 q4 q5 q6 HSP
  rw [← HMZ.out.1, ← HMZ.out.2.1, ← HMZ.out.2.2] at FY ⊢
  go_upto_region 6 with fail
  have MA := Lib.hid (two_laid w3 [.slice y1 m1 l1, .slice y2 m2 l2, .slice y3 m3 l3] [.int .i64 r0, .int .i64 r1, .int .i64 r2, .int .i64 r3, .int .i64 r4, .int .i64 r5, .string rd] 29 33)
  obtain ⟨W3, hW3⟩ : ∃ W, W = (w3.alloc (.cells #[.slice y1 m1 l1, .slice y2 m2 l2, .slice y3 m3 l3] 29)).alloc (.cells #[.int .i64 r0, .int .i64 r1, .int .i64 r2, .int .i64 r3, .int .i64 r4, .int .i64 r5, .string rd] 33) := ⟨_, rfl⟩
  rw [← hW3]
  have M3 : Hid (∀ w', Below W3.heap.size W3 w' → Below w3.heap.size w3 w' ∧ Blk w' w3.heap.size 29 [.slice y1 m1 l1, .slice y2 m2 l2, .slice y3 m3 l3] ∧ Blk w' (w3.heap.size + 1) 33 [.int .i64 r0, .int .i64 r1, .int .i64 r2, .int .i64 r3, .int .i64 r4, .int .i64 r5, .string rd]) := by rw [hW3]; exact MA.out
  obtain ⟨by', hby⟩ : ∃ b, b = w3.heap.size := ⟨_, rfl⟩
  have MY : Hid (∀ w', Below W3.heap.size W3 w' → Below W2.heap.size W2 w' ∧ FrBx w' W2.heap.size (.agg #[.slice y1 m1 l1, .slice y2 m2 l2, .slice y3 m3 l3]) ub ∧ Blk w' by' 29 [.slice y1 m1 l1, .slice y2 m2 l2, .slice y3 m3 l3] ∧ Blk w' (by' + 1) 33 [.int .i64 r0, .int .i64 r1, .int .i64 r2, .int .i64 r3, .int .i64 r4, .int .i64 r5, .string rd]) := fun w' h => by
    obtain ⟨h1, h2, h3⟩ := M3.out w' h
    rw [hby]
    exact ⟨D3.out.trans (h1.mono D3.out.size), FY.out.later h1, h2, h3⟩
  rw [← hby]
  clear hW3 hby MA M3 D3 FY
  obtain ⟨g1, fy, ky, kh⟩ := MY.out _ (Below.refl _ _)
  obtain ⟨e1, fx, kx, kg⟩ := MX.out _ g1
  obtain ⟨⟨x0c, x1c, x2c⟩, -⟩ := three_all kx
  obtain ⟨⟨y0c, y1c, y2c⟩, -⟩ := three_all ky
  have HHB : Hid (Calls Tryz.prog 9 #[.agg #[.slice x1 m1 k1, .slice x2 m2 k2, .slice x3 m3 k3], .agg #[.slice y1 m1 l1, .slice y2 m2 l2, .slice y3 m3 l3]] W3 fun e w'' => e = .returned (.bool true) ∧ Below W3.heap.size W3 w'') := haBox_same ub _ _ W3 (by omega) (by omega) (by omega) fx.rd fy.rd
  clear fx fy kx ky kg kh e1 g1
  go_wp2_with fail
  (go_at_call 9; refine HHB.out.mono ?_; rintro e w4 ⟨rfl, b4⟩)
  have D4 := Lib.hid b4
  clear b4 HHB x0c x1c x2c y0c y1c y2c
  obtain ⟨g1, fy, ky, kh⟩ := MY.out _ D4.out
  obtain ⟨e1, fx, kx, kg⟩ := MX.out _ g1
  obtain ⟨⟨s0, s1, s2, s3, s4, s5, s6⟩, -⟩ := seven_partsG kg
  obtain ⟨⟨t0, t1, t2, t3, t4, t5, t6⟩, -⟩ := seven_partsG kh
  obtain ⟨d1, kb, ks⟩ := MK.out _ e1
  obtain ⟨⟨p0, p1, p2⟩, -⟩ := three_all kb
  clear fy ky kh fx kx kg kb ks
  go_wp2_with fail
  (go_at_call 10; refine (HSo.out _ d1).mono ?_; rintro e w5 ⟨rfl, b5⟩)
  have D5 := Lib.hid (D4.out.trans (b5.mono D4.out.size))
  clear b5 D4 s0 s1 s2 s3 s4 s5 s6 t0 t1 t2 t3 t4 t5 t6 d1 e1 g1 p0 p1 p2
  have MZ : Hid (∀ w', Below W3.heap.size W3 w' → Below W1.heap.size W1 w' ∧ Below w1.heap.size w1 w' ∧ FrBx w' W1.heap.size (.agg #[.slice x1 m1 k1, .slice x2 m2 k2, .slice x3 m3 k3]) ub ∧ Blk w' bb 29 [.slice a1 n1 c1, .slice a2 n2 c2, .slice a3 n3 c3] ∧ Blk w' (bb + 1) 33 [.int .i64 sa, .int .i64 sp, .int .i64 da, .int .i64 dp, .int .i64 sq, .int .i64 ak, .string d] ∧ Blk w' bx 29 [.slice x1 m1 k1, .slice x2 m2 k2, .slice x3 m3 k3] ∧ Blk w' (bx + 1) 33 [.int .i64 r0, .int .i64 r1, .int .i64 r2, .int .i64 r3, .int .i64 r4, .int .i64 r5, .string rd]) := fun w' h => by
    obtain ⟨g1, -, -, -⟩ := MY.out w' h
    obtain ⟨e1, fx, kx, kg⟩ := MX.out w' g1
    obtain ⟨d1, kb, ks⟩ := MK.out w' e1
    exact ⟨e1, d1, fx, kb, ks, kx, kg⟩
  clear MY MX MK
  rcases HF.out with hf | hf | hf
  · clear HF
    obtain ⟨h0, rfl, rfl, -⟩ := hf
    have hb0 : bO = false := by rw [HBO.out]; exact h0
    subst hb0
    obtain ⟨e1, d1, fx, kb, ks, kx, kg⟩ := MZ.out _ D5.out
    obtain ⟨⟨x0c, x1c, x2c⟩, -⟩ := three_all kx
    have hm0 : m3 = 0 := HM3.out
    subst hm0
    clear kb ks kx kg fx
    go_wp2_with fail
    (go_at_call 11; refine (haOk_any _).mono ?_; rintro e wl ⟨rfl, rfl⟩)
    go_wp2_with fail
    go_ret
    exact ⟨by simp, BW1.out _ e1⟩
  · clear HF
    obtain ⟨h0, rfl, ⟨rfl, rfl, rfl, rfl, rfl, rfl, rfl, rfl⟩, hwhy⟩ := hf
    have hb0 : bO = true := by rw [HBO.out]; exact h0
    subst hb0
    obtain ⟨e1, d1, fx, kb, ks, kx, kg⟩ := MZ.out _ D5.out
    obtain ⟨⟨p0, p1, p2⟩, -⟩ := three_all kb
    obtain ⟨⟨q0, q1, q2, q3, q4, q5, q6⟩, -⟩ := seven_partsG ks
    obtain ⟨ea, ep, eb, hev, hen⟩ : ∃ (ea ep : Int) (eb : Bool), endV (endI ub.es dp) = .tuple #[.agg #[.int .i64 ea, .int .i64 ep], .bool eb] ∧ (endI ub.es dp = none → eb = false) := by
      rcases hx : endI ub.es dp with _ | ⟨a, p⟩
      · exact ⟨0, 0, false, rfl, fun _ => rfl⟩
      · exact ⟨a, p, true, rfl, fun e => by cases e⟩
    have HWHY : Hid (eb = false ∨ segOkB ⟨sa, sp, da, dp, sq, ak, d.data.toList⟩ = false ∨ insB sa sp = false ∨ da ≠ 50 ∨ (n2 : Int) = 6) := by
      rcases hwhy with h | h | h | h | h
      · exact .inl (hen h)
      · exact .inr (.inl h)
      · exact .inr (.inr (.inl h))
      · exact .inr (.inr (.inr (.inl h)))
      · exact .inr (.inr (.inr (.inr (by rw [HN2.out]; have := h.2; omega))))
    rw [hev] at HME
    clear hev hen hwhy kb ks kx kg fx
    go_wp2_with fail
    (go_at_call 12; refine (HME.out _ d1).mono ?_; rintro e w6 ⟨rfl, b6⟩)
    have D6 : Hid (Below W3.heap.size W3 w6) := D5.out.trans (b6.mono D5.out.size)
    clear b6 HME D5 e1 d1 p0 p1 p2 q0 q1 q2 q3 q4 q5 q6
    go_upto_region 11 with fail
    have D7 : Hid (Below W3.heap.size W3 (w6.alloc (.cells #[.int .i64 ea, .int .i64 ep] 31))) := D6.out.alloc D6.out.size _
    obtain ⟨W6, hW6⟩ : ∃ W, W = w6.alloc (.cells #[.int .i64 ea, .int .i64 ep] 31) := ⟨_, rfl⟩
    rw [← hW6] at D7 ⊢
    clear hW6 D6
    obtain ⟨e1, d1, fx, kb, ks, kx, kg⟩ := MZ.out _ D7.out
    have HHB : Hid (Calls Tryz.prog 9 #[.agg #[.slice x1 m1 k1, .slice x2 m2 k2, .slice x3 m3 k3], .agg #[.slice a1 n1 c1, .slice a2 n2 c2, .slice a3 n3 c3]] W6 fun e w'' => e = .returned (.bool true) ∧ Below W6.heap.size W6 w'') := haBox_same ub _ _ W6 (by omega) (by omega) (by omega) fx.rd (HRB.out _ d1)
    obtain ⟨⟨p0, p1, p2⟩, -⟩ := three_all kb
    obtain ⟨⟨x0c, x1c, x2c⟩, -⟩ := three_all kx
    clear kb ks kx kg fx d1 e1
    go_wp2_with fail
    (go_at_call 9; refine HHB.out.mono ?_; rintro e w7 ⟨rfl, b7⟩)
    have D8 := Lib.hid (D7.out.trans (b7.mono D7.out.size))
    clear b7 D7 HHB p0 p1 p2 x0c x1c x2c
    obtain ⟨e1, d1, fx, kb, ks, kx, kg⟩ := MZ.out _ D8.out
    obtain ⟨⟨p0, p1, p2⟩, -⟩ := three_all kb
    obtain ⟨⟨q0, q1, q2, q3, q4, q5, q6⟩, -⟩ := seven_partsG ks
    obtain ⟨⟨s0, s1, s2, s3, s4, s5, s6⟩, -⟩ := seven_partsG kg
    clear kb ks kx kg fx
    cases eb
    · clear HWHY
      go_wp2_with fail
      go_ret
      exact ⟨by simp, BW1.out _ e1⟩
    obtain ⟨bS, hbS⟩ : ∃ x, x = segOkB ⟨sa, sp, da, dp, sq, ak, d.data.toList⟩ := ⟨_, rfl⟩
    obtain ⟨bI, hbI⟩ : ∃ x, x = insB sa sp := ⟨_, rfl⟩
    have HSG : Hid (∀ w', Calls Tryz.prog 13 #[.agg #[.int .i64 sa, .int .i64 sp, .int .i64 da, .int .i64 dp, .int .i64 sq, .int .i64 ak, .string d]] w' fun e w'' => e = .returned (.bool bS) ∧ Below w'.heap.size w' w'') := fun w' => by rw [hbS]; exact specSegOk_any sa sp da dp sq ak d w' (by omega)
    have HIN : Hid (∀ w', Calls Tryz.prog 14 #[.agg #[.int .i64 sa, .int .i64 sp]] w' fun e w'' => e = .returned (.bool bI) ∧ Below w'.heap.size w' w'') := fun w' => by rw [hbI]; exact specInside_any sa sp w'
    rw [← hbS, ← hbI] at HWHY
    clear hbS hbI
    go_wp2_with fail
    (go_at_call 13; refine (HSG.out _).mono ?_; rintro e w8 ⟨rfl, b8⟩)
    have D9 := Lib.hid (D8.out.trans (b8.mono D8.out.size))
    clear b8 D8 e1 d1 p0 p1 p2 q0 q1 q2 q3 q4 q5 q6 s0 s1 s2 s3 s4 s5 s6
    obtain ⟨e1, d1, fx, kb, ks, kx, kg⟩ := MZ.out _ D9.out
    obtain ⟨⟨p0, p1, p2⟩, -⟩ := three_all kb
    obtain ⟨⟨q0, q1, q2, q3, q4, q5, q6⟩, -⟩ := seven_partsG ks
    clear kb ks kx kg fx
    cases bS
    · clear HWHY
      go_wp2_with fail
      go_ret
      exact ⟨by simp, BW1.out _ e1⟩
    go_wp2_with fail
    (go_at_call 14; refine (HIN.out _).mono ?_; rintro e w9 ⟨rfl, b9⟩)
    have DA := Lib.hid (D9.out.trans (b9.mono D9.out.size))
    clear b9 D9 e1 d1 p0 p1 p2 q0 q1 q2 q3 q4 q5 q6
    obtain ⟨e1, d1, fx, kb, ks, kx, kg⟩ := MZ.out _ DA.out
    obtain ⟨⟨p0, p1, p2⟩, -⟩ := three_all kb
    obtain ⟨⟨q0, q1, q2, q3, q4, q5, q6⟩, -⟩ := seven_partsG ks
    clear kb ks kx kg fx
    cases bI
    · clear HWHY
      go_wp2_with fail
      go_ret
      exact ⟨by simp, BW1.out _ e1⟩
    by_cases hda : da = 50
    · have hl6 : n2 = 6 := by
        have h := HWHY.out
        simp [hda] at h
        omega
      subst hl6
      subst hda
      clear HWHY
      go_wp2_with fail
      go_ret
      exact ⟨by simp, BW1.out _ e1⟩
    · clear HWHY
      go_wp2_with fail
      go_ret
      exact ⟨by simp, BW1.out _ e1⟩
  · clear HF
    obtain ⟨h0, hS, hI, rfl, hp0, rfl, ta, tp, hE, i0, i1, i2, i3, i4, i5, i6, i7⟩ := hf
    have i0 := i0.symm
    have i1 := i1.symm
    have i2 := i2.symm
    have i3 := i3.symm
    have i4 := i4.symm
    have i5 := i5.symm
    have i6 := i6.symm
    have i7 := i7.symm
    subst i0 i1 i2 i3 i4 i5 i6 i7
    have hb0 : bO = true := by rw [HBO.out]; exact h0
    subst hb0
    obtain ⟨t1, t2, t3, t4, t5, t6, t7, t8, t9⟩ := turn_back h0 hI hE hp0
    obtain ⟨q, hq⟩ : ∃ q, q = (putE b.es (sa, sp)).2 := ⟨_, rfl⟩
    obtain ⟨es2, hes⟩ : ∃ l, l = (putE b.es (sa, sp)).1 := ⟨_, rfl⟩
    obtain ⟨tl, htl, -⟩ := putE_pre b.es (sa, sp)
    have hm2 := putE_ok (e := (sa, sp)) (boxOk_parts h0).1 hI
    have hl6 := mapB_le hm2
    rw [hE] at HME
    simp only [endV] at HME
    have hb := HB.out
    have h6 : b.es.length ≤ 6 := mapB_le (boxOk_parts h0).1
    have hne2 : es2 ≠ [] := by
      intro e
      rw [← hes, ← hq, e] at t4
      simp [endI] at t4
    rw [← hes] at hm2 hl6 htl t1 t4 t5 t7
    rw [← hq] at t3 t4 t7 t8 t9
    rw [← hes] at MZ HMZ
    rw [← hq] at MZ ⊢
    have hsz : bxSz ⟨b.rs, es2, b.cs⟩ := ⟨hb.1.1, by show es2.length ≤ _; omega, hb.1.2.2.1, hb.1.2.2.2⟩
    have hwf2 : wfE es2 := mapWf hm2
    obtain ⟨ub2, r0, r1, r2, r3, r4, r5, rd, gB, ⟨z1', z2', z3'⟩, TF2, -, IM2⟩ := turn_bothG ⟨b.rs, es2, b.cs⟩ ta tp 50 q 0 0 ⟨#[]⟩ hsz hwf2 hb.2.2 (by decide) (WalkArith.wf_i64 (by omega))
    have HR : Hid (r2 = sa ∧ r3 = sp ∧ r1 = dp ∧ gB = true) := by
      rcases TF2 with ⟨k1, -⟩ | ⟨-, -, -, k5⟩ | ⟨-, -, -, -, -, -, ta', tp', k7, k8, -, k9, k10, k11, -⟩
      · rw [t1] at k1; cases k1
      · rcases k5 with k5 | k5 | k5 | k5 | ⟨k5, -⟩
        · rw [t4] at k5; cases k5
        · have k6 : segOkB ⟨ta, tp, 50, q, 0, 0, []⟩ = false := k5
          rw [t3] at k6; cases k6
        · rw [t2] at k5; cases k5
        · exact absurd rfl k5
        · have k6 : (putE es2 (ta, tp)).2 = 0 := k5
          rw [t5] at k6
          exact absurd k6 t6
      · have k6 : endI es2 q = some (ta', tp') := k7
        rw [t4] at k6
        injection k6 with k6
        injection k6 with k61 k62
        have k12 : (putE es2 (ta, tp)).2 = dp := by rw [t5]
        exact ⟨by rw [k10]; exact k61.symm, by rw [k11]; exact k62.symm, by rw [k9]; exact k12, k8⟩
    have hgen : ∀ w', Below W3.heap.size W3 w' → GBx w' W1.heap.size (.agg #[.slice x1 m1 k1, .slice x2 m2 k2, .slice x3 m3 k3]) ⟨b.rs, es2, b.cs⟩ := fun w' h => FrBx.gen (MZ.out w' h).2.2.1 hne2
    have HI2 : Hid (∀ w', Below W3.heap.size W3 w' → Calls Tryz.prog 7 #[.agg #[.slice x1 m1 k1, .slice x2 m2 k2, .slice x3 m3 k3], .agg #[.int .i64 ta, .int .i64 tp, .int .i64 50, .int .i64 q, .int .i64 0, .int .i64 0, .string ⟨#[]⟩]] w' (TurnR w' ub2 r0 r1 r2 r3 r4 r5 rd gB)) := fun w' h => IM2 W1.heap.size _ w' (hgen w' h) (MZ.out w' h).2.2.1.owf (HV1.out _ (MZ.out w' h).2.1).1 (HV1.out _ (MZ.out w' h).2.1).2
    have HMP : Hid (∀ w', Below W3.heap.size W3 w' → Calls Tryz.prog 15 #[.agg #[.slice x2 m2 k2], .agg #[.int .i64 sa, .int .i64 sp]] w' fun e w'' => e = .returned (.int .i64 q) ∧ Below w'.heap.size w' w'') := fun w' h => by
      obtain ⟨_, _, _, hv, _, ht, _⟩ := (MZ.out w' h).2.2.1.rd
      simp only [Value.agg.injEq, Array.mk.injEq, List.cons.injEq, and_true] at hv
      obtain ⟨-, rfl, -⟩ := hv
      have h2 := implMapPort_any _ es2 sa sp w' (by omega) hwf2 (insWf hI).1 (insWf hI).2 ht
      rwa [t7] at h2
    have HBk : Hid (∀ w', Below W3.heap.size W3 w' → Calls Tryz.prog 16 #[.agg #[.slice x1 m1 k1, .slice x2 m2 k2, .slice x3 m3 k3]] w' fun e w'' => e = .returned (.bool true) ∧ Below w'.heap.size w' w'') := fun w' h => by
      have h2 := implBoxOk_anyG W1.heap.size _ ⟨b.rs, es2, b.cs⟩ w' hsz hwf2 hb.2.2 (hgen w' h) (HV1.out _ (MZ.out w' h).2.1).1 (HV1.out _ (MZ.out w' h).2.1).2
      rwa [t1] at h2
    have HKp : Hid (∀ w', Below W3.heap.size W3 w' → Calls Tryz.prog 17 #[.agg #[.slice x1 m1 k1, .slice x2 m2 k2, .slice x3 m3 k3], .agg #[.slice a1 n1 c1, .slice a2 n2 c2, .slice a3 n3 c3]] w' fun e w'' => e = .returned (.bool true) ∧ Below w'.heap.size w' w'') := fun w' h => by
      have h2 := (MZ.out w' h).2.2.1.rd
      rw [htl] at h2
      exact haKept_more b tl _ _ w' (by have := hb.1.1; omega) (by rw [← htl]; omega) (by have := hb.1.2.2.1; omega) h2 (HRB.out _ (MZ.out w' h).2.1)
    have hq9 : 1 ≤ q ∧ q ≤ 506 := ⟨t8, t9⟩
    have MC : Hid (∀ w', Below W3.heap.size W3 w' → Below w.heap.size w w' ∧ Below w1.heap.size w1 w' ∧ Blk w' bb 29 [.slice a1 n1 c1, .slice a2 n2 c2, .slice a3 n3 c3] ∧ Blk w' (bb + 1) 33 [.int .i64 sa, .int .i64 sp, .int .i64 50, .int .i64 dp, .int .i64 sq, .int .i64 ak, .string d] ∧ Blk w' bx 29 [.slice x1 m1 k1, .slice x2 m2 k2, .slice x3 m3 k3] ∧ Blk w' (bx + 1) 33 [.int .i64 50, .int .i64 q, .int .i64 ta, .int .i64 tp, .int .i64 sq, .int .i64 ak, .string d]) := fun w' h => by
      obtain ⟨e1, d1, fx, kb, ks, kx, kg⟩ := MZ.out w' h
      exact ⟨BW1.out _ e1, d1, kb, ks, kx, kg⟩
    clear hgen IM2 TF2 hsz hwf2 hm2 hl6 htl hes hq t1 t2 t3 t4 t5 t6 t7 t8 t9 hb h6 hne2 MZ hE hS hI hp0 h0 HB HBO HMZ HM3 HN2 BW1 HV1 HRB HSo
    obtain ⟨e1, d1, kb, ks, kx, kg⟩ := MC.out _ D5.out
    obtain ⟨⟨p0, p1, p2⟩, -⟩ := three_all kb
    obtain ⟨⟨q0, q1, q2, q3, q4, q5, q6⟩, -⟩ := seven_partsG ks
    clear kb ks kx kg e1
    go_wp2_with fail
    (go_at_call 12; refine (HME.out _ d1).mono ?_; rintro e w6 ⟨rfl, b6⟩)
    have D6 : Hid (Below W3.heap.size W3 w6) := D5.out.trans (b6.mono D5.out.size)
    clear b6 HME D5 d1 p0 p1 p2 q0 q1 q2 q3 q4 q5 q6
    go_upto_region 11 with fail
    have D7 : Hid (Below W3.heap.size W3 (w6.alloc (.cells #[.int .i64 ta, .int .i64 tp] 31))) := D6.out.alloc D6.out.size _
    have E7 : Hid (Blk (w6.alloc (.cells #[.int .i64 ta, .int .i64 tp] 31)) w6.heap.size 31 [.int .i64 ta, .int .i64 tp]) := heap_at _ _ _ rfl
    obtain ⟨W6, hW6⟩ : ∃ W, W = w6.alloc (.cells #[.int .i64 ta, .int .i64 tp] 31) := ⟨_, rfl⟩
    rw [← hW6] at D7 E7 ⊢
    obtain ⟨be, hbe⟩ : ∃ b, b = w6.heap.size := ⟨_, rfl⟩
    rw [← hbe] at E7 ⊢
    clear hW6 D6 hbe
    have mk : Hid (∀ w', Below W6.heap.size W6 w' → Below W6.heap.size W6 w' ∧ ((w'.cell? ⟨bb, 0, none⟩ = some (.slice a1 n1 c1) ∧ w'.cell? ⟨bb, 1, none⟩ = some (.slice a2 n2 c2) ∧ w'.cell? ⟨bb, 2, none⟩ = some (.slice a3 n3 c3)) ∧ (w'.cell? ⟨bx, 0, none⟩ = some (.slice x1 m1 k1) ∧ w'.cell? ⟨bx, 1, none⟩ = some (.slice x2 m2 k2) ∧ w'.cell? ⟨bx, 2, none⟩ = some (.slice x3 m3 k3)) ∧ (w'.cell? ⟨bb + 1, 0, none⟩ = some (.int .i64 sa) ∧ w'.cell? ⟨bb + 1, 1, none⟩ = some (.int .i64 sp) ∧ w'.cell? ⟨bb + 1, 3, none⟩ = some (.int .i64 dp) ∧ w'.cell? ⟨bb + 1, 6, none⟩ = some (.string d)) ∧ (w'.cell? ⟨bx + 1, 0, none⟩ = some (.int .i64 50) ∧ w'.cell? ⟨bx + 1, 1, none⟩ = some (.int .i64 q) ∧ w'.cell? ⟨bx + 1, 2, none⟩ = some (.int .i64 ta) ∧ w'.cell? ⟨bx + 1, 3, none⟩ = some (.int .i64 tp) ∧ w'.cell? ⟨bx + 1, 6, none⟩ = some (.string d)) ∧ w'.cell? ⟨be, 0, none⟩ = some (.int .i64 ta) ∧ w'.cell? ⟨be, 1, none⟩ = some (.int .i64 tp))) := fun w' h => by
      obtain ⟨-, -, kb, ks, kx, kg⟩ := MC.out w' (D7.out.trans (h.mono D7.out.size))
      obtain ⟨⟨p0, p1, p2⟩, -⟩ := three_all kb
      obtain ⟨⟨x0c, x1c, x2c⟩, -⟩ := three_all kx
      obtain ⟨⟨q0, q1, q2, q3, q4, q5, q6⟩, -⟩ := seven_partsG ks
      obtain ⟨⟨s0, s1, s2, s3, s4, s5, s6⟩, -⟩ := seven_partsG kg
      have k := E7.out.below h
      exact ⟨h, ⟨p0, p1, p2⟩, ⟨x0c, x1c, x2c⟩, ⟨q0, q1, q3, q6⟩, ⟨s0, s1, s2, s3, s6⟩, (k.cell 0 _ rfl).1, (k.cell 1 _ rfl).1⟩
    have hM := mk.out _ (Below.refl _ _)
    have HD : Hid (∀ w', Below W6.heap.size W6 w' → Below W3.heap.size W3 w') := fun w' h => D7.out.trans (h.mono D7.out.size)
    obtain ⟨-, ⟨p0, p1, p2⟩, ⟨x0c, x1c, x2c⟩, ⟨q0, q1, q3, q6⟩, ⟨s0, s1, s2, s3, s6⟩, e0, e1⟩ := id hM
    go_upto_region 13 with fail
    go_cut [155] (fun s wx => s = .bool false ∧ Below W6.heap.size W6 wx)
    case first =>
      go_region_held3 (fun w' => Below W6.heap.size W6 w' ∧ ((w'.cell? ⟨bb, 0, none⟩ = some (.slice a1 n1 c1) ∧ w'.cell? ⟨bb, 1, none⟩ = some (.slice a2 n2 c2) ∧ w'.cell? ⟨bb, 2, none⟩ = some (.slice a3 n3 c3)) ∧ (w'.cell? ⟨bx, 0, none⟩ = some (.slice x1 m1 k1) ∧ w'.cell? ⟨bx, 1, none⟩ = some (.slice x2 m2 k2) ∧ w'.cell? ⟨bx, 2, none⟩ = some (.slice x3 m3 k3)) ∧ (w'.cell? ⟨bb + 1, 0, none⟩ = some (.int .i64 sa) ∧ w'.cell? ⟨bb + 1, 1, none⟩ = some (.int .i64 sp) ∧ w'.cell? ⟨bb + 1, 3, none⟩ = some (.int .i64 dp) ∧ w'.cell? ⟨bb + 1, 6, none⟩ = some (.string d)) ∧ (w'.cell? ⟨bx + 1, 0, none⟩ = some (.int .i64 50) ∧ w'.cell? ⟨bx + 1, 1, none⟩ = some (.int .i64 q) ∧ w'.cell? ⟨bx + 1, 2, none⟩ = some (.int .i64 ta) ∧ w'.cell? ⟨bx + 1, 3, none⟩ = some (.int .i64 tp) ∧ w'.cell? ⟨bx + 1, 6, none⟩ = some (.string d)) ∧ w'.cell? ⟨be, 0, none⟩ = some (.int .i64 ta) ∧ w'.cell? ⟨be, 1, none⟩ = some (.int .i64 tp)))
        (first
          | exact mk.out _ (Below.refl _ _).drew
          | exact mk.out _ cc
          | exact mk.out _ cc.drew
          | assumption
          | (trace_state; fail))
        (first
          | (go_at_call 15; have hS := (by assumption : Below W6.heap.size W6 _ ∧ _); refine (HMP.out _ (HD.out _ hS.1)).mono ?_; rintro e wA ⟨rfl, bA⟩; have cc : Below W6.heap.size W6 wA := hS.1.trans (bA.mono hS.1.size); clear bA)
          | (go_at_call 16; have hS := (by assumption : Below W6.heap.size W6 _ ∧ _); refine (HBk.out _ (HD.out _ hS.1)).mono ?_; rintro e wA ⟨rfl, bA⟩; have cc : Below W6.heap.size W6 wA := hS.1.trans (bA.mono hS.1.size); clear bA)
          | (go_at_call 17; have hS := (by assumption : Below W6.heap.size W6 _ ∧ _); refine (HKp.out _ (HD.out _ hS.1)).mono ?_; rintro e wA ⟨rfl, bA⟩; have cc : Below W6.heap.size W6 wA := hS.1.trans (bA.mono hS.1.size); clear bA))
      all_goals (go_wp2_with fail; go_meet)
      all_goals first
        | exact ⟨rfl, cc⟩
        | (trace_state; fail)
    case rest =>
      obtain ⟨rfl, c8⟩ := hcut
      have D8 := Lib.hid (HD.out _ c8)
      clear p0 p1 p2 x0c x1c x2c q0 q1 q3 q6 s0 s1 s2 s3 s6 e0 e1 hM
      obtain ⟨-, -, ⟨x0c, x1c, x2c⟩, ⟨q0, q1, q3, q6⟩, ⟨s0, s1, s2, s3, s6⟩, e0, e1⟩ := mk.out _ c8
      clear c8 mk HMP HBk HKp HD
      go_wp2_with fail
      (go_at_call 7; refine (HI2.out _ D8.out).mono ?_; rintro e w9 ⟨uz, rfl, fz, b9⟩)
      obtain ⟨j1, l1', j2, l2', j3, l3', rfl⟩ := fz.form
      have D9 := Lib.hid (D8.out.trans (b9.mono D8.out.size))
      clear b9 fz x0c x1c x2c q0 q1 q3 q6 s0 s1 s2 s3 s6 e0 e1 HI2
      obtain ⟨i1, i2, i3, i4⟩ := HR.out
      subst i1 i2 i3 i4
      have MD : Hid (∀ w', Below w9.heap.size w9 w' → Below w.heap.size w w' ∧ Blk w' (bb + 1) 33 [.int .i64 r2, .int .i64 r3, .int .i64 50, .int .i64 r1, .int .i64 sq, .int .i64 ak, .string d]) := fun w' h => by
        obtain ⟨-, -, -, ks, -, -⟩ := MC.out w' (D9.out.trans (h.mono D9.out.size))
        exact ⟨(MC.out w' (D9.out.trans (h.mono D9.out.size))).1, ks⟩
      obtain ⟨o1, ho1⟩ : ∃ n, n = ub2.rs.length := ⟨_, rfl⟩
      obtain ⟨o2, ho2⟩ : ∃ n, n = ub2.es.length := ⟨_, rfl⟩
      obtain ⟨o3, ho3⟩ : ∃ n, n = ub2.cs.length := ⟨_, rfl⟩
      rw [← ho1, ← ho2, ← ho3]
      clear ho1 ho2 ho3 z1' z2' z3' MC D7 E7 D8 D9 HR i0 i1 i2 i3 i4 i5 i6 i7
      have MA := Lib.hid (two_laid w9 [.slice j1 o1 l1', .slice j2 o2 l2', .slice j3 o3 l3'] [.int .i64 r0, .int .i64 r1, .int .i64 r2, .int .i64 r3, .int .i64 r4, .int .i64 r5, .string rd] 29 33)
      go_upto_region 16 with fail
      obtain ⟨W9, hW9⟩ : ∃ W, W = (w9.alloc (.cells #[.slice j1 o1 l1', .slice j2 o2 l2', .slice j3 o3 l3'] 29)).alloc (.cells #[.int .i64 r0, .int .i64 r1, .int .i64 r2, .int .i64 r3, .int .i64 r4, .int .i64 r5, .string rd] 33) := ⟨_, rfl⟩
      rw [← hW9]
      have M9 : Hid (∀ w', Below W9.heap.size W9 w' → Below w9.heap.size w9 w' ∧ Blk w' w9.heap.size 29 [.slice j1 o1 l1', .slice j2 o2 l2', .slice j3 o3 l3'] ∧ Blk w' (w9.heap.size + 1) 33 [.int .i64 r0, .int .i64 r1, .int .i64 r2, .int .i64 r3, .int .i64 r4, .int .i64 r5, .string rd]) := by rw [hW9]; exact MA.out
      obtain ⟨f1, -, kf⟩ := M9.out _ (Below.refl _ _)
      obtain ⟨bw9, ks⟩ := MD.out _ f1
      obtain ⟨⟨s0, s1, s2, s3, s4, s5, s6⟩, -⟩ := seven_partsG kf
      obtain ⟨⟨q0, q1, q2, q3, q4, q5, q6⟩, -⟩ := seven_partsG ks
      clear hW9 MA M9 MD f1 kf ks
      go_wp2_with fail
      go_ret
      exact ⟨by simp, bw9⟩

set_option maxRecDepth 100000 in
set_option maxHeartbeats 800000 in
theorem lwBoxTurn_any (ao : Option Addr) (n cap : Nat) (w : World) (h : BytesIn w ao n) (hn : n ≤ cap) (hv : VarsOk w) (htb : TabOk w) :
    Calls Tryz.prog 3 #[.slice ao n cap] w fun e w' => e = .returned (.bool true) ∧ Below w.heap.size w w' := by
  by_cases hb1 : 1048576 < n
  · clear h
    go_enter Tryz.func3, Tryz.ntmps3
    go_wp2_with fail
    go_ret
    exact ⟨rfl, Below.refl _ _⟩
  · exact lwBoxTurn_of ao n cap w h hn hv htb hb1

end Go.Proofs.YtgfkiljkpkfapaaGreatDoor
