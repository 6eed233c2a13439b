/- SegRead of the program, at all bytes that lie from a block's beginning on. Conditions: at most 2^21 bytes; the sentinels that are read are there. -/
import Derived.Test.YtjnhmobdigfpiaaDoorIRead5
import Derived.Test.YtjnhmobdigfpiaaDoorRun5
import Derived.Test.YtjnhmobdigfpiaaDoorSRead5
import Derived.RegionTactic
namespace Go.Proofs.YtjnhmobdigfpiaaDoor
open Go.RowKit

theorem ans5_some {l : List UInt8} {s : Sg} (h : readL l = some s) : rdAns5 l = .tuple #[.agg #[.int .i64 s.sa, .int .i64 s.sp, .int .i64 s.da, .int .i64 s.dp, .int .i64 s.seq, .int .i64 s.ack, .string ⟨s.data.toArray⟩], .bool true] := by
  unfold rdAns5; rw [h]
theorem ans5_no {l : List UInt8} (h : readL l = none) : rdAns5 l = .tuple #[.agg #[.int .i64 0, .int .i64 0, .int .i64 0, .int .i64 0, .int .i64 0, .int .i64 0, .string ⟨#[]⟩], .bool false] := by
  unfold rdAns5; rw [h]

set_option maxRecDepth 100000 in
set_option maxHeartbeats 1600000 in
theorem implRead5_any (g cap : Nat) (l : List UInt8) (w : World) (hn : l.length ≤ 2097152) (hc : l.length ≤ cap) (hv : VarsE w) (hg : g < w.heap.size) (hr : RowAt w g (byV l)) :
    Calls Tryd.prog 15 #[.slice (some ⟨g, 0, none⟩) l.length cap] w fun e w' => e = .returned (rdAns5 l) ∧ Below w.heap.size w w' := by
  have B0 : Hid (Below w.heap.size w (w.alloc (.cells #[.int .i64 0, .int .i64 0, .int .i64 0, .int .i64 0, .int .i64 0, .int .i64 0, .string ⟨#[]⟩] 26))) := (Below.refl _ w).alloc (Nat.le_refl _) _
  have HR := Lib.hid (readSeg_any g cap l (w.alloc (.cells #[.int .i64 0, .int .i64 0, .int .i64 0, .int .i64 0, .int .i64 0, .int .i64 0, .string ⟨#[]⟩] 26)) hn hc (hv.below B0.out) (by simp; omega) (hr.below B0.out hg))
  rcases hb : (runS8 l).2 with _ | _
  · have HA := Lib.hid (ans5_some (run_fwd hb))
    have HQ : Hid (Calls Tryd.prog 37 #[.slice (some ⟨g, 0, none⟩) l.length cap] (w.alloc (.cells #[.int .i64 0, .int .i64 0, .int .i64 0, .int .i64 0, .int .i64 0, .int .i64 0, .string ⟨#[]⟩] 26)) fun e w' => e = .returned (.tuple #[.agg #[.int .i64 (runG l).sa, .int .i64 (runG l).sp, .int .i64 (runG l).da, .int .i64 (runG l).dp, .int .i64 (runG l).seq, .int .i64 (runG l).ack, .string ⟨(runG l).data.toArray⟩], .nilIface]) ∧ Below (w.alloc (.cells #[.int .i64 0, .int .i64 0, .int .i64 0, .int .i64 0, .int .i64 0, .int .i64 0, .string ⟨#[]⟩] 26)).heap.size (w.alloc (.cells #[.int .i64 0, .int .i64 0, .int .i64 0, .int .i64 0, .int .i64 0, .int .i64 0, .string ⟨#[]⟩] 26)) w') := HR.out.mono (fun e w' h => ⟨h.1 hb, h.2.2⟩)
    rw [HA.out]
    obtain ⟨sa, hsa⟩ : ∃ sa, sa = (runG l).sa := ⟨_, rfl⟩
    obtain ⟨sp, hsp⟩ : ∃ sp, sp = (runG l).sp := ⟨_, rfl⟩
    obtain ⟨da, hda⟩ : ∃ da, da = (runG l).da := ⟨_, rfl⟩
    obtain ⟨dp, hdp⟩ : ∃ dp, dp = (runG l).dp := ⟨_, rfl⟩
    obtain ⟨sq, hsq⟩ : ∃ sq, sq = (runG l).seq := ⟨_, rfl⟩
    obtain ⟨ak, hak⟩ : ∃ ak, ak = (runG l).ack := ⟨_, rfl⟩
    obtain ⟨d, hd⟩ : ∃ d : ByteArray, d = ⟨(runG l).data.toArray⟩ := ⟨_, rfl⟩
    rw [← hsa, ← hsp, ← hda, ← hdp, ← hsq, ← hak, ← hd] at HQ ⊢
    clear hsa hsp hda hdp hsq hak hd HA HR hb hr hv hn hc
    go_enter Tryd.func15, Tryd.ntmps15
    go_wp2_with fail
    (go_at_call 37; refine HQ.out.mono ?_; rintro e w1 ⟨rfl, b1⟩)
    obtain ⟨c1, f1⟩ := bcell b1
    have s1 := b1.size
    simp only [World.size_alloc] at s1
    have z1 : w.heap.size < w1.heap.size := by omega
    obtain ⟨x0, x1, x2, x3, x4, x5, x6⟩ := box7_new w (.int .i64 0) (.int .i64 0) (.int .i64 0) (.int .i64 0) (.int .i64 0) (.int .i64 0) (.string ⟨#[]⟩) 26
    obtain ⟨v0, v1, v2, v3, v4, v5, v6⟩ := box7_new w1 (.int .i64 sa) (.int .i64 sp) (.int .i64 da) (.int .i64 dp) (.int .i64 sq) (.int .i64 ak) (.string d) 26
    have k0 : (w1.alloc (.cells #[.int .i64 sa, .int .i64 sp, .int .i64 da, .int .i64 dp, .int .i64 sq, .int .i64 ak, .string d] 26)).cell? ⟨w.heap.size, 0, none⟩ = _ := (cell_alloc_lt z1).trans ((c1 _ _ (by simp)).trans x0)
    have g0 : (w1.alloc (.cells #[.int .i64 sa, .int .i64 sp, .int .i64 da, .int .i64 dp, .int .i64 sq, .int .i64 ak, .string d] 26)).frozen? ⟨w.heap.size, 0, none⟩ = false := (frozen_alloc_lt z1).trans ((f1 _ _ (by simp)).trans (cell_new w _ 26 0).2)
    have k1 : (w1.alloc (.cells #[.int .i64 sa, .int .i64 sp, .int .i64 da, .int .i64 dp, .int .i64 sq, .int .i64 ak, .string d] 26)).cell? ⟨w.heap.size, 1, none⟩ = _ := (cell_alloc_lt z1).trans ((c1 _ _ (by simp)).trans x1)
    have g1 : (w1.alloc (.cells #[.int .i64 sa, .int .i64 sp, .int .i64 da, .int .i64 dp, .int .i64 sq, .int .i64 ak, .string d] 26)).frozen? ⟨w.heap.size, 1, none⟩ = false := (frozen_alloc_lt z1).trans ((f1 _ _ (by simp)).trans (cell_new w _ 26 1).2)
    have k2 : (w1.alloc (.cells #[.int .i64 sa, .int .i64 sp, .int .i64 da, .int .i64 dp, .int .i64 sq, .int .i64 ak, .string d] 26)).cell? ⟨w.heap.size, 2, none⟩ = _ := (cell_alloc_lt z1).trans ((c1 _ _ (by simp)).trans x2)
    have g2 : (w1.alloc (.cells #[.int .i64 sa, .int .i64 sp, .int .i64 da, .int .i64 dp, .int .i64 sq, .int .i64 ak, .string d] 26)).frozen? ⟨w.heap.size, 2, none⟩ = false := (frozen_alloc_lt z1).trans ((f1 _ _ (by simp)).trans (cell_new w _ 26 2).2)
    have k3 : (w1.alloc (.cells #[.int .i64 sa, .int .i64 sp, .int .i64 da, .int .i64 dp, .int .i64 sq, .int .i64 ak, .string d] 26)).cell? ⟨w.heap.size, 3, none⟩ = _ := (cell_alloc_lt z1).trans ((c1 _ _ (by simp)).trans x3)
    have g3 : (w1.alloc (.cells #[.int .i64 sa, .int .i64 sp, .int .i64 da, .int .i64 dp, .int .i64 sq, .int .i64 ak, .string d] 26)).frozen? ⟨w.heap.size, 3, none⟩ = false := (frozen_alloc_lt z1).trans ((f1 _ _ (by simp)).trans (cell_new w _ 26 3).2)
    have k4 : (w1.alloc (.cells #[.int .i64 sa, .int .i64 sp, .int .i64 da, .int .i64 dp, .int .i64 sq, .int .i64 ak, .string d] 26)).cell? ⟨w.heap.size, 4, none⟩ = _ := (cell_alloc_lt z1).trans ((c1 _ _ (by simp)).trans x4)
    have g4 : (w1.alloc (.cells #[.int .i64 sa, .int .i64 sp, .int .i64 da, .int .i64 dp, .int .i64 sq, .int .i64 ak, .string d] 26)).frozen? ⟨w.heap.size, 4, none⟩ = false := (frozen_alloc_lt z1).trans ((f1 _ _ (by simp)).trans (cell_new w _ 26 4).2)
    have k5 : (w1.alloc (.cells #[.int .i64 sa, .int .i64 sp, .int .i64 da, .int .i64 dp, .int .i64 sq, .int .i64 ak, .string d] 26)).cell? ⟨w.heap.size, 5, none⟩ = _ := (cell_alloc_lt z1).trans ((c1 _ _ (by simp)).trans x5)
    have g5 : (w1.alloc (.cells #[.int .i64 sa, .int .i64 sp, .int .i64 da, .int .i64 dp, .int .i64 sq, .int .i64 ak, .string d] 26)).frozen? ⟨w.heap.size, 5, none⟩ = false := (frozen_alloc_lt z1).trans ((f1 _ _ (by simp)).trans (cell_new w _ 26 5).2)
    have k6 : (w1.alloc (.cells #[.int .i64 sa, .int .i64 sp, .int .i64 da, .int .i64 dp, .int .i64 sq, .int .i64 ak, .string d] 26)).cell? ⟨w.heap.size, 6, none⟩ = _ := (cell_alloc_lt z1).trans ((c1 _ _ (by simp)).trans x6)
    have g6 : (w1.alloc (.cells #[.int .i64 sa, .int .i64 sp, .int .i64 da, .int .i64 dp, .int .i64 sq, .int .i64 ak, .string d] 26)).frozen? ⟨w.heap.size, 6, none⟩ = false := (frozen_alloc_lt z1).trans ((f1 _ _ (by simp)).trans (cell_new w _ 26 6).2)
    have BB : Hid (Below w.heap.size w (w1.alloc (.cells #[.int .i64 sa, .int .i64 sp, .int .i64 da, .int .i64 dp, .int .i64 sq, .int .i64 ak, .string d] 26))) := (B0.out.trans (b1.mono (by simp))).alloc (by omega) _
    obtain ⟨W3, hW3⟩ : ∃ W3, W3 = w1.alloc (.cells #[.int .i64 sa, .int .i64 sp, .int .i64 da, .int .i64 dp, .int .i64 sq, .int .i64 ak, .string d] 26) := ⟨_, rfl⟩
    obtain ⟨b4, hb4⟩ : ∃ b4, b4 = w1.heap.size := ⟨_, rfl⟩
    obtain ⟨b2, hb2⟩ : ∃ b2, b2 = w.heap.size := ⟨_, rfl⟩
    rw [← hW3] at v0 k0 g0 v1 k1 g1 v2 k2 g2 v3 k3 g3 v4 k4 g4 v5 k5 g5 v6 k6 g6 BB
    rw [← hb4] at v0 v1 v2 v3 v4 v5 v6
    have hle : w.heap.size ≤ b2 := by omega
    clear x0 x1 x2 x3 x4 x5 x6 b1 c1 f1 HQ s1
    go_wp2_with fail
    rw [← hW3, ← hb4, ← hb2]
    rw [← hb2] at k0 g0 k1 g1 k2 g2 k3 g3 k4 g4 k5 g5 k6 g6
    clear hW3 hb4 hb2 z1 B0
    go_region
    all_goals
      go_wp2_with fail
      obtain ⟨q0, q1, q2, q3, q4, q5, q6⟩ := set_seven (w := W3) (b := b2) (.int .i64 sa) (.int .i64 sp) (.int .i64 da) (.int .i64 dp) (.int .i64 sq) (.int .i64 ak) (.string d) k0 k1 k2 k3 k4 k5 k6
      refine bodyPost_ret (v := .tuple #[.agg #[.int .i64 sa, .int .i64 sp, .int .i64 da, .int .i64 dp, .int .i64 sq, .int .i64 ak, .string d], .bool true]) (by simp [results, Tryd.results15, go_sem, q0, q1, q2, q3, q4, q5, q6]) rfl ⟨rfl, ?_⟩
      exact below_draw 1 (((((((BB.out.setCell hle _).setCell hle _).setCell hle _).setCell hle _).setCell hle _).setCell hle _).setCell hle _)
  · have HA := Lib.hid (ans5_no (l := l) (by
      rcases hx : readL l with _ | s
      · rfl
      · have := run_bwd hx; rw [hb] at this; cases this))
    have HQ : Hid (Calls Tryd.prog 37 #[.slice (some ⟨g, 0, none⟩) l.length cap] (w.alloc (.cells #[.int .i64 0, .int .i64 0, .int .i64 0, .int .i64 0, .int .i64 0, .int .i64 0, .string ⟨#[]⟩] 26)) fun e w' => (∃ t p, e = .returned (.tuple #[.agg #[.int .i64 0, .int .i64 0, .int .i64 0, .int .i64 0, .int .i64 0, .int .i64 0, .string ⟨#[]⟩], .iface t p])) ∧ Below (w.alloc (.cells #[.int .i64 0, .int .i64 0, .int .i64 0, .int .i64 0, .int .i64 0, .int .i64 0, .string ⟨#[]⟩] 26)).heap.size (w.alloc (.cells #[.int .i64 0, .int .i64 0, .int .i64 0, .int .i64 0, .int .i64 0, .int .i64 0, .string ⟨#[]⟩] 26)) w') := HR.out.mono (fun e w' h => ⟨h.2.1 hb, h.2.2⟩)
    rw [HA.out]
    clear HA HR hb hr hv hn hc
    go_enter Tryd.func15, Tryd.ntmps15
    go_wp2_with fail
    (go_at_call 37; refine HQ.out.mono ?_; rintro e w1 ⟨⟨t, p, rfl⟩, b1⟩)
    obtain ⟨c1, f1⟩ := bcell b1
    have s1 := b1.size
    simp only [World.size_alloc] at s1
    have z1 : w.heap.size < w1.heap.size := by omega
    obtain ⟨x0, x1, x2, x3, x4, x5, x6⟩ := box7_new w (.int .i64 0) (.int .i64 0) (.int .i64 0) (.int .i64 0) (.int .i64 0) (.int .i64 0) (.string ⟨#[]⟩) 26
    obtain ⟨v0, v1, v2, v3, v4, v5, v6⟩ := box7_new w1 (.int .i64 0) (.int .i64 0) (.int .i64 0) (.int .i64 0) (.int .i64 0) (.int .i64 0) (.string ⟨#[]⟩) 26
    have k0 : (w1.alloc (.cells #[.int .i64 0, .int .i64 0, .int .i64 0, .int .i64 0, .int .i64 0, .int .i64 0, .string ⟨#[]⟩] 26)).cell? ⟨w.heap.size, 0, none⟩ = _ := (cell_alloc_lt z1).trans ((c1 _ _ (by simp)).trans x0)
    have g0 : (w1.alloc (.cells #[.int .i64 0, .int .i64 0, .int .i64 0, .int .i64 0, .int .i64 0, .int .i64 0, .string ⟨#[]⟩] 26)).frozen? ⟨w.heap.size, 0, none⟩ = false := (frozen_alloc_lt z1).trans ((f1 _ _ (by simp)).trans (cell_new w _ 26 0).2)
    have k1 : (w1.alloc (.cells #[.int .i64 0, .int .i64 0, .int .i64 0, .int .i64 0, .int .i64 0, .int .i64 0, .string ⟨#[]⟩] 26)).cell? ⟨w.heap.size, 1, none⟩ = _ := (cell_alloc_lt z1).trans ((c1 _ _ (by simp)).trans x1)
    have g1 : (w1.alloc (.cells #[.int .i64 0, .int .i64 0, .int .i64 0, .int .i64 0, .int .i64 0, .int .i64 0, .string ⟨#[]⟩] 26)).frozen? ⟨w.heap.size, 1, none⟩ = false := (frozen_alloc_lt z1).trans ((f1 _ _ (by simp)).trans (cell_new w _ 26 1).2)
    have k2 : (w1.alloc (.cells #[.int .i64 0, .int .i64 0, .int .i64 0, .int .i64 0, .int .i64 0, .int .i64 0, .string ⟨#[]⟩] 26)).cell? ⟨w.heap.size, 2, none⟩ = _ := (cell_alloc_lt z1).trans ((c1 _ _ (by simp)).trans x2)
    have g2 : (w1.alloc (.cells #[.int .i64 0, .int .i64 0, .int .i64 0, .int .i64 0, .int .i64 0, .int .i64 0, .string ⟨#[]⟩] 26)).frozen? ⟨w.heap.size, 2, none⟩ = false := (frozen_alloc_lt z1).trans ((f1 _ _ (by simp)).trans (cell_new w _ 26 2).2)
    have k3 : (w1.alloc (.cells #[.int .i64 0, .int .i64 0, .int .i64 0, .int .i64 0, .int .i64 0, .int .i64 0, .string ⟨#[]⟩] 26)).cell? ⟨w.heap.size, 3, none⟩ = _ := (cell_alloc_lt z1).trans ((c1 _ _ (by simp)).trans x3)
    have g3 : (w1.alloc (.cells #[.int .i64 0, .int .i64 0, .int .i64 0, .int .i64 0, .int .i64 0, .int .i64 0, .string ⟨#[]⟩] 26)).frozen? ⟨w.heap.size, 3, none⟩ = false := (frozen_alloc_lt z1).trans ((f1 _ _ (by simp)).trans (cell_new w _ 26 3).2)
    have k4 : (w1.alloc (.cells #[.int .i64 0, .int .i64 0, .int .i64 0, .int .i64 0, .int .i64 0, .int .i64 0, .string ⟨#[]⟩] 26)).cell? ⟨w.heap.size, 4, none⟩ = _ := (cell_alloc_lt z1).trans ((c1 _ _ (by simp)).trans x4)
    have g4 : (w1.alloc (.cells #[.int .i64 0, .int .i64 0, .int .i64 0, .int .i64 0, .int .i64 0, .int .i64 0, .string ⟨#[]⟩] 26)).frozen? ⟨w.heap.size, 4, none⟩ = false := (frozen_alloc_lt z1).trans ((f1 _ _ (by simp)).trans (cell_new w _ 26 4).2)
    have k5 : (w1.alloc (.cells #[.int .i64 0, .int .i64 0, .int .i64 0, .int .i64 0, .int .i64 0, .int .i64 0, .string ⟨#[]⟩] 26)).cell? ⟨w.heap.size, 5, none⟩ = _ := (cell_alloc_lt z1).trans ((c1 _ _ (by simp)).trans x5)
    have g5 : (w1.alloc (.cells #[.int .i64 0, .int .i64 0, .int .i64 0, .int .i64 0, .int .i64 0, .int .i64 0, .string ⟨#[]⟩] 26)).frozen? ⟨w.heap.size, 5, none⟩ = false := (frozen_alloc_lt z1).trans ((f1 _ _ (by simp)).trans (cell_new w _ 26 5).2)
    have k6 : (w1.alloc (.cells #[.int .i64 0, .int .i64 0, .int .i64 0, .int .i64 0, .int .i64 0, .int .i64 0, .string ⟨#[]⟩] 26)).cell? ⟨w.heap.size, 6, none⟩ = _ := (cell_alloc_lt z1).trans ((c1 _ _ (by simp)).trans x6)
    have g6 : (w1.alloc (.cells #[.int .i64 0, .int .i64 0, .int .i64 0, .int .i64 0, .int .i64 0, .int .i64 0, .string ⟨#[]⟩] 26)).frozen? ⟨w.heap.size, 6, none⟩ = false := (frozen_alloc_lt z1).trans ((f1 _ _ (by simp)).trans (cell_new w _ 26 6).2)
    have BB : Hid (Below w.heap.size w (w1.alloc (.cells #[.int .i64 0, .int .i64 0, .int .i64 0, .int .i64 0, .int .i64 0, .int .i64 0, .string ⟨#[]⟩] 26))) := (B0.out.trans (b1.mono (by simp))).alloc (by omega) _
    obtain ⟨W3, hW3⟩ : ∃ W3, W3 = w1.alloc (.cells #[.int .i64 0, .int .i64 0, .int .i64 0, .int .i64 0, .int .i64 0, .int .i64 0, .string ⟨#[]⟩] 26) := ⟨_, rfl⟩
    obtain ⟨b4, hb4⟩ : ∃ b4, b4 = w1.heap.size := ⟨_, rfl⟩
    obtain ⟨b2, hb2⟩ : ∃ b2, b2 = w.heap.size := ⟨_, rfl⟩
    rw [← hW3] at v0 k0 g0 v1 k1 g1 v2 k2 g2 v3 k3 g3 v4 k4 g4 v5 k5 g5 v6 k6 g6 BB
    rw [← hb4] at v0 v1 v2 v3 v4 v5 v6
    have hle : w.heap.size ≤ b2 := by omega
    clear x0 x1 x2 x3 x4 x5 x6 b1 c1 f1 HQ s1
    go_wp2_with fail
    rw [← hW3, ← hb4, ← hb2]
    rw [← hb2] at k0 g0 k1 g1 k2 g2 k3 g3 k4 g4 k5 g5 k6 g6
    clear hW3 hb4 hb2 z1 B0
    go_region
    all_goals
      go_wp2_with fail
      obtain ⟨q0, q1, q2, q3, q4, q5, q6⟩ := set_seven (w := W3) (b := b2) (.int .i64 0) (.int .i64 0) (.int .i64 0) (.int .i64 0) (.int .i64 0) (.int .i64 0) (.string ⟨#[]⟩) k0 k1 k2 k3 k4 k5 k6
      refine bodyPost_ret (v := .tuple #[.agg #[.int .i64 0, .int .i64 0, .int .i64 0, .int .i64 0, .int .i64 0, .int .i64 0, .string ⟨#[]⟩], .bool false]) (by simp [results, Tryd.results15, go_sem, q0, q1, q2, q3, q4, q5, q6]) rfl ⟨rfl, ?_⟩
      exact below_draw 1 (((((((BB.out.setCell hle _).setCell hle _).setCell hle _).setCell hle _).setCell hle _).setCell hle _).setCell hle _)

end Go.Proofs.YtjnhmobdigfpiaaDoor
