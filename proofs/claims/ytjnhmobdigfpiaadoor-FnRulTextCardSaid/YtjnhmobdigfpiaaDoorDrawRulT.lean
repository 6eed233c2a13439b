/- The rule that is drawn for the law on texts of rules: some rule. Condition: the code lies in memory. -/
import Derived.Test.YtjnhmobdigfpiaaDoorDrawRul
namespace Go.Proofs.YtjnhmobdigfpiaaDoor
open Go.RowKit

set_option maxRecDepth 100000 in
set_option maxHeartbeats 1600000 in
theorem drawRulText_any (ao : Option Addr) (n cap : Nat) (w : World) (h : BytesIn w ao n) (hn : n ≤ cap) :
    Calls Tryd.prog 16 #[.slice ao n cap] w fun e w' => ∃ (al : Bool) (i it o ot p pt : Int), e = .returned (.agg #[.bool al, .int .i64 i, .int .i64 it, .int .i64 o, .int .i64 ot, .int .i64 p, .int .i64 pt]) ∧ Below w.heap.size w w' := by
  have H := Lib.hid h
  clear h
  go_enter Tryd.func16, Tryd.ntmps16
  go_wp2_with fail
  (go_at_call 25; refine (open_any ao n cap _ (H.out.below ((Below.refl _ _).alloc (Nat.le_refl _) _)) hn).mono ?_; rintro e w1 ⟨R, rfl, hR, b1, r1⟩)
  have s1 := b1.size
  have A1 := (at7_new w (.bool false) (.int .i64 0) (.int .i64 0) (.int .i64 0) (.int .i64 0) (.int .i64 0) (.int .i64 0) 37).below b1
  simp only [World.size_alloc] at s1 hR r1
  have R1 := Lib.hid r1
  have B1 := Lib.hid b1
  have A1 := Lib.hid A1
  clear r1 b1
  go_wp2_with fail
  (go_at_call 38; refine (rule_any 4 (w.heap.size + 1) R 0 _ R1.out (by omega) (by omega) (by omega)).mono ?_; rintro e w2 ⟨al, i, it, o, ot, p, pt, rfl, g2, r2⟩)
  have BA : Hid (Below w.heap.size w w2) := ((Below.refl _ w).alloc (Nat.le_refl _) _).trans ((B1.out.mono (by simp)).grown g2 (by omega) (fun k e => by cases e; omega))
  have A2 := A1.out.grown g2 (by omega)
  have A3 := Lib.hid (A2.all (.bool al) (.int .i64 i) (.int .i64 it) (.int .i64 o) (.int .i64 ot) (.int .i64 p) (.int .i64 pt))
  obtain ⟨uz, ⟨c0, c1, c2, c3, c4, c5, c6⟩, f0, f1, f2, f3, f4, f5, f6⟩ := A2
  clear g2 r2
  go_wp2_with fail
  obtain ⟨_, ⟨q0, q1, q2, q3, q4, q5, q6⟩, _⟩ := A3.out
  refine bodyPost_ret (v := .agg #[.bool al, .int .i64 i, .int .i64 it, .int .i64 o, .int .i64 ot, .int .i64 p, .int .i64 pt]) (by simp [results, Tryd.results16, go_sem, q0, q1, q2, q3, q4, q5, q6]) rfl ⟨_, _, _, _, _, _, _, rfl, ?_⟩
  exact ((((((BA.out.setCell (Nat.le_refl _) _).setCell (Nat.le_refl _) _).setCell (Nat.le_refl _) _).setCell (Nat.le_refl _) _).setCell (Nat.le_refl _) _).setCell (Nat.le_refl _) _).setCell (Nat.le_refl _) _

end Go.Proofs.YtjnhmobdigfpiaaDoor
