/- EndText of the specification: address and port in decimals, a space between; nothing of what is no end. No condition. -/
import Derived.Test.YtglpijjkihpeeaaGreatDoorPlain
import Derived.Test.YtglpijjkihpeeaaGreatDoorEnd
import Derived.Lib.QuietBelow
namespace Go.Proofs.YtglpijjkihpeeaaGreatDoor
open Go.RowKit Go.Sort

/-- The text of an end, as bytes. -/
def endL (a p : Nat) : List UInt8 := Lib.decDigits a ++ 32 :: Lib.decDigits p
theorem text_cat (x y : List UInt8) : (⟨x.toArray⟩ : ByteArray) ++ ⟨#[32]⟩ ++ ⟨y.toArray⟩ = ⟨(x ++ 32 :: y).toArray⟩ := by
  apply ByteArray.ext; simp
theorem end_bounds {a p : Int} (h : endB a p = true) : 1 ≤ a ∧ a ≤ 109 ∧ 1 ≤ p ∧ p ≤ 999 := by
  simp [endB, insB, outB, boxB, inB] at h; omega

set_option maxRecDepth 100000 in
set_option maxHeartbeats 400000 in
theorem specText_no (a p : Int) (w : World) (h : endB a p = false) :
    Calls Tryz.prog 190 #[.agg #[.int .i64 a, .int .i64 p]] w fun e w' => e = .returned (.string ⟨#[]⟩) ∧ Below w.heap.size w w' := by
  go_enter Tryz.func190, Tryz.ntmps190
  go_wp2_with (go_at_call 110; refine (specOk_any _ _ _).mono ?_; rintro e w1 ⟨rfl, b1⟩)
  go_ret
  exact ⟨rfl, below_box b1⟩

set_option maxRecDepth 100000 in
set_option maxHeartbeats 400000 in
theorem specText_yes (a p : Nat) (w : World) (h : endB a p = true) :
    Calls Tryz.prog 190 #[.agg #[.int .i64 a, .int .i64 p]] w fun e w' => e = .returned (.string ⟨(endL a p).toArray⟩) ∧ Below w.heap.size w w' := by
  obtain ⟨h1, h2, h3, h4⟩ := end_bounds h
  have la := dec_len a
  have lp := dec_len p
  have n1 : ¬ 9223372036854775807 < (Lib.decDigits a).length + 1 := by omega
  have n2 : ¬ 9223372036854775807 < (Lib.decDigits a).length + 1 + (Lib.decDigits p).length := by omega
  clear la lp
  go_enter Tryz.func190, Tryz.ntmps190
  go_wp2_with (go_at_call 110; refine (specOk_any _ _ _).mono ?_; rintro e w1 ⟨rfl, b1⟩)
  have s1 : w.heap.size < w1.heap.size := by (have := b1.size; simp at this; omega)
  have k0 := cell_regrown (show w1.cell? ⟨w.heap.size, 0, none⟩ = some (.int .i64 a) by rw [b1.cell (by simp)]; simp)
  have k1 := cell_regrown (show w1.cell? ⟨w.heap.size, 1, none⟩ = some (.int .i64 p) by rw [b1.cell (by simp)]; simp)
  have cN : ∀ (k : Nat) (hk : k ≤ 1000) d os, Calls Tryz.prog 198 #[.int .i64 (k : Int)] (grow (redrawn w1 d) os) fun e w'' => e = .returned (.string ⟨(Lib.decDigits k).toArray⟩) ∧ ∃ p : Regrown, w'' = grow (redrawn w1 p.d) p.os := fun k hk d os => Calls.regrown_of (specPlain_any k _ (by omega))
  refine wp_region_quiet_below (by kernel_rfl) (by kernel_rfl) ?_
  repeat (quiet_step (exact cN _ (by omega) _ _))
  refine wpQuiet_nil ?_
  intro _ hw'
  obtain ⟨⟨dq, osq⟩, hw''⟩ := hw'
  subst hw''
  go_wp2
  go_ret
  exact ⟨by rw [text_cat]; rfl, (below_box b1).trans ((below_regrown w1 dq osq).mono (by omega))⟩

/-- The text of an end, or of what is none. -/
def etL (a p : Int) : List UInt8 := if endB a p = true then endL a.toNat p.toNat else []
theorem etL_yes {a p : Int} (h : endB a p = true) : etL a p = endL a.toNat p.toNat := if_pos h
theorem etL_no {a p : Int} (h : endB a p = false) : etL a p = [] := if_neg (by simp [h])
theorem etL_len (a p : Int) : (etL a p).length ≤ 20 := by
  unfold etL
  split
  · rename_i h
    obtain ⟨h1, h2, h3, h4⟩ := end_bounds h
    have l1 := dec_len4 (k := a.toNat) (by omega)
    have l2 := dec_len4 (k := p.toNat) (by omega)
    simp [endL]; omega
  · simp
theorem specText_all (a p : Int) (w : World) :
    Calls Tryz.prog 190 #[.agg #[.int .i64 a, .int .i64 p]] w fun e w' => e = .returned (.string ⟨(etL a p).toArray⟩) ∧ Below w.heap.size w w' := by
  by_cases h : endB a p = true
  · obtain ⟨h1, h2, h3, h4⟩ := end_bounds h
    obtain ⟨m, rfl⟩ := Int.eq_ofNat_of_zero_le (show 0 ≤ a by omega)
    obtain ⟨n, rfl⟩ := Int.eq_ofNat_of_zero_le (show 0 ≤ p by omega)
    rw [etL_yes h]; exact specText_yes m n w h
  · rw [etL_no (by simpa using h)]; exact specText_no a p w (by simpa using h)

end Go.Proofs.YtglpijjkihpeeaaGreatDoor
