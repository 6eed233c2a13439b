/- The laws' own words on tables of ends: their size, whether two are the same. Condition: at most 2^22 ends. -/
import Derived.Test.YtglpijjkihpeeaaGreatDoorSMap
import Derived.Test.YtglpijjkihpeeaaGreatDoorEqEnd
namespace Go.Proofs.YtglpijjkihpeeaaGreatDoor
open Go.RowKit Go.Sort

theorem lawSzS_any (ad : Option Addr) (n cap : Nat) (left : Int) (w : World) (hn : n ≤ 4611686018427387904) (h0 : 0 ≤ left) (h1 : left ≤ 4194304) :
    Calls Tryz.prog 106 #[.slice ad n cap, .int .i64 left] w fun e w' => e = .returned (.int .i64 (if left < (n : Int) then -1 else left - n)) ∧ w = w' := by
  by_cases h : left < (n : Int)
  all_goals
    go_enter Tryz.func106, Tryz.ntmps106
    go_wp2
    go_ret
    exact ⟨ret_int (by first | rfl | (rw [if_pos h]; rfl) | (rw [if_neg (by omega)]) | (rw [if_neg (by omega)]; rfl)), rfl⟩

theorem lawSz_any (v : Value) (es : List (Int × Int)) (left : Int) (w : World) (hn : es.length ≤ 4611686018427387904) (h0 : 0 ≤ left) (h1 : left ≤ 4194304) (ht : TabAt w v es) :
    Calls Tryz.prog 49 #[.agg #[v], .int .i64 left] w fun e w' => e = .returned (.int .i64 (if left < (es.length : Int) then -1 else left - es.length)) ∧ Below w.heap.size w w' := by
  obtain ⟨ad, cap, rfl, _, _⟩ := ht
  by_cases h : left < (es.length : Int)
  · have hc : ∀ w, Calls Tryz.prog 106 #[.slice ad es.length cap, .int .i64 left] w fun e w' => e = .returned (.int .i64 (-1)) ∧ w = w' := fun w => by
      have := lawSzS_any ad es.length cap left w hn h0 h1
      rwa [if_pos h] at this
    have HC := Lib.hid hc
    clear hc
    rw [if_pos h]
    clear h
    go_enter Tryz.func49, Tryz.ntmps49
    go_wp2_with (go_at_call 106; refine (HC.out _).mono ?_; rintro e w' ⟨rfl, rfl⟩)
    go_ret
    exact ⟨rfl, (Below.refl _ _).alloc (Nat.le_refl _) _⟩
  · obtain ⟨q, hq⟩ : ∃ q : Int, q = left - es.length := ⟨_, rfl⟩
    have hc : ∀ w, Calls Tryz.prog 106 #[.slice ad es.length cap, .int .i64 left] w fun e w' => e = .returned (.int .i64 q) ∧ w = w' := fun w => by
      have := lawSzS_any ad es.length cap left w hn h0 h1
      rwa [if_neg h, ← hq] at this
    have HC := Lib.hid hc
    have h0q : 0 ≤ q := by omega
    clear hc
    rw [if_neg h, ← hq]
    clear h hq
    go_enter Tryz.func49, Tryz.ntmps49
    go_wp2_with (go_at_call 106; refine (HC.out _).mono ?_; rintro e w' ⟨rfl, rfl⟩)
    go_ret
    exact ⟨rfl, (Below.refl _ _).alloc (Nat.le_refl _) _⟩

set_option maxRecDepth 100000 in
set_option maxHeartbeats 800000 in
theorem eqEnds_same (u v : Value) (es : List (Int × Int)) (w : World) (hn : es.length ≤ 4194304) (hu : TabAt w u es) (hv : TabAt w v es) :
    Calls Tryz.prog 81 #[u, v] w fun e w' => e = .returned (.bool true) ∧ Below w.heap.size w w' := by
  obtain ⟨ad, cap, rfl, hcap, hr⟩ := hu
  obtain ⟨bd, cbp, rfl, hcbp, hs⟩ := hv
  have HR := Lib.hid hr
  have HS := Lib.hid hs
  clear hr hs
  go_enter Tryz.func81, Tryz.ntmps81
  go_wp2_with fail
  go_loopw [5] (fun i wr => ∃ k : Nat, k ≤ es.length ∧ i = .int .i64 k ∧ Below w.heap.size w wr) (fun i _ => es.length - (intOf i).toNat)
  case atStart => exact ⟨0, Nat.zero_le _, rfl, Below.refl _ _⟩
  case round =>
    obtain ⟨k, hk, rfl, hb⟩ := hrel
    by_cases hlt : k < es.length
    · obtain ⟨g, rfl, hrow⟩ := HR.out (by omega)
      obtain ⟨g', rfl, hrow'⟩ := HS.out (by omega)
      obtain ⟨r0, r1⟩ := (hrow.below hb (hrow.lt (by omega))) k hlt
      obtain ⟨s0, s1⟩ := (hrow'.below hb (hrow'.lt (by omega))) k hlt
      obtain ⟨⟨a, p⟩, hap⟩ : ∃ x, x = es[k] := ⟨_, rfl⟩
      rw [← hap] at r0 r1 s0 s1
      simp only at r0 r1 s0 s1
      have K0 := cell_regrown r0
      have K1 := cell_regrown r1
      have K2 := cell_regrown s0
      have K3 := cell_regrown s1
      have cE : ∀ d os, Calls Tryz.prog 69 #[.agg #[.int .i64 a, .int .i64 p], .agg #[.int .i64 a, .int .i64 p]] (grow (redrawn wr d) os) fun e w'' => e = .returned (.bool true) ∧ ∃ q : Regrown, w'' = grow (redrawn wr q.d) q.os := fun d os => Calls.regrown_of (eqEnd_same a p _)
      have hk2 : (k : Int) ≤ (cap : Int) := by have := hcap.1; omega
      have hk3 : (k : Int) ≤ (cbp : Int) := by have := hcbp.1; omega
      clear hrow hrow' HR HS hap r0 r1 s0 s1
      go_wp2_with fail
      refine wp_region_quiet_below (by kernel_rfl) (by kernel_rfl) ?_
      repeat (first | go_big_quiet_skip | quiet_step (exact cE _ _))
      refine wpQuiet_nil ?_
      intro _ hw'
      obtain ⟨⟨dq, osq⟩, hw''⟩ := hw'
      subst hw''
      go_wp2
      go_roundw
      case rel => exact ⟨k + 1, by omega, by go_num, hb.trans ((below_regrown wr dq osq).mono hb.size)⟩
      case measure => simp [intOf]; omega
    · go_wp2
      go_ret
      exact ⟨rfl, hb⟩

theorem eqTab_same (u v : Value) (es : List (Int × Int)) (w : World) (hn : es.length ≤ 4194304) (hu : TabAt w u es) (hv : TabAt w v es) :
    Calls Tryz.prog 67 #[.agg #[u], .agg #[v]] w fun e w' => e = .returned (.bool true) ∧ Below w.heap.size w w' := by
  have HU := Lib.hid hu
  have HV := Lib.hid hv
  obtain ⟨ad, cap, rfl, _, _⟩ := hu
  obtain ⟨bd, cbp, rfl, _, _⟩ := hv
  go_enter Tryz.func67, Tryz.ntmps67
  go_wp2_with (go_at_call 81; refine (eqEnds_same _ _ es _ hn (HU.out.below (((Below.refl _ _).alloc (Nat.le_refl _) _).alloc (by simp) _)) (HV.out.below (((Below.refl _ _).alloc (Nat.le_refl _) _).alloc (by simp) _))).mono ?_; rintro e w1 ⟨rfl, b1⟩)
  go_ret
  exact ⟨rfl, (((Below.refl _ _).alloc (Nat.le_refl _) _).alloc (by simp) _).trans (b1.mono (by simp; omega))⟩

end Go.Proofs.YtglpijjkihpeeaaGreatDoor
