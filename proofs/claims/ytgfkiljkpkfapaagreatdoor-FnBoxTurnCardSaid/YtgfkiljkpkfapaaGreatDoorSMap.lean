/- l3Find and MapOk of the specification. Condition: the table has at most 2^22 ends. -/
import Derived.Test.YtgfkiljkpkfapaaGreatDoorTabs
import Derived.Test.YtgfkiljkpkfapaaGreatDoorInside
import Derived.Lib.QuietBelow
namespace Go.Proofs.YtgfkiljkpkfapaaGreatDoor
open Go.RowKit Go.Sort

theorem eqEnds1 : Tryz.prog.stoodInHeld 31 = false := by kernel_rfl
theorem eqEnds2 : Tryz.prog.eqGuardType Tryz.prog.depth 31 = false := by kernel_rfl

set_option maxRecDepth 100000 in
set_option maxHeartbeats 800000 in
theorem specFind_any (v : Value) (es : List (Int × Int)) (a p : Int) (w : World) (hn : es.length ≤ 4194304) (ht : TabAt w v es) :
    Calls Tryz.prog 83 #[.agg #[v], .agg #[.int .i64 a, .int .i64 p]] w fun e w' => e = .returned (.int .i64 (findI es (a, p))) ∧ Below w.heap.size w w' := by
  obtain ⟨ad, cap, rfl, hcap, hr⟩ := ht
  have HR := Lib.hid hr
  clear hr
  go_enter Tryz.func83, Tryz.ntmps83
  go_wp2
  go_loopw [5] (fun i wr => ∃ k : Nat, k ≤ es.length ∧ i = .int .i64 k ∧ (∀ j (hj : j < k) (hl : j < es.length), es[j] ≠ (a, p)) ∧ wr.cell? ⟨w.heap.size, 0, none⟩ = some (.slice ad es.length cap) ∧ wr.cell? ⟨w.heap.size + 1, 0, none⟩ = some (.int .i64 a) ∧ wr.cell? ⟨w.heap.size + 1, 1, none⟩ = some (.int .i64 p) ∧ Below w.heap.size w wr) (fun i _ => es.length - (intOf i).toNat)
  case atStart => exact ⟨0, Nat.zero_le _, rfl, fun j hj => by omega, by simp, by simp, by simp, ((Below.refl _ _).alloc (Nat.le_refl _) _).alloc (by simp) _⟩
  case round =>
    obtain ⟨k, hk, rfl, hd, k0, k1, k2, hb⟩ := hrel
    have HD := Lib.hid hd
    clear hd
    by_cases hlt : k < es.length
    · obtain ⟨g, rfl, hrow⟩ := HR.out (by omega)
      obtain ⟨r0, r1⟩ := (hrow.below hb (hrow.lt (by omega))) k hlt
      obtain ⟨a', ha'⟩ : ∃ x, x = es[k].1 := ⟨_, rfl⟩
      obtain ⟨p', hp'⟩ : ∃ x, x = es[k].2 := ⟨_, rfl⟩
      rw [← ha'] at r0
      rw [← hp'] at r1
      have HA := Lib.hid ha'
      have HP := Lib.hid hp'
      clear ha' hp' hrow HR
      have g1 := eqEnds1
      have g2 := eqEnds2
      by_cases he : a' = a ∧ p' = p
      · obtain ⟨rfl, rfl⟩ := he
        go_wp2_with fail
        go_quiet (fail)
        go_wp2
        go_ret
        refine ⟨ret_int (findI_hit hlt (Prod.ext HA.out.symm HP.out.symm) fun j hj => HD.out j hj (by omega)).symm, ?_⟩
        exact hb.trans ⟨rfl, rfl, rfl, Nat.le_refl _, fun _ _ => rfl⟩
      · have HN : Hid (es[k] ≠ (a, p)) := fun e => he ⟨by rw [HA.out, e], by rw [HP.out, e]⟩
        by_cases h1 : a' = a
        · subst h1
          have h2 : ¬ p' = p := fun e => he ⟨rfl, e⟩
          clear he
          go_wp2_with fail
          go_quiet (fail)
          go_wp2
          go_roundw
          case rel =>
            refine ⟨k + 1, by omega, by go_num, fun j hj hl => ?_, k0, k1, k2, hb.trans ⟨rfl, rfl, rfl, Nat.le_refl _, fun _ _ => rfl⟩⟩
            by_cases hjk : j = k
            · subst hjk; exact HN.out
            · exact HD.out j (by omega) hl
          case measure => simp [intOf]; omega
        · clear he
          go_wp2_with fail
          go_quiet (fail)
          go_wp2
          go_roundw
          case rel =>
            refine ⟨k + 1, by omega, by go_num, fun j hj hl => ?_, k0, k1, k2, hb.trans ⟨rfl, rfl, rfl, Nat.le_refl _, fun _ _ => rfl⟩⟩
            by_cases hjk : j = k
            · subst hjk; exact HN.out
            · exact HD.out j (by omega) hl
          case measure => simp [intOf]; omega
    · go_wp2
      go_ret
      exact ⟨ret_int (findI_miss fun j hj => HD.out j (by omega) hj).symm, hb⟩

set_option maxRecDepth 100000 in
set_option maxHeartbeats 1600000 in
theorem specMapOk_any (v : Value) (es : List (Int × Int)) (w : World) (hn : es.length ≤ 4194304) (ht : TabAt w v es) :
    Calls Tryz.prog 42 #[.agg #[v]] w fun e w' => e = .returned (.bool (mapB es)) ∧ Below w.heap.size w w' := by
  obtain ⟨ad, cap, rfl, hcap, hr⟩ := ht
  have HR := Lib.hid hr
  clear hr
  by_cases h6 : 6 < es.length
  · go_enter Tryz.func42, Tryz.ntmps42
    go_wp2_with fail
    go_ret
    exact ⟨ret_bool (by unfold mapB; rw [decide_eq_false (by omega)]; rfl), (Below.refl _ _).alloc (Nat.le_refl _) _⟩
  · go_enter Tryz.func42, Tryz.ntmps42
    go_wp2_with fail
    go_loopw [3] (fun i wr => ∃ k : Nat, k ≤ es.length ∧ i = .int .i64 k ∧ (∀ j, j < k → mapP es j = true) ∧ wr.cell? ⟨w.heap.size, 0, none⟩ = some (.slice ad es.length cap) ∧ Below w.heap.size w wr) (fun i _ => es.length - (intOf i).toNat)
    case atStart => exact ⟨0, Nat.zero_le _, rfl, fun j hj => by omega, by simp, (Below.refl _ _).alloc (Nat.le_refl _) _⟩
    case round =>
      obtain ⟨k, hk, rfl, hd, k0, hb⟩ := hrel
      have HD := Lib.hid hd
      clear hd
      by_cases hlt : k < es.length
      · obtain ⟨g, rfl, hrow⟩ := HR.out (by omega)
        have hrw : EndsAt wr g es := hrow.below hb (hrow.lt (by omega))
        obtain ⟨r0, r1⟩ := hrw k hlt
        have htab : TabAt wr (.slice (some ⟨g, 0, none⟩) es.length cap) es := ⟨_, cap, rfl, hcap, fun _ => ⟨g, rfl, hrw⟩⟩
        have htk := htab.take (k := k) hk
        obtain ⟨⟨a, p⟩, hap⟩ : ∃ x, x = es[k] := ⟨_, rfl⟩
        rw [← hap] at r0 r1
        simp only at r0 r1
        have hP : Hid (mapP es k = (insB a p && decide (findI (es.take k) (a, p) < 0))) := by
          show mapP es k = _
          unfold mapP; rw [show es.getD k (0, 0) = (a, p) from by simp [List.getD, hlt, ← hap]]
        have K0 := cell_regrown k0
        have K1 := cell_regrown r0
        have K2 := cell_regrown r1
        have cI : ∀ d os, Calls Tryz.prog 14 #[.agg #[.int .i64 a, .int .i64 p]] (grow (redrawn wr d) os) fun e w'' => e = .returned (.bool (insB a p)) ∧ ∃ q : Regrown, w'' = grow (redrawn wr q.d) q.os := fun d os => Calls.regrown_of (specInside_any a p _)
        have cF : ∀ d os, Calls Tryz.prog 83 #[.agg #[.slice (some ⟨g, 0, none⟩) k cap], .agg #[.int .i64 a, .int .i64 p]] (grow (redrawn wr d) os) fun e w'' => e = .returned (.int .i64 (findI (es.take k) (a, p))) ∧ ∃ q : Regrown, w'' = grow (redrawn wr q.d) q.os :=
          fun d os => Calls.regrown_of (specFind_any _ (es.take k) a p _ (by simp; omega) (htk.below (below_regrown wr d os)))
        have hk1 : (0 : Int) ≤ (k : Int) := by omega
        have hk2 : (k : Int) ≤ (cap : Int) := by have := hcap.1; omega
        clear hrow hrw htab htk HR hap r0 r1
        by_cases hin : insB a p = true
        · by_cases hfd : findI (es.take k) (a, p) < 0
          · have hfd' : decide ((0 : Int) ≤ findI (es.take k) (a, p)) = false := by simp; omega
            go_wp2_with fail
            refine wp_region_quiet_below (by kernel_rfl) (by kernel_rfl) ?_
            repeat (first | go_big_quiet_skip | quiet_step (first | exact cI _ _ | exact cF _ _))
            refine wpQuiet_nil ?_
            intro _ hw'
            obtain ⟨⟨dq, osq⟩, hw''⟩ := hw'
            subst hw''
            go_wp2
            go_roundw
            case rel =>
              refine ⟨k + 1, by omega, by go_num, fun j hj => ?_, K0 dq osq, hb.trans ((below_regrown wr dq osq).mono hb.size)⟩
              by_cases hjk : j = k
              · subst hjk; rw [hP.out, hin, decide_eq_true hfd]; rfl
              · exact HD.out j (by omega)
            case measure => simp [intOf]; omega
          · have hfd' : decide ((0 : Int) ≤ findI (es.take k) (a, p)) = true := by simp; omega
            have HB : Hid (mapB es = false) := by
              show (_ && _) = false
              have : (List.range es.length).all (mapP es) = false := by
                rw [List.all_eq_false]; exact ⟨k, by simpa using hlt, by rw [hP.out, decide_eq_false hfd]; simp⟩
              rw [this]; simp
            go_wp2_with fail
            refine wp_region_quiet_below (by kernel_rfl) (by kernel_rfl) ?_
            repeat (first | go_big_quiet_skip | quiet_step (first | exact cI _ _ | exact cF _ _))
            refine wpQuiet_nil ?_
            intro _ hw'
            obtain ⟨⟨dq, osq⟩, hw''⟩ := hw'
            subst hw''
            go_wp2
            go_ret
            exact ⟨ret_bool HB.out.symm, hb.trans ((below_regrown wr dq osq).mono hb.size)⟩
        · have HB : Hid (mapB es = false) := by
            show (_ && _) = false
            have : (List.range es.length).all (mapP es) = false := by
              rw [List.all_eq_false]; exact ⟨k, by simpa using hlt, by rw [hP.out]; simp [hin]⟩
            rw [this]; simp
          have hin' : insB a p = false := by simpa using hin
          clear hin
          go_wp2_with fail
          refine wp_region_quiet_below (by kernel_rfl) (by kernel_rfl) ?_
          repeat (first | go_big_quiet_skip | quiet_step (first | exact cI _ _ | exact cF _ _))
          refine wpQuiet_nil ?_
          intro _ hw'
          obtain ⟨⟨dq, osq⟩, hw''⟩ := hw'
          subst hw''
          go_wp2
          go_ret
          exact ⟨ret_bool HB.out.symm, hb.trans ((below_regrown wr dq osq).mono hb.size)⟩
      · have HB : Hid (mapB es = true) := by
          show (_ && _) = true
          rw [decide_eq_true (by omega), List.all_eq_true.2 (fun j hj => HD.out j (by simp at hj; omega))]; rfl
        go_wp2
        go_ret
        exact ⟨ret_bool HB.out.symm, hb⟩

end Go.Proofs.YtgfkiljkpkfapaaGreatDoor
