/- DskTable of the specification: the lines of a table. Condition: the table has at most 2^22 ends. -/
import Derived.Test.YtilfpefccklebaaDoorTabL
import Derived.Test.YtilfpefccklebaaDoorPlain
import Derived.Test.YtilfpefccklebaaDoorAppW
import Derived.Test.YtilfpefccklebaaDoorAt7
import Derived.Deep.RegionHeld3
import Derived.Deep.RegionWith
import Derived.Deep.DeepCutAuto
namespace Go.Proofs.YtilfpefccklebaaDoor
open Go.RowKit

set_option maxRecDepth 100000 in
set_option maxHeartbeats 1600000 in
theorem specDskT_any (v : Value) (es : List (Int × Int)) (w : World) (hn : es.length ≤ 4194304) (ht : TabAt w v es) :
    Calls Tryd.prog 12 #[.agg #[v]] w fun e w' => ∃ v', e = .returned v' ∧ w'.ownsRow w.heap.size 9 1 v' (dskL es).length ((dskL es).map strV) ∧ Below w.heap.size w w' := by
  have HM : Hid (∀ w', Below w.heap.size w w' → Calls Tryd.prog 24 #[.agg #[v]] w' fun e w'' => e = .returned (.bool (mapB es)) ∧ Below w'.heap.size w' w'') := fun w' hb => specMapOk_any v es w' hn (ht.below hb)
  have HT := Lib.hid ht
  obtain ⟨ad, cap, rfl, hcap, hr⟩ := ht
  have HR := Lib.hid hr
  clear hr
  obtain ⟨i0, hi, hz0, hz1, hz2⟩ := info_parts infoStr
  obtain ⟨q, hq⟩ : ∃ q, q = mapB es := ⟨_, rfl⟩
  rw [← hq] at HM
  cases q
  · have hL : dskL es = [] := by unfold dskL; rw [← hq]; rfl
    rw [hL]
    clear hL hq
    go_enter Tryd.func12, Tryd.ntmps12
    go_wp2_with fail
    have OW : ((w.alloc (.cells #[.slice ad es.length cap] 36)).alloc (.cells #[] 9)).ownsRow (w.heap.size + 1) 9 1 (.slice (some ⟨w.heap.size + 1, 0, none⟩) 0 0) 0 [] := by
      have := World.ownsRow_made (w.alloc (.cells #[.slice ad es.length cap] 36)) (base := w.heap.size + 1) (e := 9) (size := 1) #[] 0 (by simp) (Nat.zero_le _) rfl
      simpa using this
    (go_at_call 24; refine (HM.out _ (((Below.refl _ _).alloc (Nat.le_refl _) _).alloc (by simp) _)).mono ?_; rintro e w1 ⟨rfl, b1⟩; have O1 := Lib.hid (own_below OW b1); have B1 : Hid (Below w.heap.size w w1) := (((Below.refl _ w).alloc (Nat.le_refl _) _).alloc (by simp) _).trans (b1.mono (by simp; omega)); clear b1 OW)
    go_wp2_with fail
    go_ret
    exact ⟨_, rfl, own_base O1.out (by omega), B1.out⟩
  · have hL : dskL es = tabLs es es.length := by unfold dskL; rw [← hq]; rfl
    rw [hL, tabLs_len]
    clear hL hq
    go_enter Tryd.func12, Tryd.ntmps12
    go_wp2_with fail
    have OW : ((w.alloc (.cells #[.slice ad es.length cap] 36)).alloc (.cells #[] 9)).ownsRow (w.heap.size + 1) 9 1 (.slice (some ⟨w.heap.size + 1, 0, none⟩) 0 0) 0 [] := by
      have := World.ownsRow_made (w.alloc (.cells #[.slice ad es.length cap] 36)) (base := w.heap.size + 1) (e := 9) (size := 1) #[] 0 (by simp) (Nat.zero_le _) rfl
      simpa using this
    (go_at_call 24; refine (HM.out _ (((Below.refl _ _).alloc (Nat.le_refl _) _).alloc (by simp) _)).mono ?_; rintro e w1 ⟨rfl, b1⟩; have O1 := Lib.hid (own_below OW b1); have B1 : Hid (Below w.heap.size w w1) := (((Below.refl _ w).alloc (Nat.le_refl _) _).alloc (by simp) _).trans (b1.mono (by simp; omega)); have k1 : w1.cell? ⟨w.heap.size, 0, none⟩ = some (.slice ad es.length cap) := (by rw [b1.cell (by simp; omega)]; simp); clear b1 OW)
    have K1 := Lib.hid k1
    clear k1
    have z1 : w.heap.size < w1.heap.size := World.block_lt_of_cell? _ _ K1.out
    go_wp2_with fail
    go_loopw [3, 4] (fun v i wr => ∃ k : Nat, k ≤ es.length ∧ i = .int .i64 k ∧ wr.ownsRow (w.heap.size + 1) 9 1 v k ((tabLs es k).map strV) ∧ Below (w.heap.size + 1) w1 wr) (fun _ i _ => es.length - (intOf i).toNat)
    case atStart => exact ⟨0, Nat.zero_le _, rfl, O1.out, Below.refl _ _⟩
    case round =>
      obtain ⟨k, hk, rfl, hown, hb⟩ := hrel
      have HO := Lib.hid hown
      have HB := Lib.hid hb
      have kt : wr.cell? ⟨w.heap.size, 0, none⟩ = some (.slice ad es.length cap) := (hb.cell (p := ⟨w.heap.size, 0, none⟩) (by simp)).trans K1.out
      have BW : Hid (Below w.heap.size w wr) := B1.out.trans (hb.mono (by omega))
      obtain ⟨av, cv, rfl⟩ := own_form hown
      clear hown hb
      by_cases hlt : k < es.length
      · have hk3 : (k : Int) < (es.length : Int) := by omega
        obtain ⟨g, rfl, hrow⟩ := HR.out (by omega)
        have hgl := hrow.lt (by omega)
        obtain ⟨r0, r1⟩ := hrow k hlt
        obtain ⟨⟨a, p⟩, hap⟩ : ∃ x, x = es[k] := ⟨_, rfl⟩
        rw [← hap] at r0 r1
        simp only at r0 r1
        have HTS : Hid (tabLs es (k + 1) = tabLs es k ++ [tabLine k (a, p)]) := by
          show _ = _
          rw [tabLs_snoc, List.getD_eq_getElem?_getD, List.getElem?_eq_getElem hlt, ← hap]; rfl
        have mk : Hid (∀ w', Below (w.heap.size + 1) w1 w' → Below (w.heap.size + 1) w1 w' ∧ w'.cell? ⟨w.heap.size, 0, none⟩ = some (.slice (some ⟨g, 0, none⟩) es.length cap) ∧ w'.cell? ⟨g, k * 2, none⟩ = some (.int .i64 a) ∧ w'.cell? ⟨g, k * 2 + 1, none⟩ = some (.int .i64 p)) := fun w' h => by
          have hW : Below w.heap.size w w' := B1.out.trans (h.mono (by omega))
          exact ⟨h, (h.cell (p := ⟨w.heap.size, 0, none⟩) (by simp)).trans K1.out, (hW.cell (p := ⟨g, k * 2, none⟩) hgl).trans r0, (hW.cell (p := ⟨g, k * 2 + 1, none⟩) hgl).trans r1⟩
        have hM := mk.out _ HB.out
        have HP : Hid (∀ w', Calls Tryd.prog 33 #[.int .i64 (IntKind.wrap .i64 (500 + (k : Int)))] w' fun e w'' => e = .returned (.string ⟨(Lib.decDigits (500 + k)).toArray⟩) ∧ Below w'.heap.size w' w'') := fun w' => by
          have := specPlain_any (500 + k) w' (by omega)
          rw [IntWalk.i64_in (500 + (k : Int)) (by omega), ← show ((500 + k : Nat) : Int) = 500 + (k : Int) by omega]
          exact this
        have hl1 := dec_len (500 + k)
        have hl2 := etL_len a p
        have n1 : ¬ 9223372036854775807 < 5 + (Lib.decDigits (500 + k)).length := by omega
        have n2 : ¬ 9223372036854775807 < 5 + (Lib.decDigits (500 + k)).length + 4 := by omega
        have n3 : ¬ 9223372036854775807 < 5 + (Lib.decDigits (500 + k)).length + 4 + (etL a p).length := by omega
        have RL := HO
        have hk5 : (k : Int) ≤ 4194304 := by omega
        have hkc : (k : Int) ≤ (cap : Int) := by have := hcap.1; omega
        have zs0 : w.heap.size + 1 ≤ wr.heap.size := by have := HB.out.size; omega
        clear hap r0 r1 hrow hl1 hl2 kt
        obtain ⟨kM, mM0, mM1, mM2⟩ := hM
        go_wp2_with fail
        go_region_held3 (fun w' => Below (w.heap.size + 1) w1 w' ∧ w'.cell? ⟨w.heap.size, 0, none⟩ = some (.slice (some ⟨g, 0, none⟩) es.length cap) ∧ w'.cell? ⟨g, k * 2, none⟩ = some (.int .i64 a) ∧ w'.cell? ⟨g, k * 2 + 1, none⟩ = some (.int .i64 p))
          (first
            | exact mk.out _ (HB.out.trans ((Below.refl _ _).drew))
            | exact mk.out _ cc
            | exact mk.out _ (cc.alloc (by have := cc.size; omega) _)
            | (trace_state; fail))
          (first
            | (go_at_call 33; have hS := (by assumption : Below (w.heap.size + 1) w1 _ ∧ _); refine (HP.out _).mono ?_; rintro e w3 ⟨rfl, b3⟩; have cc : Below (w.heap.size + 1) w1 w3 := hS.1.trans (b3.mono (by have := hS.1.size; omega)); have RL3 : Hid (w3.ownsRow (w.heap.size + 1) 9 1 (.slice av k cv) k ((tabLs es k).map strV)) := own_below (by first | exact RL.out | exact RL.out.drew) b3; clear b3)
            | (go_at_call 34; have hS := (by assumption : Below (w.heap.size + 1) w1 _ ∧ _); refine (specText_all a p _).mono ?_; rintro e w4 ⟨rfl, b4⟩; have cc : Below (w.heap.size + 1) w1 w4 := hS.1.trans (b4.mono (by have := hS.1.size; omega)); have RL4 : Hid (w4.ownsRow (w.heap.size + 1) 9 1 (.slice av k cv) k ((tabLs es k).map strV)) := own_below RL3.out b4; clear b4)
            | (have hS := (by assumption : Below (w.heap.size + 1) w1 _ ∧ _); refine step_append_w _ (by rfl) (.tmp 17) (.tmp 30) 32 rfl (w.heap.size + 1) 9 i0 (.string ⟨#[]⟩) 1 16 Tryd.underlying32 hi hz0 hz1 hz2 rfl (by decide) (.slice av k cv) k ((tabLs es k).map strV) (by rfl) (RL4.out.alloc _) ⟨w4.heap.size, 0, none⟩ 1 1 [.string (⟨#[112, 111, 114, 116, 32]⟩ ++ ⟨(Lib.decDigits (500 + k)).toArray⟩ ++ ⟨#[32, 111, 102, 32]⟩ ++ ⟨(etL a p).toArray⟩)] (by rfl) (by rfl) (by intro j u hj; match j, hj with | 0, hj => (simp at hj; subst hj; simp [Addr.add])) (by intro u hu; simp at hu; subst hu; rfl) (by unfold maxLen; omega) (by omega) (by have := hS.1.size; omega) ?_; intro vN wN hown hgrow; have cc : Below (w.heap.size + 1) w1 wN := hS.1.grown hgrow (by have := hS.1.size; omega) (fun b e => own_ge RL4.out b e); have RN := Lib.hid hown; clear hown hgrow))
        all_goals
          go_wp2_with fail
          go_roundw
          case rel =>
            refine ⟨k + 1, by omega, by go_num, ?_, cc⟩
            rw [HTS.out, List.map_append]
            have := RN.out
            rw [tabLine_cat] at this
            exact this
          case measure => simp [intOf]; omega
      · have hke : k = es.length := by omega
        subst hke
        go_wp2
        go_ret
        exact ⟨_, rfl, own_base HO.out (by omega), BW.out⟩

end Go.Proofs.YtilfpefccklebaaDoor
