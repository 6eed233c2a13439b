/- DskTable of the program: the lines of a table. Conditions: the table has at most 2^22 ends, whose numbers are numbers; the library's table of powers of ten holds what it is laid with. -/
import Derived.Test.YtilfpefccklebaaDoorTabL
import Derived.Test.YtilfpefccklebaaDoorText
import Derived.Test.YtilfpefccklebaaDoorIMapO
import Derived.Test.YtilfpefccklebaaDoorIMapE
import Derived.Test.YtilfpefccklebaaDoorAppW
import Derived.Test.YtilfpefccklebaaDoorAt7
import Derived.Deep.RegionHeld3
import Derived.Deep.RegionWith
import Derived.Deep.DeepCutAuto
namespace Go.Proofs.YtilfpefccklebaaDoor
open Go.RowKit

theorem news_one (W : World) (s : ByteArray) (t : TypeId) : ∀ j u, ([.string s] : List Value)[j]? = some u → (W.alloc (.cells #[.string s] t)).cell? ((⟨W.heap.size, 0, none⟩ : Addr).add j) = some u := by
  intro j u hj
  match j, hj with
  | 0, hj => simp at hj; subst hj; simp [Addr.add]
theorem gcellR {w w' : World} {row : Option Nat} (hg : w.grownBy w' row) {b : Nat} (hb : b < w.heap.size) (hne : row = some b → False) (i : Nat) : w'.cell? ⟨b, i, none⟩ = w.cell? ⟨b, i, none⟩ := by
  have e := hg.block b hb (fun e => hne e.symm)
  simp [World.cell?, e]
/-- What spaced answers of four words. -/
def SpacedOk : Prop := ∀ (b : Nat) (x1 x2 x3 x4 : List UInt8) (w : World), b < w.heap.size → x1.length + x2.length + x3.length + x4.length ≤ 8388608 → w.cell? ⟨b, 0, none⟩ = some (.string ⟨x1.toArray⟩) → w.cell? ⟨b, 1, none⟩ = some (.string ⟨x2.toArray⟩) → w.cell? ⟨b, 2, none⟩ = some (.string ⟨x3.toArray⟩) → w.cell? ⟨b, 3, none⟩ = some (.string ⟨x4.toArray⟩) →
  Calls Tryd.prog 37 #[.slice (some ⟨b, 0, none⟩) 4 4] w fun e w' => e = .returned (.string ⟨(x1 ++ 32 :: (x2 ++ 32 :: (x3 ++ 32 :: x4))).toArray⟩) ∧ Below w.heap.size w w'
theorem implText_all (a p : Int) (w : World) (ht : TabOk w) :
    Calls Tryd.prog 40 #[.agg #[.int .i64 a, .int .i64 p]] w fun e w' => e = .returned (.string ⟨(etL a p).toArray⟩) ∧ Below w.heap.size w w' := by
  by_cases h : endB a p = true
  · obtain ⟨h1, h2, h3, h4⟩ := end_bounds h
    obtain ⟨m, rfl⟩ := Int.eq_ofNat_of_zero_le (show 0 ≤ a by omega)
    obtain ⟨n, rfl⟩ := Int.eq_ofNat_of_zero_le (show 0 ≤ p by omega)
    rw [etL_yes h]; exact implText_yes m n w h ht
  · rw [etL_no (by simpa using h)]; exact implText_no a p w (by simpa using h)
theorem tabLine_join (k : Nat) (a p : Int) : [112, 111, 114, 116] ++ 32 :: (Lib.decDigits (500 + k) ++ 32 :: ([111, 102] ++ 32 :: etL a p)) = tabLine k (a, p) := by simp [tabLine]

set_option maxRecDepth 100000 in
set_option maxHeartbeats 1600000 in
theorem implDskT_any (v : Value) (es : List (Int × Int)) (w : World) (hn : es.length ≤ 4194304) (hwf : wfE es) (hp : TabOk w) (ht : TabAt w v es) (hJ : SpacedOk) :
    Calls Tryd.prog 14 #[.agg #[v]] w fun e w' => ∃ v', e = .returned v' ∧ w'.ownsRow w.heap.size 9 1 v' (dskL es).length ((dskL es).map strV) ∧ Below w.heap.size w w' := by
  have HM : Hid (∀ w', Below w.heap.size w w' → Calls Tryd.prog 36 #[.agg #[v]] w' fun e w'' => e = .returned (.bool (mapB es)) ∧ Below w'.heap.size w' w'') := fun w' hb => implMapOk_any v es w' hn hwf (ht.below hb)
  have HPort : Hid (∀ a p, (a, p) ∈ es → ∀ w', Below w.heap.size w w' → Calls Tryd.prog 39 #[.agg #[v], .agg #[.int .i64 a, .int .i64 p]] w' fun e w'' => e = .returned (.int .i64 (portI es (a, p))) ∧ Below w'.heap.size w' w'') := fun a p hm w' hb => implMapPort_any v es a p w' hn hwf (hwf _ hm).1 (hwf _ hm).2 (ht.below hb)
  have HTb : Hid (∀ w', Below w.heap.size w w' → TabOk w') := fun w' hb => hp.below hb (Nat.le_refl _)
  have HJ := Lib.hid hJ
  obtain ⟨ad, cap, rfl, hcap, hr⟩ := ht
  have HR := Lib.hid hr
  clear hr hJ hp
  obtain ⟨i0, hi, hz0, hz1, hz2⟩ := info_parts infoStr
  obtain ⟨q, hq⟩ : ∃ q, q = mapB es := ⟨_, rfl⟩
  rw [← hq] at HM
  cases q
  · have hL : dskL es = [] := by unfold dskL; rw [← hq]; rfl
    rw [hL]
    clear hL hq
    go_enter Tryd.func14, Tryd.ntmps14
    go_wp2_with fail
    (go_at_call 36; refine (HM.out _ ((Below.refl _ _).alloc (Nat.le_refl _) _)).mono ?_; rintro e w1 ⟨rfl, b1⟩; have B1 : Hid (Below w.heap.size w w1) := below_box b1; clear b1)
    go_wp2_with fail
    go_ret
    exact ⟨_, rfl, ⟨rfl, .inl ⟨rfl, rfl⟩⟩, B1.out⟩
  · have hL : dskL es = tabLs es es.length := by unfold dskL; rw [← hq]; rfl
    rw [hL, tabLs_len]
    have HQ : Hid (mapB es = true) := hq.symm
    clear hL hq
    go_enter Tryd.func14, Tryd.ntmps14
    go_wp2_with fail
    (go_at_call 36; refine (HM.out _ ((Below.refl _ _).alloc (Nat.le_refl _) _)).mono ?_; rintro e w1 ⟨rfl, b1⟩; have B1 : Hid (Below w.heap.size w w1) := below_box b1; have k1 : w1.cell? ⟨w.heap.size, 0, none⟩ = some (.slice ad es.length cap) := (by rw [b1.cell (by simp)]; simp); clear b1)
    have K1 := Lib.hid k1
    have z1 : w.heap.size < w1.heap.size := World.block_lt_of_cell? _ _ K1.out
    go_wp2_with fail
    clear k1
    go_loopw [3, 12] (fun v i wr => ∃ k : Nat, k ≤ es.length ∧ i = .int .i64 k ∧ wr.ownsRow w1.heap.size 9 1 v k ((tabLs es k).map strV) ∧ Below w1.heap.size w1 wr) (fun _ i _ => es.length - (intOf i).toNat)
    case atStart => exact ⟨0, Nat.zero_le _, rfl, ⟨rfl, .inl ⟨rfl, rfl⟩⟩, Below.refl _ _⟩
    case round =>
      obtain ⟨k, hk, rfl, hown, hb⟩ := hrel
      have HO := Lib.hid hown
      have HB := Lib.hid hb
      have BW : Hid (Below w.heap.size w wr) := B1.out.trans (hb.mono (by omega))
      have kt := (hb.cell (p := ⟨w.heap.size, 0, none⟩) z1).trans K1.out
      have hbs := hb.size
      obtain ⟨av, cv, rfl⟩ := own_form hown
      clear hown hb
      by_cases hlt : k < es.length
      · have hk3 : (k : Int) < (es.length : Int) := by omega
        obtain ⟨g, rfl, hrow⟩ := HR.out (by omega)
        have hgl := hrow.lt (by omega)
        obtain ⟨r0, r1⟩ := hrow k hlt
        obtain ⟨hpt, hins⟩ := port_at HQ.out hlt
        obtain ⟨⟨a, p⟩, hap⟩ : ∃ x, x = es[k] := ⟨_, rfl⟩
        have hmem : (a, p) ∈ es := by rw [hap]; exact List.getElem_mem _
        rw [← hap] at r0 r1 hpt hins
        simp only at r0 r1 hins
        have HTS : Hid (tabLs es (k + 1) = tabLs es k ++ [tabLine k (a, p)]) := by
          show _ = _
          rw [tabLs_snoc, List.getD_eq_getElem?_getD, List.getElem?_eq_getElem hlt, ← hap]; rfl
        have r0 := (BW.out.cell (p := ⟨g, k * 2, none⟩) hgl).trans r0
        have r1 := (BW.out.cell (p := ⟨g, k * 2 + 1, none⟩) hgl).trans r1
        have HP : Hid (∀ w', Below w.heap.size w w' → Calls Tryd.prog 39 #[.agg #[.slice (some ⟨g, 0, none⟩) es.length cap], .agg #[.int .i64 a, .int .i64 p]] w' fun e w'' => e = .returned (.int .i64 ((500 + k : Nat) : Int)) ∧ Below w'.heap.size w' w'') := fun w' hb => by
          have := HPort.out a p hmem w' hb
          rw [hpt] at this
          exact this
        have hl1 := dec_len (500 + k)
        have hl20 := etL_len a p
        obtain ⟨T, hT⟩ : ∃ T, T = tabLine k (a, p) := ⟨_, rfl⟩
        have HSp : Hid (∀ w5 ty, Calls Tryd.prog 37 #[.slice (some ⟨World.heap w5 |>.size, 0, none⟩) 4 4] (w5.alloc (.cells #[.string ⟨#[112, 111, 114, 116]⟩, .string ⟨(Lib.decDigits (500 + k)).toArray⟩, .string ⟨#[111, 102]⟩, .string ⟨(etL a p).toArray⟩] ty)) fun e w'' => e = .returned (.string ⟨T.toArray⟩) ∧ Below (w5.alloc (.cells #[.string ⟨#[112, 111, 114, 116]⟩, .string ⟨(Lib.decDigits (500 + k)).toArray⟩, .string ⟨#[111, 102]⟩, .string ⟨(etL a p).toArray⟩] ty)).heap.size (w5.alloc (.cells #[.string ⟨#[112, 111, 114, 116]⟩, .string ⟨(Lib.decDigits (500 + k)).toArray⟩, .string ⟨#[111, 102]⟩, .string ⟨(etL a p).toArray⟩] ty)) w'') := fun w5 ty => by
          have := HJ.out w5.heap.size [112, 111, 114, 116] (Lib.decDigits (500 + k)) [111, 102] (etL a p) (w5.alloc (.cells #[.string ⟨#[112, 111, 114, 116]⟩, .string ⟨(Lib.decDigits (500 + k)).toArray⟩, .string ⟨#[111, 102]⟩, .string ⟨(etL a p).toArray⟩] ty)) (by simp) (by show 4 + _ + 2 + _ ≤ _; omega) (cell_new _ _ _ 0).1 (cell_new _ _ _ 1).1 (cell_new _ _ _ 2).1 (cell_new _ _ _ 3).1
          rw [tabLine_join, ← hT] at this
          exact this
        rw [← hT] at HTS
        clear hT
        have hl2 := etL_len a p
        have hk5 : (k : Int) ≤ 4194304 := by omega
        have hkc : (k : Int) ≤ (cap : Int) := by have := hcap.1; omega
        have hcz : (es.length : Int) ≤ (cap : Int) := by have := hcap.1; omega
        clear hap hrow hpt
        go_wp2_with fail
        generalize hW0 : World.alloc wr _ = W0
        have sW0 : W0.heap.size = wr.heap.size + 1 := by rw [← hW0]; simp
        have e0 : W0.cell? ⟨wr.heap.size, 0, none⟩ = some (.int .i64 a) := by rw [← hW0]; simp
        have e1 : W0.cell? ⟨wr.heap.size, 1, none⟩ = some (.int .i64 p) := by rw [← hW0]; simp
        have B0 : Below w1.heap.size w1 W0 := by rw [← hW0]; exact HB.out.alloc hbs _
        have R0 : Hid (W0.ownsRow w1.heap.size 9 1 (.slice av k cv) k ((tabLs es k).map strV)) := by rw [← hW0]; exact HO.out.alloc _
        clear hW0 r0 r1 kt
        have mk : Hid (∀ w', Below w1.heap.size w1 w' → w'.cell? ⟨wr.heap.size, 0, none⟩ = some (.int .i64 a) → w'.cell? ⟨wr.heap.size, 1, none⟩ = some (.int .i64 p) → Below w1.heap.size w1 w' ∧ w'.cell? ⟨w.heap.size, 0, none⟩ = some (.slice (some ⟨g, 0, none⟩) es.length cap) ∧ w'.cell? ⟨wr.heap.size, 0, none⟩ = some (.int .i64 a) ∧ w'.cell? ⟨wr.heap.size, 1, none⟩ = some (.int .i64 p)) := fun w' h q0 q1 => ⟨h, (h.cell (p := ⟨w.heap.size, 0, none⟩) z1).trans K1.out, q0, q1⟩
        have mk2 : Hid (∀ w' w'', (Below w1.heap.size w1 w' ∧ w'.cell? ⟨w.heap.size, 0, none⟩ = some (.slice (some ⟨g, 0, none⟩) es.length cap) ∧ w'.cell? ⟨wr.heap.size, 0, none⟩ = some (.int .i64 a) ∧ w'.cell? ⟨wr.heap.size, 1, none⟩ = some (.int .i64 p)) → Below w'.heap.size w' w'' → (Below w1.heap.size w1 w'' ∧ w''.cell? ⟨w.heap.size, 0, none⟩ = some (.slice (some ⟨g, 0, none⟩) es.length cap) ∧ w''.cell? ⟨wr.heap.size, 0, none⟩ = some (.int .i64 a) ∧ w''.cell? ⟨wr.heap.size, 1, none⟩ = some (.int .i64 p))) := fun w' w'' h hb =>
          mk.out w'' (h.1.trans (hb.mono h.1.size)) ((hb.cell (World.block_lt_of_cell? _ _ h.2.2.1)).trans h.2.2.1) ((hb.cell (World.block_lt_of_cell? _ _ h.2.2.2)).trans h.2.2.2)
        have HW : Hid (∀ w', Below w1.heap.size w1 w' → Below w.heap.size w w') := fun w' h => B1.out.trans (h.mono (by omega))
        have hM := mk.out _ B0 e0 e1
        have HM0 := Lib.hid hM
        go_region_held3 (fun w' => Below w1.heap.size w1 w' ∧ w'.cell? ⟨w.heap.size, 0, none⟩ = some (.slice (some ⟨g, 0, none⟩) es.length cap) ∧ w'.cell? ⟨wr.heap.size, 0, none⟩ = some (.int .i64 a) ∧ w'.cell? ⟨wr.heap.size, 1, none⟩ = some (.int .i64 p))
          (first
            | exact mk2.out _ _ HM0.out ((Below.refl _ _).drew)
            | exact cc
            | exact mk2.out _ _ cc ((Below.refl _ _).alloc (Nat.le_refl _) _)
            | (trace_state; fail))
          (first
            | (go_at_call 39; have hS := (by assumption : Below w1.heap.size w1 _ ∧ _); refine (HP.out _ (HW.out _ hS.1)).mono ?_; rintro e w3 ⟨rfl, b3⟩; have cc := mk2.out _ _ hS b3; have RL3 : Hid (w3.ownsRow w1.heap.size 9 1 (.slice av k cv) k ((tabLs es k).map strV)) := own_below (by first | exact R0.out | exact R0.out.drew) b3; clear b3)
            | (go_at_call 38; have hS := (by assumption : Below w1.heap.size w1 _ ∧ _); refine (itoa_any (500 + k) _ (by omega) (HTb.out _ (HW.out _ hS.1))).mono ?_; rintro e w4 ⟨rfl, b4⟩; have cc := mk2.out _ _ hS b4; have RL4 : Hid (w4.ownsRow w1.heap.size 9 1 (.slice av k cv) k ((tabLs es k).map strV)) := own_below RL3.out b4; clear b4)
            | (go_at_call 40; have hS := (by assumption : Below w1.heap.size w1 _ ∧ _); refine (implText_all a p _ (HTb.out _ (HW.out _ hS.1))).mono ?_; rintro e w5 ⟨rfl, b5⟩; have cc := mk2.out _ _ hS b5; have RL5 : Hid (w5.ownsRow w1.heap.size 9 1 (.slice av k cv) k ((tabLs es k).map strV)) := own_below RL4.out b5; clear b5)
            | (go_at_call 37; have hS := (by assumption : Below w1.heap.size w1 _ ∧ _); refine (HSp.out w5 _).mono ?_; rintro e w6 ⟨rfl, b6⟩; have cc := mk2.out _ _ hS b6; have RL6 : Hid (w6.ownsRow w1.heap.size 9 1 (.slice av k cv) k ((tabLs es k).map strV)) := own_below (RL5.out.alloc _) b6; clear b6)
            | (have hS := (by assumption : Below w1.heap.size w1 _ ∧ _); refine step_append_w _ (by rfl) (.tmp 16) (.tmp 25) 32 rfl w1.heap.size 9 i0 (.string ⟨#[]⟩) 1 16 Tryd.underlying32 hi hz0 hz1 hz2 rfl (by decide) (.slice av k cv) k ((tabLs es k).map strV) (by rfl) (RL6.out.alloc _) ⟨w6.heap.size, 0, none⟩ 1 1 [.string ⟨T.toArray⟩] (by rfl) (by rfl) (news_one w6 _ _) (by intro u hu; simp at hu; subst hu; rfl) (by unfold maxLen; omega) (by omega) hS.1.size ?_; intro vN wN hown hgrow; have cn : Below w1.heap.size w1 wN := hS.1.grown hgrow hS.1.size (fun b e => own_ge RL6.out b e); have cc := mk.out wN cn (((gcellR hgrow (World.block_lt_of_cell? _ _ hS.2.2.1) (fun e => Nat.lt_irrefl _ (HO.out.lt _ e).2)) 0).trans hS.2.2.1) (((gcellR hgrow (World.block_lt_of_cell? _ _ hS.2.2.1) (fun e => Nat.lt_irrefl _ (HO.out.lt _ e).2)) 1).trans hS.2.2.2); have RN := Lib.hid hown; clear hown hgrow))
        all_goals
          go_wp2_with fail
          go_roundw
          case rel =>
            refine ⟨k + 1, by omega, by go_num, ?_, cc.1⟩
            rw [HTS.out, List.map_append]
            exact RN.out
          case measure => simp [intOf]; omega
      · have hke : k = es.length := by omega
        subst hke
        go_wp2
        go_ret
        exact ⟨_, rfl, own_base HO.out (by omega), BW.out⟩

end Go.Proofs.YtilfpefccklebaaDoor
