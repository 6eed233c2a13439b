/- The law that a table has a line for each end: at every two codes. Conditions: the codes lie in memory; the library's table of powers of ten holds what it is laid with. (Several texts, joined: IMapO2, IMapO3, IMapO, IMapE, IDskT, Join4, LwDskTable.) -/
import Derived.Test.YtilfpefccklebaaDoorIPorts
import Derived.Deep.RegionHeld3
import Derived.Lib.QuietBelow
import Derived.Test.YtilfpefccklebaaDoorIMapO1
import Derived.Deep.RegionWith
import Derived.Test.YtilfpefccklebaaDoorTabL
import Derived.Test.YtilfpefccklebaaDoorText
import Derived.Test.YtilfpefccklebaaDoorAppW
import Derived.Test.YtilfpefccklebaaDoorAt7
import Derived.Deep.DeepCutAuto
import Derived.Test.YtilfpefccklebaaDoorShelf
import Derived.Shelf.Strings.OnBuilder
import Derived.Test.YtilfpefccklebaaDoorDrawDskT
import Derived.Test.YtilfpefccklebaaDoorHaOk
import Derived.Test.YtilfpefccklebaaDoorHaTab
import Derived.Test.YtilfpefccklebaaDoorTabJ
import Derived.Test.YtilfpefccklebaaDoorSDskT

/- The program's MapOk answers as the document says. Conditions: at most 2^22 ends; all numbers are ints. -/
namespace Go.Proofs.YtilfpefccklebaaDoor
open Go.RowKit Go.Sort

set_option maxRecDepth 100000 in
set_option maxHeartbeats 3200000 in
theorem implMapOk_all (v : Value) (es : List (Int × Int)) (w : World) (hn : es.length ≤ 4194304) (hwf : wfE es) (ht : TabAt w v es) (h6 : ¬ 6 < es.length) (hin : es.all (fun e => insB e.1 e.2) = true) :
    Calls Tryd.prog 36 #[.agg #[v]] w fun e w' => e = .returned (.bool (mapB es)) ∧ Below w.heap.size w w' := by
  have HT := Lib.hid ht
  obtain ⟨ad, cap, rfl, _, _⟩ := ht
  have h66 : decide ((es.length : Int) ≤ 6) = true := by simp; omega
  have HA : ∀ b, es.all (fun e => insB e.1 e.2) = b → Hid (∀ w, TabAt w (.slice ad es.length cap) es → Calls Tryd.prog 58 #[.slice ad es.length cap] w fun e w' => e = .returned (.bool b) ∧ Below w.heap.size w w') := fun b hb w h => by rw [← hb]; exact allInside_any _ es w hn h
  obtain ⟨W0, hW0⟩ : ∃ W0, W0 = w.alloc (.cells #[.slice ad es.length cap] 36) := ⟨_, rfl⟩
  have t0 : W0.cell? ⟨w.heap.size, 0, none⟩ = some (.slice ad es.length cap) := by rw [hW0]; exact (cell_new w _ _ 0).1
  have B0 : Hid (Below w.heap.size w W0) := by rw [hW0]; exact (Below.refl _ _).alloc (Nat.le_refl _) _
  have z0 : W0.heap.size = w.heap.size + 1 := by rw [hW0]; simp
  have HT0 := Lib.hid (HT.out.below B0.out)
  have HA := HA true hin
  obtain ⟨n, hnn⟩ : ∃ n, n = (valsL es).length := ⟨_, rfl⟩
  have HB : Hid (mapB es = ((n : Int) == (es.length : Int))) := by
    show mapB es = _
    rw [mapB_vals, hin, decide_eq_true (by omega), ← hnn, Bool.eq_iff_iff]
    simp
    omega
  have HP : Hid (∀ w, TabAt w (.slice ad es.length cap) es → Calls Tryd.prog 59 #[.agg #[.slice ad es.length cap]] w fun e w' => ∃ g1 g2, e = .returned (.agg #[.map (some g1), .map (some g2)]) ∧ w.heap.size ≤ g1 ∧ w.heap.size ≤ g2 ∧ Both w' g1 g2 es ∧ Below w.heap.size w w') := fun w h => portsOf_any _ es w hn hwf h
  have HS : Hid (∀ g1 g2 w, Both w g1 g2 es → Calls Tryd.prog 60 #[.agg #[.map (some g1), .map (some g2)]] w fun e w' => e = .returned (.int .i64 (n : Int)) ∧ Below w.heap.size w w') := fun g1 g2 w h => by rw [hnn]; exact size_any g1 g2 es w h
  rw [HB.out]
  clear hwf HT hin hnn HB hn
  go_enter Tryd.func36, Tryd.ntmps36
  go_wp2_with fail
  rw [← hW0]
  clear hW0
  have mk : Hid (∀ w', Below W0.heap.size W0 w' → w'.cell? ⟨w.heap.size, 0, none⟩ = some (.slice ad es.length cap) ∧ Below W0.heap.size W0 w') := fun w' h => ⟨by rw [h.cell (by simp; omega)]; exact t0, h⟩
  clear t0
  go_region_held3 (fun w' => w'.cell? ⟨w.heap.size, 0, none⟩ = some (.slice ad es.length cap) ∧ Below W0.heap.size W0 w') (first | exact mk.out _ (Below.refl _ _).drew | exact mk.out _ cc)
    (first
      | (go_at_call 58; refine (HA.out _ (HT0.out.below (Below.refl _ _).drew)).mono ?_; rintro e wN ⟨rfl, bN⟩; have cc : Below W0.heap.size W0 wN := ((Below.refl _ _).drew).trans bN)
      | (go_at_call 59; refine (HP.out _ (HT0.out.below cc)).mono ?_; rintro e wP ⟨g1, g2, rfl, _, _, hb, bN⟩; have HBo := Lib.hid hb; have cc : Below W0.heap.size W0 wP := cc.trans (bN.mono cc.size); clear hb)
      | (go_at_call 60; refine (HS.out _ _ _ HBo.out).mono ?_; rintro e wQ ⟨rfl, bN⟩; have cc : Below W0.heap.size W0 wQ := cc.trans (bN.mono cc.size)))
  all_goals
    go_wp2_with fail
    go_ret
    exact ⟨rfl, B0.out.trans (cc.mono (by omega))⟩

end Go.Proofs.YtilfpefccklebaaDoor

/- The program's MapOk answers as the document says. Conditions: at most 2^22 ends; all numbers are ints. -/
namespace Go.Proofs.YtilfpefccklebaaDoor
open Go.RowKit Go.Sort

set_option maxRecDepth 100000 in
set_option maxHeartbeats 3200000 in
theorem implMapOk_not (v : Value) (es : List (Int × Int)) (w : World) (hn : es.length ≤ 4194304) (ht : TabAt w v es) (h6 : ¬ 6 < es.length) (hin : ¬ es.all (fun e => insB e.1 e.2) = true) :
    Calls Tryd.prog 36 #[.agg #[v]] w fun e w' => e = .returned (.bool (mapB es)) ∧ Below w.heap.size w w' := by
  have HT := Lib.hid ht
  obtain ⟨ad, cap, rfl, _, _⟩ := ht
  have h66 : decide ((es.length : Int) ≤ 6) = true := by simp; omega
  have HA : ∀ b, es.all (fun e => insB e.1 e.2) = b → Hid (∀ w, TabAt w (.slice ad es.length cap) es → Calls Tryd.prog 58 #[.slice ad es.length cap] w fun e w' => e = .returned (.bool b) ∧ Below w.heap.size w w') := fun b hb w h => by rw [← hb]; exact allInside_any _ es w hn h
  obtain ⟨W0, hW0⟩ : ∃ W0, W0 = w.alloc (.cells #[.slice ad es.length cap] 36) := ⟨_, rfl⟩
  have t0 : W0.cell? ⟨w.heap.size, 0, none⟩ = some (.slice ad es.length cap) := by rw [hW0]; exact (cell_new w _ _ 0).1
  have B0 : Hid (Below w.heap.size w W0) := by rw [hW0]; exact (Below.refl _ _).alloc (Nat.le_refl _) _
  have z0 : W0.heap.size = w.heap.size + 1 := by rw [hW0]; simp
  have HT0 := Lib.hid (HT.out.below B0.out)
  have hin' : es.all (fun e => insB e.1 e.2) = false := by simpa using hin
  have HA := HA false hin'
  have HB : Hid (mapB es = false) := by
    show mapB es = false
    rw [mapB_vals, hin']
    simp
  rw [HB.out]
  clear HT hin hin' HB hn
  go_enter Tryd.func36, Tryd.ntmps36
  go_wp2_with fail
  rw [← hW0]
  clear hW0
  have K0 := cell_regrown t0
  have cA : ∀ d os, Calls Tryd.prog 58 #[.slice ad es.length cap] (grow (redrawn W0 d) os) fun e w'' => e = .returned (.bool false) ∧ ∃ q : Regrown, w'' = grow (redrawn W0 q.d) q.os := fun d os => Calls.regrown_of (HA.out _ (HT0.out.below (below_regrown W0 d os)))
  clear t0
  refine wp_region_quiet_below (by kernel_rfl) (by kernel_rfl) ?_
  repeat (first | go_big_quiet_skip | quiet_step (exact cA _ _))
  refine wpQuiet_nil ?_
  intro _ hw'
  obtain ⟨⟨dq, osq⟩, hw''⟩ := hw'
  subst hw''
  go_wp2_with fail
  go_ret
  exact ⟨rfl, B0.out.trans ((below_regrown W0 dq osq).mono (by omega))⟩

end Go.Proofs.YtilfpefccklebaaDoor

/- The program's MapOk answers as the document says. Conditions: at most 2^22 ends; all numbers are ints. -/
namespace Go.Proofs.YtilfpefccklebaaDoor
open Go.RowKit

theorem implMapOk_any (v : Value) (es : List (Int × Int)) (w : World) (hn : es.length ≤ 4194304) (hwf : wfE es) (ht : TabAt w v es) :
    Calls Tryd.prog 36 #[.agg #[v]] w fun e w' => e = .returned (.bool (mapB es)) ∧ Below w.heap.size w w' := by
  by_cases h6 : 6 < es.length
  · exact implMapOk_big v es w ht h6
  · by_cases hin : es.all (fun e => insB e.1 e.2) = true
    · exact implMapOk_all v es w hn hwf ht h6 hin
    · exact implMapOk_not v es w hn ht h6 hin

end Go.Proofs.YtilfpefccklebaaDoor

/- The program's MapEnd and MapPort answer as the document says. Conditions: at most 2^22 ends; all numbers are ints. -/
namespace Go.Proofs.YtilfpefccklebaaDoor
open Go.RowKit Go.Sort

theorem endV_form' (x : Option (Int × Int)) : ∃ (a p : Int) (b : Bool), endV x = .tuple #[.agg #[.int .i64 a, .int .i64 p], .bool b] := by
  rcases x with _ | ⟨a, p⟩
  · exact ⟨0, 0, false, rfl⟩
  · exact ⟨a, p, true, rfl⟩

set_option maxRecDepth 100000 in
set_option maxHeartbeats 1600000 in
theorem implMapPort_any (v : Value) (es : List (Int × Int)) (a p : Int) (w : World) (hn : es.length ≤ 4194304) (hwf : wfE es) (wa : (Lit.int .i64 a).wf = true) (wp : (Lit.int .i64 p).wf = true) (ht : TabAt w v es) :
    Calls Tryd.prog 39 #[.agg #[v], .agg #[.int .i64 a, .int .i64 p]] w fun e w' => e = .returned (.int .i64 (portI es (a, p))) ∧ Below w.heap.size w w' := by
  have HT := Lib.hid ht
  obtain ⟨ad, cap, rfl, _, _⟩ := ht
  have HP : Hid (∀ w, TabAt w (.slice ad es.length cap) es → Calls Tryd.prog 59 #[.agg #[.slice ad es.length cap]] w fun e w' => ∃ g1 g2, e = .returned (.agg #[.map (some g1), .map (some g2)]) ∧ w.heap.size ≤ g1 ∧ w.heap.size ≤ g2 ∧ Both w' g1 g2 es ∧ Below w.heap.size w w') := fun w h => portsOf_any _ es w hn hwf h
  obtain ⟨q, hq⟩ : ∃ q, q = portI es (a, p) := ⟨_, rfl⟩
  obtain ⟨b, hbb⟩ : ∃ b, b = decide ((a, p) ∈ es) := ⟨_, rfl⟩
  have HV : Hid (∀ g1 g2 w, Both w g1 g2 es → Calls Tryd.prog 63 #[.agg #[.map (some g1), .map (some g2)], .agg #[.int .i64 a, .int .i64 p]] w fun e w' => e = .returned (.tuple #[.int .i64 q, .bool b]) ∧ Below w.heap.size w w') := fun g1 g2 w h => by rw [hq, hbb]; exact value_any g1 g2 es a p w h wa wp
  rw [← hq]
  clear hwf wa wp hq hn hbb
  go_enter Tryd.func39, Tryd.ntmps39
  go_wp2_with fail
  obtain ⟨W0, hW0⟩ : ∃ W0, W0 = (w.alloc (.cells #[.slice ad es.length cap] 36)).alloc (.cells #[.int .i64 a, .int .i64 p] 66) := ⟨_, rfl⟩
  have t0 : W0.cell? ⟨w.heap.size, 0, none⟩ = some (.slice ad es.length cap) := by rw [hW0, cell_alloc_lt (by simp)]; exact (cell_new w _ _ 0).1
  have e0 : W0.cell? ⟨w.heap.size + 1, 0, none⟩ = some (.int .i64 a) := by rw [hW0]; simp
  have e1 : W0.cell? ⟨w.heap.size + 1, 1, none⟩ = some (.int .i64 p) := by rw [hW0]; simp
  have B0 : Hid (Below w.heap.size w W0) := by rw [hW0]; exact ((Below.refl _ _).alloc (Nat.le_refl _) _).alloc (by simp) _
  have z0 : W0.heap.size = w.heap.size + 2 := by rw [hW0]; simp
  rw [← hW0]
  clear hW0
  have HT0 := Lib.hid (HT.out.below B0.out)
  go_region_with (first
    | (go_at_call 59; refine (HP.out _ (HT0.out.below ((Below.refl _ _).drew))).mono ?_; rintro e w1 ⟨g1, g2, rfl, _, _, hb, b1⟩; have HB := Lib.hid hb; have b1 : Below W0.heap.size W0 w1 := ((Below.refl _ _).drew).trans b1; have e0 : w1.cell? ⟨w.heap.size + 1, 0, none⟩ = some (.int .i64 a) := (by rw [b1.cell (by simp; omega)]; exact e0); have e1 : w1.cell? ⟨w.heap.size + 1, 1, none⟩ = some (.int .i64 p) := (by rw [b1.cell (by simp; omega)]; exact e1); clear hb)
    | (go_at_call 63; refine (HV.out _ _ _ HB.out).mono ?_; rintro e w2 ⟨rfl, b2⟩; have BW : Hid (Below w.heap.size w w2) := B0.out.trans ((b1.trans (b2.mono b1.size)).mono (by omega))))
  all_goals
    go_wp2_with fail
    go_ret
    exact ⟨rfl, BW.out⟩

end Go.Proofs.YtilfpefccklebaaDoor

/- DskTable of the program: the lines of a table. Conditions: the table has at most 2^22 ends, whose numbers are numbers; the library's table of powers of ten holds what it is laid with. -/
namespace Go.Proofs.YtilfpefccklebaaDoor
open Go.RowKit

theorem news_one (W : World) (s : ByteArray) (t : TypeId) : ∀ j u, ([.string s] : List Value)[j]? = some u → (W.alloc (.cells #[.string s] t)).cell? ((⟨W.heap.size, 0, none⟩ : Addr).add j) = some u := by
  intro j u hj
  match j, hj with
  | 0, hj => simp at hj; subst hj; simp [Addr.add]
theorem gcellR {w w' : World} {row : Option Nat} (hg : w.grownBy w' row) {b : Nat} (hb : b < w.heap.size) (hne : row = some b → False) (i : Nat) : w'.cell? ⟨b, i, none⟩ = w.cell? ⟨b, i, none⟩ := by
  have e := hg.block b hb (fun e => hne e.symm)
  simp [World.cell?, e]
/-- What spaced answers of four words. -/
def SpacedOk : Prop := ∀ (b : Nat) (x1 x2 x3 x4 : List UInt8) (w : World), b < w.heap.size → x1.length + x2.length + x3.length + x4.length ≤ 8388608 → w.cell? ⟨b, 0, none⟩ = some (.string ⟨x1.toArray⟩) → w.cell? ⟨b, 1, none⟩ = some (.string ⟨x2.toArray⟩) → w.cell? ⟨b, 2, none⟩ = some (.string ⟨x3.toArray⟩) → w.cell? ⟨b, 3, none⟩ = some (.string ⟨x4.toArray⟩) →
  Calls Tryd.prog 37 #[.slice (some ⟨b, 0, none⟩) 4 4] w fun e w' => e = .returned (.string ⟨(x1 ++ 32 :: (x2 ++ 32 :: (x3 ++ 32 :: x4))).toArray⟩) ∧ Below w.heap.size w w'
theorem implText_all (a p : Int) (w : World) (ht : TabOk w) :
    Calls Tryd.prog 40 #[.agg #[.int .i64 a, .int .i64 p]] w fun e w' => e = .returned (.string ⟨(etL a p).toArray⟩) ∧ Below w.heap.size w w' := by
  by_cases h : endB a p = true
  · obtain ⟨h1, h2, h3, h4⟩ := end_bounds h
    obtain ⟨m, rfl⟩ := Int.eq_ofNat_of_zero_le (show 0 ≤ a by omega)
    obtain ⟨n, rfl⟩ := Int.eq_ofNat_of_zero_le (show 0 ≤ p by omega)
    rw [etL_yes h]; exact implText_yes m n w h ht
  · rw [etL_no (by simpa using h)]; exact implText_no a p w (by simpa using h)
theorem tabLine_join (k : Nat) (a p : Int) : [112, 111, 114, 116] ++ 32 :: (Lib.decDigits (500 + k) ++ 32 :: ([111, 102] ++ 32 :: etL a p)) = tabLine k (a, p) := by simp [tabLine]

set_option maxRecDepth 100000 in
set_option maxHeartbeats 1600000 in
theorem implDskT_any (v : Value) (es : List (Int × Int)) (w : World) (hn : es.length ≤ 4194304) (hwf : wfE es) (hp : TabOk w) (ht : TabAt w v es) (hJ : SpacedOk) :
    Calls Tryd.prog 14 #[.agg #[v]] w fun e w' => ∃ v', e = .returned v' ∧ w'.ownsRow w.heap.size 9 1 v' (dskL es).length ((dskL es).map strV) ∧ Below w.heap.size w w' := by
  have HM : Hid (∀ w', Below w.heap.size w w' → Calls Tryd.prog 36 #[.agg #[v]] w' fun e w'' => e = .returned (.bool (mapB es)) ∧ Below w'.heap.size w' w'') := fun w' hb => implMapOk_any v es w' hn hwf (ht.below hb)
  have HPort : Hid (∀ a p, (a, p) ∈ es → ∀ w', Below w.heap.size w w' → Calls Tryd.prog 39 #[.agg #[v], .agg #[.int .i64 a, .int .i64 p]] w' fun e w'' => e = .returned (.int .i64 (portI es (a, p))) ∧ Below w'.heap.size w' w'') := fun a p hm w' hb => implMapPort_any v es a p w' hn hwf (hwf _ hm).1 (hwf _ hm).2 (ht.below hb)
  have HTb : Hid (∀ w', Below w.heap.size w w' → TabOk w') := fun w' hb => hp.below hb (Nat.le_refl _)
  have HJ := Lib.hid hJ
  obtain ⟨ad, cap, rfl, hcap, hr⟩ := ht
  have HR := Lib.hid hr
  clear hr hJ hp
  obtain ⟨i0, hi, hz0, hz1, hz2⟩ := info_parts infoStr
  obtain ⟨q, hq⟩ : ∃ q, q = mapB es := ⟨_, rfl⟩
  rw [← hq] at HM
  cases q
  · have hL : dskL es = [] := by unfold dskL; rw [← hq]; rfl
    rw [hL]
    clear hL hq
    go_enter Tryd.func14, Tryd.ntmps14
    go_wp2_with fail
    (go_at_call 36; refine (HM.out _ ((Below.refl _ _).alloc (Nat.le_refl _) _)).mono ?_; rintro e w1 ⟨rfl, b1⟩; have B1 : Hid (Below w.heap.size w w1) := below_box b1; clear b1)
    go_wp2_with fail
    go_ret
    exact ⟨_, rfl, ⟨rfl, .inl ⟨rfl, rfl⟩⟩, B1.out⟩
  · have hL : dskL es = tabLs es es.length := by unfold dskL; rw [← hq]; rfl
    rw [hL, tabLs_len]
    have HQ : Hid (mapB es = true) := hq.symm
    clear hL hq
    go_enter Tryd.func14, Tryd.ntmps14
    go_wp2_with fail
    (go_at_call 36; refine (HM.out _ ((Below.refl _ _).alloc (Nat.le_refl _) _)).mono ?_; rintro e w1 ⟨rfl, b1⟩; have B1 : Hid (Below w.heap.size w w1) := below_box b1; have k1 : w1.cell? ⟨w.heap.size, 0, none⟩ = some (.slice ad es.length cap) := (by rw [b1.cell (by simp)]; simp); clear b1)
    have K1 := Lib.hid k1
    have z1 : w.heap.size < w1.heap.size := World.block_lt_of_cell? _ _ K1.out
    go_wp2_with fail
    clear k1
    go_loopw [3, 12] (fun v i wr => ∃ k : Nat, k ≤ es.length ∧ i = .int .i64 k ∧ wr.ownsRow w1.heap.size 9 1 v k ((tabLs es k).map strV) ∧ Below w1.heap.size w1 wr) (fun _ i _ => es.length - (intOf i).toNat)
    case atStart => exact ⟨0, Nat.zero_le _, rfl, ⟨rfl, .inl ⟨rfl, rfl⟩⟩, Below.refl _ _⟩
    case round =>
      obtain ⟨k, hk, rfl, hown, hb⟩ := hrel
      have HO := Lib.hid hown
      have HB := Lib.hid hb
      have BW : Hid (Below w.heap.size w wr) := B1.out.trans (hb.mono (by omega))
      have kt := (hb.cell (p := ⟨w.heap.size, 0, none⟩) z1).trans K1.out
      have hbs := hb.size
      obtain ⟨av, cv, rfl⟩ := own_form hown
      clear hown hb
      by_cases hlt : k < es.length
      · have hk3 : (k : Int) < (es.length : Int) := by omega
        obtain ⟨g, rfl, hrow⟩ := HR.out (by omega)
        have hgl := hrow.lt (by omega)
        obtain ⟨r0, r1⟩ := hrow k hlt
        obtain ⟨hpt, hins⟩ := port_at HQ.out hlt
        obtain ⟨⟨a, p⟩, hap⟩ : ∃ x, x = es[k] := ⟨_, rfl⟩
        have hmem : (a, p) ∈ es := by rw [hap]; exact List.getElem_mem _
        rw [← hap] at r0 r1 hpt hins
        simp only at r0 r1 hins
        have HTS : Hid (tabLs es (k + 1) = tabLs es k ++ [tabLine k (a, p)]) := by
          show _ = _
          rw [tabLs_snoc, List.getD_eq_getElem?_getD, List.getElem?_eq_getElem hlt, ← hap]; rfl
        have r0 := (BW.out.cell (p := ⟨g, k * 2, none⟩) hgl).trans r0
        have r1 := (BW.out.cell (p := ⟨g, k * 2 + 1, none⟩) hgl).trans r1
        have HP : Hid (∀ w', Below w.heap.size w w' → Calls Tryd.prog 39 #[.agg #[.slice (some ⟨g, 0, none⟩) es.length cap], .agg #[.int .i64 a, .int .i64 p]] w' fun e w'' => e = .returned (.int .i64 ((500 + k : Nat) : Int)) ∧ Below w'.heap.size w' w'') := fun w' hb => by
          have := HPort.out a p hmem w' hb
          rw [hpt] at this
          exact this
        have hl1 := dec_len (500 + k)
        have hl20 := etL_len a p
        obtain ⟨T, hT⟩ : ∃ T, T = tabLine k (a, p) := ⟨_, rfl⟩
        have HSp : Hid (∀ w5 ty, Calls Tryd.prog 37 #[.slice (some ⟨World.heap w5 |>.size, 0, none⟩) 4 4] (w5.alloc (.cells #[.string ⟨#[112, 111, 114, 116]⟩, .string ⟨(Lib.decDigits (500 + k)).toArray⟩, .string ⟨#[111, 102]⟩, .string ⟨(etL a p).toArray⟩] ty)) fun e w'' => e = .returned (.string ⟨T.toArray⟩) ∧ Below (w5.alloc (.cells #[.string ⟨#[112, 111, 114, 116]⟩, .string ⟨(Lib.decDigits (500 + k)).toArray⟩, .string ⟨#[111, 102]⟩, .string ⟨(etL a p).toArray⟩] ty)).heap.size (w5.alloc (.cells #[.string ⟨#[112, 111, 114, 116]⟩, .string ⟨(Lib.decDigits (500 + k)).toArray⟩, .string ⟨#[111, 102]⟩, .string ⟨(etL a p).toArray⟩] ty)) w'') := fun w5 ty => by
          have := HJ.out w5.heap.size [112, 111, 114, 116] (Lib.decDigits (500 + k)) [111, 102] (etL a p) (w5.alloc (.cells #[.string ⟨#[112, 111, 114, 116]⟩, .string ⟨(Lib.decDigits (500 + k)).toArray⟩, .string ⟨#[111, 102]⟩, .string ⟨(etL a p).toArray⟩] ty)) (by simp) (by show 4 + _ + 2 + _ ≤ _; omega) (cell_new _ _ _ 0).1 (cell_new _ _ _ 1).1 (cell_new _ _ _ 2).1 (cell_new _ _ _ 3).1
          rw [tabLine_join, ← hT] at this
          exact this
        rw [← hT] at HTS
        clear hT
        have hl2 := etL_len a p
        have hk5 : (k : Int) ≤ 4194304 := by omega
        have hkc : (k : Int) ≤ (cap : Int) := by have := hcap.1; omega
        have hcz : (es.length : Int) ≤ (cap : Int) := by have := hcap.1; omega
        clear hap hrow hpt
        go_wp2_with fail
        generalize hW0 : World.alloc wr _ = W0
        have sW0 : W0.heap.size = wr.heap.size + 1 := by rw [← hW0]; simp
        have e0 : W0.cell? ⟨wr.heap.size, 0, none⟩ = some (.int .i64 a) := by rw [← hW0]; simp
        have e1 : W0.cell? ⟨wr.heap.size, 1, none⟩ = some (.int .i64 p) := by rw [← hW0]; simp
        have B0 : Below w1.heap.size w1 W0 := by rw [← hW0]; exact HB.out.alloc hbs _
        have R0 : Hid (W0.ownsRow w1.heap.size 9 1 (.slice av k cv) k ((tabLs es k).map strV)) := by rw [← hW0]; exact HO.out.alloc _
        clear hW0 r0 r1 kt
        have mk : Hid (∀ w', Below w1.heap.size w1 w' → w'.cell? ⟨wr.heap.size, 0, none⟩ = some (.int .i64 a) → w'.cell? ⟨wr.heap.size, 1, none⟩ = some (.int .i64 p) → Below w1.heap.size w1 w' ∧ w'.cell? ⟨w.heap.size, 0, none⟩ = some (.slice (some ⟨g, 0, none⟩) es.length cap) ∧ w'.cell? ⟨wr.heap.size, 0, none⟩ = some (.int .i64 a) ∧ w'.cell? ⟨wr.heap.size, 1, none⟩ = some (.int .i64 p)) := fun w' h q0 q1 => ⟨h, (h.cell (p := ⟨w.heap.size, 0, none⟩) z1).trans K1.out, q0, q1⟩
        have mk2 : Hid (∀ w' w'', (Below w1.heap.size w1 w' ∧ w'.cell? ⟨w.heap.size, 0, none⟩ = some (.slice (some ⟨g, 0, none⟩) es.length cap) ∧ w'.cell? ⟨wr.heap.size, 0, none⟩ = some (.int .i64 a) ∧ w'.cell? ⟨wr.heap.size, 1, none⟩ = some (.int .i64 p)) → Below w'.heap.size w' w'' → (Below w1.heap.size w1 w'' ∧ w''.cell? ⟨w.heap.size, 0, none⟩ = some (.slice (some ⟨g, 0, none⟩) es.length cap) ∧ w''.cell? ⟨wr.heap.size, 0, none⟩ = some (.int .i64 a) ∧ w''.cell? ⟨wr.heap.size, 1, none⟩ = some (.int .i64 p))) := fun w' w'' h hb =>
          mk.out w'' (h.1.trans (hb.mono h.1.size)) ((hb.cell (World.block_lt_of_cell? _ _ h.2.2.1)).trans h.2.2.1) ((hb.cell (World.block_lt_of_cell? _ _ h.2.2.2)).trans h.2.2.2)
        have HW : Hid (∀ w', Below w1.heap.size w1 w' → Below w.heap.size w w') := fun w' h => B1.out.trans (h.mono (by omega))
        have hM := mk.out _ B0 e0 e1
        have HM0 := Lib.hid hM
        go_region_held3 (fun w' => Below w1.heap.size w1 w' ∧ w'.cell? ⟨w.heap.size, 0, none⟩ = some (.slice (some ⟨g, 0, none⟩) es.length cap) ∧ w'.cell? ⟨wr.heap.size, 0, none⟩ = some (.int .i64 a) ∧ w'.cell? ⟨wr.heap.size, 1, none⟩ = some (.int .i64 p))
          (first
            | exact mk2.out _ _ HM0.out ((Below.refl _ _).drew)
            | exact cc
            | exact mk2.out _ _ cc ((Below.refl _ _).alloc (Nat.le_refl _) _)
            | (trace_state; fail))
          (first
            | (go_at_call 39; have hS := (by assumption : Below w1.heap.size w1 _ ∧ _); refine (HP.out _ (HW.out _ hS.1)).mono ?_; rintro e w3 ⟨rfl, b3⟩; have cc := mk2.out _ _ hS b3; have RL3 : Hid (w3.ownsRow w1.heap.size 9 1 (.slice av k cv) k ((tabLs es k).map strV)) := own_below (by first | exact R0.out | exact R0.out.drew) b3; clear b3)
            | (go_at_call 38; have hS := (by assumption : Below w1.heap.size w1 _ ∧ _); refine (itoa_any (500 + k) _ (by omega) (HTb.out _ (HW.out _ hS.1))).mono ?_; rintro e w4 ⟨rfl, b4⟩; have cc := mk2.out _ _ hS b4; have RL4 : Hid (w4.ownsRow w1.heap.size 9 1 (.slice av k cv) k ((tabLs es k).map strV)) := own_below RL3.out b4; clear b4)
            | (go_at_call 40; have hS := (by assumption : Below w1.heap.size w1 _ ∧ _); refine (implText_all a p _ (HTb.out _ (HW.out _ hS.1))).mono ?_; rintro e w5 ⟨rfl, b5⟩; have cc := mk2.out _ _ hS b5; have RL5 : Hid (w5.ownsRow w1.heap.size 9 1 (.slice av k cv) k ((tabLs es k).map strV)) := own_below RL4.out b5; clear b5)
            | (go_at_call 37; have hS := (by assumption : Below w1.heap.size w1 _ ∧ _); refine (HSp.out w5 _).mono ?_; rintro e w6 ⟨rfl, b6⟩; have cc := mk2.out _ _ hS b6; have RL6 : Hid (w6.ownsRow w1.heap.size 9 1 (.slice av k cv) k ((tabLs es k).map strV)) := own_below (RL5.out.alloc _) b6; clear b6)
            | (have hS := (by assumption : Below w1.heap.size w1 _ ∧ _); refine step_append_w _ (by rfl) (.tmp 16) (.tmp 25) 32 rfl w1.heap.size 9 i0 (.string ⟨#[]⟩) 1 16 Tryd.underlying32 hi hz0 hz1 hz2 rfl (by decide) (.slice av k cv) k ((tabLs es k).map strV) (by rfl) (RL6.out.alloc _) ⟨w6.heap.size, 0, none⟩ 1 1 [.string ⟨T.toArray⟩] (by rfl) (by rfl) (news_one w6 _ _) (by intro u hu; simp at hu; subst hu; rfl) (by unfold maxLen; omega) (by omega) hS.1.size ?_; intro vN wN hown hgrow; have cn : Below w1.heap.size w1 wN := hS.1.grown hgrow hS.1.size (fun b e => own_ge RL6.out b e); have cc := mk.out wN cn (((gcellR hgrow (World.block_lt_of_cell? _ _ hS.2.2.1) (fun e => Nat.lt_irrefl _ (HO.out.lt _ e).2)) 0).trans hS.2.2.1) (((gcellR hgrow (World.block_lt_of_cell? _ _ hS.2.2.1) (fun e => Nat.lt_irrefl _ (HO.out.lt _ e).2)) 1).trans hS.2.2.2); have RN := Lib.hid hown; clear hown hgrow))
        all_goals
          go_wp2_with fail
          go_roundw
          case rel =>
            refine ⟨k + 1, by omega, by go_num, ?_, cc.1⟩
            rw [HTS.out, List.map_append]
            exact RN.out
          case measure => simp [intOf]; omega
      · have hke : k = es.length := by omega
        subst hke
        go_wp2
        go_ret
        exact ⟨_, rfl, own_base HO.out (by omega), BW.out⟩

end Go.Proofs.YtilfpefccklebaaDoor

/- spaced of the program: four words, a space between each two. No condition beside lengths. -/
namespace Go.Proofs.YtilfpefccklebaaDoor
open Go.RowKit

set_option maxRecDepth 100000 in
set_option maxHeartbeats 400000 in
theorem spaced_ok : SpacedOk := by
  intro b x1 x2 x3 x4 w hb hl h1 h2 h3 h4
  have HJ : Hid (Calls Tryd.prog 61 #[.slice (some ⟨b, 0, none⟩) 4 4, .string ⟨#[32]⟩] w fun e w' => e = .returned (.string ⟨(x1 ++ 32 :: (x2 ++ 32 :: (x3 ++ 32 :: x4))).toArray⟩) ∧ Below w.heap.size w w') := by
    have hc : ∀ (j : Nat) x, ([⟨x1.toArray⟩, ⟨x2.toArray⟩, ⟨x3.toArray⟩, ⟨x4.toArray⟩] : List ByteArray)[j]? = some x → w.cell? ⟨b, 0 + j, none⟩ = some (.string x) := by
      intro j x hx
      match j, hx with
      | 0, hx => simp at hx; subst hx; exact h1
      | 1, hx => simp at hx; subst hx; exact h2
      | 2, hx => simp at hx; subst hx; exact h3
      | 3, hx => simp at hx; subst hx; exact h4
    have hj : Lib.join (([⟨x1.toArray⟩, ⟨x2.toArray⟩, ⟨x3.toArray⟩, ⟨x4.toArray⟩] : List ByteArray).map (·.data.toList)) (⟨#[32]⟩ : ByteArray).data.toList = x1 ++ 32 :: (x2 ++ 32 :: (x3 ++ 32 :: x4)) := by
      simp [Lib.join]
    have := Any.strings_Join Tryd.lays156 Tryd.Builder_Extra_156 b 0 4 [⟨x1.toArray⟩, ⟨x2.toArray⟩, ⟨x3.toArray⟩, ⟨x4.toArray⟩] ⟨#[32]⟩ w hc hb (by simp) (by simp) (by rw [hj]; simp; omega)
    rw [hj] at this
    exact this
  go_enter Tryd.func37, Tryd.ntmps37
  go_wp2_with (go_at_call 61; refine HJ.out.mono ?_; rintro e w1 ⟨rfl, b1⟩)
  go_ret
  exact ⟨rfl, b1⟩

end Go.Proofs.YtilfpefccklebaaDoor

/- The law that a table has a line for each end: at every two codes. Conditions: the codes lie in memory; the library's table of powers of ten holds what it is laid with. -/
namespace Go.Proofs.YtilfpefccklebaaDoor
open Go.RowKit

theorem in_later {w w' : World} {ao : Option Addr} {n : Nat} (h : BytesIn w ao n) (hb : Below w.heap.size w w') : BytesIn w' ao n := by
  rcases h with h | ⟨x, rfl, hx, hc⟩
  · exact .inl h
  · refine .inr ⟨x, rfl, by have := hb.size; omega, fun i hi => ?_⟩
    obtain ⟨b, hbb⟩ := hc i hi
    exact ⟨b, (hb.cell (World.block_lt_of_cell? _ _ hbb)).trans hbb⟩
theorem SmE.wfE {us : List (Int × Int)} (h : SmE us) : wfE us := fun x hx => (h x hx).wf
theorem dskL_len (es : List (Int × Int)) (h : es.length ≤ 8) : (dskL es).length ≤ 8 := by
  unfold dskL
  split
  · rw [tabLs_len]; exact h
  · simp

set_option maxRecDepth 100000 in
set_option maxHeartbeats 3200000 in
theorem lwDskTable_any (ao : Option Addr) (n cap : Nat) (ao2 : Option Addr) (n2 cap2 : Nat) (w : World) (h : BytesIn w ao n) (hn : n ≤ cap) (h2 : BytesIn w ao2 n2) (hn2 : n2 ≤ cap2) (hv : TabOk w) :
    Calls Tryd.prog 6 #[.slice ao n cap, .slice ao2 n2 cap2] w fun e w' => e = .returned (.bool true) ∧ Below w.heap.size w w' := by
  have H := Lib.hid h
  have H2 := Lib.hid h2
  have HV : Hid (∀ w', Below w.heap.size w w' → TabOk w') := fun w' hb => hv.below hb (Nat.le_refl _)
  clear h hv h2
  by_cases hb1 : 1048576 < n
  · go_enter Tryd.func6, Tryd.ntmps6
    go_wp2_with fail
    go_ret
    exact ⟨rfl, Below.refl _ _⟩
  · by_cases hb2 : 1048576 < n2
    · go_enter Tryd.func6, Tryd.ntmps6
      go_wp2_with fail
      go_ret
      exact ⟨rfl, Below.refl _ _⟩
    · go_enter Tryd.func6, Tryd.ntmps6
      go_wp2_with fail
      (go_at_call 22; refine (drawDskTable_any ao n cap _ H.out hn).mono ?_; rintro e w1 ⟨g1, k1, us, rfl, o1, ⟨u8, sm1⟩, b1⟩)
      have HB1 := Lib.hid b1
      have T1 := Lib.hid o1.tab
      have WU := Lib.hid sm1.wfE
      have s1 := b1.size
      clear b1 o1 sm1
      go_wp2_with fail
      (go_at_call 22; refine (drawDskTable_any ao2 n2 cap2 _ (in_later H2.out (HB1.out.alloc s1 _)) hn2).mono ?_; rintro e w2 ⟨g2, k2, vs, rfl, o2, ⟨v8, sm2⟩, b2⟩)
      have T2 := Lib.hid o2.tab
      have WV := Lib.hid sm2.wfE
      have BT := Lib.hid b2
      clear b2 o2 sm2 H H2
      have zz := BT.out.size
      have z2 : w1.heap.size + 1 ≤ w2.heap.size := by simpa using zz
      clear zz
      have kt0 : w2.cell? ⟨w1.heap.size, 0, none⟩ = some (.slice g1 us.length k1) := by rw [BT.out.cell (by simp)]; simp
      have kto : ∀ o, (w2.alloc o).cell? ⟨w1.heap.size, 0, none⟩ = some (.slice g1 us.length k1) := fun o => by rw [cell_alloc_lt (by omega)]; exact kt0
      go_wp2_with fail
      clear kto
      generalize hW : World.alloc w2 _ = W2
      have kt : W2.cell? ⟨w1.heap.size, 0, none⟩ = some (.slice g1 us.length k1) := by rw [← hW, cell_alloc_lt (by omega)]; exact kt0
      have ku : W2.cell? ⟨w2.heap.size, 0, none⟩ = some (.slice g2 vs.length k2) := by rw [← hW]; simp
      have BW : Below w.heap.size w W2 := by rw [← hW]; exact ((HB1.out.alloc s1 _).trans (BT.out.mono (by simp; omega))).alloc (by omega) _
      have TT : TabAt W2 (.slice g1 us.length k1) us := by rw [← hW]; exact ((T1.out.below ((Below.refl _ _).alloc (Nat.le_refl _) _)).below BT.out).below ((Below.refl _ _).alloc (Nat.le_refl _) _)
      have TU : TabAt W2 (.slice g2 vs.length k2) vs := by rw [← hW]; exact T2.out.below ((Below.refl _ _).alloc (Nat.le_refl _) _)
      have zW : w2.heap.size + 1 = W2.heap.size := by rw [← hW]; simp
      clear hW kt0
      have mk : Hid (∀ w', Below W2.heap.size W2 w' → w'.cell? ⟨w1.heap.size, 0, none⟩ = some (.slice g1 us.length k1) ∧ w'.cell? ⟨w2.heap.size, 0, none⟩ = some (.slice g2 vs.length k2) ∧ Below W2.heap.size W2 w') := fun w' hb => ⟨by rw [hb.cell (by simp; omega)]; exact kt, by rw [hb.cell (by simp; omega)]; exact ku, hb⟩
      have hBw : Hid (∀ w', Below W2.heap.size W2 w' → Below w.heap.size w w') := fun w' hb => BW.trans (hb.mono BW.size)
      obtain ⟨xs, hxs⟩ : ∃ xs, xs = dskL us := ⟨_, rfl⟩
      obtain ⟨ys, hys⟩ : ∃ ys, ys = dskL vs := ⟨_, rfl⟩
      obtain ⟨nx, hnx⟩ : ∃ nx, nx = xs.length := ⟨_, rfl⟩
      have x8 : xs.length ≤ 8 := by rw [hxs]; exact dskL_len us u8
      obtain ⟨m1, hm1⟩ : ∃ m, m = mapB us := ⟨_, rfl⟩
      obtain ⟨m2, hm2⟩ : ∃ m, m = mapB vs := ⟨_, rfl⟩
      obtain ⟨dd, hdd⟩ : ∃ d, d = decide (xs = ys) := ⟨_, rfl⟩
      obtain ⟨de, hde⟩ : ∃ d, d = decide (us = vs) := ⟨_, rfl⟩
      have HL0 : Hid (m1 = false → nx = 0) := fun e => by rw [hnx, hxs, dskL_no (by rw [← hm1]; exact e)]; rfl
      have HL1 : Hid (m1 = true → nx = us.length) := fun e => by rw [hnx, hxs, dskL_yes (by rw [← hm1]; exact e), tabLs_len]
      have HDE : Hid (m1 = true → m2 = true → dd = de) := fun e1 e2 => by
        rw [hdd, hde, hxs, hys]
        exact decide_eq_decide.2 (dsk_inj (by rw [← hm1]; exact e1) (by rw [← hm2]; exact e2))
      have HI1 : Hid (∀ w', Below W2.heap.size W2 w' → Calls Tryd.prog 14 #[.agg #[.slice g1 us.length k1]] w' fun e w'' => ∃ a c, e = .returned (.slice a nx c) ∧ RdV w'' (.slice a nx c) (xs.map strV) ∧ Below w'.heap.size w' w'') := fun w' hb => by
        refine (implDskT_any _ us w' (by omega) WU.out (HV.out _ (hBw.out _ hb)) (TT.below hb) spaced_ok).mono ?_
        rintro e w'' ⟨v, rfl, ho, hb2⟩
        obtain ⟨a, c, rfl⟩ := own_form ho
        rw [hnx, hxs]
        exact ⟨a, c, rfl, (RdV.of_own ho).1, hb2⟩
      have HS1 : Hid (∀ w', Below W2.heap.size W2 w' → Calls Tryd.prog 12 #[.agg #[.slice g1 us.length k1]] w' fun e w'' => ∃ a c, e = .returned (.slice a nx c) ∧ RdV w'' (.slice a nx c) (xs.map strV) ∧ Below w'.heap.size w' w'') := fun w' hb => by
        refine (specDskT_any _ us w' (by omega) (TT.below hb)).mono ?_
        rintro e w'' ⟨v, rfl, ho, hb2⟩
        obtain ⟨a, c, rfl⟩ := own_form ho
        rw [hnx, hxs]
        exact ⟨a, c, rfl, (RdV.of_own ho).1, hb2⟩
      have HI2 : Hid (∀ w', Below W2.heap.size W2 w' → Calls Tryd.prog 14 #[.agg #[.slice g2 vs.length k2]] w' fun e w'' => ∃ v, e = .returned v ∧ RdV w'' v (ys.map strV) ∧ Below w'.heap.size w' w'') := fun w' hb => by
        refine (implDskT_any _ vs w' (by omega) WV.out (HV.out _ (hBw.out _ hb)) (TU.below hb) spaced_ok).mono ?_
        rintro e w'' ⟨v, rfl, ho, hb2⟩
        rw [hys]
        exact ⟨v, rfl, (RdV.of_own ho).1, hb2⟩
      have HM1 : Hid (∀ w', Below W2.heap.size W2 w' → Calls Tryd.prog 24 #[.agg #[.slice g1 us.length k1]] w' fun e w'' => e = .returned (.bool m1) ∧ Below w'.heap.size w' w'') := fun w' hb => by rw [hm1]; exact specMapOk_any _ us w' (by omega) (TT.below hb)
      have HM2 : Hid (∀ w', Below W2.heap.size W2 w' → Calls Tryd.prog 24 #[.agg #[.slice g2 vs.length k2]] w' fun e w'' => e = .returned (.bool m2) ∧ Below w'.heap.size w' w'') := fun w' hb => by rw [hm2]; exact specMapOk_any _ vs w' (by omega) (TU.below hb)
      have HTx : Hid (∀ u v w', RdV w' u (xs.map strV) → RdV w' v (xs.map strV) → Calls Tryd.prog 23 #[u, v] w' fun e w'' => e = .returned (.bool true) ∧ Below w'.heap.size w' w'') := fun u v w' r1 r2 => by
        have := haTexts_any xs xs u v w' (by omega) r1 r2
        simpa using this
      have HTy : Hid (∀ u v w', RdV w' u (xs.map strV) → RdV w' v (ys.map strV) → Calls Tryd.prog 23 #[u, v] w' fun e w'' => e = .returned (.bool dd) ∧ Below w'.heap.size w' w'') := fun u v w' r1 r2 => by rw [hdd]; exact haTexts_any xs ys u v w' (by omega) r1 r2
      have HEn : Hid (∀ w', Below W2.heap.size W2 w' → Calls Tryd.prog 25 #[.slice g1 us.length k1, .slice g2 vs.length k2] w' fun e w'' => e = .returned (.bool de) ∧ Below w'.heap.size w' w'') := fun w' hb => by rw [hde]; exact haEnds_any us vs _ _ w' (by omega) (TT.below hb) (TU.below hb)
      clear hxs hys hnx hm1 hm2 hdd hde TT TU kt ku BW HV WU WV T1 T2 BT HB1 x8
      obtain ⟨kt, ku, _⟩ := mk.out W2 (Below.refl _ _)
      (go_at_call 14; refine (HI1.out _ (Below.refl _ _)).mono ?_; rintro e w3 ⟨av, cv, rfl, rd, b3⟩)
      have RD := Lib.hid rd
      obtain ⟨kt, ku, b3'⟩ := mk.out _ b3
      clear rd
      go_wp2_with fail
      (go_at_call 12; refine (HS1.out _ b3').mono ?_; rintro e w4 ⟨aw, cw, rfl, rw4, b4⟩)
      have C4 := b3'.trans (b4.mono b3'.size)
      have RD4 := Lib.hid (RD.out.below b4)
      have RW4 := Lib.hid rw4
      clear rw4
      go_wp2_with fail
      (go_at_call 23; refine (HTx.out _ _ _ RD4.out RW4.out).mono ?_; rintro e w5 ⟨rfl, b5⟩)
      obtain ⟨kt, ku, C5⟩ := mk.out _ (C4.trans (b5.mono C4.size))
      have RD5 := Lib.hid (RD4.out.below b5)
      clear b3 b3' b4 b5 C4 RD RD4 RW4
      go_wp2_with fail
      cases m1
      · have h0 := HL0.out rfl
        subst h0
        clear HL1 HDE
        (go_at_call 24; refine (HM1.out _ C5).mono ?_; rintro e w6 ⟨rfl, b6⟩)
        obtain ⟨kt, ku, C6⟩ := mk.out _ (C5.trans (b6.mono C5.size))
        clear b6
        go_wp2_with fail
        (go_at_call 24; refine (HM1.out _ C6).mono ?_; rintro e w7 ⟨rfl, b7⟩)
        obtain ⟨kt, ku, C7⟩ := mk.out _ (C6.trans (b7.mono C6.size))
        clear b7
        go_wp2_with fail
        (go_at_call 21; refine (haOk_any _).mono ?_; rintro e w8 ⟨rfl, rfl⟩)
        go_wp2
        go_ret
        exact ⟨rfl, hBw.out _ C7⟩
      · have h0 := HL1.out rfl
        subst h0
        (go_at_call 24; refine (HM1.out _ C5).mono ?_; rintro e w6 ⟨rfl, b6⟩)
        obtain ⟨kt, ku, C6⟩ := mk.out _ (C5.trans (b6.mono C5.size))
        have RD6 := Lib.hid (RD5.out.below b6)
        clear b6
        go_wp2_with fail
        (go_at_call 24; refine (HM2.out _ C6).mono ?_; rintro e w7 ⟨rfl, b7⟩)
        obtain ⟨kt, ku, C7⟩ := mk.out _ (C6.trans (b7.mono C6.size))
        have RD7 := Lib.hid (RD6.out.below b7)
        clear b7
        cases m2
        · go_wp2_with fail
          (go_at_call 24; refine (HM1.out _ C7).mono ?_; rintro e w8 ⟨rfl, b8⟩)
          obtain ⟨kt, ku, C8⟩ := mk.out _ (C7.trans (b8.mono C7.size))
          clear b8
          go_wp2_with fail
          (go_at_call 21; refine (haOk_any _).mono ?_; rintro e w9 ⟨rfl, rfl⟩)
          go_wp2
          go_ret
          exact ⟨rfl, hBw.out _ C8⟩
        · obtain rfl : dd = de := by have := HDE.out; simpa using this
          go_wp2_with fail
          have hS0 := mk.out _ C7.drew
          clear C5 C6
          go_region_held3 (fun w' => w'.cell? ⟨w1.heap.size, 0, none⟩ = some (.slice g1 us.length k1) ∧ w'.cell? ⟨w2.heap.size, 0, none⟩ = some (.slice g2 vs.length k2) ∧ Below W2.heap.size W2 w')
            (first | exact hS0 | exact mk.out _ cc | (trace_state; fail))
            (first
              | (go_at_call 14; have hS := (by assumption : _ ∧ _ ∧ Below W2.heap.size W2 _); refine (HI2.out _ hS.2.2).mono ?_; rintro e w8 ⟨vy, rfl, ry, b8⟩; have RY := Lib.hid ry; have d8 : Below w7.heap.size w7 w8 := ((Below.refl _ _).drew).trans b8; have RD8 := Lib.hid (RD7.out.below d8); have cc := hS.2.2.trans (b8.mono hS.2.2.size); clear ry b8)
              | (go_at_call 23; have hS := (by assumption : _ ∧ _ ∧ Below W2.heap.size W2 _); refine (HTy.out _ _ _ RD8.out RY.out).mono ?_; rintro e w9 ⟨rfl, b9⟩; have cc := hS.2.2.trans (b9.mono hS.2.2.size); clear b9)
              | (go_at_call 25; have hS := (by assumption : _ ∧ _ ∧ Below W2.heap.size W2 _); refine (HEn.out _ hS.2.2).mono ?_; rintro e w10 ⟨rfl, b10⟩; have cc := hS.2.2.trans (b10.mono hS.2.2.size); clear b10))
          all_goals
            go_wp2
            go_ret
            exact ⟨by first | rfl | simp, hBw.out _ cc⟩

end Go.Proofs.YtilfpefccklebaaDoor
