/- The law that a rule's text is read as it: at every two codes. Conditions: the codes lie in memory; the variables that are read hold what they are laid with. -/
import Derived.Test.YtjnhmobdigfpiaaDoorDrawRulT
import Derived.Test.YtjnhmobdigfpiaaDoorDrawRulR
import Derived.Test.YtjnhmobdigfpiaaDoorLawRulRead
import Derived.Test.YtjnhmobdigfpiaaDoorRulTxE
import Derived.Test.YtjnhmobdigfpiaaDoorHaOk
import Derived.Deep.RegionHeld3
import Derived.Deep.DeepCutAuto
namespace Go.Proofs.YtjnhmobdigfpiaaDoor
open Go.RowKit

theorem box7E {w w' : World} {b : Nat} {x0 x1 x2 x3 x4 x5 x6 : Value} (h : At7 w b x0 x1 x2 x3 x4 x5 x6) (hb : Below w.heap.size w w') : At7 w' b x0 x1 x2 x3 x4 x5 x6 := h.below hb
theorem dataE {a b : ByteArray} (h : a.data.toList = b.data.toList) : a = b := by
  rw [← Lib.mk_data a, ← Lib.mk_data b, h]

set_option maxRecDepth 100000 in
set_option maxHeartbeats 3200000 in
theorem lwRulText_any (ao : Option Addr) (n cap : Nat) (ao2 : Option Addr) (n2 cap2 : Nat) (w : World) (h : BytesIn w ao n) (hn : n ≤ cap) (h2 : BytesIn w ao2 n2) (hn2 : n2 ≤ cap2) (hv : VarsR w) :
    Calls Tryd.prog 4 #[.slice ao n cap, .slice ao2 n2 cap2] w fun e w' => e = .returned (.bool true) ∧ Below w.heap.size w w' := by
  have H := Lib.hid h
  have H2 := Lib.hid h2
  have HV : Hid (∀ w', Below w.heap.size w w' → VarsR w') := fun w' hb => hv.below hb
  clear h h2 hv
  by_cases hl1 : 1048576 < n
  · go_enter Tryd.func4, Tryd.ntmps4
    go_wp2_with fail
    go_ret
    exact ⟨rfl, Below.refl _ _⟩
  by_cases hl2 : 1048576 < n2
  · go_enter Tryd.func4, Tryd.ntmps4
    go_wp2_with fail
    go_ret
    exact ⟨rfl, Below.refl _ _⟩
  go_enter Tryd.func4, Tryd.ntmps4
  go_wp2_with fail
  (go_at_call 16; refine (drawRulText_any ao n cap _ H.out hn).mono ?_; rintro e w1 ⟨al, i, it, o, ot, p, pt, rfl, b1⟩)
  have A1 : Hid (At7 (w1.alloc (.cells #[.bool al, .int .i64 i, .int .i64 it, .int .i64 o, .int .i64 ot, .int .i64 p, .int .i64 pt] 37)) w1.heap.size (.bool al) (.int .i64 i) (.int .i64 it) (.int .i64 o) (.int .i64 ot) (.int .i64 p) (.int .i64 pt)) := at7_new w1 _ _ _ _ _ _ _ _
  have B1 : Hid (Below w.heap.size w (w1.alloc (.cells #[.bool al, .int .i64 i, .int .i64 it, .int .i64 o, .int .i64 ot, .int .i64 p, .int .i64 pt] 37))) := b1.alloc b1.size _
  obtain ⟨b0, hb0⟩ : ∃ b0, b0 = w1.heap.size := ⟨_, rfl⟩
  rw [← hb0] at A1
  obtain ⟨W1, hW1⟩ : ∃ W1, W1 = w1.alloc (.cells #[.bool al, .int .i64 i, .int .i64 it, .int .i64 o, .int .i64 ot, .int .i64 p, .int .i64 pt] 37) := ⟨_, rfl⟩
  rw [← hW1] at A1 B1
  go_wp2_with fail
  rw [← hb0, ← hW1]
  clear hW1 hb0 b1
  (go_at_call 17; refine (drawRulRead_any ao2 n2 cap2 _ (H2.out.below B1.out) hn2).mono ?_; rintro e w2 ⟨s, rfl, hs, b2⟩)
  have A2 := Lib.hid (A1.out.below b2)
  have B2 : Hid (Below w.heap.size w w2) := B1.out.trans (b2.mono B1.out.size)
  clear b2 A1 B1
  -- the contracts
  obtain ⟨X, hX⟩ : ∃ X : ByteArray, X = ⟨(rulTxL ⟨al, i, it, o, ot, p, pt⟩).toArray⟩ := ⟨_, rfl⟩
  have hXl : X.data.toList = rulTxL ⟨al, i, it, o, ot, p, pt⟩ := by rw [hX]
  have hXs : X.size ≤ 2097152 := by have := rulTx_len ⟨al, i, it, o, ot, p, pt⟩; rw [← hXl, len_list] at this; omega
  obtain ⟨qx, hqx⟩ : ∃ q, q = ruleB ⟨al, i, it, o, ot, p, pt⟩ := ⟨_, rfl⟩
  have HTI : Hid (∀ w, VarsR w → Calls Tryd.prog 20 #[.agg #[.bool al, .int .i64 i, .int .i64 it, .int .i64 o, .int .i64 ot, .int .i64 p, .int .i64 pt]] w fun e w' => e = .returned (.string X) ∧ Below w.heap.size w w') := fun w hv => by rw [hX]; exact (rulTxE al i it o ot p pt).2 w hv.tab
  have HTS : Hid (∀ w, Calls Tryd.prog 21 #[.agg #[.bool al, .int .i64 i, .int .i64 it, .int .i64 o, .int .i64 ot, .int .i64 p, .int .i64 pt]] w fun e w' => e = .returned (.string X) ∧ Below w.heap.size w w') := fun w => by rw [hX]; exact (rulTxE al i it o ot p pt).1 w
  have HOI : Hid (∀ w, Calls Tryd.prog 22 #[.agg #[.bool al, .int .i64 i, .int .i64 it, .int .i64 o, .int .i64 ot, .int .i64 p, .int .i64 pt]] w fun e w' => e = .returned (.bool qx) ∧ Below w.heap.size w w') := fun w => by rw [hqx]; exact implRulOk_any al i it o ot p pt w
  have HOS : Hid (∀ w, Calls Tryd.prog 23 #[.agg #[.bool al, .int .i64 i, .int .i64 it, .int .i64 o, .int .i64 ot, .int .i64 p, .int .i64 pt]] w fun e w' => e = .returned (.bool qx) ∧ Below w.heap.size w w') := fun w => by rw [hqx]; exact specRulOk_any al i it o ot p pt w
  have HXE : Hid (qx = false → X = ⟨#[]⟩) := fun e => by
    rw [hqx] at e
    rw [hX]
    unfold rulTxL
    rw [if_neg (by rw [e]; simp)]
  have HXR : Hid (qx = true → ∀ w, VarsR w → Calls Tryd.prog 18 #[.string X] w fun e w' => e = .returned (.tuple #[.agg #[.bool al, .int .i64 i, .int .i64 it, .int .i64 o, .int .i64 ot, .int .i64 p, .int .i64 pt], .bool true]) ∧ Below w.heap.size w w') := fun e w hv => by
    rw [hqx] at e
    have := implRulRd_any X w hXs hv
    rw [hXl, rdT_text e] at this
    exact this
  obtain ⟨ya, yi, yit, yo, yot, yp, ypt, yb, hy, hyb⟩ : ∃ (ya : Bool) (yi yit yo yot yp ypt : Int) (yb : Bool), rdTV (rdT s.data.toList) = .tuple #[.agg #[.bool ya, .int .i64 yi, .int .i64 yit, .int .i64 yo, .int .i64 yot, .int .i64 yp, .int .i64 ypt], .bool yb] ∧ (yb = true → ruleB ⟨ya, yi, yit, yo, yot, yp, ypt⟩ = true ∧ rulTxL ⟨ya, yi, yit, yo, yot, yp, ypt⟩ = s.data.toList) := by
    rcases hr : rdT s.data.toList with _ | ⟨ya, yi, yit, yo, yot, yp, ypt⟩
    · exact ⟨false, 0, 0, 0, 0, 0, 0, false, rfl, fun e => by cases e⟩
    · exact ⟨ya, yi, yit, yo, yot, yp, ypt, true, rfl, fun _ => rdT_back hr⟩
  have HRI : Hid (∀ w, VarsR w → Calls Tryd.prog 18 #[.string s] w fun e w' => e = .returned (.tuple #[.agg #[.bool ya, .int .i64 yi, .int .i64 yit, .int .i64 yo, .int .i64 yot, .int .i64 yp, .int .i64 ypt], .bool yb]) ∧ Below w.heap.size w w') := fun w hv => by rw [← hy]; exact implRulRd_any s w (by omega) hv
  have HRS : Hid (∀ w, Calls Tryd.prog 19 #[.string s] w fun e w' => e = .returned (.tuple #[.agg #[.bool ya, .int .i64 yi, .int .i64 yit, .int .i64 yo, .int .i64 yot, .int .i64 yp, .int .i64 ypt], .bool yb]) ∧ Below w.heap.size w w') := fun w => by rw [← hy]; exact specRulRd_any s w (by omega)
  have HYO : Hid (yb = true → ∀ w, Calls Tryd.prog 22 #[.agg #[.bool ya, .int .i64 yi, .int .i64 yit, .int .i64 yo, .int .i64 yot, .int .i64 yp, .int .i64 ypt]] w fun e w' => e = .returned (.bool true) ∧ Below w.heap.size w w') := fun e w => by rw [← (hyb e).1]; exact implRulOk_any ya yi yit yo yot yp ypt w
  have HYT : Hid (yb = true → ∀ w, VarsR w → Calls Tryd.prog 20 #[.agg #[.bool ya, .int .i64 yi, .int .i64 yit, .int .i64 yo, .int .i64 yot, .int .i64 yp, .int .i64 ypt]] w fun e w' => e = .returned (.string s) ∧ Below w.heap.size w w') := fun e w hv => by
    have := (rulTxE ya yi yit yo yot yp ypt).2 w hv.tab
    rw [(hyb e).2, show (⟨s.data.toList.toArray⟩ : ByteArray) = s from Lib.mk_data s] at this
    exact this
  clear hX hXl hXs hqx hy hyb
  go_wp2_with fail
  (go_at_call 18; refine (HRI.out _ (HV.out _ B2.out)).mono ?_; rintro e w3 ⟨rfl, b3⟩)
  have B3 := Lib.hid (B2.out.trans (b3.mono B2.out.size))
  have A3 := Lib.hid (A2.out.below b3)
  have s3 := b3.size
  obtain ⟨b1, hb1⟩ : ∃ b1, b1 = w3.heap.size := ⟨_, rfl⟩
  obtain ⟨W3, hW3⟩ : ∃ W3, W3 = w3.alloc (.cells #[.bool ya, .int .i64 yi, .int .i64 yit, .int .i64 yo, .int .i64 yot, .int .i64 yp, .int .i64 ypt] 37) := ⟨_, rfl⟩
  have B4 : Hid (Below w.heap.size w W3) := by rw [hW3]; exact B3.out.alloc B3.out.size _
  have A4 : Hid (At7 W3 b0 (.bool al) (.int .i64 i) (.int .i64 it) (.int .i64 o) (.int .i64 ot) (.int .i64 p) (.int .i64 pt)) := by rw [hW3]; exact A3.out.below ((Below.refl _ w3).alloc (Nat.le_refl _) _)
  have Y4 : Hid (At7 W3 b1 (.bool ya) (.int .i64 yi) (.int .i64 yit) (.int .i64 yo) (.int .i64 yot) (.int .i64 yp) (.int .i64 ypt)) := by rw [hW3, hb1]; exact at7_new w3 _ _ _ _ _ _ _ _
  clear b3 A2 B2 s3
  go_wp2_with fail
  rw [← hb1, ← hW3]
  clear hW3 hb1 A3 B3
  (go_at_call 19; refine (HRS.out _).mono ?_; rintro e w5 ⟨rfl, b5⟩)
  have B5 := Lib.hid (B4.out.trans (b5.mono B4.out.size))
  have A5 := Lib.hid (A4.out.below b5)
  have Y5 := Lib.hid (Y4.out.below b5)
  clear b5 A4 B4 Y4
  obtain ⟨b2, hb2⟩ : ∃ b2, b2 = w5.heap.size := ⟨_, rfl⟩
  obtain ⟨W5, hW5⟩ : ∃ W5, W5 = w5.alloc (.cells #[.bool ya, .int .i64 yi, .int .i64 yit, .int .i64 yo, .int .i64 yot, .int .i64 yp, .int .i64 ypt] 37) := ⟨_, rfl⟩
  have B6 : Hid (Below w.heap.size w W5) := by rw [hW5]; exact B5.out.alloc B5.out.size _
  have A6 : Hid (At7 W5 b0 (.bool al) (.int .i64 i) (.int .i64 it) (.int .i64 o) (.int .i64 ot) (.int .i64 p) (.int .i64 pt)) := by rw [hW5]; exact A5.out.below ((Below.refl _ w5).alloc (Nat.le_refl _) _)
  have Y6 : Hid (At7 W5 b1 (.bool ya) (.int .i64 yi) (.int .i64 yit) (.int .i64 yo) (.int .i64 yot) (.int .i64 yp) (.int .i64 ypt)) := by rw [hW5]; exact Y5.out.below ((Below.refl _ w5).alloc (Nat.le_refl _) _)
  have Z6 : Hid (At7 W5 b2 (.bool ya) (.int .i64 yi) (.int .i64 yit) (.int .i64 yo) (.int .i64 yot) (.int .i64 yp) (.int .i64 ypt)) := by rw [hW5, hb2]; exact at7_new w5 _ _ _ _ _ _ _ _
  go_upto_region 16 with fail
  rw [← hb2, ← hW5]
  clear hb2 hW5 B5 A5 Y5
  have mk : Hid (∀ w', Below W5.heap.size W5 w' → Below W5.heap.size W5 w' ∧ w'.cell? ⟨b0, 0, none⟩ = some (.bool al) ∧ w'.cell? ⟨b0, 1, none⟩ = some (.int .i64 i) ∧ w'.cell? ⟨b0, 2, none⟩ = some (.int .i64 it) ∧ w'.cell? ⟨b0, 3, none⟩ = some (.int .i64 o) ∧ w'.cell? ⟨b0, 4, none⟩ = some (.int .i64 ot) ∧ w'.cell? ⟨b0, 5, none⟩ = some (.int .i64 p) ∧ w'.cell? ⟨b0, 6, none⟩ = some (.int .i64 pt) ∧ w'.cell? ⟨b1, 0, none⟩ = some (.bool ya) ∧ w'.cell? ⟨b1, 1, none⟩ = some (.int .i64 yi) ∧ w'.cell? ⟨b1, 2, none⟩ = some (.int .i64 yit) ∧ w'.cell? ⟨b1, 3, none⟩ = some (.int .i64 yo) ∧ w'.cell? ⟨b1, 4, none⟩ = some (.int .i64 yot) ∧ w'.cell? ⟨b1, 5, none⟩ = some (.int .i64 yp) ∧ w'.cell? ⟨b1, 6, none⟩ = some (.int .i64 ypt) ∧ w'.cell? ⟨b2, 0, none⟩ = some (.bool ya) ∧ w'.cell? ⟨b2, 1, none⟩ = some (.int .i64 yi) ∧ w'.cell? ⟨b2, 2, none⟩ = some (.int .i64 yit) ∧ w'.cell? ⟨b2, 3, none⟩ = some (.int .i64 yo) ∧ w'.cell? ⟨b2, 4, none⟩ = some (.int .i64 yot) ∧ w'.cell? ⟨b2, 5, none⟩ = some (.int .i64 yp) ∧ w'.cell? ⟨b2, 6, none⟩ = some (.int .i64 ypt)) := by
    intro w' hb
    obtain ⟨uz, ⟨c0, c1, c2, c3, c4, c5, c6⟩, _⟩ := A6.out
    obtain ⟨vz, ⟨d0, d1, d2, d3, d4, d5, d6⟩, _⟩ := Y6.out
    obtain ⟨tz, ⟨t0, t1, t2, t3, t4, t5, t6⟩, _⟩ := Z6.out
    exact ⟨hb, (hb.cell (by simpa using uz)).trans c0, (hb.cell (by simpa using uz)).trans c1, (hb.cell (by simpa using uz)).trans c2, (hb.cell (by simpa using uz)).trans c3, (hb.cell (by simpa using uz)).trans c4, (hb.cell (by simpa using uz)).trans c5, (hb.cell (by simpa using uz)).trans c6, (hb.cell (by simpa using vz)).trans d0, (hb.cell (by simpa using vz)).trans d1, (hb.cell (by simpa using vz)).trans d2, (hb.cell (by simpa using vz)).trans d3, (hb.cell (by simpa using vz)).trans d4, (hb.cell (by simpa using vz)).trans d5, (hb.cell (by simpa using vz)).trans d6, (hb.cell (by simpa using tz)).trans t0, (hb.cell (by simpa using tz)).trans t1, (hb.cell (by simpa using tz)).trans t2, (hb.cell (by simpa using tz)).trans t3, (hb.cell (by simpa using tz)).trans t4, (hb.cell (by simpa using tz)).trans t5, (hb.cell (by simpa using tz)).trans t6⟩
  have VR : Hid (∀ w', Below W5.heap.size W5 w' → VarsR w') := fun w' h => HV.out _ (B6.out.trans (h.mono B6.out.size))
  have hM := mk.out _ (Below.refl _ _)
  go_cut [56] (fun t wx => t = .bool false ∧ Below W5.heap.size W5 wx)
  case first =>
    go_region_held3 (fun w' => Below W5.heap.size W5 w' ∧ w'.cell? ⟨b0, 0, none⟩ = some (.bool al) ∧ w'.cell? ⟨b0, 1, none⟩ = some (.int .i64 i) ∧ w'.cell? ⟨b0, 2, none⟩ = some (.int .i64 it) ∧ w'.cell? ⟨b0, 3, none⟩ = some (.int .i64 o) ∧ w'.cell? ⟨b0, 4, none⟩ = some (.int .i64 ot) ∧ w'.cell? ⟨b0, 5, none⟩ = some (.int .i64 p) ∧ w'.cell? ⟨b0, 6, none⟩ = some (.int .i64 pt) ∧ w'.cell? ⟨b1, 0, none⟩ = some (.bool ya) ∧ w'.cell? ⟨b1, 1, none⟩ = some (.int .i64 yi) ∧ w'.cell? ⟨b1, 2, none⟩ = some (.int .i64 yit) ∧ w'.cell? ⟨b1, 3, none⟩ = some (.int .i64 yo) ∧ w'.cell? ⟨b1, 4, none⟩ = some (.int .i64 yot) ∧ w'.cell? ⟨b1, 5, none⟩ = some (.int .i64 yp) ∧ w'.cell? ⟨b1, 6, none⟩ = some (.int .i64 ypt) ∧ w'.cell? ⟨b2, 0, none⟩ = some (.bool ya) ∧ w'.cell? ⟨b2, 1, none⟩ = some (.int .i64 yi) ∧ w'.cell? ⟨b2, 2, none⟩ = some (.int .i64 yit) ∧ w'.cell? ⟨b2, 3, none⟩ = some (.int .i64 yo) ∧ w'.cell? ⟨b2, 4, none⟩ = some (.int .i64 yot) ∧ w'.cell? ⟨b2, 5, none⟩ = some (.int .i64 yp) ∧ w'.cell? ⟨b2, 6, none⟩ = some (.int .i64 ypt))
      (first
        | exact mk.out _ (Below.refl _ _).drew
        | exact mk.out _ cc
        | (refine mk.out _ ?_; with_reducible exact cc)
        | (trace_state; fail))
      (first
        | (go_at_call 20; have hS := (by assumption : Below W5.heap.size W5 _ ∧ _); refine (HTI.out _ (VR.out _ hS.1)).mono ?_; rintro e wN ⟨rfl, bN⟩; have cc : Below W5.heap.size W5 wN := hS.1.trans (bN.mono hS.1.size); clear bN)
        | (go_at_call 21; have hS := (by assumption : Below W5.heap.size W5 _ ∧ _); refine (HTS.out _).mono ?_; rintro e wN ⟨rfl, bN⟩; have cc : Below W5.heap.size W5 wN := hS.1.trans (bN.mono hS.1.size); clear bN)
        | (go_at_call 22; have hS := (by assumption : Below W5.heap.size W5 _ ∧ _); refine (HOI.out _).mono ?_; rintro e wN ⟨rfl, bN⟩; have cc : Below W5.heap.size W5 wN := hS.1.trans (bN.mono hS.1.size); clear bN)
        | (go_at_call 23; have hS := (by assumption : Below W5.heap.size W5 _ ∧ _); refine (HOS.out _).mono ?_; rintro e wN ⟨rfl, bN⟩; have cc : Below W5.heap.size W5 wN := hS.1.trans (bN.mono hS.1.size); clear bN))
    all_goals (go_wp2_with fail; go_meet)
    all_goals (first | exact ⟨rfl, cc⟩ | (trace_state; fail))
  case rest =>
    obtain ⟨rfl, c7⟩ := hcut
    have A7 := Lib.hid (A6.out.below c7)
    have Y7 := Lib.hid (Y6.out.below c7)
    have B7 := Lib.hid (B6.out.trans (c7.mono B6.out.size))
    clear mk hM A6 Y6 Z6 B6 c7 VR
    rcases hyb2 : yb with _ | _
    · subst hyb2
      obtain ⟨uz, ⟨c0, c1, c2, c3, c4, c5, c6⟩, _⟩ := A7.out
      go_wp2_with fail
      (go_at_call 23; refine (HOS.out _).mono ?_; rintro e w20 ⟨rfl, b20⟩)
      have A20 := Lib.hid (A7.out.below b20)
      have B20 := Lib.hid (B7.out.trans (b20.mono B7.out.size))
      clear b20
      clear uz c0 c1 c2 c3 c4 c5 c6
      obtain ⟨uz, ⟨c0, c1, c2, c3, c4, c5, c6⟩, _⟩ := A20.out
      rcases hq : qx with _ | _
      · subst hq
        have hX0 := HXE.out rfl
        subst hX0
        go_wp2_with fail
        (go_at_call 20; refine (HTI.out _ (HV.out _ B20.out)).mono ?_; rintro e w21 ⟨rfl, b21⟩)
        have A21 := Lib.hid (A20.out.below b21)
        have B21 := Lib.hid (B20.out.trans (b21.mono B20.out.size))
        clear b21
        go_wp2_with fail
        (go_at_call 14; refine (haOk_any _).mono ?_; rintro e w7 ⟨rfl, rfl⟩)
        go_wp2_with fail
        go_ret
        exact ⟨rfl, B21.out⟩
      · subst hq
        have HXR2 := Lib.hid (HXR.out rfl)
        go_wp2_with fail
        (go_at_call 20; refine (HTI.out _ (HV.out _ B20.out)).mono ?_; rintro e w21 ⟨rfl, b21⟩)
        have A21 := Lib.hid (A20.out.below b21)
        have B21 := Lib.hid (B20.out.trans (b21.mono B20.out.size))
        clear b21
        clear uz c0 c1 c2 c3 c4 c5 c6
        go_wp2_with fail
        (go_at_call 18; refine (HXR2.out _ (HV.out _ B21.out)).mono ?_; rintro e w22 ⟨rfl, b22⟩)
        have A22 := Lib.hid (A21.out.below b22)
        have B22 := Lib.hid (B21.out.trans (b22.mono B21.out.size))
        clear b22
        have C22 : Hid (At7 (w22.alloc (.cells #[.bool al, .int .i64 i, .int .i64 it, .int .i64 o, .int .i64 ot, .int .i64 p, .int .i64 pt] 37)) w22.heap.size (.bool al) (.int .i64 i) (.int .i64 it) (.int .i64 o) (.int .i64 ot) (.int .i64 p) (.int .i64 pt)) := at7_new w22 _ _ _ _ _ _ _ _
        have A23 : Hid (At7 (w22.alloc (.cells #[.bool al, .int .i64 i, .int .i64 it, .int .i64 o, .int .i64 ot, .int .i64 p, .int .i64 pt] 37)) b0 (.bool al) (.int .i64 i) (.int .i64 it) (.int .i64 o) (.int .i64 ot) (.int .i64 p) (.int .i64 pt)) := A22.out.below ((Below.refl _ w22).alloc (Nat.le_refl _) _)
        have B23 : Hid (Below w.heap.size w (w22.alloc (.cells #[.bool al, .int .i64 i, .int .i64 it, .int .i64 o, .int .i64 ot, .int .i64 p, .int .i64 pt] 37))) := B22.out.alloc B22.out.size _
        obtain ⟨uz, ⟨c0, c1, c2, c3, c4, c5, c6⟩, _⟩ := A23.out
        obtain ⟨kz, ⟨k0, k1, k2, k3, k4, k5, k6⟩, _⟩ := C22.out
        go_wp2_with fail
        go_ret
        exact ⟨rfl, B23.out⟩
    · subst hyb2
      have HYO2 := Lib.hid (HYO.out rfl)
      have HYT2 := Lib.hid (HYT.out rfl)
      obtain ⟨vz, ⟨d0, d1, d2, d3, d4, d5, d6⟩, _⟩ := Y7.out
      go_wp2_with fail
      (go_at_call 22; refine (HYO2.out _).mono ?_; rintro e w8 ⟨rfl, b8⟩)
      have A8 := Lib.hid (A7.out.below b8)
      have Y8 := Lib.hid (Y7.out.below b8)
      have B8 := Lib.hid (B7.out.trans (b8.mono B7.out.size))
      clear b8
      clear vz d0 d1 d2 d3 d4 d5 d6
      obtain ⟨vz, ⟨d0, d1, d2, d3, d4, d5, d6⟩, _⟩ := Y8.out
      go_wp2_with fail
      (go_at_call 20; refine (HYT2.out _ (HV.out _ B8.out)).mono ?_; rintro e w9 ⟨rfl, b9⟩)
      have A9 := Lib.hid (A8.out.below b9)
      have Y9 := Lib.hid (Y8.out.below b9)
      have B9 := Lib.hid (B8.out.trans (b9.mono B8.out.size))
      clear b9
      clear vz d0 d1 d2 d3 d4 d5 d6
      obtain ⟨uz, ⟨c0, c1, c2, c3, c4, c5, c6⟩, _⟩ := A9.out
      go_wp2_with fail
      (go_at_call 23; refine (HOS.out _).mono ?_; rintro e w20 ⟨rfl, b20⟩)
      have A20 := Lib.hid (A9.out.below b20)
      have B20 := Lib.hid (B9.out.trans (b20.mono B9.out.size))
      clear b20
      clear uz c0 c1 c2 c3 c4 c5 c6
      obtain ⟨uz, ⟨c0, c1, c2, c3, c4, c5, c6⟩, _⟩ := A20.out
      rcases hq : qx with _ | _
      · subst hq
        have hX0 := HXE.out rfl
        subst hX0
        go_wp2_with fail
        (go_at_call 20; refine (HTI.out _ (HV.out _ B20.out)).mono ?_; rintro e w21 ⟨rfl, b21⟩)
        have A21 := Lib.hid (A20.out.below b21)
        have B21 := Lib.hid (B20.out.trans (b21.mono B20.out.size))
        clear b21
        go_wp2_with fail
        (go_at_call 14; refine (haOk_any _).mono ?_; rintro e w7 ⟨rfl, rfl⟩)
        go_wp2_with fail
        go_ret
        exact ⟨rfl, B21.out⟩
      · subst hq
        have HXR2 := Lib.hid (HXR.out rfl)
        go_wp2_with fail
        (go_at_call 20; refine (HTI.out _ (HV.out _ B20.out)).mono ?_; rintro e w21 ⟨rfl, b21⟩)
        have A21 := Lib.hid (A20.out.below b21)
        have B21 := Lib.hid (B20.out.trans (b21.mono B20.out.size))
        clear b21
        clear uz c0 c1 c2 c3 c4 c5 c6
        go_wp2_with fail
        (go_at_call 18; refine (HXR2.out _ (HV.out _ B21.out)).mono ?_; rintro e w22 ⟨rfl, b22⟩)
        have A22 := Lib.hid (A21.out.below b22)
        have B22 := Lib.hid (B21.out.trans (b22.mono B21.out.size))
        clear b22
        have C22 : Hid (At7 (w22.alloc (.cells #[.bool al, .int .i64 i, .int .i64 it, .int .i64 o, .int .i64 ot, .int .i64 p, .int .i64 pt] 37)) w22.heap.size (.bool al) (.int .i64 i) (.int .i64 it) (.int .i64 o) (.int .i64 ot) (.int .i64 p) (.int .i64 pt)) := at7_new w22 _ _ _ _ _ _ _ _
        have A23 : Hid (At7 (w22.alloc (.cells #[.bool al, .int .i64 i, .int .i64 it, .int .i64 o, .int .i64 ot, .int .i64 p, .int .i64 pt] 37)) b0 (.bool al) (.int .i64 i) (.int .i64 it) (.int .i64 o) (.int .i64 ot) (.int .i64 p) (.int .i64 pt)) := A22.out.below ((Below.refl _ w22).alloc (Nat.le_refl _) _)
        have B23 : Hid (Below w.heap.size w (w22.alloc (.cells #[.bool al, .int .i64 i, .int .i64 it, .int .i64 o, .int .i64 ot, .int .i64 p, .int .i64 pt] 37))) := B22.out.alloc B22.out.size _
        obtain ⟨uz, ⟨c0, c1, c2, c3, c4, c5, c6⟩, _⟩ := A23.out
        obtain ⟨kz, ⟨k0, k1, k2, k3, k4, k5, k6⟩, _⟩ := C22.out
        go_wp2_with fail
        go_ret
        exact ⟨rfl, B23.out⟩

end Go.Proofs.YtjnhmobdigfpiaaDoor
