/- The law that a line that goes outside names no end inside: at every code. Conditions: the code lies in memory; the variables that are read hold what they are laid with. (Several texts, joined: IMapE, LwRwrLine.) -/
import Derived.Test.YtoidmmedpefjfaaGreatDoorIPorts
import Derived.Deep.RegionWith
import Derived.Test.YtoidmmedpefjfaaGreatDoorDrawRL
import Derived.Test.YtoidmmedpefjfaaGreatDoorHaOk
import Derived.Test.YtoidmmedpefjfaaGreatDoorHaEnds
import Derived.Test.YtoidmmedpefjfaaGreatDoorTRwlc
import Derived.Test.YtoidmmedpefjfaaGreatDoorTRwld
import Derived.Test.YtoidmmedpefjfaaGreatDoorTRwla
import Derived.Test.YtoidmmedpefjfaaGreatDoorTRwlb
import Derived.Test.YtoidmmedpefjfaaGreatDoorILin

/- The program's MapEnd and MapPort answer as the document says. Conditions: at most 2^22 ends; all numbers are ints. -/
namespace Go.Proofs.YtoidmmedpefjfaaGreatDoor
open Go.RowKit Go.Sort

theorem endV_form' (x : Option (Int × Int)) : ∃ (a p : Int) (b : Bool), endV x = .tuple #[.agg #[.int .i64 a, .int .i64 p], .bool b] := by
  rcases x with _ | ⟨a, p⟩
  · exact ⟨0, 0, false, rfl⟩
  · exact ⟨a, p, true, rfl⟩

set_option maxRecDepth 100000 in
set_option maxHeartbeats 1600000 in
theorem implMapEnd_any (v : Value) (es : List (Int × Int)) (port : Int) (w : World) (hn : es.length ≤ 4194304) (hwf : wfE es) (wn : (Lit.int .i64 port).wf = true) (ht : TabAt w v es) :
    Calls Tryz.prog 45 #[.agg #[v], .int .i64 port] w fun e w' => e = .returned (endV (endI es port)) ∧ Below w.heap.size w w' := by
  have HT := Lib.hid ht
  obtain ⟨ad, cap, rfl, _, _⟩ := ht
  have HP : Hid (∀ w, TabAt w (.slice ad es.length cap) es → Calls Tryz.prog 51 #[.agg #[.slice ad es.length cap]] w fun e w' => ∃ g1 g2, e = .returned (.agg #[.map (some g1), .map (some g2)]) ∧ w.heap.size ≤ g1 ∧ w.heap.size ≤ g2 ∧ Both w' g1 g2 es ∧ Below w.heap.size w w') := fun w h => portsOf_any _ es w hn hwf h
  obtain ⟨a, p, b, hv⟩ := endV_form' (endI es port)
  have HK : Hid (∀ g1 g2 w, Both w g1 g2 es → Calls Tryz.prog 88 #[.agg #[.map (some g1), .map (some g2)], .int .i64 port] w fun e w' => e = .returned (.tuple #[.agg #[.int .i64 a, .int .i64 p], .bool b]) ∧ Below w.heap.size w w') := fun g1 g2 w h => by rw [← hv]; exact key_any g1 g2 es port w h wn
  rw [hv]
  clear hwf wn hv hn
  go_enter Tryz.func45, Tryz.ntmps45
  go_wp2_with fail
  (go_at_call 51; refine (HP.out _ (HT.out.below (((Below.refl _ _).alloc (Nat.le_refl _) _).alloc (by simp) _))).mono ?_; rintro e w1 ⟨g1, g2, rfl, _, _, hb, b1⟩; have HB := Lib.hid hb; obtain ⟨_, cB, b01, z1⟩ := cell_two b1; have r0 := (cB 0).1; have r1 := (cB 1).1; have f0 := (cB 0).2; have f1 := (cB 1).2; simp at r0 r1; clear cB b1 hb)
  go_wp2_with fail
  (go_at_call 88; refine (HK.out g1 g2 _ HB.out).mono ?_; rintro e w2 ⟨rfl, b2⟩; have r20 : w2.cell? ⟨w.heap.size + 1, 0, none⟩ = some (.int .i64 0) := (by rw [b2.cell (by simp; omega)]; exact r0); have r21 : w2.cell? ⟨w.heap.size + 1, 1, none⟩ = some (.int .i64 0) := (by rw [b2.cell (by simp; omega)]; exact r1); have f20 : w2.frozen? ⟨w.heap.size + 1, 0, none⟩ = false := (by rw [b2.frozen (by simp; omega)]; exact f0); have f21 : w2.frozen? ⟨w.heap.size + 1, 1, none⟩ = false := (by rw [b2.frozen (by simp; omega)]; exact f1); have BW : Hid (Below w.heap.size w w2) := b01.trans (b2.mono (by omega)); obtain ⟨e0, e1, e2⟩ := set_two (.int .i64 a) (.int .i64 p) r20 r21; have E1 := Lib.hid e1; have E2 := Lib.hid e2; clear e1 e2 b2)
  go_wp2_with fail
  refine bodyPost_ret (v := .tuple #[.agg #[.int .i64 a, .int .i64 p], .bool b]) (by simp [results, Tryz.results45, go_sem, E1.out, E2.out]) rfl ⟨rfl, (BW.out.setCell (by simp) _).setCell (by simp) _⟩

set_option maxRecDepth 100000 in
set_option maxHeartbeats 1600000 in
theorem implMapPort_any (v : Value) (es : List (Int × Int)) (a p : Int) (w : World) (hn : es.length ≤ 4194304) (hwf : wfE es) (wa : (Lit.int .i64 a).wf = true) (wp : (Lit.int .i64 p).wf = true) (ht : TabAt w v es) :
    Calls Tryz.prog 24 #[.agg #[v], .agg #[.int .i64 a, .int .i64 p]] w fun e w' => e = .returned (.int .i64 (portI es (a, p))) ∧ Below w.heap.size w w' := by
  have HT := Lib.hid ht
  obtain ⟨ad, cap, rfl, _, _⟩ := ht
  have HP : Hid (∀ w, TabAt w (.slice ad es.length cap) es → Calls Tryz.prog 51 #[.agg #[.slice ad es.length cap]] w fun e w' => ∃ g1 g2, e = .returned (.agg #[.map (some g1), .map (some g2)]) ∧ w.heap.size ≤ g1 ∧ w.heap.size ≤ g2 ∧ Both w' g1 g2 es ∧ Below w.heap.size w w') := fun w h => portsOf_any _ es w hn hwf h
  obtain ⟨q, hq⟩ : ∃ q, q = portI es (a, p) := ⟨_, rfl⟩
  obtain ⟨b, hbb⟩ : ∃ b, b = decide ((a, p) ∈ es) := ⟨_, rfl⟩
  have HV : Hid (∀ g1 g2 w, Both w g1 g2 es → Calls Tryz.prog 64 #[.agg #[.map (some g1), .map (some g2)], .agg #[.int .i64 a, .int .i64 p]] w fun e w' => e = .returned (.tuple #[.int .i64 q, .bool b]) ∧ Below w.heap.size w w') := fun g1 g2 w h => by rw [hq, hbb]; exact value_any g1 g2 es a p w h wa wp
  rw [← hq]
  clear hwf wa wp hq hn hbb
  go_enter Tryz.func24, Tryz.ntmps24
  go_wp2_with fail
  obtain ⟨W0, hW0⟩ : ∃ W0, W0 = (w.alloc (.cells #[.slice ad es.length cap] 25)).alloc (.cells #[.int .i64 a, .int .i64 p] 34) := ⟨_, rfl⟩
  have t0 : W0.cell? ⟨w.heap.size, 0, none⟩ = some (.slice ad es.length cap) := by rw [hW0, cell_alloc_lt (by simp)]; exact (cell_new w _ _ 0).1
  have e0 : W0.cell? ⟨w.heap.size + 1, 0, none⟩ = some (.int .i64 a) := by rw [hW0]; simp
  have e1 : W0.cell? ⟨w.heap.size + 1, 1, none⟩ = some (.int .i64 p) := by rw [hW0]; simp
  have B0 : Hid (Below w.heap.size w W0) := by rw [hW0]; exact ((Below.refl _ _).alloc (Nat.le_refl _) _).alloc (by simp) _
  have z0 : W0.heap.size = w.heap.size + 2 := by rw [hW0]; simp
  rw [← hW0]
  clear hW0
  have HT0 := Lib.hid (HT.out.below B0.out)
  go_region_with (first
    | (go_at_call 51; refine (HP.out _ (HT0.out.below ((Below.refl _ _).drew))).mono ?_; rintro e w1 ⟨g1, g2, rfl, _, _, hb, b1⟩; have HB := Lib.hid hb; have b1 : Below W0.heap.size W0 w1 := ((Below.refl _ _).drew).trans b1; have e0 : w1.cell? ⟨w.heap.size + 1, 0, none⟩ = some (.int .i64 a) := (by rw [b1.cell (by simp; omega)]; exact e0); have e1 : w1.cell? ⟨w.heap.size + 1, 1, none⟩ = some (.int .i64 p) := (by rw [b1.cell (by simp; omega)]; exact e1); clear hb)
    | (go_at_call 64; refine (HV.out _ _ _ HB.out).mono ?_; rintro e w2 ⟨rfl, b2⟩; have BW : Hid (Below w.heap.size w w2) := B0.out.trans ((b1.trans (b2.mono b1.size)).mono (by omega))))
  all_goals
    go_wp2_with fail
    go_ret
    exact ⟨rfl, BW.out⟩

end Go.Proofs.YtoidmmedpefjfaaGreatDoor

/- The law that a line that goes outside names no end inside: at every code. Conditions: the code lies in memory; the variables that are read hold what they are laid with. -/
namespace Go.Proofs.YtoidmmedpefjfaaGreatDoor
open Go.RowKit Go.Sort

theorem boxD {w w' : World} {b i : Nat} {v : Value} (h : w.cell? ⟨b, i, none⟩ = some v) (hb : Below w.heap.size w w') : w'.cell? ⟨b, i, none⟩ = some v := by
  rw [hb.cell (p := ⟨b, i, none⟩) (World.block_lt_of_cell? w _ h)]; exact h
theorem SmE.wfE {us : List (Int × Int)} (h : SmE us) : wfE us := fun x hx => (h x hx).wf

set_option maxRecDepth 100000 in
set_option maxHeartbeats 12800000 in
theorem lwRwrLine_of (ao : Option Addr) (n cap : Nat) (w : World) (h : BytesIn w ao n) (hn : n ≤ cap) (hv : VarsOk w) (hb1 : ¬ 1048576 < n) :
    Calls Tryz.prog 3 #[.slice ao n cap] w fun e w' => e = .returned (.bool true) ∧ Below w.heap.size w w' := by
  have H := Lib.hid h
  have HV : Hid (∀ w', Below w.heap.size w w' → VarsOk w') := fun w' h => hv.below h
  clear h hv
  go_enter Tryz.func3, Tryz.ntmps3
  go_wp2_with fail
  (go_at_call 13; refine (drawRwrLine_any ao n cap _ H.out hn).mono ?_; rintro e w1 ⟨g1, k1, us, s, rfl, o1, ⟨u8, sm1⟩, hss, b1⟩)
  have BW := Lib.hid b1
  have Tt := Lib.hid o1.tab
  have WU := Lib.hid sm1.wfE
  clear b1 o1 H sm1
  have hxl := rwrA_le us s.data.toList
  obtain ⟨xs, hxs⟩ : ∃ xs, xs = (rwrA us s.data.toList).1 := ⟨_, rfl⟩
  obtain ⟨Q1, hQ1⟩ : ∃ Q1 : ByteArray, Q1 = ⟨(rwrA us s.data.toList).2.toArray⟩ := ⟨_, rfl⟩
  have hQl : Q1.data.toList = (rwrA us s.data.toList).2 := by rw [hQ1]
  have hQ1s : Q1.size ≤ 2097152 := by have := rwrA_len us s.data.toList; rw [← hQl, len_list, len_list] at this; omega
  rw [← hxs] at hxl
  obtain ⟨mb, hmb⟩ : ∃ mb, mb = mapB us := ⟨_, rfl⟩
  obtain ⟨lb, hlb⟩ : ∃ lb, lb = linB s.data.toList := ⟨_, rfl⟩
  have HIA : Hid (∀ w, TabAt w (.slice g1 us.length k1) us → VarsOk w → Calls Tryz.prog 14 #[.agg #[.slice g1 us.length k1], .string s] w fun e w' => ∃ g c, e = .returned (.tuple #[.agg #[.slice g xs.length c], .string (Q1)]) ∧ FreshTab w' w.heap.size (.slice g xs.length c) xs ∧ Below w.heap.size w w') := fun w ht hv => by rw [hxs, hQ1]; exact implRwrA _ us s w (by omega) (by omega) WU.out ht hv
  have HSA : Hid (∀ w, TabAt w (.slice g1 us.length k1) us → Calls Tryz.prog 15 #[.agg #[.slice g1 us.length k1], .string s] w fun e w' => ∃ g c, e = .returned (.tuple #[.agg #[.slice g xs.length c], .string (Q1)]) ∧ FreshTab w' w.heap.size (.slice g xs.length c) xs ∧ Below w.heap.size w w') := fun w ht => by rw [hxs, hQ1]; exact specRwrA _ us s w (by omega) (by omega) ht
  have HHE : Hid (∀ (l : List (Int × Int)) v1 v2 w, l.length ≤ 4194304 → TabAt w v1 l → TabAt w v2 l → Calls Tryz.prog 16 #[v1, v2] w fun e w' => e = .returned (.bool true) ∧ Below w.heap.size w w') := fun l v1 v2 w hl h1 h2 => haEnds_same l v1 v2 w hl h1 h2
  have HMO : Hid (∀ w, TabAt w (.slice g1 us.length k1) us → Calls Tryz.prog 17 #[.agg #[.slice g1 us.length k1]] w fun e w' => e = .returned (.bool mb) ∧ Below w.heap.size w w') := fun w ht => by rw [hmb]; exact specMapOk_any _ us w (by omega) ht
  have HLO : Hid (∀ w, Calls Tryz.prog 18 #[.string s] w fun e w' => e = .returned (.bool lb) ∧ w = w') := fun w => by rw [hlb]; exact specLin_any s w (by omega)
  have HNO : Hid ((mb && lb) = false → xs = [] ∧ Q1 = ⟨#[]⟩) := fun e1 => by
    rw [hmb, hlb] at e1
    rw [hxs, hQ1, rwrA_not e1]
    exact ⟨rfl, rfl⟩
  have HYES : Hid (mb = true → lb = true → rwrA us s.data.toList = lineE us s.data.toList ∧ mapB us = true ∧ linB s.data.toList = true ∧ xs = (lineE us s.data.toList).1 ∧ Q1.data.toList = (lineE us s.data.toList).2) := fun e1 e2 => by
    rw [hmb] at e1
    rw [hlb] at e2
    have e3 := rwrA_yes (es := us) (l := s.data.toList) (by rw [e1, e2]; rfl)
    exact ⟨e3, e1, e2, by rw [hxs, e3], by rw [hQl, e3]⟩
  clear hxs hQ1 hmb hlb hQl
  go_wp2_with fail
  obtain ⟨W1, hW1⟩ : ∃ W, W = (w1.alloc (.cells #[.slice g1 us.length k1] 25)) := ⟨_, rfl⟩
  have qW1 : Below w1.heap.size w1 W1 := by rw [hW1]; exact (Below.refl _ _).alloc (Nat.le_refl _) _
  have zW1 : w1.heap.size + 1 ≤ W1.heap.size := by rw [hW1]; simp
  have ct0 : W1.cell? ⟨w1.heap.size, 0, none⟩ = some (.slice g1 us.length k1) := by rw [hW1]; simp
  replace Tt := Lib.hid (Tt.out.below qW1)
  replace BW := Lib.hid (BW.out.trans (qW1.mono BW.out.size))
  rw [← hW1]
  obtain ⟨bt, hbt⟩ : ∃ b, b = w1.heap.size := ⟨_, rfl⟩
  have lt : bt < W1.heap.size := by omega
  rw [← hbt] at ct0 ⊢
  clear hbt hW1
  clear qW1 zW1
  (go_at_call 14; refine (HIA.out _ Tt.out (HV.out _ BW.out)).mono ?_; rintro e w2x ⟨g3, k3, rfl, f3, qb⟩)
  have zb := qb.size
  replace ct0 := boxD ct0 qb
  replace lt : bt < w2x.heap.size := by omega
  replace Tt := Lib.hid (Tt.out.below qb)
  replace BW := Lib.hid (BW.out.trans (qb.mono BW.out.size))
  clear qb zb
  have Tx := Lib.hid f3.tab
  clear f3
  have at0 : ∀ o, (w2x.alloc o).cell? ⟨bt, 0, none⟩ = some (.slice g1 us.length k1) := fun o => by rw [cell_alloc_lt lt]; exact ct0
  go_wp2_with fail
  obtain ⟨W3, hW3⟩ : ∃ W, W = (w2x.alloc (.cells #[.slice g3 xs.length k3] 25)) := ⟨_, rfl⟩
  have qW3 : Below w2x.heap.size w2x W3 := by rw [hW3]; exact (Below.refl _ _).alloc (Nat.le_refl _) _
  have zW3 : w2x.heap.size + 1 ≤ W3.heap.size := by rw [hW3]; simp
  replace ct0 := boxD ct0 qW3
  replace lt : bt < W3.heap.size := by omega
  have cx0 : W3.cell? ⟨w2x.heap.size, 0, none⟩ = some (.slice g3 xs.length k3) := by rw [hW3]; simp
  replace Tt := Lib.hid (Tt.out.below qW3)
  replace Tx := Lib.hid (Tx.out.below qW3)
  replace BW := Lib.hid (BW.out.trans (qW3.mono BW.out.size))
  rw [← hW3]
  obtain ⟨bx, hbx⟩ : ∃ b, b = w2x.heap.size := ⟨_, rfl⟩
  have lx : bx < W3.heap.size := by omega
  rw [← hbx] at cx0 ⊢
  clear hbx hW3
  clear at0
  clear qW3 zW3
  (go_at_call 15; refine (HSA.out _ Tt.out).mono ?_; rintro e w4x ⟨g4, k4, rfl, f4, qb⟩)
  have zb := qb.size
  replace ct0 := boxD ct0 qb
  replace lt : bt < w4x.heap.size := by omega
  replace cx0 := boxD cx0 qb
  replace lx : bx < w4x.heap.size := by omega
  replace Tt := Lib.hid (Tt.out.below qb)
  replace Tx := Lib.hid (Tx.out.below qb)
  replace BW := Lib.hid (BW.out.trans (qb.mono BW.out.size))
  clear qb zb
  have Tc := Lib.hid f4.tab
  clear f4
  have at0 : ∀ o, (w4x.alloc o).cell? ⟨bt, 0, none⟩ = some (.slice g1 us.length k1) := fun o => by rw [cell_alloc_lt lt]; exact ct0
  have ax0 : ∀ o, (w4x.alloc o).cell? ⟨bx, 0, none⟩ = some (.slice g3 xs.length k3) := fun o => by rw [cell_alloc_lt lx]; exact cx0
  go_wp2_with fail
  obtain ⟨W5, hW5⟩ : ∃ W, W = (w4x.alloc (.cells #[.slice g4 xs.length k4] 25)) := ⟨_, rfl⟩
  have qW5 : Below w4x.heap.size w4x W5 := by rw [hW5]; exact (Below.refl _ _).alloc (Nat.le_refl _) _
  have zW5 : w4x.heap.size + 1 ≤ W5.heap.size := by rw [hW5]; simp
  replace ct0 := boxD ct0 qW5
  replace lt : bt < W5.heap.size := by omega
  replace cx0 := boxD cx0 qW5
  replace lx : bx < W5.heap.size := by omega
  have cc0 : W5.cell? ⟨w4x.heap.size, 0, none⟩ = some (.slice g4 xs.length k4) := by rw [hW5]; simp
  replace Tt := Lib.hid (Tt.out.below qW5)
  replace Tx := Lib.hid (Tx.out.below qW5)
  replace Tc := Lib.hid (Tc.out.below qW5)
  replace BW := Lib.hid (BW.out.trans (qW5.mono BW.out.size))
  rw [← hW5]
  obtain ⟨bc, hbc⟩ : ∃ b, b = w4x.heap.size := ⟨_, rfl⟩
  have lc : bc < W5.heap.size := by omega
  rw [← hbc] at cc0 ⊢
  clear hbc hW5
  clear at0 ax0
  clear qW5 zW5
  (go_at_call 16; refine (HHE.out xs _ _ _ (by omega) Tx.out Tc.out).mono ?_; rintro e w6x ⟨rfl, qb⟩)
  have zb := qb.size
  replace ct0 := boxD ct0 qb
  replace lt : bt < w6x.heap.size := by omega
  replace cx0 := boxD cx0 qb
  replace lx : bx < w6x.heap.size := by omega
  replace cc0 := boxD cc0 qb
  replace lc : bc < w6x.heap.size := by omega
  replace Tt := Lib.hid (Tt.out.below qb)
  replace Tx := Lib.hid (Tx.out.below qb)
  replace Tc := Lib.hid (Tc.out.below qb)
  replace BW := Lib.hid (BW.out.trans (qb.mono BW.out.size))
  clear qb zb
  go_wp2_with fail
  (go_at_call 17; refine (HMO.out _ Tt.out).mono ?_; rintro e w7x ⟨rfl, qb⟩)
  have zb := qb.size
  replace ct0 := boxD ct0 qb
  replace lt : bt < w7x.heap.size := by omega
  replace cx0 := boxD cx0 qb
  replace lx : bx < w7x.heap.size := by omega
  replace cc0 := boxD cc0 qb
  replace lc : bc < w7x.heap.size := by omega
  replace Tt := Lib.hid (Tt.out.below qb)
  replace Tx := Lib.hid (Tx.out.below qb)
  replace Tc := Lib.hid (Tc.out.below qb)
  replace BW := Lib.hid (BW.out.trans (qb.mono BW.out.size))
  clear qb zb
  cases mb
  · obtain ⟨e1, e2⟩ := HNO.out (by simp)
    subst e1
    subst e2
    clear HNO HYES
    go_wp2_with fail
    (go_at_call 19; refine (haOk_any _).mono ?_; rintro e wl ⟨rfl, rfl⟩)
    go_wp2_with fail
    go_ret
    exact ⟨rfl, BW.out⟩
  · go_wp2_with fail
    (go_at_call 18; refine (HLO.out _).mono ?_; rintro e wl ⟨rfl, rfl⟩)
    cases lb
    · obtain ⟨e1, e2⟩ := HNO.out (by simp)
      subst e1
      subst e2
      clear HNO HYES
      go_wp2_with fail
      (go_at_call 19; refine (haOk_any _).mono ?_; rintro e wl ⟨rfl, rfl⟩)
      go_wp2_with fail
      go_ret
      exact ⟨rfl, BW.out⟩
    · obtain ⟨hA, hm, hl, hx1, hq1⟩ := HYES.out (by simp) (by simp)
      clear HNO HYES
      have HSQ : Hid (∀ w, VarsOk w → Calls Tryz.prog 20 #[.string Q1] w fun e w' => e = .returned (.tuple #[.agg #[.int .i64 0, .int .i64 0], .bool false]) ∧ Below w.heap.size w w') := fun w hv => by
        have := implSays_any Q1 w hQ1s hv
        rw [hq1, lineE_says] at this
        exact this
      have hmx : mapB xs = true := by rw [hx1]; exact lineE_ok hm
      have HMX : Hid (∀ v w, TabAt w v xs → Calls Tryz.prog 21 #[.agg #[v]] w fun e w' => e = .returned (.bool true) ∧ Below w.heap.size w w') := fun v w ht => by rw [← hmx]; exact implMapOk_any v xs w (by omega) (mapB_wf hmx) ht
      obtain ⟨tl, htl⟩ : ∃ tl, xs = us ++ tl := by rw [hx1]; exact lineE_pre us s.data.toList
      have HHF : Hid (∀ w, TabAt w (.slice g3 xs.length k3) xs → TabAt w (.slice g1 us.length k1) us → Calls Tryz.prog 22 #[.slice g3 xs.length k3, .slice g1 us.length k1] w fun e w' => e = .returned (.bool true) ∧ Below w.heap.size w w') := fun w h1 h2 => haFirst_pre g3 k3 g1 k1 xs us tl w (by omega) htl h1 h2
      have HLQ : Hid (∀ w, Calls Tryz.prog 23 #[.string Q1] w fun e w' => e = .returned (.bool true) ∧ w = w') := fun w => by
        have := implLin_all Q1 w
        rw [hq1, lin_line hm hl] at this
        exact this
      have HCASE : Hid ((xs = us ∧ Q1 = s ∧ ∀ w, VarsOk w → Calls Tryz.prog 20 #[.string s] w fun e w' => e = .returned (.tuple #[.agg #[.int .i64 0, .int .i64 0], .bool false]) ∧ Below w.heap.size w w') ∨ ∃ a p r : Int, 0 ≤ r ∧ r ≤ 506 ∧ (∀ w, VarsOk w → Calls Tryz.prog 20 #[.string s] w fun e w' => e = .returned (.tuple #[.agg #[.int .i64 a, .int .i64 p], .bool true]) ∧ Below w.heap.size w w') ∧ (∀ v w, TabAt w v xs → Calls Tryz.prog 24 #[.agg #[v], .agg #[.int .i64 a, .int .i64 p]] w fun e w' => e = .returned (.int .i64 r) ∧ Below w.heap.size w w') ∧ ((r = 0 ∧ Q1 = ⟨noneL.toArray⟩ ∧ xs.length = 6) ∨ (r ≠ 0 ∧ Q1 = ⟨(lpL 50 r).toArray⟩))) := by
        show _ ∨ _
        rcases hs : saysE s.data.toList with _ | ⟨a, p⟩
        · left
          rw [lineE_none hs] at hx1 hq1
          refine ⟨hx1, data_inj hq1, fun w hv => ?_⟩
          have := implSays_any s w (by omega) hv
          rw [hs] at this
          exact this
        · right
          rw [lineE_some hs] at hx1 hq1
          simp only at hx1 hq1
          have hins := says_ins hs
          have hwf := ins_wf hins
          have hr := rwr_port us (a, p) (mapB_le hm)
          rw [← hx1] at hr
          have hb := putE_snd_bound us (a, p) (mapB_le hm)
          refine ⟨a, p, portI xs (a, p), by rw [hr]; exact hb.1, by rw [hr]; exact hb.2, fun w hv => ?_, fun v w ht => implMapPort_any v xs a p w (by omega) (mapB_wf hmx) hwf.1 hwf.2 ht, ?_⟩
          · have := implSays_any s w (by omega) hv
            rw [hs] at this
            exact this
          · rw [hr]
            by_cases h0 : (putE us (a, p)).2 = 0
            · left
              rw [if_pos h0] at hq1
              obtain ⟨_, h6, he⟩ := putE_zero h0
              exact ⟨h0, data_inj (by rw [hq1]), by rw [hx1, he]; exact h6⟩
            · right
              rw [if_neg h0] at hq1
              exact ⟨h0, data_inj (by rw [hq1])⟩
      clear hA hm hl hx1 hq1 hmx htl
      go_wp2_with fail
      (go_at_call 20; refine (HSQ.out _ (HV.out _ BW.out)).mono ?_; rintro e w8x ⟨rfl, qb⟩)
      have zb := qb.size
      replace ct0 := boxD ct0 qb
      replace lt : bt < w8x.heap.size := by omega
      replace cx0 := boxD cx0 qb
      replace lx : bx < w8x.heap.size := by omega
      replace cc0 := boxD cc0 qb
      replace lc : bc < w8x.heap.size := by omega
      replace Tt := Lib.hid (Tt.out.below qb)
      replace Tx := Lib.hid (Tx.out.below qb)
      replace Tc := Lib.hid (Tc.out.below qb)
      replace BW := Lib.hid (BW.out.trans (qb.mono BW.out.size))
      clear qb zb
      have at0 : ∀ o, (w8x.alloc o).cell? ⟨bt, 0, none⟩ = some (.slice g1 us.length k1) := fun o => by rw [cell_alloc_lt lt]; exact ct0
      have ax0 : ∀ o, (w8x.alloc o).cell? ⟨bx, 0, none⟩ = some (.slice g3 xs.length k3) := fun o => by rw [cell_alloc_lt lx]; exact cx0
      have ac0 : ∀ o, (w8x.alloc o).cell? ⟨bc, 0, none⟩ = some (.slice g4 xs.length k4) := fun o => by rw [cell_alloc_lt lc]; exact cc0
      go_wp2_with fail
      obtain ⟨W9, hW9⟩ : ∃ W, W = (w8x.alloc (.cells #[.int .i64 0, .int .i64 0] 34)) := ⟨_, rfl⟩
      have qW9 : Below w8x.heap.size w8x W9 := by rw [hW9]; exact (Below.refl _ _).alloc (Nat.le_refl _) _
      have zW9 : w8x.heap.size + 1 ≤ W9.heap.size := by rw [hW9]; simp
      replace ct0 := boxD ct0 qW9
      replace lt : bt < W9.heap.size := by omega
      replace cx0 := boxD cx0 qW9
      replace lx : bx < W9.heap.size := by omega
      replace cc0 := boxD cc0 qW9
      replace lc : bc < W9.heap.size := by omega
      have cz0 : W9.cell? ⟨w8x.heap.size, 0, none⟩ = some (.int .i64 0) := by rw [hW9]; simp
      have cz1 : W9.cell? ⟨w8x.heap.size, 1, none⟩ = some (.int .i64 0) := by rw [hW9]; simp
      replace Tt := Lib.hid (Tt.out.below qW9)
      replace Tx := Lib.hid (Tx.out.below qW9)
      replace Tc := Lib.hid (Tc.out.below qW9)
      replace BW := Lib.hid (BW.out.trans (qW9.mono BW.out.size))
      rw [← hW9]
      obtain ⟨bz, hbz⟩ : ∃ b, b = w8x.heap.size := ⟨_, rfl⟩
      have lz : bz < W9.heap.size := by omega
      rw [← hbz] at cz0 cz1 ⊢
      clear hbz hW9
      clear at0 ax0 ac0
      clear qW9 zW9
      (go_at_call 21; refine (HMX.out _ _ Tx.out).mono ?_; rintro e w10x ⟨rfl, qb⟩)
      have zb := qb.size
      replace ct0 := boxD ct0 qb
      replace lt : bt < w10x.heap.size := by omega
      replace cx0 := boxD cx0 qb
      replace lx : bx < w10x.heap.size := by omega
      replace cc0 := boxD cc0 qb
      replace lc : bc < w10x.heap.size := by omega
      replace cz0 := boxD cz0 qb
      replace cz1 := boxD cz1 qb
      replace lz : bz < w10x.heap.size := by omega
      replace Tt := Lib.hid (Tt.out.below qb)
      replace Tx := Lib.hid (Tx.out.below qb)
      replace Tc := Lib.hid (Tc.out.below qb)
      replace BW := Lib.hid (BW.out.trans (qb.mono BW.out.size))
      clear qb zb
      go_wp2_with fail
      (go_at_call 22; refine (HHF.out _ Tx.out Tt.out).mono ?_; rintro e w11x ⟨rfl, qb⟩)
      have zb := qb.size
      replace ct0 := boxD ct0 qb
      replace lt : bt < w11x.heap.size := by omega
      replace cx0 := boxD cx0 qb
      replace lx : bx < w11x.heap.size := by omega
      replace cc0 := boxD cc0 qb
      replace lc : bc < w11x.heap.size := by omega
      replace cz0 := boxD cz0 qb
      replace cz1 := boxD cz1 qb
      replace lz : bz < w11x.heap.size := by omega
      replace Tt := Lib.hid (Tt.out.below qb)
      replace Tx := Lib.hid (Tx.out.below qb)
      replace Tc := Lib.hid (Tc.out.below qb)
      replace BW := Lib.hid (BW.out.trans (qb.mono BW.out.size))
      clear qb zb
      go_wp2_with fail
      (go_at_call 23; refine (HLQ.out _).mono ?_; rintro e wl ⟨rfl, rfl⟩)
      go_wp2_with fail
      rcases HCASE.out with ⟨hxu, hqs, hsay⟩ | ⟨a, p, r, hr0, hr6, hsay, hport, hr⟩
      · have HSAY := Lib.hid hsay
        clear hsay HCASE HSQ HHF HSA HIA
        subst hqs
        have HXU := Lib.hid hxu
        clear hxu
        (go_at_call 20; refine (HSAY.out _ (HV.out _ BW.out)).mono ?_; rintro e w12x ⟨rfl, qb⟩)
        have zb := qb.size
        replace ct0 := boxD ct0 qb
        replace lt : bt < w12x.heap.size := by omega
        replace cx0 := boxD cx0 qb
        replace lx : bx < w12x.heap.size := by omega
        replace cc0 := boxD cc0 qb
        replace lc : bc < w12x.heap.size := by omega
        replace cz0 := boxD cz0 qb
        replace cz1 := boxD cz1 qb
        replace lz : bz < w12x.heap.size := by omega
        replace Tt := Lib.hid (Tt.out.below qb)
        replace Tx := Lib.hid (Tx.out.below qb)
        replace Tc := Lib.hid (Tc.out.below qb)
        replace BW := Lib.hid (BW.out.trans (qb.mono BW.out.size))
        clear qb zb
        have at0 : ∀ o, (w12x.alloc o).cell? ⟨bt, 0, none⟩ = some (.slice g1 us.length k1) := fun o => by rw [cell_alloc_lt lt]; exact ct0
        have ax0 : ∀ o, (w12x.alloc o).cell? ⟨bx, 0, none⟩ = some (.slice g3 xs.length k3) := fun o => by rw [cell_alloc_lt lx]; exact cx0
        have ac0 : ∀ o, (w12x.alloc o).cell? ⟨bc, 0, none⟩ = some (.slice g4 xs.length k4) := fun o => by rw [cell_alloc_lt lc]; exact cc0
        have az0 : ∀ o, (w12x.alloc o).cell? ⟨bz, 0, none⟩ = some (.int .i64 0) := fun o => by rw [cell_alloc_lt lz]; exact cz0
        have az1 : ∀ o, (w12x.alloc o).cell? ⟨bz, 1, none⟩ = some (.int .i64 0) := fun o => by rw [cell_alloc_lt lz]; exact cz1
        go_wp2_with fail
        obtain ⟨W13, hW13⟩ : ∃ W, W = (w12x.alloc (.cells #[.int .i64 0, .int .i64 0] 34)) := ⟨_, rfl⟩
        have qW13 : Below w12x.heap.size w12x W13 := by rw [hW13]; exact (Below.refl _ _).alloc (Nat.le_refl _) _
        have zW13 : w12x.heap.size + 1 ≤ W13.heap.size := by rw [hW13]; simp
        replace ct0 := boxD ct0 qW13
        replace lt : bt < W13.heap.size := by omega
        replace cx0 := boxD cx0 qW13
        replace lx : bx < W13.heap.size := by omega
        replace cc0 := boxD cc0 qW13
        replace lc : bc < W13.heap.size := by omega
        replace cz0 := boxD cz0 qW13
        replace cz1 := boxD cz1 qW13
        replace lz : bz < W13.heap.size := by omega
        have ce0 : W13.cell? ⟨w12x.heap.size, 0, none⟩ = some (.int .i64 0) := by rw [hW13]; simp
        have ce1 : W13.cell? ⟨w12x.heap.size, 1, none⟩ = some (.int .i64 0) := by rw [hW13]; simp
        replace Tt := Lib.hid (Tt.out.below qW13)
        replace Tx := Lib.hid (Tx.out.below qW13)
        replace Tc := Lib.hid (Tc.out.below qW13)
        replace BW := Lib.hid (BW.out.trans (qW13.mono BW.out.size))
        rw [← hW13]
        obtain ⟨be, hbe⟩ : ∃ b, b = w12x.heap.size := ⟨_, rfl⟩
        have le : be < W13.heap.size := by omega
        rw [← hbe] at ce0 ce1 ⊢
        clear hbe hW13
        clear at0 ax0 ac0 az0 az1
        clear qW13 zW13
        have Ty : Hid (TabAt W13 (.slice g3 xs.length k3) us) := by have := Tx.out; rw [HXU.out] at this ⊢; exact this
        (go_at_call 16; refine (HHE.out us _ _ _ (by omega) Ty.out Tt.out).mono ?_; rintro e wl ⟨rfl, bl⟩)
        go_wp2_with fail
        go_ret
        exact ⟨by simp, BW.out.trans (bl.mono BW.out.size)⟩
      · have HSAY := Lib.hid hsay
        have HPORT := Lib.hid hport
        clear hsay hport HCASE HSQ HHF HSA HIA
        (go_at_call 20; refine (HSAY.out _ (HV.out _ BW.out)).mono ?_; rintro e w12x ⟨rfl, qb⟩)
        have zb := qb.size
        replace ct0 := boxD ct0 qb
        replace lt : bt < w12x.heap.size := by omega
        replace cx0 := boxD cx0 qb
        replace lx : bx < w12x.heap.size := by omega
        replace cc0 := boxD cc0 qb
        replace lc : bc < w12x.heap.size := by omega
        replace cz0 := boxD cz0 qb
        replace cz1 := boxD cz1 qb
        replace lz : bz < w12x.heap.size := by omega
        replace Tt := Lib.hid (Tt.out.below qb)
        replace Tx := Lib.hid (Tx.out.below qb)
        replace Tc := Lib.hid (Tc.out.below qb)
        replace BW := Lib.hid (BW.out.trans (qb.mono BW.out.size))
        clear qb zb
        have at0 : ∀ o, (w12x.alloc o).cell? ⟨bt, 0, none⟩ = some (.slice g1 us.length k1) := fun o => by rw [cell_alloc_lt lt]; exact ct0
        have ax0 : ∀ o, (w12x.alloc o).cell? ⟨bx, 0, none⟩ = some (.slice g3 xs.length k3) := fun o => by rw [cell_alloc_lt lx]; exact cx0
        have ac0 : ∀ o, (w12x.alloc o).cell? ⟨bc, 0, none⟩ = some (.slice g4 xs.length k4) := fun o => by rw [cell_alloc_lt lc]; exact cc0
        have az0 : ∀ o, (w12x.alloc o).cell? ⟨bz, 0, none⟩ = some (.int .i64 0) := fun o => by rw [cell_alloc_lt lz]; exact cz0
        have az1 : ∀ o, (w12x.alloc o).cell? ⟨bz, 1, none⟩ = some (.int .i64 0) := fun o => by rw [cell_alloc_lt lz]; exact cz1
        go_wp2_with fail
        obtain ⟨W13, hW13⟩ : ∃ W, W = (w12x.alloc (.cells #[.int .i64 a, .int .i64 p] 34)) := ⟨_, rfl⟩
        have qW13 : Below w12x.heap.size w12x W13 := by rw [hW13]; exact (Below.refl _ _).alloc (Nat.le_refl _) _
        have zW13 : w12x.heap.size + 1 ≤ W13.heap.size := by rw [hW13]; simp
        replace ct0 := boxD ct0 qW13
        replace lt : bt < W13.heap.size := by omega
        replace cx0 := boxD cx0 qW13
        replace lx : bx < W13.heap.size := by omega
        replace cc0 := boxD cc0 qW13
        replace lc : bc < W13.heap.size := by omega
        replace cz0 := boxD cz0 qW13
        replace cz1 := boxD cz1 qW13
        replace lz : bz < W13.heap.size := by omega
        have ce0 : W13.cell? ⟨w12x.heap.size, 0, none⟩ = some (.int .i64 a) := by rw [hW13]; simp
        have ce1 : W13.cell? ⟨w12x.heap.size, 1, none⟩ = some (.int .i64 p) := by rw [hW13]; simp
        replace Tt := Lib.hid (Tt.out.below qW13)
        replace Tx := Lib.hid (Tx.out.below qW13)
        replace Tc := Lib.hid (Tc.out.below qW13)
        replace BW := Lib.hid (BW.out.trans (qW13.mono BW.out.size))
        rw [← hW13]
        obtain ⟨be, hbe⟩ : ∃ b, b = w12x.heap.size := ⟨_, rfl⟩
        have le : be < W13.heap.size := by omega
        rw [← hbe] at ce0 ce1 ⊢
        clear hbe hW13
        clear at0 ax0 ac0 az0 az1
        clear qW13 zW13
        (go_at_call 24; refine (HPORT.out _ _ Tx.out).mono ?_; rintro e w14x ⟨rfl, qb⟩)
        have zb := qb.size
        replace ct0 := boxD ct0 qb
        replace lt : bt < w14x.heap.size := by omega
        replace cx0 := boxD cx0 qb
        replace lx : bx < w14x.heap.size := by omega
        replace cc0 := boxD cc0 qb
        replace lc : bc < w14x.heap.size := by omega
        replace cz0 := boxD cz0 qb
        replace cz1 := boxD cz1 qb
        replace lz : bz < w14x.heap.size := by omega
        replace ce0 := boxD ce0 qb
        replace ce1 := boxD ce1 qb
        replace le : be < w14x.heap.size := by omega
        replace Tt := Lib.hid (Tt.out.below qb)
        replace Tx := Lib.hid (Tx.out.below qb)
        replace Tc := Lib.hid (Tc.out.below qb)
        replace BW := Lib.hid (BW.out.trans (qb.mono BW.out.size))
        clear qb zb
        rcases hr with ⟨h0, hq, h6⟩ | ⟨h0, hq⟩
        · subst h0
          subst hq
          have h6i : (xs.length : Int) = 6 := by omega
          go_wp2_with fail
          go_ret
          exact ⟨by simp, BW.out⟩
        · have hr0b : ((r : Int) == 0) = false := by simp [h0]
          subst hq
          go_wp2_with fail
          (go_at_call 25; refine (implLinPort_any 50 r _ (HV.out _ BW.out).tab).mono ?_; rintro e wl ⟨rfl, bl⟩)
          go_wp2_with fail
          go_ret
          exact ⟨by simp, BW.out.trans (bl.mono BW.out.size)⟩

set_option maxRecDepth 100000 in
set_option maxHeartbeats 800000 in
theorem lwRwrLine_any (ao : Option Addr) (n cap : Nat) (w : World) (h : BytesIn w ao n) (hn : n ≤ cap) (hv : VarsOk w) :
    Calls Tryz.prog 3 #[.slice ao n cap] w fun e w' => e = .returned (.bool true) ∧ Below w.heap.size w w' := by
  by_cases hb1 : 1048576 < n
  · clear h hv
    go_enter Tryz.func3, Tryz.ntmps3
    go_wp2_with fail
    go_ret
    exact ⟨rfl, Below.refl _ _⟩
  · exact lwRwrLine_of ao n cap w h hn hv hb1

end Go.Proofs.YtoidmmedpefjfaaGreatDoor
