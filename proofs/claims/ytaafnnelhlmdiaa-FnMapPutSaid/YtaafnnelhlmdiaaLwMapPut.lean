/- The law that each end has one port, and each port one end: at every code. Condition: the code lies in memory. -/
import Derived.Test.YtaafnnelhlmdiaaDrawPut
import Derived.Test.YtaafnnelhlmdiaaHaOk
import Derived.Test.YtaafnnelhlmdiaaHaEnds
import Derived.Test.YtaafnnelhlmdiaaIMapE
import Derived.Test.YtaafnnelhlmdiaaIMapPut
import Derived.Test.YtaafnnelhlmdiaaIMapO
import Derived.Test.YtaafnnelhlmdiaaPutP
import Derived.Deep.RegionHeld3
import Derived.Deep.DeepCutAuto
namespace Go.Proofs.Ytaafnnelhlmdiaa
open Go.RowKit Go.Sort

theorem boxD {w w' : World} {b i : Nat} {v : Value} (h : w.cell? ⟨b, i, none⟩ = some v) (hb : Below w.heap.size w w') : w'.cell? ⟨b, i, none⟩ = some v := by
  rw [hb.cell (p := ⟨b, i, none⟩) (World.block_lt_of_cell? w _ h)]; exact h
theorem SmE.wfE {us : List (Int × Int)} (h : SmE us) : wfE us := fun x hx => (h x hx).wf

set_option maxRecDepth 100000 in
set_option maxHeartbeats 12800000 in
theorem lwMapPut_of (ao : Option Addr) (n cap : Nat) (w : World) (h : BytesIn w ao n) (hn : n ≤ cap) (hb1 : ¬ 1048576 < n) :
    Calls Try.prog 3 #[.slice ao n cap] w fun e w' => e = .returned (.bool true) ∧ Below w.heap.size w w' := by
  have H := Lib.hid h
  clear h
  go_enter Try.func3, Try.ntmps3
  go_wp2_with fail
  (go_at_call 7; refine (drawMapPut_any ao n cap _ H.out hn).mono ?_; rintro e w1 ⟨g1, k1, us, a, p, rfl, o1, ⟨u8, sm1⟩, smap, b1⟩)
  have BW := Lib.hid b1
  have Tt := Lib.hid o1.tab
  have WU := Lib.hid sm1.wfE
  have WAP := Lib.hid smap.wf
  clear b1 o1 H sm1 smap
  have hxl := putA_le us (a, p)
  obtain ⟨xs, hxs⟩ : ∃ xs, xs = (putA us (a, p)).1 := ⟨_, rfl⟩
  obtain ⟨pp, hpp⟩ : ∃ pp, pp = (putA us (a, p)).2 := ⟨_, rfl⟩
  rw [← hxs] at hxl
  obtain ⟨mb, hmb⟩ : ∃ mb, mb = mapB us := ⟨_, rfl⟩
  obtain ⟨ib, hib⟩ : ∃ ib, ib = insB a p := ⟨_, rfl⟩
  obtain ⟨had, hhad⟩ : ∃ had, had = portI us (a, p) := ⟨_, rfl⟩
  have HIM : Hid (∀ w, TabAt w (.slice g1 us.length k1) us → Calls Try.prog 8 #[.agg #[.slice g1 us.length k1], .agg #[.int .i64 a, .int .i64 p]] w fun e w' => ∃ g c, e = .returned (.tuple #[.agg #[.slice g xs.length c], .int .i64 pp]) ∧ FreshTab w' w.heap.size (.slice g xs.length c) xs ∧ Below w.heap.size w w') := fun w ht => by rw [hxs, hpp]; exact implPutA _ us a p w (by omega) WU.out ht
  have HSM : Hid (∀ w, TabAt w (.slice g1 us.length k1) us → Calls Try.prog 9 #[.agg #[.slice g1 us.length k1], .agg #[.int .i64 a, .int .i64 p]] w fun e w' => ∃ g c, e = .returned (.tuple #[.agg #[.slice g xs.length c], .int .i64 pp]) ∧ FreshTab w' w.heap.size (.slice g xs.length c) xs ∧ Below w.heap.size w w') := fun w ht => by rw [hxs, hpp]; exact specPutA _ us a p w (by omega) ht
  have HIO : Hid (∀ w, TabAt w (.slice g1 us.length k1) us → Calls Try.prog 11 #[.agg #[.slice g1 us.length k1]] w fun e w' => e = .returned (.bool mb) ∧ Below w.heap.size w w') := fun w ht => by rw [hmb]; exact implMapOk_any _ us w (by omega) WU.out ht
  have HSO : Hid (∀ w, TabAt w (.slice g1 us.length k1) us → Calls Try.prog 12 #[.agg #[.slice g1 us.length k1]] w fun e w' => e = .returned (.bool mb) ∧ Below w.heap.size w w') := fun w ht => by rw [hmb]; exact specMapOk_any _ us w (by omega) ht
  have HSI : Hid (∀ w, Calls Try.prog 13 #[.agg #[.int .i64 a, .int .i64 p]] w fun e w' => e = .returned (.bool ib) ∧ Below w.heap.size w w') := fun w => by rw [hib]; exact specInside_any a p w
  have HHE : Hid (∀ v1 v2 w, TabAt w v1 xs → TabAt w v2 xs → Calls Try.prog 10 #[v1, v2] w fun e w' => e = .returned (.bool true) ∧ Below w.heap.size w w') := fun v1 v2 w h1 h2 => haEnds_same xs v1 v2 w (by omega) h1 h2
  have HPT : Hid (∀ w, TabAt w (.slice g1 us.length k1) us → Calls Try.prog 16 #[.agg #[.slice g1 us.length k1], .agg #[.int .i64 a, .int .i64 p]] w fun e w' => e = .returned (.int .i64 had) ∧ Below w.heap.size w w') := fun w ht => by rw [hhad]; exact implMapPort_any _ us a p w (by omega) WU.out WAP.out.1 WAP.out.2 ht
  have HNO : Hid ((mb && ib) = false → xs = [] ∧ pp = 0) := fun h => by
    rw [hmb, hib] at h
    rw [hxs, hpp, putA_not h]; exact ⟨rfl, rfl⟩
  have HYES : Hid (mb = true → ib = true → xs = (putE us (a, p)).1 ∧ pp = (putE us (a, p)).2 ∧ mapB xs = true ∧ us.length ≤ 6 ∧ wfE xs) := fun h1 h2 => by
    rw [hmb] at h1
    rw [hib] at h2
    have h3 : (mapB us && insB a p) = true := by rw [h1, h2]; rfl
    have h4 : mapB xs = true := by rw [hxs, putA_yes h3]; exact putE_ok h1 h2
    exact ⟨by rw [hxs, putA_yes h3], by rw [hpp, putA_yes h3], h4, mapB_le h1, mapB_wf h4⟩
  have HHAD := Lib.hid hhad
  clear hxs hpp hmb hib hhad
  go_wp2_with fail
  obtain ⟨W1, hW1⟩ : ∃ W, W = ((w1.alloc (.cells #[.slice g1 us.length k1] 25)).alloc (.cells #[.int .i64 a, .int .i64 p] 27)) := ⟨_, rfl⟩
  have qW1 : Below w1.heap.size w1 W1 := by rw [hW1]; exact ((Below.refl _ _).alloc (Nat.le_refl _) _).alloc (by simp) _
  have zW1 : w1.heap.size + 2 ≤ W1.heap.size := by rw [hW1]; simp
  have ct0 : W1.cell? ⟨w1.heap.size, 0, none⟩ = some (.slice g1 us.length k1) := by rw [hW1, cell_alloc_lt (by simp)]; exact (cell_new _ _ _ 0).1
  have ce0 : W1.cell? ⟨w1.heap.size + 1, 0, none⟩ = some (.int .i64 a) := by rw [hW1]; simp
  have ce1 : W1.cell? ⟨w1.heap.size + 1, 1, none⟩ = some (.int .i64 p) := by rw [hW1]; simp
  replace Tt := Lib.hid (Tt.out.below qW1)
  replace BW := Lib.hid (BW.out.trans (qW1.mono BW.out.size))
  rw [← hW1]
  obtain ⟨be, hbe⟩ : ∃ b, b = w1.heap.size + 1 := ⟨_, rfl⟩
  have le : be < W1.heap.size := by omega
  rw [← hbe] at ce0 ce1 ⊢
  obtain ⟨bt, hbt⟩ : ∃ b, b = w1.heap.size := ⟨_, rfl⟩
  have lt : bt < W1.heap.size := by omega
  rw [← hbt] at ct0 ⊢
  clear hbt hbe hW1
  clear qW1 zW1
  (go_at_call 8; refine (HIM.out _ Tt.out).mono ?_; rintro e w2x ⟨g3, k3, rfl, f3, qb⟩)
  have zb := qb.size
  replace ct0 := boxD ct0 qb
  replace lt : bt < w2x.heap.size := by omega
  replace ce0 := boxD ce0 qb
  replace ce1 := boxD ce1 qb
  replace le : be < w2x.heap.size := by omega
  replace Tt := Lib.hid (Tt.out.below qb)
  replace BW := Lib.hid (BW.out.trans (qb.mono BW.out.size))
  clear qb zb
  have Tx := Lib.hid f3.tab
  clear f3
  have at0 : ∀ o, (w2x.alloc o).cell? ⟨bt, 0, none⟩ = some (.slice g1 us.length k1) := fun o => by rw [cell_alloc_lt lt]; exact ct0
  have ae0 : ∀ o, (w2x.alloc o).cell? ⟨be, 0, none⟩ = some (.int .i64 a) := fun o => by rw [cell_alloc_lt le]; exact ce0
  have ae1 : ∀ o, (w2x.alloc o).cell? ⟨be, 1, none⟩ = some (.int .i64 p) := fun o => by rw [cell_alloc_lt le]; exact ce1
  go_wp2_with fail
  obtain ⟨W3, hW3⟩ : ∃ W, W = (w2x.alloc (.cells #[.slice g3 xs.length k3] 25)) := ⟨_, rfl⟩
  have qW3 : Below w2x.heap.size w2x W3 := by rw [hW3]; exact (Below.refl _ _).alloc (Nat.le_refl _) _
  have zW3 : w2x.heap.size + 1 ≤ W3.heap.size := by rw [hW3]; simp
  replace ct0 := boxD ct0 qW3
  replace lt : bt < W3.heap.size := by omega
  replace ce0 := boxD ce0 qW3
  replace ce1 := boxD ce1 qW3
  replace le : be < W3.heap.size := by omega
  have cx0 : W3.cell? ⟨w2x.heap.size, 0, none⟩ = some (.slice g3 xs.length k3) := by rw [hW3]; simp
  replace Tt := Lib.hid (Tt.out.below qW3)
  replace Tx := Lib.hid (Tx.out.below qW3)
  replace BW := Lib.hid (BW.out.trans (qW3.mono BW.out.size))
  rw [← hW3]
  obtain ⟨bx, hbx⟩ : ∃ b, b = w2x.heap.size := ⟨_, rfl⟩
  have lx : bx < W3.heap.size := by omega
  rw [← hbx] at cx0 ⊢
  clear hbx hW3
  clear at0 ae0 ae1
  clear qW3 zW3
  (go_at_call 9; refine (HSM.out _ Tt.out).mono ?_; rintro e w4x ⟨g4, k4, rfl, f4, qb⟩)
  have zb := qb.size
  replace ct0 := boxD ct0 qb
  replace lt : bt < w4x.heap.size := by omega
  replace ce0 := boxD ce0 qb
  replace ce1 := boxD ce1 qb
  replace le : be < w4x.heap.size := by omega
  replace cx0 := boxD cx0 qb
  replace lx : bx < w4x.heap.size := by omega
  replace Tt := Lib.hid (Tt.out.below qb)
  replace Tx := Lib.hid (Tx.out.below qb)
  replace BW := Lib.hid (BW.out.trans (qb.mono BW.out.size))
  clear qb zb
  have Ty := Lib.hid f4.tab
  clear f4
  have at0 : ∀ o, (w4x.alloc o).cell? ⟨bt, 0, none⟩ = some (.slice g1 us.length k1) := fun o => by rw [cell_alloc_lt lt]; exact ct0
  have ae0 : ∀ o, (w4x.alloc o).cell? ⟨be, 0, none⟩ = some (.int .i64 a) := fun o => by rw [cell_alloc_lt le]; exact ce0
  have ae1 : ∀ o, (w4x.alloc o).cell? ⟨be, 1, none⟩ = some (.int .i64 p) := fun o => by rw [cell_alloc_lt le]; exact ce1
  have ax0 : ∀ o, (w4x.alloc o).cell? ⟨bx, 0, none⟩ = some (.slice g3 xs.length k3) := fun o => by rw [cell_alloc_lt lx]; exact cx0
  go_upto_region 6 with fail
  obtain ⟨W5, hW5⟩ : ∃ W, W = w4x.alloc (.cells #[.slice g4 xs.length k4] 25) := ⟨_, rfl⟩
  have qW5 : Below w4x.heap.size w4x W5 := by rw [hW5]; exact (Below.refl _ _).alloc (Nat.le_refl _) _
  have zW5 : w4x.heap.size + 1 ≤ W5.heap.size := by rw [hW5]; simp
  replace ct0 := boxD ct0 qW5
  replace lt : bt < W5.heap.size := by omega
  replace ce0 := boxD ce0 qW5
  replace ce1 := boxD ce1 qW5
  replace le : be < W5.heap.size := by omega
  replace cx0 := boxD cx0 qW5
  replace lx : bx < W5.heap.size := by omega
  have cy0 : W5.cell? ⟨w4x.heap.size, 0, none⟩ = some (.slice g4 xs.length k4) := by rw [hW5]; simp
  replace Tt := Lib.hid (Tt.out.below qW5)
  replace Tx := Lib.hid (Tx.out.below qW5)
  replace Ty := Lib.hid (Ty.out.below qW5)
  replace BW := Lib.hid (BW.out.trans (qW5.mono BW.out.size))
  rw [← hW5]
  obtain ⟨by_, hby⟩ : ∃ b, b = w4x.heap.size := ⟨_, rfl⟩
  have ly : by_ < W5.heap.size := by omega
  rw [← hby] at cy0 ⊢
  clear hby hW5 qW5 zW5 at0 ae0 ae1 ax0
  go_cut [50] (fun s wx => s = .bool false ∧ Below W5.heap.size W5 wx)
  case first =>
    have mk9 : Hid (∀ w', Below W5.heap.size W5 w' → w'.cell? ⟨bt, 0, none⟩ = some (.slice g1 us.length k1) ∧ w'.cell? ⟨bx, 0, none⟩ = some (.slice g3 xs.length k3) ∧ w'.cell? ⟨by_, 0, none⟩ = some (.slice g4 xs.length k4) ∧ Below W5.heap.size W5 w') := fun w' hb => ⟨boxD ct0 hb, boxD cx0 hb, boxD cy0 hb, hb⟩
    go_region_held3 (fun w' => w'.cell? ⟨bt, 0, none⟩ = some (.slice g1 us.length k1) ∧ w'.cell? ⟨bx, 0, none⟩ = some (.slice g3 xs.length k3) ∧ w'.cell? ⟨by_, 0, none⟩ = some (.slice g4 xs.length k4) ∧ Below W5.heap.size W5 w')
      (first | exact mk9.out _ (Below.refl _ _).drew | exact mk9.out _ cc | (trace_state; fail))
      (first
        | (go_at_call 10; have hS := (by assumption : _ ∧ _ ∧ _ ∧ Below W5.heap.size W5 _); refine (HHE.out _ _ _ (Tx.out.below hS.2.2.2) (Ty.out.below hS.2.2.2)).mono ?_; rintro e wN ⟨rfl, bN⟩; have cc : Below W5.heap.size W5 wN := hS.2.2.2.trans (bN.mono hS.2.2.2.size))
        | (go_at_call 11; have hS := (by assumption : _ ∧ _ ∧ _ ∧ Below W5.heap.size W5 _); refine (HIO.out _ (Tt.out.below hS.2.2.2)).mono ?_; rintro e wN ⟨rfl, bN⟩; have cc : Below W5.heap.size W5 wN := hS.2.2.2.trans (bN.mono hS.2.2.2.size))
        | (go_at_call 12; have hS := (by assumption : _ ∧ _ ∧ _ ∧ Below W5.heap.size W5 _); refine (HSO.out _ (Tt.out.below hS.2.2.2)).mono ?_; rintro e wN ⟨rfl, bN⟩; have cc : Below W5.heap.size W5 wN := hS.2.2.2.trans (bN.mono hS.2.2.2.size)))
    all_goals (go_wp2_with fail; go_meet; exact ⟨by simp, cc⟩)
  case rest =>
    obtain ⟨rfl, c10⟩ := hcut
    obtain ⟨w10, hw10⟩ : ∃ w10, w10 = wc := ⟨_, rfl⟩
    rw [← hw10] at c10 ⊢
    clear hw10
    have zb := c10.size
    replace ct0 := boxD ct0 c10
    replace lt : bt < w10.heap.size := by omega
    replace ce0 := boxD ce0 c10
    replace ce1 := boxD ce1 c10
    replace le : be < w10.heap.size := by omega
    replace cx0 := boxD cx0 c10
    replace lx : bx < w10.heap.size := by omega
    replace cy0 := boxD cy0 c10
    replace ly : by_ < w10.heap.size := by omega
    replace Tt := Lib.hid (Tt.out.below c10)
    replace Tx := Lib.hid (Tx.out.below c10)
    replace Ty := Lib.hid (Ty.out.below c10)
    replace BW := Lib.hid (BW.out.trans (c10.mono BW.out.size))
    clear c10 zb
    clear cy0 Ty ly
    go_wp2_with fail
    (go_at_call 12; refine (HSO.out _ Tt.out).mono ?_; rintro e w6x ⟨rfl, qb⟩)
    have zb := qb.size
    replace ct0 := boxD ct0 qb
    replace lt : bt < w6x.heap.size := by omega
    replace ce0 := boxD ce0 qb
    replace ce1 := boxD ce1 qb
    replace le : be < w6x.heap.size := by omega
    replace cx0 := boxD cx0 qb
    replace lx : bx < w6x.heap.size := by omega
    replace Tt := Lib.hid (Tt.out.below qb)
    replace Tx := Lib.hid (Tx.out.below qb)
    replace BW := Lib.hid (BW.out.trans (qb.mono BW.out.size))
    clear qb zb
    cases mb
    · obtain ⟨rfl, rfl⟩ := HNO.out (by simp)
      go_wp2_with fail
      (go_at_call 14; refine (haOk_any _).mono ?_; rintro e wl ⟨rfl, rfl⟩)
      go_wp2_with fail
      go_ret
      exact ⟨rfl, BW.out⟩
    · go_wp2_with fail
      (go_at_call 13; refine (HSI.out _).mono ?_; rintro e w7x ⟨rfl, qb⟩)
      have zb := qb.size
      replace ct0 := boxD ct0 qb
      replace lt : bt < w7x.heap.size := by omega
      replace ce0 := boxD ce0 qb
      replace ce1 := boxD ce1 qb
      replace le : be < w7x.heap.size := by omega
      replace cx0 := boxD cx0 qb
      replace lx : bx < w7x.heap.size := by omega
      replace Tt := Lib.hid (Tt.out.below qb)
      replace Tx := Lib.hid (Tx.out.below qb)
      replace BW := Lib.hid (BW.out.trans (qb.mono BW.out.size))
      clear qb zb
      cases ib
      · obtain ⟨rfl, rfl⟩ := HNO.out (by simp)
        go_wp2_with fail
        (go_at_call 14; refine (haOk_any _).mono ?_; rintro e wl ⟨rfl, rfl⟩)
        go_wp2_with fail
        go_ret
        exact ⟨rfl, BW.out⟩
      · obtain ⟨hx1, hp1, hmx, hu6, hwx⟩ := HYES.out (by simp) (by simp)
        obtain ⟨tl, ht1, ht2⟩ := putE_pre us (a, p)
        rw [← hx1] at ht1
        have HIX : Hid (∀ w, TabAt w (.slice g3 xs.length k3) xs → Calls Try.prog 11 #[.agg #[.slice g3 xs.length k3]] w fun e w' => e = .returned (.bool true) ∧ Below w.heap.size w w') := fun w ht => by rw [← hmx]; exact implMapOk_any _ xs w (by omega) hwx ht
        have HHF : Hid (∀ w, TabAt w (.slice g3 xs.length k3) xs → TabAt w (.slice g1 us.length k1) us → Calls Try.prog 15 #[.slice g3 xs.length k3, .slice g1 us.length k1] w fun e w' => e = .returned (.bool true) ∧ Below w.heap.size w w') := fun w h1 h2 => haFirst_pre _ _ _ _ xs us tl w (by omega) ht1 h1 h2
        have HPX : Hid (pp ≠ 0 → ∀ w, TabAt w (.slice g3 xs.length k3) xs → Calls Try.prog 16 #[.agg #[.slice g3 xs.length k3], .agg #[.int .i64 a, .int .i64 p]] w fun e w' => e = .returned (.int .i64 pp) ∧ Below w.heap.size w w') := fun h w ht => by
          have hq : portI xs (a, p) = pp := by rw [hx1, hp1]; rw [hp1] at h; exact putE_port h
          rw [← hq]
          exact implMapPort_any _ xs a p w (by omega) hwx WAP.out.1 WAP.out.2 ht
        have HEX : Hid (pp ≠ 0 → ∀ w, TabAt w (.slice g3 xs.length k3) xs → Calls Try.prog 17 #[.agg #[.slice g3 xs.length k3], .int .i64 pp] w fun e w' => e = .returned (.tuple #[.agg #[.int .i64 a, .int .i64 p], .bool true]) ∧ Below w.heap.size w w') := fun h w ht => by
          have hq : portI xs (a, p) = pp := by rw [hx1, hp1]; rw [hp1] at h; exact putE_port h
          have he : endI xs pp = some (a, p) := by rw [← hq]; exact end_of_port (by rw [hq]; exact h)
          have hb := putE_snd_bound us (a, p) hu6
          rw [← hp1] at hb
          have := implMapEnd_any _ xs pp w (by omega) hwx (WalkArith.wf_i64 (by omega)) ht
          rw [he] at this
          exact this
        have HZ : Hid (pp = 0 → had = 0 ∧ us.length = 6 ∧ xs = us) := fun h => by
          rw [hp1] at h
          obtain ⟨h1, h2, h3⟩ := putE_zero h
          exact ⟨by rw [HHAD.out, h1], h2, by rw [hx1, h3]⟩
        have HNZ : Hid (had = 0 ∨ (had ≠ 0 ∧ had = pp)) := by
          by_cases h : had = 0
          · exact .inl h
          · exact .inr ⟨h, by rw [hp1, HHAD.out]; rw [HHAD.out] at h; exact putE_had h⟩
        have HPK : Hid (∀ x ∈ us, ∃ r : Int, portI xs x = r ∧ portI us x = r ∧ (Lit.int .i64 x.1).wf = true ∧ (Lit.int .i64 x.2).wf = true) := fun x hx => ⟨_, by rw [ht1]; exact portI_app hx, rfl, (WU.out x hx).1, (WU.out x hx).2⟩
        have HLE : Hid ((xs.length : Int) ≤ (us.length : Int) + 1) := by show _ ≤ _; rw [ht1, List.length_append]; omega
        have HWX := Lib.hid hwx
        clear hx1 hp1 hmx ht1 ht2 hwx HYES HNO HHAD
        go_wp2_with fail
        (go_at_call 11; refine (HIX.out _ Tx.out).mono ?_; rintro e w8x ⟨rfl, qb⟩)
        have zb := qb.size
        replace ct0 := boxD ct0 qb
        replace lt : bt < w8x.heap.size := by omega
        replace ce0 := boxD ce0 qb
        replace ce1 := boxD ce1 qb
        replace le : be < w8x.heap.size := by omega
        replace cx0 := boxD cx0 qb
        replace lx : bx < w8x.heap.size := by omega
        replace Tt := Lib.hid (Tt.out.below qb)
        replace Tx := Lib.hid (Tx.out.below qb)
        replace BW := Lib.hid (BW.out.trans (qb.mono BW.out.size))
        clear qb zb
        go_wp2_with fail
        (go_at_call 15; refine (HHF.out _ Tx.out Tt.out).mono ?_; rintro e w9x ⟨rfl, qb⟩)
        have zb := qb.size
        replace ct0 := boxD ct0 qb
        replace lt : bt < w9x.heap.size := by omega
        replace ce0 := boxD ce0 qb
        replace ce1 := boxD ce1 qb
        replace le : be < w9x.heap.size := by omega
        replace cx0 := boxD cx0 qb
        replace lx : bx < w9x.heap.size := by omega
        replace Tt := Lib.hid (Tt.out.below qb)
        replace Tx := Lib.hid (Tx.out.below qb)
        replace BW := Lib.hid (BW.out.trans (qb.mono BW.out.size))
        clear qb zb
        go_wp2_with fail
        (go_at_call 16; refine (HPT.out _ Tt.out).mono ?_; rintro e w10x ⟨rfl, qb⟩)
        have zb := qb.size
        replace ct0 := boxD ct0 qb
        replace lt : bt < w10x.heap.size := by omega
        replace ce0 := boxD ce0 qb
        replace ce1 := boxD ce1 qb
        replace le : be < w10x.heap.size := by omega
        replace cx0 := boxD cx0 qb
        replace lx : bx < w10x.heap.size := by omega
        replace Tt := Lib.hid (Tt.out.below qb)
        replace Tx := Lib.hid (Tx.out.below qb)
        replace BW := Lib.hid (BW.out.trans (qb.mono BW.out.size))
        clear qb zb
        by_cases hp0 : pp = 0
        · obtain ⟨hh0, hh6, hxu⟩ := HZ.out hp0
          subst hp0
          subst hh0
          have h6 : ((us.length : Int) == 6) = true := by rw [beq_iff_eq]; omega
          have TX : Hid (∀ wz, Below w10x.heap.size w10x wz → TabAt wz (.slice g1 us.length k1) xs) := fun wz hz => by rw [hxu]; exact Tt.out.below hz
          clear hxu hh6
          go_wp2_with fail
          (go_at_call 10; refine (HHE.out _ _ _ Tx.out (TX.out _ (Below.refl _ _))).mono ?_; rintro e wl ⟨rfl, bl⟩)
          go_wp2_with fail
          go_ret
          exact ⟨rfl, BW.out.trans (bl.mono BW.out.size)⟩
        · have hpb : (pp == 0) = false := by simpa using hp0
          go_wp2_with fail
          (go_at_call 17; refine (HEX.out hp0 _ Tx.out).mono ?_; rintro e w11x ⟨rfl, qb⟩)
          have zb := qb.size
          replace ct0 := boxD ct0 qb
          replace lt : bt < w11x.heap.size := by omega
          replace ce0 := boxD ce0 qb
          replace ce1 := boxD ce1 qb
          replace le : be < w11x.heap.size := by omega
          replace cx0 := boxD cx0 qb
          replace lx : bx < w11x.heap.size := by omega
          replace Tt := Lib.hid (Tt.out.below qb)
          replace Tx := Lib.hid (Tx.out.below qb)
          replace BW := Lib.hid (BW.out.trans (qb.mono BW.out.size))
          clear qb zb
          have at0 : ∀ o, (w11x.alloc o).cell? ⟨bt, 0, none⟩ = some (.slice g1 us.length k1) := fun o => by rw [cell_alloc_lt lt]; exact ct0
          have ae0 : ∀ o, (w11x.alloc o).cell? ⟨be, 0, none⟩ = some (.int .i64 a) := fun o => by rw [cell_alloc_lt le]; exact ce0
          have ae1 : ∀ o, (w11x.alloc o).cell? ⟨be, 1, none⟩ = some (.int .i64 p) := fun o => by rw [cell_alloc_lt le]; exact ce1
          have ax0 : ∀ o, (w11x.alloc o).cell? ⟨bx, 0, none⟩ = some (.slice g3 xs.length k3) := fun o => by rw [cell_alloc_lt lx]; exact cx0
          go_wp2_with fail
          obtain ⟨W12, hW12⟩ : ∃ W, W = (w11x.alloc (.cells #[.int .i64 a, .int .i64 p] 27)) := ⟨_, rfl⟩
          have qW12 : Below w11x.heap.size w11x W12 := by rw [hW12]; exact (Below.refl _ _).alloc (Nat.le_refl _) _
          have zW12 : w11x.heap.size + 1 ≤ W12.heap.size := by rw [hW12]; simp
          replace ct0 := boxD ct0 qW12
          replace lt : bt < W12.heap.size := by omega
          replace ce0 := boxD ce0 qW12
          replace ce1 := boxD ce1 qW12
          replace le : be < W12.heap.size := by omega
          replace cx0 := boxD cx0 qW12
          replace lx : bx < W12.heap.size := by omega
          have cz0 : W12.cell? ⟨w11x.heap.size, 0, none⟩ = some (.int .i64 a) := by rw [hW12]; simp
          have cz1 : W12.cell? ⟨w11x.heap.size, 1, none⟩ = some (.int .i64 p) := by rw [hW12]; simp
          replace Tt := Lib.hid (Tt.out.below qW12)
          replace Tx := Lib.hid (Tx.out.below qW12)
          replace BW := Lib.hid (BW.out.trans (qW12.mono BW.out.size))
          rw [← hW12]
          obtain ⟨bz, hbz⟩ : ∃ b, b = w11x.heap.size := ⟨_, rfl⟩
          have lz : bz < W12.heap.size := by omega
          rw [← hbz] at cz0 cz1 ⊢
          clear hbz hW12
          clear at0 ae0 ae1 ax0
          clear qW12 zW12
          (go_at_call 16; refine (HPX.out hp0 _ Tx.out).mono ?_; rintro e w13x ⟨rfl, qb⟩)
          have zb := qb.size
          replace ct0 := boxD ct0 qb
          replace lt : bt < w13x.heap.size := by omega
          replace ce0 := boxD ce0 qb
          replace ce1 := boxD ce1 qb
          replace le : be < w13x.heap.size := by omega
          replace cx0 := boxD cx0 qb
          replace lx : bx < w13x.heap.size := by omega
          replace cz0 := boxD cz0 qb
          replace cz1 := boxD cz1 qb
          replace lz : bz < w13x.heap.size := by omega
          replace Tt := Lib.hid (Tt.out.below qb)
          replace Tx := Lib.hid (Tx.out.below qb)
          replace BW := Lib.hid (BW.out.trans (qb.mono BW.out.size))
          clear qb zb
          clear HPX HEX HZ HIX HHF HPT HIM HSM HSI HIO HSO HHE
          rcases HNZ.out with rfl | ⟨hn0, rfl⟩
          · go_wp2_with fail
            go_loopw [12] (fun i wr => ∃ j : Nat, j ≤ us.length ∧ i = .int .i64 j ∧ Below w13x.heap.size w13x wr) (fun i _ => us.length - (intOf i).toNat)
            case atStart => exact ⟨0, Nat.zero_le _, rfl, Below.refl _ _⟩
            case round =>
              obtain ⟨j, hj, rfl, hb⟩ := hrel
              have rt := boxD ct0 hb
              have rx := boxD cx0 hb
              have RT := Lib.hid (Tt.out.below hb)
              have RX := Lib.hid (Tx.out.below hb)
              have HB := Lib.hid hb
              have hbz := hb.size
              clear hb
              by_cases hlt : j < us.length
              · obtain ⟨ad', cap', e', hc', hrow⟩ := RT.out
                simp at e'
                obtain ⟨e1, e2⟩ := e'
                obtain ⟨gz, hgz, hat⟩ := hrow (by omega)
                rw [← e1] at hgz
                rw [← e2] at hc'
                subst hgz
                obtain ⟨d0, d1⟩ := hat j hlt
                obtain ⟨⟨ea, ep⟩, hx⟩ : ∃ x, x = us[j] := ⟨_, rfl⟩
                rw [← hx] at d0 d1
                simp only at d0 d1
                obtain ⟨r, hr1, hr2, we1, we2⟩ := HPK.out (ea, ep) (by rw [hx]; exact List.getElem_mem _)
                have hk2 : (j : Int) ≤ (k1 : Int) := by have := hc'.1; omega
                have HP : Hid (∀ v wz, (TabAt wz v xs ∨ TabAt wz v us) → Calls Try.prog 16 #[.agg #[v], .agg #[.int .i64 ea, .int .i64 ep]] wz fun e w' => e = .returned (.int .i64 r) ∧ Below wz.heap.size wz w') := fun v wz ht => by
                  rcases ht with ht | ht
                  · rw [← hr1]; exact implMapPort_any v xs ea ep wz (by omega) HWX.out we1 we2 ht
                  · rw [← hr2]; exact implMapPort_any v us ea ep wz (by omega) WU.out we1 we2 ht
                clear hat hrow hx hr1 hr2 we1 we2 hc' e1 e2
                go_upto_region 21 with fail
                go_cut [151] (fun s wx => s = .bool false ∧ Below wr.heap.size wr wx)
                case first =>
                  have mk9 : Hid (∀ w', Below wr.heap.size wr w' → w'.cell? ⟨bt, 0, none⟩ = some (.slice (some ⟨gz, 0, none⟩) us.length k1) ∧ w'.cell? ⟨bx, 0, none⟩ = some (.slice g3 xs.length k3) ∧ w'.cell? ⟨gz, j * 2, none⟩ = some (.int .i64 ea) ∧ w'.cell? ⟨gz, j * 2 + 1, none⟩ = some (.int .i64 ep) ∧ Below wr.heap.size wr w') := fun w' hb => ⟨boxD rt hb, boxD rx hb, boxD d0 hb, boxD d1 hb, hb⟩
                  go_region_held3 (fun w' => w'.cell? ⟨bt, 0, none⟩ = some (.slice (some ⟨gz, 0, none⟩) us.length k1) ∧ w'.cell? ⟨bx, 0, none⟩ = some (.slice g3 xs.length k3) ∧ w'.cell? ⟨gz, j * 2, none⟩ = some (.int .i64 ea) ∧ w'.cell? ⟨gz, j * 2 + 1, none⟩ = some (.int .i64 ep) ∧ Below wr.heap.size wr w')
                    (first | exact mk9.out _ (Below.refl _ _).drew | exact mk9.out _ cc | (trace_state; fail))
                    (first
                      | (go_at_call 16; have hS := (by assumption : _ ∧ _ ∧ _ ∧ _ ∧ Below wr.heap.size wr _); refine (HP.out _ _ (by first | exact .inl (RX.out.below hS.2.2.2.2) | exact .inr (RT.out.below hS.2.2.2.2))).mono ?_; rintro e wN ⟨rfl, bN⟩; have cc : Below wr.heap.size wr wN := hS.2.2.2.2.trans (bN.mono hS.2.2.2.2.size)))
                  all_goals (go_wp2_with fail; go_meet; exact ⟨by simp, cc⟩)
                case rest =>
                  obtain ⟨rfl, c11⟩ := hcut
                  go_wp2_with fail
                  go_roundw
                  case rel => exact ⟨j + 1, by omega, by go_num, HB.out.trans (c11.mono hbz)⟩
                  case measure => simp [intOf]; omega
              · have HF : Hid (Below w.heap.size w wr) := BW.out.trans (HB.out.mono BW.out.size)
                have hfin := HLE.out
                go_wp2_with fail
                go_ret
                exact ⟨by simp <;> omega, HF.out⟩
          · go_wp2_with fail
            go_loopw [12] (fun i wr => ∃ j : Nat, j ≤ us.length ∧ i = .int .i64 j ∧ Below w13x.heap.size w13x wr) (fun i _ => us.length - (intOf i).toNat)
            case atStart => exact ⟨0, Nat.zero_le _, rfl, Below.refl _ _⟩
            case round =>
              obtain ⟨j, hj, rfl, hb⟩ := hrel
              have rt := boxD ct0 hb
              have rx := boxD cx0 hb
              have RT := Lib.hid (Tt.out.below hb)
              have RX := Lib.hid (Tx.out.below hb)
              have HB := Lib.hid hb
              have hbz := hb.size
              clear hb
              by_cases hlt : j < us.length
              · obtain ⟨ad', cap', e', hc', hrow⟩ := RT.out
                simp at e'
                obtain ⟨e1, e2⟩ := e'
                obtain ⟨gz, hgz, hat⟩ := hrow (by omega)
                rw [← e1] at hgz
                rw [← e2] at hc'
                subst hgz
                obtain ⟨d0, d1⟩ := hat j hlt
                obtain ⟨⟨ea, ep⟩, hx⟩ : ∃ x, x = us[j] := ⟨_, rfl⟩
                rw [← hx] at d0 d1
                simp only at d0 d1
                obtain ⟨r, hr1, hr2, we1, we2⟩ := HPK.out (ea, ep) (by rw [hx]; exact List.getElem_mem _)
                have hk2 : (j : Int) ≤ (k1 : Int) := by have := hc'.1; omega
                have HP : Hid (∀ v wz, (TabAt wz v xs ∨ TabAt wz v us) → Calls Try.prog 16 #[.agg #[v], .agg #[.int .i64 ea, .int .i64 ep]] wz fun e w' => e = .returned (.int .i64 r) ∧ Below wz.heap.size wz w') := fun v wz ht => by
                  rcases ht with ht | ht
                  · rw [← hr1]; exact implMapPort_any v xs ea ep wz (by omega) HWX.out we1 we2 ht
                  · rw [← hr2]; exact implMapPort_any v us ea ep wz (by omega) WU.out we1 we2 ht
                clear hat hrow hx hr1 hr2 we1 we2 hc' e1 e2
                go_upto_region 21 with fail
                go_cut [151] (fun s wx => s = .bool false ∧ Below wr.heap.size wr wx)
                case first =>
                  have mk9 : Hid (∀ w', Below wr.heap.size wr w' → w'.cell? ⟨bt, 0, none⟩ = some (.slice (some ⟨gz, 0, none⟩) us.length k1) ∧ w'.cell? ⟨bx, 0, none⟩ = some (.slice g3 xs.length k3) ∧ w'.cell? ⟨gz, j * 2, none⟩ = some (.int .i64 ea) ∧ w'.cell? ⟨gz, j * 2 + 1, none⟩ = some (.int .i64 ep) ∧ Below wr.heap.size wr w') := fun w' hb => ⟨boxD rt hb, boxD rx hb, boxD d0 hb, boxD d1 hb, hb⟩
                  go_region_held3 (fun w' => w'.cell? ⟨bt, 0, none⟩ = some (.slice (some ⟨gz, 0, none⟩) us.length k1) ∧ w'.cell? ⟨bx, 0, none⟩ = some (.slice g3 xs.length k3) ∧ w'.cell? ⟨gz, j * 2, none⟩ = some (.int .i64 ea) ∧ w'.cell? ⟨gz, j * 2 + 1, none⟩ = some (.int .i64 ep) ∧ Below wr.heap.size wr w')
                    (first | exact mk9.out _ (Below.refl _ _).drew | exact mk9.out _ cc | (trace_state; fail))
                    (first
                      | (go_at_call 16; have hS := (by assumption : _ ∧ _ ∧ _ ∧ _ ∧ Below wr.heap.size wr _); refine (HP.out _ _ (by first | exact .inl (RX.out.below hS.2.2.2.2) | exact .inr (RT.out.below hS.2.2.2.2))).mono ?_; rintro e wN ⟨rfl, bN⟩; have cc : Below wr.heap.size wr wN := hS.2.2.2.2.trans (bN.mono hS.2.2.2.2.size)))
                  all_goals (go_wp2_with fail; go_meet; exact ⟨by simp, cc⟩)
                case rest =>
                  obtain ⟨rfl, c11⟩ := hcut
                  go_wp2_with fail
                  go_roundw
                  case rel => exact ⟨j + 1, by omega, by go_num, HB.out.trans (c11.mono hbz)⟩
                  case measure => simp [intOf]; omega
              · have HF : Hid (Below w.heap.size w wr) := BW.out.trans (HB.out.mono BW.out.size)
                have hfin := HLE.out
                go_wp2_with fail
                go_ret
                exact ⟨by simp <;> omega, HF.out⟩

set_option maxRecDepth 100000 in
set_option maxHeartbeats 800000 in
theorem lwMapPut_any (ao : Option Addr) (n cap : Nat) (w : World) (h : BytesIn w ao n) (hn : n ≤ cap) :
    Calls Try.prog 3 #[.slice ao n cap] w fun e w' => e = .returned (.bool true) ∧ Below w.heap.size w w' := by
  by_cases hb1 : 1048576 < n
  · clear h
    go_enter Try.func3, Try.ntmps3
    go_wp2_with fail
    go_ret
    exact ⟨rfl, Below.refl _ _⟩
  · exact lwMapPut_of ao n cap w h hn hb1

end Go.Proofs.Ytaafnnelhlmdiaa
