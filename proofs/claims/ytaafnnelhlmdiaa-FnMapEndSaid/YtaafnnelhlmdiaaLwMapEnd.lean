/- The law that ports and ends are each other's: at every two codes. Condition: the codes lie in memory. -/
import Derived.Test.YtaafnnelhlmdiaaDrawEd
import Derived.Test.YtaafnnelhlmdiaaDrawMaps
import Derived.Test.YtaafnnelhlmdiaaHaOk
import Derived.Test.YtaafnnelhlmdiaaIMapE
import Derived.Test.YtaafnnelhlmdiaaSPuts
import Derived.Test.YtaafnnelhlmdiaaIMapO
import Derived.Test.YtaafnnelhlmdiaaMapP
namespace Go.Proofs.Ytaafnnelhlmdiaa
open Go.RowKit Go.Sort

theorem boxD {w w' : World} {b i : Nat} {v : Value} (h : w.cell? ⟨b, i, none⟩ = some v) (hb : Below w.heap.size w w') : w'.cell? ⟨b, i, none⟩ = some v := by
  rw [hb.cell (p := ⟨b, i, none⟩) (World.block_lt_of_cell? w _ h)]; exact h
theorem SmE.wfE {us : List (Int × Int)} (h : SmE us) : wfE us := fun x hx => (h x hx).wf

set_option maxRecDepth 100000 in
set_option maxHeartbeats 6400000 in
theorem lwMapEnd_of (ao : Option Addr) (n cap : Nat) (ao2 : Option Addr) (n2 cap2 : Nat) (w : World) (h : BytesIn w ao n) (hn : n ≤ cap) (h2 : BytesIn w ao2 n2) (hn2 : n2 ≤ cap2) (hb1 : ¬ 1048576 < n) (hb2 : ¬ 1048576 < n2) :
    Calls Try.prog 4 #[.slice ao n cap, .slice ao2 n2 cap2] w fun e w' => e = .returned (.bool true) ∧ Below w.heap.size w w' := by
  have H := Lib.hid h
  have H2 := Lib.hid h2
  clear h h2
  go_enter Try.func4, Try.ntmps4
  go_wp2_with fail
  (go_at_call 18; refine (drawMapEnd_any ao n cap _ H.out hn).mono ?_; rintro e w1 ⟨g1, k1, us, q, rfl, o1, ⟨u8, sm1⟩, wq, b1⟩)
  have BW := Lib.hid b1
  have H21 := Lib.hid (H2.out.below b1)
  have Tt := Lib.hid o1.tab
  have WU := Lib.hid sm1.wfE
  have SU := Lib.hid sm1
  clear b1 o1 H H2 sm1
  have a21 : ∀ o, BytesIn (w1.alloc o) ao2 n2 := fun o => H21.out.below ((Below.refl _ _).alloc (Nat.le_refl _) o)
  have HA2 := Lib.hid a21
  clear a21
  go_wp2_with fail
  obtain ⟨W1, hW1⟩ : ∃ W, W = (w1.alloc (.cells #[.slice g1 us.length k1] 25)) := ⟨_, rfl⟩
  have qW1 : Below w1.heap.size w1 W1 := by rw [hW1]; exact (Below.refl _ _).alloc (Nat.le_refl _) _
  have zW1 : w1.heap.size + 1 ≤ W1.heap.size := by rw [hW1]; simp
  have ct0 : W1.cell? ⟨w1.heap.size, 0, none⟩ = some (.slice g1 us.length k1) := by rw [hW1]; simp
  replace Tt := Lib.hid (Tt.out.below qW1)
  replace BW := Lib.hid (BW.out.trans (qW1.mono BW.out.size))
  have H2W0 : Hid (BytesIn W1 ao2 n2) := by rw [hW1]; exact Lib.hid (HA2.out _)
  rw [← hW1]
  obtain ⟨bt, hbt⟩ : ∃ b, b = w1.heap.size := ⟨_, rfl⟩
  have lt : bt < W1.heap.size := by omega
  rw [← hbt] at ct0 ⊢
  clear hbt hW1
  clear qW1 zW1
  have H2W : Hid (BytesIn W1 ao2 n2) := H2W0
  (go_at_call 19; refine (drawMapPort_any ao2 n2 cap2 _ H2W.out hn2).mono ?_; rintro e w2x ⟨g2, k2, vs, a, p, rfl, o2, ⟨v8, sm2⟩, smap, qb⟩)
  have zb := qb.size
  replace ct0 := boxD ct0 qb
  replace lt : bt < w2x.heap.size := by omega
  replace Tt := Lib.hid (Tt.out.below qb)
  replace BW := Lib.hid (BW.out.trans (qb.mono BW.out.size))
  clear qb zb
  have Tu := Lib.hid o2.tab
  have WV := Lib.hid sm2.wfE
  have WAP := Lib.hid smap.wf
  clear o2 sm2 smap H21 HA2 H2W0 H2W
  obtain ⟨xa, xp, ob, hv, hf⟩ : ∃ (xa xp : Int) (ob : Bool), endV (endI us q) = .tuple #[.agg #[.int .i64 xa, .int .i64 xp], .bool ob] ∧ ((ob = true ∧ endI us q = some (xa, xp)) ∨ ob = false) := by
    rcases h : endI us q with _ | ⟨a, p⟩
    · exact ⟨0, 0, false, rfl, .inr rfl⟩
    · exact ⟨a, p, true, rfl, .inl ⟨rfl, rfl⟩⟩
  obtain ⟨r, hr⟩ : ∃ r, r = portI vs (a, p) := ⟨_, rfl⟩
  have hrb := findI_bounds vs (a, p)
  have hr0 : 0 ≤ r ∧ r ≤ 1000 := by rw [hr]; unfold portI; split <;> omega
  obtain ⟨mb, hmb⟩ : ∃ mb, mb = mapB us := ⟨_, rfl⟩
  have HIE : Hid (∀ w, TabAt w (.slice g1 us.length k1) us → Calls Try.prog 17 #[.agg #[.slice g1 us.length k1], .int .i64 q] w fun e w' => e = .returned (.tuple #[.agg #[.int .i64 xa, .int .i64 xp], .bool ob]) ∧ Below w.heap.size w w') := fun w ht => by rw [← hv]; exact implMapEnd_any _ us q w (by omega) WU.out wq ht
  have HSE : Hid (∀ w, TabAt w (.slice g1 us.length k1) us → Calls Try.prog 20 #[.agg #[.slice g1 us.length k1], .int .i64 q] w fun e w' => e = .returned (.tuple #[.agg #[.int .i64 xa, .int .i64 xp], .bool ob]) ∧ Below w.heap.size w w') := fun w ht => by rw [← hv]; exact specMapEnd_any _ us q w (by omega) ht
  have HIP : Hid (∀ w, TabAt w (.slice g2 vs.length k2) vs → Calls Try.prog 16 #[.agg #[.slice g2 vs.length k2], .agg #[.int .i64 a, .int .i64 p]] w fun e w' => e = .returned (.int .i64 r) ∧ Below w.heap.size w w') := fun w ht => by rw [hr]; exact implMapPort_any _ vs a p w (by omega) WV.out WAP.out.1 WAP.out.2 ht
  have HSP : Hid (∀ w, TabAt w (.slice g2 vs.length k2) vs → Calls Try.prog 21 #[.agg #[.slice g2 vs.length k2], .agg #[.int .i64 a, .int .i64 p]] w fun e w' => e = .returned (.int .i64 r) ∧ Below w.heap.size w w') := fun w ht => by rw [hr]; exact specPort_any _ vs a p w (by omega) ht
  have HMO : Hid (∀ w, TabAt w (.slice g1 us.length k1) us → Calls Try.prog 12 #[.agg #[.slice g1 us.length k1]] w fun e w' => e = .returned (.bool mb) ∧ Below w.heap.size w w') := fun w ht => by rw [hmb]; exact specMapOk_any _ us w (by omega) ht
  have HIX : Hid (ob = true → mb = true → ∀ w, TabAt w (.slice g1 us.length k1) us → Calls Try.prog 16 #[.agg #[.slice g1 us.length k1], .agg #[.int .i64 xa, .int .i64 xp]] w fun e w' => e = .returned (.int .i64 q) ∧ Below w.heap.size w w') := fun h1 h2 w ht => by
    rcases hf with ⟨_, hf⟩ | hf
    · have hq : portI us (xa, xp) = q := port_of_end (hmb.symm.trans h2) hf
      have hm : (xa, xp) ∈ us := by
        unfold endI at hf
        split at hf
        · exact List.mem_of_getElem? hf
        · cases hf
      have hw := WU.out _ hm
      rw [← hq]
      exact implMapPort_any _ us xa xp w (by omega) WU.out hw.1 hw.2 ht
    · rw [h1] at hf; cases hf
  have HIY : Hid (r ≠ 0 → ∀ w, TabAt w (.slice g2 vs.length k2) vs → Calls Try.prog 17 #[.agg #[.slice g2 vs.length k2], .int .i64 r] w fun e w' => e = .returned (.tuple #[.agg #[.int .i64 a, .int .i64 p], .bool true]) ∧ Below w.heap.size w w') := fun h w ht => by
    have he : endI vs r = some (a, p) := by rw [hr] at h ⊢; exact end_of_port h
    have := implMapEnd_any _ vs r w (by omega) WV.out (WalkArith.wf_i64 (by omega)) ht
    rw [he] at this
    exact this
  clear hv hf hr hrb hmb WU WV WAP SU
  have at0 : ∀ o oo, ((w2x.alloc o).alloc oo).cell? ⟨bt, 0, none⟩ = some (.slice g1 us.length k1) := fun o oo => by rw [cell_alloc_lt (by simp; omega), cell_alloc_lt lt]; exact ct0
  go_wp2_with fail
  obtain ⟨W3, hW3⟩ : ∃ W, W = ((w2x.alloc (.cells #[.slice g2 vs.length k2] 25)).alloc (.cells #[.int .i64 a, .int .i64 p] 27)) := ⟨_, rfl⟩
  have qW3 : Below w2x.heap.size w2x W3 := by rw [hW3]; exact ((Below.refl _ _).alloc (Nat.le_refl _) _).alloc (by simp) _
  have zW3 : w2x.heap.size + 2 ≤ W3.heap.size := by rw [hW3]; simp
  replace ct0 := boxD ct0 qW3
  replace lt : bt < W3.heap.size := by omega
  have cu0 : W3.cell? ⟨w2x.heap.size, 0, none⟩ = some (.slice g2 vs.length k2) := by rw [hW3, cell_alloc_lt (by simp)]; exact (cell_new _ _ _ 0).1
  have ce0 : W3.cell? ⟨w2x.heap.size + 1, 0, none⟩ = some (.int .i64 a) := by rw [hW3]; simp
  have ce1 : W3.cell? ⟨w2x.heap.size + 1, 1, none⟩ = some (.int .i64 p) := by rw [hW3]; simp
  replace Tt := Lib.hid (Tt.out.below qW3)
  replace Tu := Lib.hid (Tu.out.below qW3)
  replace BW := Lib.hid (BW.out.trans (qW3.mono BW.out.size))
  rw [← hW3]
  obtain ⟨be, hbe⟩ : ∃ b, b = w2x.heap.size + 1 := ⟨_, rfl⟩
  have le : be < W3.heap.size := by omega
  rw [← hbe] at ce0 ce1 ⊢
  obtain ⟨bu, hbu⟩ : ∃ b, b = w2x.heap.size := ⟨_, rfl⟩
  have lu : bu < W3.heap.size := by omega
  rw [← hbu] at cu0 ⊢
  clear hbu hbe hW3
  clear at0
  clear qW3 zW3
  (go_at_call 17; refine (HIE.out _ Tt.out).mono ?_; rintro e w4x ⟨rfl, qb⟩)
  have zb := qb.size
  replace ct0 := boxD ct0 qb
  replace lt : bt < w4x.heap.size := by omega
  replace cu0 := boxD cu0 qb
  replace lu : bu < w4x.heap.size := by omega
  replace ce0 := boxD ce0 qb
  replace ce1 := boxD ce1 qb
  replace le : be < w4x.heap.size := by omega
  replace Tt := Lib.hid (Tt.out.below qb)
  replace Tu := Lib.hid (Tu.out.below qb)
  replace BW := Lib.hid (BW.out.trans (qb.mono BW.out.size))
  clear qb zb
  have at0 : ∀ o, (w4x.alloc o).cell? ⟨bt, 0, none⟩ = some (.slice g1 us.length k1) := fun o => by rw [cell_alloc_lt lt]; exact ct0
  have au0 : ∀ o, (w4x.alloc o).cell? ⟨bu, 0, none⟩ = some (.slice g2 vs.length k2) := fun o => by rw [cell_alloc_lt lu]; exact cu0
  have ae0 : ∀ o, (w4x.alloc o).cell? ⟨be, 0, none⟩ = some (.int .i64 a) := fun o => by rw [cell_alloc_lt le]; exact ce0
  have ae1 : ∀ o, (w4x.alloc o).cell? ⟨be, 1, none⟩ = some (.int .i64 p) := fun o => by rw [cell_alloc_lt le]; exact ce1
  go_wp2_with fail
  obtain ⟨W5, hW5⟩ : ∃ W, W = (w4x.alloc (.cells #[.int .i64 xa, .int .i64 xp] 27)) := ⟨_, rfl⟩
  have qW5 : Below w4x.heap.size w4x W5 := by rw [hW5]; exact (Below.refl _ _).alloc (Nat.le_refl _) _
  have zW5 : w4x.heap.size + 1 ≤ W5.heap.size := by rw [hW5]; simp
  replace ct0 := boxD ct0 qW5
  replace lt : bt < W5.heap.size := by omega
  replace cu0 := boxD cu0 qW5
  replace lu : bu < W5.heap.size := by omega
  replace ce0 := boxD ce0 qW5
  replace ce1 := boxD ce1 qW5
  replace le : be < W5.heap.size := by omega
  have cx0 : W5.cell? ⟨w4x.heap.size, 0, none⟩ = some (.int .i64 xa) := by rw [hW5]; simp
  have cx1 : W5.cell? ⟨w4x.heap.size, 1, none⟩ = some (.int .i64 xp) := by rw [hW5]; simp
  replace Tt := Lib.hid (Tt.out.below qW5)
  replace Tu := Lib.hid (Tu.out.below qW5)
  replace BW := Lib.hid (BW.out.trans (qW5.mono BW.out.size))
  rw [← hW5]
  obtain ⟨bx, hbx⟩ : ∃ b, b = w4x.heap.size := ⟨_, rfl⟩
  have lx : bx < W5.heap.size := by omega
  rw [← hbx] at cx0 cx1 ⊢
  clear hbx hW5
  clear at0 au0 ae0 ae1
  clear qW5 zW5
  (go_at_call 20; refine (HSE.out _ Tt.out).mono ?_; rintro e w6x ⟨rfl, qb⟩)
  have zb := qb.size
  replace ct0 := boxD ct0 qb
  replace lt : bt < w6x.heap.size := by omega
  replace cu0 := boxD cu0 qb
  replace lu : bu < w6x.heap.size := by omega
  replace ce0 := boxD ce0 qb
  replace ce1 := boxD ce1 qb
  replace le : be < w6x.heap.size := by omega
  replace cx0 := boxD cx0 qb
  replace cx1 := boxD cx1 qb
  replace lx : bx < w6x.heap.size := by omega
  replace Tt := Lib.hid (Tt.out.below qb)
  replace Tu := Lib.hid (Tu.out.below qb)
  replace BW := Lib.hid (BW.out.trans (qb.mono BW.out.size))
  clear qb zb
  have at0 : ∀ o, (w6x.alloc o).cell? ⟨bt, 0, none⟩ = some (.slice g1 us.length k1) := fun o => by rw [cell_alloc_lt lt]; exact ct0
  have au0 : ∀ o, (w6x.alloc o).cell? ⟨bu, 0, none⟩ = some (.slice g2 vs.length k2) := fun o => by rw [cell_alloc_lt lu]; exact cu0
  have ae0 : ∀ o, (w6x.alloc o).cell? ⟨be, 0, none⟩ = some (.int .i64 a) := fun o => by rw [cell_alloc_lt le]; exact ce0
  have ae1 : ∀ o, (w6x.alloc o).cell? ⟨be, 1, none⟩ = some (.int .i64 p) := fun o => by rw [cell_alloc_lt le]; exact ce1
  have ax0 : ∀ o, (w6x.alloc o).cell? ⟨bx, 0, none⟩ = some (.int .i64 xa) := fun o => by rw [cell_alloc_lt lx]; exact cx0
  have ax1 : ∀ o, (w6x.alloc o).cell? ⟨bx, 1, none⟩ = some (.int .i64 xp) := fun o => by rw [cell_alloc_lt lx]; exact cx1
  go_wp2_with fail
  obtain ⟨W7, hW7⟩ : ∃ W, W = (w6x.alloc (.cells #[.int .i64 xa, .int .i64 xp] 27)) := ⟨_, rfl⟩
  have qW7 : Below w6x.heap.size w6x W7 := by rw [hW7]; exact (Below.refl _ _).alloc (Nat.le_refl _) _
  have zW7 : w6x.heap.size + 1 ≤ W7.heap.size := by rw [hW7]; simp
  replace ct0 := boxD ct0 qW7
  replace lt : bt < W7.heap.size := by omega
  replace cu0 := boxD cu0 qW7
  replace lu : bu < W7.heap.size := by omega
  replace ce0 := boxD ce0 qW7
  replace ce1 := boxD ce1 qW7
  replace le : be < W7.heap.size := by omega
  replace cx0 := boxD cx0 qW7
  replace cx1 := boxD cx1 qW7
  replace lx : bx < W7.heap.size := by omega
  have cv0 : W7.cell? ⟨w6x.heap.size, 0, none⟩ = some (.int .i64 xa) := by rw [hW7]; simp
  have cv1 : W7.cell? ⟨w6x.heap.size, 1, none⟩ = some (.int .i64 xp) := by rw [hW7]; simp
  replace Tt := Lib.hid (Tt.out.below qW7)
  replace Tu := Lib.hid (Tu.out.below qW7)
  replace BW := Lib.hid (BW.out.trans (qW7.mono BW.out.size))
  rw [← hW7]
  obtain ⟨bv, hbv⟩ : ∃ b, b = w6x.heap.size := ⟨_, rfl⟩
  have lv : bv < W7.heap.size := by omega
  rw [← hbv] at cv0 cv1 ⊢
  clear hbv hW7
  clear at0 au0 ae0 ae1 ax0 ax1
  clear qW7 zW7
  (go_at_call 16; refine (HIP.out _ Tu.out).mono ?_; rintro e w8x ⟨rfl, qb⟩)
  have zb := qb.size
  replace ct0 := boxD ct0 qb
  replace lt : bt < w8x.heap.size := by omega
  replace cu0 := boxD cu0 qb
  replace lu : bu < w8x.heap.size := by omega
  replace ce0 := boxD ce0 qb
  replace ce1 := boxD ce1 qb
  replace le : be < w8x.heap.size := by omega
  replace cx0 := boxD cx0 qb
  replace cx1 := boxD cx1 qb
  replace lx : bx < w8x.heap.size := by omega
  replace cv0 := boxD cv0 qb
  replace cv1 := boxD cv1 qb
  replace lv : bv < w8x.heap.size := by omega
  replace Tt := Lib.hid (Tt.out.below qb)
  replace Tu := Lib.hid (Tu.out.below qb)
  replace BW := Lib.hid (BW.out.trans (qb.mono BW.out.size))
  clear qb zb
  go_wp2_with fail
  (go_at_call 21; refine (HSP.out _ Tu.out).mono ?_; rintro e w9x ⟨rfl, qb⟩)
  have zb := qb.size
  replace ct0 := boxD ct0 qb
  replace lt : bt < w9x.heap.size := by omega
  replace cu0 := boxD cu0 qb
  replace lu : bu < w9x.heap.size := by omega
  replace ce0 := boxD ce0 qb
  replace ce1 := boxD ce1 qb
  replace le : be < w9x.heap.size := by omega
  replace cx0 := boxD cx0 qb
  replace cx1 := boxD cx1 qb
  replace lx : bx < w9x.heap.size := by omega
  replace cv0 := boxD cv0 qb
  replace cv1 := boxD cv1 qb
  replace lv : bv < w9x.heap.size := by omega
  replace Tt := Lib.hid (Tt.out.below qb)
  replace Tu := Lib.hid (Tu.out.below qb)
  replace BW := Lib.hid (BW.out.trans (qb.mono BW.out.size))
  clear qb zb
  have hr1 : r = 0 ∨ r ≠ 0 := Decidable.em _
  cases ob
  · rcases hr1 with hrz | hrz
    · subst hrz
      go_wp2_with fail
      (go_at_call 14; refine (haOk_any _).mono ?_; rintro e wl ⟨rfl, rfl⟩)
      go_wp2_with fail
      go_ret
      exact ⟨rfl, BW.out⟩
    · have hrb : (r == 0) = false := by simpa using hrz
      go_wp2_with fail
      (go_at_call 17; refine (HIY.out hrz _ Tu.out).mono ?_; rintro e w10x ⟨rfl, qb⟩)
      have zb := qb.size
      replace ct0 := boxD ct0 qb
      replace lt : bt < w10x.heap.size := by omega
      replace cu0 := boxD cu0 qb
      replace lu : bu < w10x.heap.size := by omega
      replace ce0 := boxD ce0 qb
      replace ce1 := boxD ce1 qb
      replace le : be < w10x.heap.size := by omega
      replace cx0 := boxD cx0 qb
      replace cx1 := boxD cx1 qb
      replace lx : bx < w10x.heap.size := by omega
      replace cv0 := boxD cv0 qb
      replace cv1 := boxD cv1 qb
      replace lv : bv < w10x.heap.size := by omega
      replace Tt := Lib.hid (Tt.out.below qb)
      replace Tu := Lib.hid (Tu.out.below qb)
      replace BW := Lib.hid (BW.out.trans (qb.mono BW.out.size))
      clear qb zb
      have at0 : ∀ o, (w10x.alloc o).cell? ⟨bt, 0, none⟩ = some (.slice g1 us.length k1) := fun o => by rw [cell_alloc_lt lt]; exact ct0
      have au0 : ∀ o, (w10x.alloc o).cell? ⟨bu, 0, none⟩ = some (.slice g2 vs.length k2) := fun o => by rw [cell_alloc_lt lu]; exact cu0
      have ae0 : ∀ o, (w10x.alloc o).cell? ⟨be, 0, none⟩ = some (.int .i64 a) := fun o => by rw [cell_alloc_lt le]; exact ce0
      have ae1 : ∀ o, (w10x.alloc o).cell? ⟨be, 1, none⟩ = some (.int .i64 p) := fun o => by rw [cell_alloc_lt le]; exact ce1
      have ax0 : ∀ o, (w10x.alloc o).cell? ⟨bx, 0, none⟩ = some (.int .i64 xa) := fun o => by rw [cell_alloc_lt lx]; exact cx0
      have ax1 : ∀ o, (w10x.alloc o).cell? ⟨bx, 1, none⟩ = some (.int .i64 xp) := fun o => by rw [cell_alloc_lt lx]; exact cx1
      have av0 : ∀ o, (w10x.alloc o).cell? ⟨bv, 0, none⟩ = some (.int .i64 xa) := fun o => by rw [cell_alloc_lt lv]; exact cv0
      have av1 : ∀ o, (w10x.alloc o).cell? ⟨bv, 1, none⟩ = some (.int .i64 xp) := fun o => by rw [cell_alloc_lt lv]; exact cv1
      have BWL : Hid (∀ o, Below w.heap.size w (w10x.alloc o)) := fun o => BW.out.alloc BW.out.size o
      go_wp2_with fail
      go_ret
      exact ⟨rfl, BWL.out _⟩
  · go_wp2_with fail
    (go_at_call 12; refine (HMO.out _ Tt.out).mono ?_; rintro e w10x ⟨rfl, qb⟩)
    have zb := qb.size
    replace ct0 := boxD ct0 qb
    replace lt : bt < w10x.heap.size := by omega
    replace cu0 := boxD cu0 qb
    replace lu : bu < w10x.heap.size := by omega
    replace ce0 := boxD ce0 qb
    replace ce1 := boxD ce1 qb
    replace le : be < w10x.heap.size := by omega
    replace cx0 := boxD cx0 qb
    replace cx1 := boxD cx1 qb
    replace lx : bx < w10x.heap.size := by omega
    replace cv0 := boxD cv0 qb
    replace cv1 := boxD cv1 qb
    replace lv : bv < w10x.heap.size := by omega
    replace Tt := Lib.hid (Tt.out.below qb)
    replace Tu := Lib.hid (Tu.out.below qb)
    replace BW := Lib.hid (BW.out.trans (qb.mono BW.out.size))
    clear qb zb
    cases mb
    · rcases hr1 with hrz | hrz
      · subst hrz
        go_wp2_with fail
        (go_at_call 14; refine (haOk_any _).mono ?_; rintro e wl ⟨rfl, rfl⟩)
        go_wp2_with fail
        go_ret
        exact ⟨rfl, BW.out⟩
      · have hrb : (r == 0) = false := by simpa using hrz
        go_wp2_with fail
        (go_at_call 17; refine (HIY.out hrz _ Tu.out).mono ?_; rintro e w11x ⟨rfl, qb⟩)
        have zb := qb.size
        replace ct0 := boxD ct0 qb
        replace lt : bt < w11x.heap.size := by omega
        replace cu0 := boxD cu0 qb
        replace lu : bu < w11x.heap.size := by omega
        replace ce0 := boxD ce0 qb
        replace ce1 := boxD ce1 qb
        replace le : be < w11x.heap.size := by omega
        replace cx0 := boxD cx0 qb
        replace cx1 := boxD cx1 qb
        replace lx : bx < w11x.heap.size := by omega
        replace cv0 := boxD cv0 qb
        replace cv1 := boxD cv1 qb
        replace lv : bv < w11x.heap.size := by omega
        replace Tt := Lib.hid (Tt.out.below qb)
        replace Tu := Lib.hid (Tu.out.below qb)
        replace BW := Lib.hid (BW.out.trans (qb.mono BW.out.size))
        clear qb zb
        have at0 : ∀ o, (w11x.alloc o).cell? ⟨bt, 0, none⟩ = some (.slice g1 us.length k1) := fun o => by rw [cell_alloc_lt lt]; exact ct0
        have au0 : ∀ o, (w11x.alloc o).cell? ⟨bu, 0, none⟩ = some (.slice g2 vs.length k2) := fun o => by rw [cell_alloc_lt lu]; exact cu0
        have ae0 : ∀ o, (w11x.alloc o).cell? ⟨be, 0, none⟩ = some (.int .i64 a) := fun o => by rw [cell_alloc_lt le]; exact ce0
        have ae1 : ∀ o, (w11x.alloc o).cell? ⟨be, 1, none⟩ = some (.int .i64 p) := fun o => by rw [cell_alloc_lt le]; exact ce1
        have ax0 : ∀ o, (w11x.alloc o).cell? ⟨bx, 0, none⟩ = some (.int .i64 xa) := fun o => by rw [cell_alloc_lt lx]; exact cx0
        have ax1 : ∀ o, (w11x.alloc o).cell? ⟨bx, 1, none⟩ = some (.int .i64 xp) := fun o => by rw [cell_alloc_lt lx]; exact cx1
        have av0 : ∀ o, (w11x.alloc o).cell? ⟨bv, 0, none⟩ = some (.int .i64 xa) := fun o => by rw [cell_alloc_lt lv]; exact cv0
        have av1 : ∀ o, (w11x.alloc o).cell? ⟨bv, 1, none⟩ = some (.int .i64 xp) := fun o => by rw [cell_alloc_lt lv]; exact cv1
        have BWL : Hid (∀ o, Below w.heap.size w (w11x.alloc o)) := fun o => BW.out.alloc BW.out.size o
        go_wp2_with fail
        go_ret
        exact ⟨rfl, BWL.out _⟩
    · go_wp2_with fail
      (go_at_call 16; refine (HIX.out (by simp) (by simp) _ Tt.out).mono ?_; rintro e w11x ⟨rfl, qb⟩)
      have zb := qb.size
      replace ct0 := boxD ct0 qb
      replace lt : bt < w11x.heap.size := by omega
      replace cu0 := boxD cu0 qb
      replace lu : bu < w11x.heap.size := by omega
      replace ce0 := boxD ce0 qb
      replace ce1 := boxD ce1 qb
      replace le : be < w11x.heap.size := by omega
      replace cx0 := boxD cx0 qb
      replace cx1 := boxD cx1 qb
      replace lx : bx < w11x.heap.size := by omega
      replace cv0 := boxD cv0 qb
      replace cv1 := boxD cv1 qb
      replace lv : bv < w11x.heap.size := by omega
      replace Tt := Lib.hid (Tt.out.below qb)
      replace Tu := Lib.hid (Tu.out.below qb)
      replace BW := Lib.hid (BW.out.trans (qb.mono BW.out.size))
      clear qb zb
      rcases hr1 with hrz | hrz
      · subst hrz
        go_wp2_with fail
        (go_at_call 14; refine (haOk_any _).mono ?_; rintro e wl ⟨rfl, rfl⟩)
        go_wp2_with fail
        go_ret
        exact ⟨rfl, BW.out⟩
      · have hrb : (r == 0) = false := by simpa using hrz
        go_wp2_with fail
        (go_at_call 17; refine (HIY.out hrz _ Tu.out).mono ?_; rintro e w12x ⟨rfl, qb⟩)
        have zb := qb.size
        replace ct0 := boxD ct0 qb
        replace lt : bt < w12x.heap.size := by omega
        replace cu0 := boxD cu0 qb
        replace lu : bu < w12x.heap.size := by omega
        replace ce0 := boxD ce0 qb
        replace ce1 := boxD ce1 qb
        replace le : be < w12x.heap.size := by omega
        replace cx0 := boxD cx0 qb
        replace cx1 := boxD cx1 qb
        replace lx : bx < w12x.heap.size := by omega
        replace cv0 := boxD cv0 qb
        replace cv1 := boxD cv1 qb
        replace lv : bv < w12x.heap.size := by omega
        replace Tt := Lib.hid (Tt.out.below qb)
        replace Tu := Lib.hid (Tu.out.below qb)
        replace BW := Lib.hid (BW.out.trans (qb.mono BW.out.size))
        clear qb zb
        have at0 : ∀ o, (w12x.alloc o).cell? ⟨bt, 0, none⟩ = some (.slice g1 us.length k1) := fun o => by rw [cell_alloc_lt lt]; exact ct0
        have au0 : ∀ o, (w12x.alloc o).cell? ⟨bu, 0, none⟩ = some (.slice g2 vs.length k2) := fun o => by rw [cell_alloc_lt lu]; exact cu0
        have ae0 : ∀ o, (w12x.alloc o).cell? ⟨be, 0, none⟩ = some (.int .i64 a) := fun o => by rw [cell_alloc_lt le]; exact ce0
        have ae1 : ∀ o, (w12x.alloc o).cell? ⟨be, 1, none⟩ = some (.int .i64 p) := fun o => by rw [cell_alloc_lt le]; exact ce1
        have ax0 : ∀ o, (w12x.alloc o).cell? ⟨bx, 0, none⟩ = some (.int .i64 xa) := fun o => by rw [cell_alloc_lt lx]; exact cx0
        have ax1 : ∀ o, (w12x.alloc o).cell? ⟨bx, 1, none⟩ = some (.int .i64 xp) := fun o => by rw [cell_alloc_lt lx]; exact cx1
        have av0 : ∀ o, (w12x.alloc o).cell? ⟨bv, 0, none⟩ = some (.int .i64 xa) := fun o => by rw [cell_alloc_lt lv]; exact cv0
        have av1 : ∀ o, (w12x.alloc o).cell? ⟨bv, 1, none⟩ = some (.int .i64 xp) := fun o => by rw [cell_alloc_lt lv]; exact cv1
        have BWL : Hid (∀ o, Below w.heap.size w (w12x.alloc o)) := fun o => BW.out.alloc BW.out.size o
        go_wp2_with fail
        go_ret
        exact ⟨rfl, BWL.out _⟩

set_option maxRecDepth 100000 in
set_option maxHeartbeats 800000 in
theorem lwMapEnd_any (ao : Option Addr) (n cap : Nat) (ao2 : Option Addr) (n2 cap2 : Nat) (w : World) (h : BytesIn w ao n) (hn : n ≤ cap) (h2 : BytesIn w ao2 n2) (hn2 : n2 ≤ cap2) :
    Calls Try.prog 4 #[.slice ao n cap, .slice ao2 n2 cap2] w fun e w' => e = .returned (.bool true) ∧ Below w.heap.size w w' := by
  by_cases hb1 : 1048576 < n
  · clear h h2
    go_enter Try.func4, Try.ntmps4
    go_wp2_with fail
    go_ret
    exact ⟨rfl, Below.refl _ _⟩
  · by_cases hb2 : 1048576 < n2
    · clear h h2
      go_enter Try.func4, Try.ntmps4
      go_wp2_with fail
      go_ret
      exact ⟨rfl, Below.refl _ _⟩
    · exact lwMapEnd_of ao n cap ao2 n2 cap2 w h hn h2 hn2 hb1 hb2

end Go.Proofs.Ytaafnnelhlmdiaa
