/- The law that the order of ends makes no difference to how many have ports: at every two codes. Condition: the codes lie in memory. -/
import Derived.Test.YtaafnnelhlmdiaaDrawPut
import Derived.Test.YtaafnnelhlmdiaaHaOk
import Derived.Test.YtaafnnelhlmdiaaIMapE
import Derived.Test.YtaafnnelhlmdiaaIMapPut
import Derived.Test.YtaafnnelhlmdiaaPutP
import Derived.Test.YtaafnnelhlmdiaaTag
namespace Go.Proofs.Ytaafnnelhlmdiaa
open Go.RowKit Go.Sort

theorem boxD {w w' : World} {b i : Nat} {v : Value} (h : w.cell? ⟨b, i, none⟩ = some v) (hb : Below w.heap.size w w') : w'.cell? ⟨b, i, none⟩ = some v := by
  rw [hb.cell (p := ⟨b, i, none⟩) (World.block_lt_of_cell? w _ h)]; exact h
theorem boxF {w w' : World} {b i : Nat} {v : Value} (h : w.cell? ⟨b, i, none⟩ = some v) (hf : w.frozen? ⟨b, i, none⟩ = false) (hb : Below w.heap.size w w') : w'.frozen? ⟨b, i, none⟩ = false := by
  rw [hb.frozen (p := ⟨b, i, none⟩) (World.block_lt_of_cell? w _ h)]; exact hf
theorem SmE.wfE {us : List (Int × Int)} (h : SmE us) : wfE us := fun x hx => (h x hx).wf

set_option maxRecDepth 100000 in
set_option maxHeartbeats 12800000 in
theorem lwMapMany_of (ao : Option Addr) (n cap : Nat) (ao2 : Option Addr) (n2 cap2 : Nat) (w : World) (h : BytesIn w ao n) (hn : n ≤ cap) (h2 : BytesIn w ao2 n2) (hn2 : n2 ≤ cap2) (hb1 : ¬ 1048576 < n) (hb2 : ¬ 1048576 < n2) :
    Calls Try.prog 6 #[.slice ao n cap, .slice ao2 n2 cap2] w fun e w' => e = .returned (.bool true) ∧ Below w.heap.size w w' := by
  have H := Lib.hid h
  have H2 := Lib.hid h2
  clear h h2
  go_enter Try.func6, Try.ntmps6
  go_wp2_with fail
  (go_at_call 7; refine (drawMapPut_any ao n cap _ H.out hn).mono ?_; rintro e w1 ⟨g1, k1, us, a1, a2, rfl, o1, ⟨u8, sm1⟩, sma, b1⟩)
  have BW := Lib.hid b1
  have H21 := Lib.hid (H2.out.below b1)
  have Tt := Lib.hid (o1.mono (Nat.zero_le _))
  have WU := Lib.hid sm1.wfE
  have WA := Lib.hid sma.wf
  have HA2 : Hid (∀ o o', BytesIn ((w1.alloc o).alloc o') ao2 n2) := fun o o' => H21.out.below (((Below.refl _ _).alloc (Nat.le_refl _) o).alloc (by simp) o')
  clear b1 o1 H H2 sm1 sma
  go_wp2_with fail
  obtain ⟨W1, hW1⟩ : ∃ W, W = ((w1.alloc (.cells #[.slice g1 us.length k1] 25)).alloc (.cells #[.int .i64 a1, .int .i64 a2] 27)) := ⟨_, rfl⟩
  have qW1 : Below w1.heap.size w1 W1 := by rw [hW1]; exact ((Below.refl _ _).alloc (Nat.le_refl _) _).alloc (by simp) _
  have zW1 : w1.heap.size + 2 ≤ W1.heap.size := by rw [hW1]; simp
  have ct0 : W1.cell? ⟨w1.heap.size, 0, none⟩ = some (.slice g1 us.length k1) := by rw [hW1, cell_alloc_lt (by simp)]; exact (cell_new _ _ _ 0).1
  have ca0 : W1.cell? ⟨w1.heap.size + 1, 0, none⟩ = some (.int .i64 a1) := by rw [hW1]; simp
  have ca1 : W1.cell? ⟨w1.heap.size + 1, 1, none⟩ = some (.int .i64 a2) := by rw [hW1]; simp
  replace Tt := Lib.hid (Tt.out.below qW1)
  have BWz := BW.out.size
  replace BW := Lib.hid (BW.out.trans (qW1.mono BW.out.size))
  have H2W : Hid (BytesIn W1 ao2 n2) := by rw [hW1]; exact HA2.out _ _
  rw [← hW1]
  obtain ⟨ba, hba⟩ : ∃ b, b = w1.heap.size + 1 := ⟨_, rfl⟩
  have la : ba < W1.heap.size := by omega
  rw [← hba] at ca0 ca1 ⊢
  have ma : w.heap.size ≤ ba := by have := BWz; omega
  obtain ⟨bt, hbt⟩ : ∃ b, b = w1.heap.size := ⟨_, rfl⟩
  have lt : bt < W1.heap.size := by omega
  rw [← hbt] at ct0 ⊢
  have mt : w.heap.size ≤ bt := by have := BWz; omega
  clear hbt hba hW1
  clear qW1 zW1 BWz
  (go_at_call 7; refine (drawMapPut_any ao2 n2 cap2 _ H2W.out hn2).mono ?_; rintro e w2x ⟨g2, k2, vs, b1, b2, rfl, _, _, smb, qb⟩)
  have zb := qb.size
  replace ct0 := boxD ct0 qb
  replace lt : bt < w2x.heap.size := by omega
  replace ca0 := boxD ca0 qb
  replace ca1 := boxD ca1 qb
  replace la : ba < w2x.heap.size := by omega
  replace Tt := Lib.hid (Tt.out.below qb)
  replace BW := Lib.hid (BW.out.trans (qb.mono BW.out.size))
  clear qb zb
  have WB := Lib.hid smb.wf
  clear smb H21 HA2 H2W
  obtain ⟨mb, hmb⟩ : ∃ mb, mb = mapB us := ⟨_, rfl⟩
  obtain ⟨ia, hia⟩ : ∃ ia, ia = insB a1 a2 := ⟨_, rfl⟩
  obtain ⟨ib, hib⟩ : ∃ ib, ib = insB b1 b2 := ⟨_, rfl⟩
  obtain ⟨p1, hp1⟩ : ∃ p1, p1 = (putA us (a1, a2)).2 := ⟨_, rfl⟩
  obtain ⟨z1, hz1⟩ : ∃ z1, z1 = (putA us (a1, a2)).1 := ⟨_, rfl⟩
  have hz1l := putA_le us (a1, a2)
  rw [← hz1] at hz1l
  have HSO : Hid (∀ w, TabAt w (.slice g1 us.length k1) us → Calls Try.prog 12 #[.agg #[.slice g1 us.length k1]] w fun e w' => e = .returned (.bool mb) ∧ Below w.heap.size w w') := fun w ht => by rw [hmb]; exact specMapOk_any _ us w (by omega) ht
  have HSA : Hid (∀ w, Calls Try.prog 13 #[.agg #[.int .i64 a1, .int .i64 a2]] w fun e w' => e = .returned (.bool ia) ∧ Below w.heap.size w w') := fun w => by rw [hia]; exact specInside_any a1 a2 w
  have HSB : Hid (∀ w, Calls Try.prog 13 #[.agg #[.int .i64 b1, .int .i64 b2]] w fun e w' => e = .returned (.bool ib) ∧ Below w.heap.size w w') := fun w => by rw [hib]; exact specInside_any b1 b2 w
  have HIA : Hid (∀ w, TabAt w (.slice g1 us.length k1) us → Calls Try.prog 8 #[.agg #[.slice g1 us.length k1], .agg #[.int .i64 a1, .int .i64 a2]] w fun e w' => ∃ g c, e = .returned (.tuple #[.agg #[.slice g z1.length c], .int .i64 p1]) ∧ Below w.heap.size w w') := fun w ht => by
    rw [hz1, hp1]
    refine (implPutA _ us a1 a2 w (by omega) WU.out ht).mono ?_
    rintro e w' ⟨g, c, rfl, _, hb⟩
    exact ⟨g, c, rfl, hb⟩
  have HNO : Hid ((mb && ia) = false → p1 = 0) := fun h => by rw [hmb, hia] at h; rw [hp1, putA_not h]
  have HYES : Hid (mb = true → ia = true → ib = true → ∃ x1 x2 y1 : List (Int × Int), ∃ q1 q2 q3 q4 : Int, x1.length ≤ 6 ∧ x2.length ≤ 6 ∧ y1.length ≤ 6 ∧ us.length ≤ 6 ∧ wfE x2 ∧
      (¬ (0 < portI x2 (a1, a2) ∧ 0 < portI x2 (b1, b2)) → 5 ≤ us.length ∧ (us.length = 6 ∨ 0 < portI x2 (a1, a2))) ∧
      (∀ v w, TabAt w v us → Calls Try.prog 8 #[.agg #[v], .agg #[.int .i64 a1, .int .i64 a2]] w fun e w' => ∃ g c, e = .returned (.tuple #[.agg #[.slice g x1.length c], .int .i64 q1]) ∧ OwnTab w' 0 (.slice g x1.length c) x1 ∧ Below w.heap.size w w') ∧
      (∀ v w, TabAt w v x1 → Calls Try.prog 8 #[.agg #[v], .agg #[.int .i64 b1, .int .i64 b2]] w fun e w' => ∃ g c, e = .returned (.tuple #[.agg #[.slice g x2.length c], .int .i64 q2]) ∧ OwnTab w' 0 (.slice g x2.length c) x2 ∧ Below w.heap.size w w') ∧
      (∀ v w, TabAt w v us → Calls Try.prog 8 #[.agg #[v], .agg #[.int .i64 b1, .int .i64 b2]] w fun e w' => ∃ g c, e = .returned (.tuple #[.agg #[.slice g y1.length c], .int .i64 q3]) ∧ OwnTab w' 0 (.slice g y1.length c) y1 ∧ Below w.heap.size w w') ∧
      (∀ v w, TabAt w v y1 → Calls Try.prog 8 #[.agg #[v], .agg #[.int .i64 a1, .int .i64 a2]] w fun e w' => ∃ g c, e = .returned (.tuple #[.agg #[.slice g x2.length c], .int .i64 q4]) ∧ Below w.heap.size w w')) := fun e1 e2 e3 => by
    rw [hmb] at e1
    rw [hia] at e2
    rw [hib] at e3
    have mx1 : mapB (putE us (a1, a2)).1 = true := putE_ok e1 e2
    have my1 : mapB (putE us (b1, b2)).1 = true := putE_ok e1 e3
    have mx2 : mapB (putE (putE us (a1, a2)).1 (b1, b2)).1 = true := putE_ok mx1 e3
    have l0 := mapB_le e1
    have l1 := mapB_le mx1
    have l2 := mapB_le my1
    have l3 := mapB_le mx2
    have hlen := put_two_len us (a1, a2) (b1, b2)
    refine ⟨(putE us (a1, a2)).1, (putE (putE us (a1, a2)).1 (b1, b2)).1, (putE us (b1, b2)).1, (putE us (a1, a2)).2, (putE (putE us (a1, a2)).1 (b1, b2)).2, (putE us (b1, b2)).2, (putE (putE us (b1, b2)).1 (a1, a2)).2, l1, l3, l2, l0, mapB_wf mx2, fun hno => ?_, fun v w ht => ?_, fun v w ht => ?_, fun v w ht => ?_, fun v w ht => ?_⟩
    · rw [portI_pos', portI_pos'] at hno
      rw [portI_pos']
      exact put_two_has hno
    · refine (implMapPut_ok v us a1 a2 w (by omega) ht e1 e2).mono ?_
      rintro e w' ⟨g, c, rfl, ho, hb⟩
      exact ⟨_, _, rfl, ho.mono (Nat.zero_le _), hb⟩
    · refine (implMapPut_ok v _ b1 b2 w (by omega) ht mx1 e3).mono ?_
      rintro e w' ⟨g, c, rfl, ho, hb⟩
      exact ⟨_, _, rfl, ho.mono (Nat.zero_le _), hb⟩
    · refine (implMapPut_ok v us b1 b2 w (by omega) ht e1 e3).mono ?_
      rintro e w' ⟨g, c, rfl, ho, hb⟩
      exact ⟨_, _, rfl, ho.mono (Nat.zero_le _), hb⟩
    · refine (implMapPut_ok v _ a1 a2 w (by omega) ht my1 e2).mono ?_
      rintro e w' ⟨g, c, rfl, ho, hb⟩
      exact ⟨g, c, by rw [hlen], hb⟩
  clear hmb hia hib hp1 hz1
  have at0 : ∀ o oo, ((w2x.alloc o).alloc oo).cell? ⟨bt, 0, none⟩ = some (.slice g1 us.length k1) := fun o oo => by rw [cell_alloc_lt (by simp; omega), cell_alloc_lt lt]; exact ct0
  have aa0 : ∀ o oo, ((w2x.alloc o).alloc oo).cell? ⟨ba, 0, none⟩ = some (.int .i64 a1) := fun o oo => by rw [cell_alloc_lt (by simp; omega), cell_alloc_lt la]; exact ca0
  have aa1 : ∀ o oo, ((w2x.alloc o).alloc oo).cell? ⟨ba, 1, none⟩ = some (.int .i64 a2) := fun o oo => by rw [cell_alloc_lt (by simp; omega), cell_alloc_lt la]; exact ca1
  go_wp2_with fail
  obtain ⟨W3, hW3⟩ : ∃ W, W = ((w2x.alloc (.cells #[.slice g2 vs.length k2] 25)).alloc (.cells #[.int .i64 b1, .int .i64 b2] 27)) := ⟨_, rfl⟩
  have qW3 : Below w2x.heap.size w2x W3 := by rw [hW3]; exact ((Below.refl _ _).alloc (Nat.le_refl _) _).alloc (by simp) _
  have zW3 : w2x.heap.size + 2 ≤ W3.heap.size := by rw [hW3]; simp
  have ntu : bt < w2x.heap.size := lt
  have ntr : bt < w2x.heap.size := lt
  have nau : ba < w2x.heap.size := la
  have nar : ba < w2x.heap.size := la
  replace ct0 := boxD ct0 qW3
  replace lt : bt < W3.heap.size := by omega
  replace ca0 := boxD ca0 qW3
  replace ca1 := boxD ca1 qW3
  replace la : ba < W3.heap.size := by omega
  have cu0 : W3.cell? ⟨w2x.heap.size, 0, none⟩ = some (.slice g2 vs.length k2) := by rw [hW3, cell_alloc_lt (by simp)]; exact (cell_new _ _ _ 0).1
  have cr0 : W3.cell? ⟨w2x.heap.size + 1, 0, none⟩ = some (.int .i64 b1) := by rw [hW3]; simp
  have cr1 : W3.cell? ⟨w2x.heap.size + 1, 1, none⟩ = some (.int .i64 b2) := by rw [hW3]; simp
  replace Tt := Lib.hid (Tt.out.below qW3)
  have BWz := BW.out.size
  replace BW := Lib.hid (BW.out.trans (qW3.mono BW.out.size))
  rw [← hW3]
  obtain ⟨br, hbr⟩ : ∃ b, b = w2x.heap.size + 1 := ⟨_, rfl⟩
  have lr : br < W3.heap.size := by omega
  rw [← hbr] at cr0 cr1 ⊢
  replace ntr : bt < br := by omega
  replace nar : ba < br := by omega
  have mr : w.heap.size ≤ br := by have := BWz; omega
  obtain ⟨bu, hbu⟩ : ∃ b, b = w2x.heap.size := ⟨_, rfl⟩
  have lu : bu < W3.heap.size := by omega
  rw [← hbu] at cu0 ⊢
  replace ntu : bt < bu := by omega
  replace nau : ba < bu := by omega
  have mu : w.heap.size ≤ bu := by have := BWz; omega
  clear hbu hbr hW3
  clear at0 aa0 aa1
  clear qW3 zW3 BWz
  (go_at_call 12; refine (HSO.out _ Tt.out.tab).mono ?_; rintro e w4x ⟨rfl, qb⟩)
  have zb := qb.size
  replace ct0 := boxD ct0 qb
  replace lt : bt < w4x.heap.size := by omega
  replace ca0 := boxD ca0 qb
  replace ca1 := boxD ca1 qb
  replace la : ba < w4x.heap.size := by omega
  replace cu0 := boxD cu0 qb
  replace lu : bu < w4x.heap.size := by omega
  replace cr0 := boxD cr0 qb
  replace cr1 := boxD cr1 qb
  replace lr : br < w4x.heap.size := by omega
  replace Tt := Lib.hid (Tt.out.below qb)
  replace BW := Lib.hid (BW.out.trans (qb.mono BW.out.size))
  clear qb zb
  cases mb
  · have hp0 := HNO.out (by simp)
    subst hp0
    clear HYES
    go_wp2_with fail
    (go_at_call 8; refine (HIA.out _ Tt.out.tab).mono ?_; rintro e w5x ⟨g3, k3, rfl, qb⟩)
    have zb := qb.size
    replace ct0 := boxD ct0 qb
    replace lt : bt < w5x.heap.size := by omega
    replace ca0 := boxD ca0 qb
    replace ca1 := boxD ca1 qb
    replace la : ba < w5x.heap.size := by omega
    replace cu0 := boxD cu0 qb
    replace lu : bu < w5x.heap.size := by omega
    replace cr0 := boxD cr0 qb
    replace cr1 := boxD cr1 qb
    replace lr : br < w5x.heap.size := by omega
    replace Tt := Lib.hid (Tt.out.below qb)
    replace BW := Lib.hid (BW.out.trans (qb.mono BW.out.size))
    clear qb zb
    have at0 : ∀ o, (w5x.alloc o).cell? ⟨bt, 0, none⟩ = some (.slice g1 us.length k1) := fun o => by rw [cell_alloc_lt lt]; exact ct0
    have aa0 : ∀ o, (w5x.alloc o).cell? ⟨ba, 0, none⟩ = some (.int .i64 a1) := fun o => by rw [cell_alloc_lt la]; exact ca0
    have aa1 : ∀ o, (w5x.alloc o).cell? ⟨ba, 1, none⟩ = some (.int .i64 a2) := fun o => by rw [cell_alloc_lt la]; exact ca1
    have au0 : ∀ o, (w5x.alloc o).cell? ⟨bu, 0, none⟩ = some (.slice g2 vs.length k2) := fun o => by rw [cell_alloc_lt lu]; exact cu0
    have ar0 : ∀ o, (w5x.alloc o).cell? ⟨br, 0, none⟩ = some (.int .i64 b1) := fun o => by rw [cell_alloc_lt lr]; exact cr0
    have ar1 : ∀ o, (w5x.alloc o).cell? ⟨br, 1, none⟩ = some (.int .i64 b2) := fun o => by rw [cell_alloc_lt lr]; exact cr1
    go_wp2_with fail
    obtain ⟨W6, hW6⟩ : ∃ W, W = (w5x.alloc (.cells #[.slice g3 z1.length k3] 25)) := ⟨_, rfl⟩
    have qW6 : Below w5x.heap.size w5x W6 := by rw [hW6]; exact (Below.refl _ _).alloc (Nat.le_refl _) _
    have zW6 : w5x.heap.size + 1 ≤ W6.heap.size := by rw [hW6]; simp
    have ntc : bt < w5x.heap.size := lt
    have nac : ba < w5x.heap.size := la
    have nuc : bu < w5x.heap.size := lu
    have nrc : br < w5x.heap.size := lr
    replace ct0 := boxD ct0 qW6
    replace lt : bt < W6.heap.size := by omega
    replace ca0 := boxD ca0 qW6
    replace ca1 := boxD ca1 qW6
    replace la : ba < W6.heap.size := by omega
    replace cu0 := boxD cu0 qW6
    replace lu : bu < W6.heap.size := by omega
    replace cr0 := boxD cr0 qW6
    replace cr1 := boxD cr1 qW6
    replace lr : br < W6.heap.size := by omega
    have cc0 : W6.cell? ⟨w5x.heap.size, 0, none⟩ = some (.slice g3 z1.length k3) := by rw [hW6]; simp
    replace Tt := Lib.hid (Tt.out.below qW6)
    have BWz := BW.out.size
    replace BW := Lib.hid (BW.out.trans (qW6.mono BW.out.size))
    rw [← hW6]
    obtain ⟨bc, hbc⟩ : ∃ b, b = w5x.heap.size := ⟨_, rfl⟩
    have lc : bc < W6.heap.size := by omega
    rw [← hbc] at cc0 ⊢
    replace ntc : bt < bc := by omega
    replace nac : ba < bc := by omega
    replace nuc : bu < bc := by omega
    replace nrc : br < bc := by omega
    have mc : w.heap.size ≤ bc := by have := BWz; omega
    clear hbc hW6
    clear at0 aa0 aa1 au0 ar0 ar1
    clear qW6 zW6 BWz
    (go_at_call 12; refine (HSO.out _ Tt.out.tab).mono ?_; rintro e w7x ⟨rfl, qb⟩)
    have zb := qb.size
    replace ct0 := boxD ct0 qb
    replace lt : bt < w7x.heap.size := by omega
    replace ca0 := boxD ca0 qb
    replace ca1 := boxD ca1 qb
    replace la : ba < w7x.heap.size := by omega
    replace cu0 := boxD cu0 qb
    replace lu : bu < w7x.heap.size := by omega
    replace cr0 := boxD cr0 qb
    replace cr1 := boxD cr1 qb
    replace lr : br < w7x.heap.size := by omega
    replace cc0 := boxD cc0 qb
    replace lc : bc < w7x.heap.size := by omega
    replace Tt := Lib.hid (Tt.out.below qb)
    replace BW := Lib.hid (BW.out.trans (qb.mono BW.out.size))
    clear qb zb
    go_wp2_with fail
    (go_at_call 14; refine (haOk_any _).mono ?_; rintro e wl ⟨rfl, rfl⟩)
    go_wp2_with fail
    go_ret
    exact ⟨by simp, BW.out⟩
  · go_wp2_with fail
    (go_at_call 13; refine (HSA.out _).mono ?_; rintro e w5x ⟨rfl, qb⟩)
    have zb := qb.size
    replace ct0 := boxD ct0 qb
    replace lt : bt < w5x.heap.size := by omega
    replace ca0 := boxD ca0 qb
    replace ca1 := boxD ca1 qb
    replace la : ba < w5x.heap.size := by omega
    replace cu0 := boxD cu0 qb
    replace lu : bu < w5x.heap.size := by omega
    replace cr0 := boxD cr0 qb
    replace cr1 := boxD cr1 qb
    replace lr : br < w5x.heap.size := by omega
    replace Tt := Lib.hid (Tt.out.below qb)
    replace BW := Lib.hid (BW.out.trans (qb.mono BW.out.size))
    clear qb zb
    cases ia
    · have hp0 := HNO.out (by simp)
      subst hp0
      clear HYES
      go_wp2_with fail
      (go_at_call 8; refine (HIA.out _ Tt.out.tab).mono ?_; rintro e w6x ⟨g3, k3, rfl, qb⟩)
      have zb := qb.size
      replace ct0 := boxD ct0 qb
      replace lt : bt < w6x.heap.size := by omega
      replace ca0 := boxD ca0 qb
      replace ca1 := boxD ca1 qb
      replace la : ba < w6x.heap.size := by omega
      replace cu0 := boxD cu0 qb
      replace lu : bu < w6x.heap.size := by omega
      replace cr0 := boxD cr0 qb
      replace cr1 := boxD cr1 qb
      replace lr : br < w6x.heap.size := by omega
      replace Tt := Lib.hid (Tt.out.below qb)
      replace BW := Lib.hid (BW.out.trans (qb.mono BW.out.size))
      clear qb zb
      have at0 : ∀ o, (w6x.alloc o).cell? ⟨bt, 0, none⟩ = some (.slice g1 us.length k1) := fun o => by rw [cell_alloc_lt lt]; exact ct0
      have aa0 : ∀ o, (w6x.alloc o).cell? ⟨ba, 0, none⟩ = some (.int .i64 a1) := fun o => by rw [cell_alloc_lt la]; exact ca0
      have aa1 : ∀ o, (w6x.alloc o).cell? ⟨ba, 1, none⟩ = some (.int .i64 a2) := fun o => by rw [cell_alloc_lt la]; exact ca1
      have au0 : ∀ o, (w6x.alloc o).cell? ⟨bu, 0, none⟩ = some (.slice g2 vs.length k2) := fun o => by rw [cell_alloc_lt lu]; exact cu0
      have ar0 : ∀ o, (w6x.alloc o).cell? ⟨br, 0, none⟩ = some (.int .i64 b1) := fun o => by rw [cell_alloc_lt lr]; exact cr0
      have ar1 : ∀ o, (w6x.alloc o).cell? ⟨br, 1, none⟩ = some (.int .i64 b2) := fun o => by rw [cell_alloc_lt lr]; exact cr1
      go_wp2_with fail
      obtain ⟨W7, hW7⟩ : ∃ W, W = (w6x.alloc (.cells #[.slice g3 z1.length k3] 25)) := ⟨_, rfl⟩
      have qW7 : Below w6x.heap.size w6x W7 := by rw [hW7]; exact (Below.refl _ _).alloc (Nat.le_refl _) _
      have zW7 : w6x.heap.size + 1 ≤ W7.heap.size := by rw [hW7]; simp
      have ntc : bt < w6x.heap.size := lt
      have nac : ba < w6x.heap.size := la
      have nuc : bu < w6x.heap.size := lu
      have nrc : br < w6x.heap.size := lr
      replace ct0 := boxD ct0 qW7
      replace lt : bt < W7.heap.size := by omega
      replace ca0 := boxD ca0 qW7
      replace ca1 := boxD ca1 qW7
      replace la : ba < W7.heap.size := by omega
      replace cu0 := boxD cu0 qW7
      replace lu : bu < W7.heap.size := by omega
      replace cr0 := boxD cr0 qW7
      replace cr1 := boxD cr1 qW7
      replace lr : br < W7.heap.size := by omega
      have cc0 : W7.cell? ⟨w6x.heap.size, 0, none⟩ = some (.slice g3 z1.length k3) := by rw [hW7]; simp
      replace Tt := Lib.hid (Tt.out.below qW7)
      have BWz := BW.out.size
      replace BW := Lib.hid (BW.out.trans (qW7.mono BW.out.size))
      rw [← hW7]
      obtain ⟨bc, hbc⟩ : ∃ b, b = w6x.heap.size := ⟨_, rfl⟩
      have lc : bc < W7.heap.size := by omega
      rw [← hbc] at cc0 ⊢
      replace ntc : bt < bc := by omega
      replace nac : ba < bc := by omega
      replace nuc : bu < bc := by omega
      replace nrc : br < bc := by omega
      have mc : w.heap.size ≤ bc := by have := BWz; omega
      clear hbc hW7
      clear at0 aa0 aa1 au0 ar0 ar1
      clear qW7 zW7 BWz
      (go_at_call 12; refine (HSO.out _ Tt.out.tab).mono ?_; rintro e w8x ⟨rfl, qb⟩)
      have zb := qb.size
      replace ct0 := boxD ct0 qb
      replace lt : bt < w8x.heap.size := by omega
      replace ca0 := boxD ca0 qb
      replace ca1 := boxD ca1 qb
      replace la : ba < w8x.heap.size := by omega
      replace cu0 := boxD cu0 qb
      replace lu : bu < w8x.heap.size := by omega
      replace cr0 := boxD cr0 qb
      replace cr1 := boxD cr1 qb
      replace lr : br < w8x.heap.size := by omega
      replace cc0 := boxD cc0 qb
      replace lc : bc < w8x.heap.size := by omega
      replace Tt := Lib.hid (Tt.out.below qb)
      replace BW := Lib.hid (BW.out.trans (qb.mono BW.out.size))
      clear qb zb
      go_wp2_with fail
      (go_at_call 13; refine (HSA.out _).mono ?_; rintro e w9x ⟨rfl, qb⟩)
      have zb := qb.size
      replace ct0 := boxD ct0 qb
      replace lt : bt < w9x.heap.size := by omega
      replace ca0 := boxD ca0 qb
      replace ca1 := boxD ca1 qb
      replace la : ba < w9x.heap.size := by omega
      replace cu0 := boxD cu0 qb
      replace lu : bu < w9x.heap.size := by omega
      replace cr0 := boxD cr0 qb
      replace cr1 := boxD cr1 qb
      replace lr : br < w9x.heap.size := by omega
      replace cc0 := boxD cc0 qb
      replace lc : bc < w9x.heap.size := by omega
      replace Tt := Lib.hid (Tt.out.below qb)
      replace BW := Lib.hid (BW.out.trans (qb.mono BW.out.size))
      clear qb zb
      go_wp2_with fail
      (go_at_call 14; refine (haOk_any _).mono ?_; rintro e wl ⟨rfl, rfl⟩)
      go_wp2_with fail
      go_ret
      exact ⟨by simp, BW.out⟩
    · go_wp2_with fail
      (go_at_call 13; refine (HSB.out _).mono ?_; rintro e w6x ⟨rfl, qb⟩)
      have zb := qb.size
      replace ct0 := boxD ct0 qb
      replace lt : bt < w6x.heap.size := by omega
      replace ca0 := boxD ca0 qb
      replace ca1 := boxD ca1 qb
      replace la : ba < w6x.heap.size := by omega
      replace cu0 := boxD cu0 qb
      replace lu : bu < w6x.heap.size := by omega
      replace cr0 := boxD cr0 qb
      replace cr1 := boxD cr1 qb
      replace lr : br < w6x.heap.size := by omega
      replace Tt := Lib.hid (Tt.out.below qb)
      replace BW := Lib.hid (BW.out.trans (qb.mono BW.out.size))
      clear qb zb
      cases ib
      · clear HYES
        go_wp2_with fail
        (go_at_call 8; refine (HIA.out _ Tt.out.tab).mono ?_; rintro e w7x ⟨g3, k3, rfl, qb⟩)
        have zb := qb.size
        replace ct0 := boxD ct0 qb
        replace lt : bt < w7x.heap.size := by omega
        replace ca0 := boxD ca0 qb
        replace ca1 := boxD ca1 qb
        replace la : ba < w7x.heap.size := by omega
        replace cu0 := boxD cu0 qb
        replace lu : bu < w7x.heap.size := by omega
        replace cr0 := boxD cr0 qb
        replace cr1 := boxD cr1 qb
        replace lr : br < w7x.heap.size := by omega
        replace Tt := Lib.hid (Tt.out.below qb)
        replace BW := Lib.hid (BW.out.trans (qb.mono BW.out.size))
        clear qb zb
        have at0 : ∀ o, (w7x.alloc o).cell? ⟨bt, 0, none⟩ = some (.slice g1 us.length k1) := fun o => by rw [cell_alloc_lt lt]; exact ct0
        have aa0 : ∀ o, (w7x.alloc o).cell? ⟨ba, 0, none⟩ = some (.int .i64 a1) := fun o => by rw [cell_alloc_lt la]; exact ca0
        have aa1 : ∀ o, (w7x.alloc o).cell? ⟨ba, 1, none⟩ = some (.int .i64 a2) := fun o => by rw [cell_alloc_lt la]; exact ca1
        have au0 : ∀ o, (w7x.alloc o).cell? ⟨bu, 0, none⟩ = some (.slice g2 vs.length k2) := fun o => by rw [cell_alloc_lt lu]; exact cu0
        have ar0 : ∀ o, (w7x.alloc o).cell? ⟨br, 0, none⟩ = some (.int .i64 b1) := fun o => by rw [cell_alloc_lt lr]; exact cr0
        have ar1 : ∀ o, (w7x.alloc o).cell? ⟨br, 1, none⟩ = some (.int .i64 b2) := fun o => by rw [cell_alloc_lt lr]; exact cr1
        go_wp2_with fail
        obtain ⟨W8, hW8⟩ : ∃ W, W = (w7x.alloc (.cells #[.slice g3 z1.length k3] 25)) := ⟨_, rfl⟩
        have qW8 : Below w7x.heap.size w7x W8 := by rw [hW8]; exact (Below.refl _ _).alloc (Nat.le_refl _) _
        have zW8 : w7x.heap.size + 1 ≤ W8.heap.size := by rw [hW8]; simp
        have ntc : bt < w7x.heap.size := lt
        have nac : ba < w7x.heap.size := la
        have nuc : bu < w7x.heap.size := lu
        have nrc : br < w7x.heap.size := lr
        replace ct0 := boxD ct0 qW8
        replace lt : bt < W8.heap.size := by omega
        replace ca0 := boxD ca0 qW8
        replace ca1 := boxD ca1 qW8
        replace la : ba < W8.heap.size := by omega
        replace cu0 := boxD cu0 qW8
        replace lu : bu < W8.heap.size := by omega
        replace cr0 := boxD cr0 qW8
        replace cr1 := boxD cr1 qW8
        replace lr : br < W8.heap.size := by omega
        have cc0 : W8.cell? ⟨w7x.heap.size, 0, none⟩ = some (.slice g3 z1.length k3) := by rw [hW8]; simp
        replace Tt := Lib.hid (Tt.out.below qW8)
        have BWz := BW.out.size
        replace BW := Lib.hid (BW.out.trans (qW8.mono BW.out.size))
        rw [← hW8]
        obtain ⟨bc, hbc⟩ : ∃ b, b = w7x.heap.size := ⟨_, rfl⟩
        have lc : bc < W8.heap.size := by omega
        rw [← hbc] at cc0 ⊢
        replace ntc : bt < bc := by omega
        replace nac : ba < bc := by omega
        replace nuc : bu < bc := by omega
        replace nrc : br < bc := by omega
        have mc : w.heap.size ≤ bc := by have := BWz; omega
        clear hbc hW8
        clear at0 aa0 aa1 au0 ar0 ar1
        clear qW8 zW8 BWz
        (go_at_call 12; refine (HSO.out _ Tt.out.tab).mono ?_; rintro e w9x ⟨rfl, qb⟩)
        have zb := qb.size
        replace ct0 := boxD ct0 qb
        replace lt : bt < w9x.heap.size := by omega
        replace ca0 := boxD ca0 qb
        replace ca1 := boxD ca1 qb
        replace la : ba < w9x.heap.size := by omega
        replace cu0 := boxD cu0 qb
        replace lu : bu < w9x.heap.size := by omega
        replace cr0 := boxD cr0 qb
        replace cr1 := boxD cr1 qb
        replace lr : br < w9x.heap.size := by omega
        replace cc0 := boxD cc0 qb
        replace lc : bc < w9x.heap.size := by omega
        replace Tt := Lib.hid (Tt.out.below qb)
        replace BW := Lib.hid (BW.out.trans (qb.mono BW.out.size))
        clear qb zb
        go_wp2_with fail
        (go_at_call 13; refine (HSA.out _).mono ?_; rintro e w10x ⟨rfl, qb⟩)
        have zb := qb.size
        replace ct0 := boxD ct0 qb
        replace lt : bt < w10x.heap.size := by omega
        replace ca0 := boxD ca0 qb
        replace ca1 := boxD ca1 qb
        replace la : ba < w10x.heap.size := by omega
        replace cu0 := boxD cu0 qb
        replace lu : bu < w10x.heap.size := by omega
        replace cr0 := boxD cr0 qb
        replace cr1 := boxD cr1 qb
        replace lr : br < w10x.heap.size := by omega
        replace cc0 := boxD cc0 qb
        replace lc : bc < w10x.heap.size := by omega
        replace Tt := Lib.hid (Tt.out.below qb)
        replace BW := Lib.hid (BW.out.trans (qb.mono BW.out.size))
        clear qb zb
        go_wp2_with fail
        (go_at_call 14; refine (haOk_any _).mono ?_; rintro e wl ⟨rfl, rfl⟩)
        go_wp2_with fail
        go_ret
        exact ⟨by simp, BW.out⟩
      · obtain ⟨x1, x2, y1, q1, q2, q3, q4, l1, l2, l3, l0, wx2, hno, hP1, hP2, hP3, hP4⟩ := HYES.out (by simp) (by simp) (by simp)
        have HP1 := Lib.hid hP1
        have HP2 := Lib.hid hP2
        have HP3 := Lib.hid hP3
        have HP4 := Lib.hid hP4
        obtain ⟨pa, hpa⟩ : ∃ pa, pa = portI x2 (a1, a2) := ⟨_, rfl⟩
        obtain ⟨pb, hpb⟩ : ∃ pb, pb = portI x2 (b1, b2) := ⟨_, rfl⟩
        rw [← hpa, ← hpb] at hno
        have HQA : Hid (∀ v w, TabAt w v x2 → Calls Try.prog 16 #[.agg #[v], .agg #[.int .i64 a1, .int .i64 a2]] w fun e w' => e = .returned (.int .i64 pa) ∧ Below w.heap.size w w') := fun v w ht => by rw [hpa]; exact implMapPort_any v x2 a1 a2 w (by omega) wx2 WA.out.1 WA.out.2 ht
        have HQB : Hid (∀ v w, TabAt w v x2 → Calls Try.prog 16 #[.agg #[v], .agg #[.int .i64 b1, .int .i64 b2]] w fun e w' => e = .returned (.int .i64 pb) ∧ Below w.heap.size w w') := fun v w ht => by rw [hpb]; exact implMapPort_any v x2 b1 b2 w (by omega) wx2 WB.out.1 WB.out.2 ht
        have HN := Lib.hid hno
        clear hP1 hP2 hP3 hP4 hpa hpb hno wx2 HYES HNO HIA HSA HSB HSO
        go_wp2_with fail
        (go_at_call 8; refine (HP1.out _ _ Tt.out.tab).mono ?_; rintro e w7x ⟨g5, k5, rfl, o5, qb⟩)
        have zb := qb.size
        replace ct0 := boxD ct0 qb
        replace lt : bt < w7x.heap.size := by omega
        replace ca0 := boxD ca0 qb
        replace ca1 := boxD ca1 qb
        replace la : ba < w7x.heap.size := by omega
        replace cu0 := boxD cu0 qb
        replace lu : bu < w7x.heap.size := by omega
        replace cr0 := boxD cr0 qb
        replace cr1 := boxD cr1 qb
        replace lr : br < w7x.heap.size := by omega
        replace Tt := Lib.hid (Tt.out.below qb)
        replace BW := Lib.hid (BW.out.trans (qb.mono BW.out.size))
        clear qb zb
        have Tx := Lib.hid o5
        clear o5
        have at0 : ∀ o, (w7x.alloc o).cell? ⟨bt, 0, none⟩ = some (.slice g1 us.length k1) := fun o => by rw [cell_alloc_lt lt]; exact ct0
        have aa0 : ∀ o, (w7x.alloc o).cell? ⟨ba, 0, none⟩ = some (.int .i64 a1) := fun o => by rw [cell_alloc_lt la]; exact ca0
        have aa1 : ∀ o, (w7x.alloc o).cell? ⟨ba, 1, none⟩ = some (.int .i64 a2) := fun o => by rw [cell_alloc_lt la]; exact ca1
        have au0 : ∀ o, (w7x.alloc o).cell? ⟨bu, 0, none⟩ = some (.slice g2 vs.length k2) := fun o => by rw [cell_alloc_lt lu]; exact cu0
        have ar0 : ∀ o, (w7x.alloc o).cell? ⟨br, 0, none⟩ = some (.int .i64 b1) := fun o => by rw [cell_alloc_lt lr]; exact cr0
        have ar1 : ∀ o, (w7x.alloc o).cell? ⟨br, 1, none⟩ = some (.int .i64 b2) := fun o => by rw [cell_alloc_lt lr]; exact cr1
        go_wp2_with fail
        obtain ⟨W8, hW8⟩ : ∃ W, W = (w7x.alloc (.cells #[.slice g5 x1.length k5] 25)) := ⟨_, rfl⟩
        have qW8 : Below w7x.heap.size w7x W8 := by rw [hW8]; exact (Below.refl _ _).alloc (Nat.le_refl _) _
        have zW8 : w7x.heap.size + 1 ≤ W8.heap.size := by rw [hW8]; simp
        have ntx : bt < w7x.heap.size := lt
        have nax : ba < w7x.heap.size := la
        have nux : bu < w7x.heap.size := lu
        have nrx : br < w7x.heap.size := lr
        replace ct0 := boxD ct0 qW8
        replace lt : bt < W8.heap.size := by omega
        replace ca0 := boxD ca0 qW8
        replace ca1 := boxD ca1 qW8
        replace la : ba < W8.heap.size := by omega
        replace cu0 := boxD cu0 qW8
        replace lu : bu < W8.heap.size := by omega
        replace cr0 := boxD cr0 qW8
        replace cr1 := boxD cr1 qW8
        replace lr : br < W8.heap.size := by omega
        have cx0 : W8.cell? ⟨w7x.heap.size, 0, none⟩ = some (.slice g5 x1.length k5) := by rw [hW8]; simp
        have fx : W8.frozen? ⟨w7x.heap.size, 0, none⟩ = false := by rw [hW8]; exact (cell_new _ _ _ 0).2
        have Gx : Hid (TagT W8 (w7x.heap.size) 25) := by rw [hW8]; exact TagT.new _ _ _
        replace Tt := Lib.hid (Tt.out.below qW8)
        replace Tx := Lib.hid (Tx.out.below qW8)
        have BWz := BW.out.size
        replace BW := Lib.hid (BW.out.trans (qW8.mono BW.out.size))
        rw [← hW8]
        obtain ⟨bx, hbx⟩ : ∃ b, b = w7x.heap.size := ⟨_, rfl⟩
        have lx : bx < W8.heap.size := by omega
        rw [← hbx] at cx0 fx Gx ⊢
        replace ntx : bt < bx := by omega
        replace nax : ba < bx := by omega
        replace nux : bu < bx := by omega
        replace nrx : br < bx := by omega
        have mx : w.heap.size ≤ bx := by have := BWz; omega
        clear hbx hW8
        clear at0 aa0 aa1 au0 ar0 ar1
        clear qW8 zW8 BWz
        (go_at_call 8; refine (HP2.out _ _ Tx.out.tab).mono ?_; rintro e w9x ⟨g6, k6, rfl, o6, qb⟩)
        have zb := qb.size
        replace fx := boxF cx0 fx qb
        replace Gx := Lib.hid (Gx.out.later qb)
        replace ct0 := boxD ct0 qb
        replace lt : bt < w9x.heap.size := by omega
        replace ca0 := boxD ca0 qb
        replace ca1 := boxD ca1 qb
        replace la : ba < w9x.heap.size := by omega
        replace cu0 := boxD cu0 qb
        replace lu : bu < w9x.heap.size := by omega
        replace cr0 := boxD cr0 qb
        replace cr1 := boxD cr1 qb
        replace lr : br < w9x.heap.size := by omega
        replace cx0 := boxD cx0 qb
        replace lx : bx < w9x.heap.size := by omega
        replace Tt := Lib.hid (Tt.out.below qb)
        replace Tx := Lib.hid (Tx.out.below qb)
        replace BW := Lib.hid (BW.out.trans (qb.mono BW.out.size))
        clear qb zb
        clear Tx
        have Tx := Lib.hid o6
        clear o6
        have at0 : (w9x.setCell ⟨bx, 0, none⟩ (.slice g6 x2.length k6)).cell? ⟨bt, 0, none⟩ = some (.slice g1 us.length k1) := by rw [World.cell?_setCell_far _ ⟨bx, 0, none⟩ ⟨bt, 0, none⟩ _ (by show bx ≠ bt; omega)]; exact ct0
        have aa0 : (w9x.setCell ⟨bx, 0, none⟩ (.slice g6 x2.length k6)).cell? ⟨ba, 0, none⟩ = some (.int .i64 a1) := by rw [World.cell?_setCell_far _ ⟨bx, 0, none⟩ ⟨ba, 0, none⟩ _ (by show bx ≠ ba; omega)]; exact ca0
        have aa1 : (w9x.setCell ⟨bx, 0, none⟩ (.slice g6 x2.length k6)).cell? ⟨ba, 1, none⟩ = some (.int .i64 a2) := by rw [World.cell?_setCell_far _ ⟨bx, 0, none⟩ ⟨ba, 1, none⟩ _ (by show bx ≠ ba; omega)]; exact ca1
        have au0 : (w9x.setCell ⟨bx, 0, none⟩ (.slice g6 x2.length k6)).cell? ⟨bu, 0, none⟩ = some (.slice g2 vs.length k2) := by rw [World.cell?_setCell_far _ ⟨bx, 0, none⟩ ⟨bu, 0, none⟩ _ (by show bx ≠ bu; omega)]; exact cu0
        have ar0 : (w9x.setCell ⟨bx, 0, none⟩ (.slice g6 x2.length k6)).cell? ⟨br, 0, none⟩ = some (.int .i64 b1) := by rw [World.cell?_setCell_far _ ⟨bx, 0, none⟩ ⟨br, 0, none⟩ _ (by show bx ≠ br; omega)]; exact cr0
        have ar1 : (w9x.setCell ⟨bx, 0, none⟩ (.slice g6 x2.length k6)).cell? ⟨br, 1, none⟩ = some (.int .i64 b2) := by rw [World.cell?_setCell_far _ ⟨bx, 0, none⟩ ⟨br, 1, none⟩ _ (by show bx ≠ br; omega)]; exact cr1
        have ax0 : (w9x.setCell ⟨bx, 0, none⟩ (.slice g6 x2.length k6)).cell? ⟨bx, 0, none⟩ = some (.slice g6 x2.length k6) := World.cell?_setCell_same _ _ _ cx0
        go_wp2_with fail
        obtain ⟨W10, hW10⟩ : ∃ W, W = (w9x.setCell ⟨bx, 0, none⟩ (.slice g6 x2.length k6)) := ⟨_, rfl⟩
        rw [← hW10] at at0 aa0 aa1 au0 ar0 ar1 ax0 ⊢
        have zW10 : W10.heap.size = w9x.heap.size := by rw [hW10]; simp
        clear ct0
        have ct0 := at0
        clear at0
        replace lt : bt < W10.heap.size := by omega
        clear ca0
        have ca0 := aa0
        clear aa0
        clear ca1
        have ca1 := aa1
        clear aa1
        replace la : ba < W10.heap.size := by omega
        clear cu0
        have cu0 := au0
        clear au0
        replace lu : bu < W10.heap.size := by omega
        clear cr0
        have cr0 := ar0
        clear ar0
        clear cr1
        have cr1 := ar1
        clear ar1
        replace lr : br < W10.heap.size := by omega
        clear cx0
        have cx0 := ax0
        clear ax0
        replace lx : bx < W10.heap.size := by omega
        replace Tt := Lib.hid (Tt.out.setTagT (a := ⟨bx, 0, none⟩) Gx.out tabT_ne (.slice g6 x2.length k6))
        rw [← hW10] at Tt
        replace Tx := Lib.hid (Tx.out.setTagT (a := ⟨bx, 0, none⟩) Gx.out tabT_ne (.slice g6 x2.length k6))
        rw [← hW10] at Tx
        replace fx : W10.frozen? ⟨bx, 0, none⟩ = false := by rw [hW10, World.frozen?_setCell]; exact fx
        replace Gx := Lib.hid (Gx.out.setCell ⟨bx, 0, none⟩ (.slice g6 x2.length k6))
        rw [← hW10] at Gx
        replace BW := Lib.hid (BW.out.setCell (p := ⟨bx, 0, none⟩) mx (.slice g6 x2.length k6))
        rw [← hW10] at BW
        clear hW10 zW10
        (go_at_call 8; refine (HP3.out _ _ Tt.out.tab).mono ?_; rintro e w11x ⟨g7, k7, rfl, o7, qb⟩)
        have zb := qb.size
        replace fx := boxF cx0 fx qb
        replace Gx := Lib.hid (Gx.out.later qb)
        replace ct0 := boxD ct0 qb
        replace lt : bt < w11x.heap.size := by omega
        replace ca0 := boxD ca0 qb
        replace ca1 := boxD ca1 qb
        replace la : ba < w11x.heap.size := by omega
        replace cu0 := boxD cu0 qb
        replace lu : bu < w11x.heap.size := by omega
        replace cr0 := boxD cr0 qb
        replace cr1 := boxD cr1 qb
        replace lr : br < w11x.heap.size := by omega
        replace cx0 := boxD cx0 qb
        replace lx : bx < w11x.heap.size := by omega
        replace Tt := Lib.hid (Tt.out.below qb)
        replace Tx := Lib.hid (Tx.out.below qb)
        replace BW := Lib.hid (BW.out.trans (qb.mono BW.out.size))
        clear qb zb
        have Tv := Lib.hid o7
        clear o7
        have at0 : ∀ o, (w11x.alloc o).cell? ⟨bt, 0, none⟩ = some (.slice g1 us.length k1) := fun o => by rw [cell_alloc_lt lt]; exact ct0
        have aa0 : ∀ o, (w11x.alloc o).cell? ⟨ba, 0, none⟩ = some (.int .i64 a1) := fun o => by rw [cell_alloc_lt la]; exact ca0
        have aa1 : ∀ o, (w11x.alloc o).cell? ⟨ba, 1, none⟩ = some (.int .i64 a2) := fun o => by rw [cell_alloc_lt la]; exact ca1
        have au0 : ∀ o, (w11x.alloc o).cell? ⟨bu, 0, none⟩ = some (.slice g2 vs.length k2) := fun o => by rw [cell_alloc_lt lu]; exact cu0
        have ar0 : ∀ o, (w11x.alloc o).cell? ⟨br, 0, none⟩ = some (.int .i64 b1) := fun o => by rw [cell_alloc_lt lr]; exact cr0
        have ar1 : ∀ o, (w11x.alloc o).cell? ⟨br, 1, none⟩ = some (.int .i64 b2) := fun o => by rw [cell_alloc_lt lr]; exact cr1
        have ax0 : ∀ o, (w11x.alloc o).cell? ⟨bx, 0, none⟩ = some (.slice g6 x2.length k6) := fun o => by rw [cell_alloc_lt lx]; exact cx0
        go_wp2_with fail
        obtain ⟨W12, hW12⟩ : ∃ W, W = (w11x.alloc (.cells #[.slice g7 y1.length k7] 25)) := ⟨_, rfl⟩
        have qW12 : Below w11x.heap.size w11x W12 := by rw [hW12]; exact (Below.refl _ _).alloc (Nat.le_refl _) _
        have zW12 : w11x.heap.size + 1 ≤ W12.heap.size := by rw [hW12]; simp
        have ntv : bt < w11x.heap.size := lt
        have nav : ba < w11x.heap.size := la
        have nuv : bu < w11x.heap.size := lu
        have nrv : br < w11x.heap.size := lr
        have nxv : bx < w11x.heap.size := lx
        replace fx := boxF cx0 fx qW12
        replace Gx := Lib.hid (Gx.out.later qW12)
        replace ct0 := boxD ct0 qW12
        replace lt : bt < W12.heap.size := by omega
        replace ca0 := boxD ca0 qW12
        replace ca1 := boxD ca1 qW12
        replace la : ba < W12.heap.size := by omega
        replace cu0 := boxD cu0 qW12
        replace lu : bu < W12.heap.size := by omega
        replace cr0 := boxD cr0 qW12
        replace cr1 := boxD cr1 qW12
        replace lr : br < W12.heap.size := by omega
        replace cx0 := boxD cx0 qW12
        replace lx : bx < W12.heap.size := by omega
        have cv0 : W12.cell? ⟨w11x.heap.size, 0, none⟩ = some (.slice g7 y1.length k7) := by rw [hW12]; simp
        have fv : W12.frozen? ⟨w11x.heap.size, 0, none⟩ = false := by rw [hW12]; exact (cell_new _ _ _ 0).2
        have Gv : Hid (TagT W12 (w11x.heap.size) 25) := by rw [hW12]; exact TagT.new _ _ _
        replace Tt := Lib.hid (Tt.out.below qW12)
        replace Tx := Lib.hid (Tx.out.below qW12)
        replace Tv := Lib.hid (Tv.out.below qW12)
        have BWz := BW.out.size
        replace BW := Lib.hid (BW.out.trans (qW12.mono BW.out.size))
        rw [← hW12]
        obtain ⟨bv, hbv⟩ : ∃ b, b = w11x.heap.size := ⟨_, rfl⟩
        have lv : bv < W12.heap.size := by omega
        rw [← hbv] at cv0 fv Gv ⊢
        replace ntv : bt < bv := by omega
        replace nav : ba < bv := by omega
        replace nuv : bu < bv := by omega
        replace nrv : br < bv := by omega
        replace nxv : bx < bv := by omega
        have mv : w.heap.size ≤ bv := by have := BWz; omega
        clear hbv hW12
        clear at0 aa0 aa1 au0 ar0 ar1 ax0
        clear qW12 zW12 BWz
        (go_at_call 8; refine (HP4.out _ _ Tv.out.tab).mono ?_; rintro e w13x ⟨g8, k8, rfl, qb⟩)
        have zb := qb.size
        replace fx := boxF cx0 fx qb
        replace Gx := Lib.hid (Gx.out.later qb)
        replace fv := boxF cv0 fv qb
        replace Gv := Lib.hid (Gv.out.later qb)
        replace ct0 := boxD ct0 qb
        replace lt : bt < w13x.heap.size := by omega
        replace ca0 := boxD ca0 qb
        replace ca1 := boxD ca1 qb
        replace la : ba < w13x.heap.size := by omega
        replace cu0 := boxD cu0 qb
        replace lu : bu < w13x.heap.size := by omega
        replace cr0 := boxD cr0 qb
        replace cr1 := boxD cr1 qb
        replace lr : br < w13x.heap.size := by omega
        replace cx0 := boxD cx0 qb
        replace lx : bx < w13x.heap.size := by omega
        replace cv0 := boxD cv0 qb
        replace lv : bv < w13x.heap.size := by omega
        replace Tt := Lib.hid (Tt.out.below qb)
        replace Tx := Lib.hid (Tx.out.below qb)
        replace Tv := Lib.hid (Tv.out.below qb)
        replace BW := Lib.hid (BW.out.trans (qb.mono BW.out.size))
        clear qb zb
        clear Tv
        have at0 : (w13x.setCell ⟨bv, 0, none⟩ (.slice g8 x2.length k8)).cell? ⟨bt, 0, none⟩ = some (.slice g1 us.length k1) := by rw [World.cell?_setCell_far _ ⟨bv, 0, none⟩ ⟨bt, 0, none⟩ _ (by show bv ≠ bt; omega)]; exact ct0
        have aa0 : (w13x.setCell ⟨bv, 0, none⟩ (.slice g8 x2.length k8)).cell? ⟨ba, 0, none⟩ = some (.int .i64 a1) := by rw [World.cell?_setCell_far _ ⟨bv, 0, none⟩ ⟨ba, 0, none⟩ _ (by show bv ≠ ba; omega)]; exact ca0
        have aa1 : (w13x.setCell ⟨bv, 0, none⟩ (.slice g8 x2.length k8)).cell? ⟨ba, 1, none⟩ = some (.int .i64 a2) := by rw [World.cell?_setCell_far _ ⟨bv, 0, none⟩ ⟨ba, 1, none⟩ _ (by show bv ≠ ba; omega)]; exact ca1
        have au0 : (w13x.setCell ⟨bv, 0, none⟩ (.slice g8 x2.length k8)).cell? ⟨bu, 0, none⟩ = some (.slice g2 vs.length k2) := by rw [World.cell?_setCell_far _ ⟨bv, 0, none⟩ ⟨bu, 0, none⟩ _ (by show bv ≠ bu; omega)]; exact cu0
        have ar0 : (w13x.setCell ⟨bv, 0, none⟩ (.slice g8 x2.length k8)).cell? ⟨br, 0, none⟩ = some (.int .i64 b1) := by rw [World.cell?_setCell_far _ ⟨bv, 0, none⟩ ⟨br, 0, none⟩ _ (by show bv ≠ br; omega)]; exact cr0
        have ar1 : (w13x.setCell ⟨bv, 0, none⟩ (.slice g8 x2.length k8)).cell? ⟨br, 1, none⟩ = some (.int .i64 b2) := by rw [World.cell?_setCell_far _ ⟨bv, 0, none⟩ ⟨br, 1, none⟩ _ (by show bv ≠ br; omega)]; exact cr1
        have ax0 : (w13x.setCell ⟨bv, 0, none⟩ (.slice g8 x2.length k8)).cell? ⟨bx, 0, none⟩ = some (.slice g6 x2.length k6) := by rw [World.cell?_setCell_far _ ⟨bv, 0, none⟩ ⟨bx, 0, none⟩ _ (by show bv ≠ bx; omega)]; exact cx0
        have av0 : (w13x.setCell ⟨bv, 0, none⟩ (.slice g8 x2.length k8)).cell? ⟨bv, 0, none⟩ = some (.slice g8 x2.length k8) := World.cell?_setCell_same _ _ _ cv0
        go_wp2_with fail
        obtain ⟨W14, hW14⟩ : ∃ W, W = (w13x.setCell ⟨bv, 0, none⟩ (.slice g8 x2.length k8)) := ⟨_, rfl⟩
        rw [← hW14] at at0 aa0 aa1 au0 ar0 ar1 ax0 av0 ⊢
        have zW14 : W14.heap.size = w13x.heap.size := by rw [hW14]; simp
        clear ct0
        have ct0 := at0
        clear at0
        replace lt : bt < W14.heap.size := by omega
        clear ca0
        have ca0 := aa0
        clear aa0
        clear ca1
        have ca1 := aa1
        clear aa1
        replace la : ba < W14.heap.size := by omega
        clear cu0
        have cu0 := au0
        clear au0
        replace lu : bu < W14.heap.size := by omega
        clear cr0
        have cr0 := ar0
        clear ar0
        clear cr1
        have cr1 := ar1
        clear ar1
        replace lr : br < W14.heap.size := by omega
        clear cx0
        have cx0 := ax0
        clear ax0
        replace lx : bx < W14.heap.size := by omega
        clear cv0
        have cv0 := av0
        clear av0
        replace lv : bv < W14.heap.size := by omega
        replace Tt := Lib.hid (Tt.out.setTagT (a := ⟨bv, 0, none⟩) Gv.out tabT_ne (.slice g8 x2.length k8))
        rw [← hW14] at Tt
        replace Tx := Lib.hid (Tx.out.setTagT (a := ⟨bv, 0, none⟩) Gv.out tabT_ne (.slice g8 x2.length k8))
        rw [← hW14] at Tx
        replace fx : W14.frozen? ⟨bx, 0, none⟩ = false := by rw [hW14, World.frozen?_setCell]; exact fx
        replace fv : W14.frozen? ⟨bv, 0, none⟩ = false := by rw [hW14, World.frozen?_setCell]; exact fv
        replace Gx := Lib.hid (Gx.out.setCell ⟨bv, 0, none⟩ (.slice g8 x2.length k8))
        rw [← hW14] at Gx
        replace Gv := Lib.hid (Gv.out.setCell ⟨bv, 0, none⟩ (.slice g8 x2.length k8))
        rw [← hW14] at Gv
        replace BW := Lib.hid (BW.out.setCell (p := ⟨bv, 0, none⟩) mv (.slice g8 x2.length k8))
        rw [← hW14] at BW
        clear hW14 zW14
        (go_at_call 16; refine (HQA.out _ _ Tx.out.tab).mono ?_; rintro e w15x ⟨rfl, qb⟩)
        have zb := qb.size
        replace fx := boxF cx0 fx qb
        replace Gx := Lib.hid (Gx.out.later qb)
        replace fv := boxF cv0 fv qb
        replace Gv := Lib.hid (Gv.out.later qb)
        replace ct0 := boxD ct0 qb
        replace lt : bt < w15x.heap.size := by omega
        replace ca0 := boxD ca0 qb
        replace ca1 := boxD ca1 qb
        replace la : ba < w15x.heap.size := by omega
        replace cu0 := boxD cu0 qb
        replace lu : bu < w15x.heap.size := by omega
        replace cr0 := boxD cr0 qb
        replace cr1 := boxD cr1 qb
        replace lr : br < w15x.heap.size := by omega
        replace cx0 := boxD cx0 qb
        replace lx : bx < w15x.heap.size := by omega
        replace cv0 := boxD cv0 qb
        replace lv : bv < w15x.heap.size := by omega
        replace Tt := Lib.hid (Tt.out.below qb)
        replace Tx := Lib.hid (Tx.out.below qb)
        replace BW := Lib.hid (BW.out.trans (qb.mono BW.out.size))
        clear qb zb
        by_cases ha : 0 < pa
        · go_wp2_with fail
          (go_at_call 16; refine (HQB.out _ _ Tx.out.tab).mono ?_; rintro e w16x ⟨rfl, qb⟩)
          have zb := qb.size
          replace fx := boxF cx0 fx qb
          replace Gx := Lib.hid (Gx.out.later qb)
          replace fv := boxF cv0 fv qb
          replace Gv := Lib.hid (Gv.out.later qb)
          replace ct0 := boxD ct0 qb
          replace lt : bt < w16x.heap.size := by omega
          replace ca0 := boxD ca0 qb
          replace ca1 := boxD ca1 qb
          replace la : ba < w16x.heap.size := by omega
          replace cu0 := boxD cu0 qb
          replace lu : bu < w16x.heap.size := by omega
          replace cr0 := boxD cr0 qb
          replace cr1 := boxD cr1 qb
          replace lr : br < w16x.heap.size := by omega
          replace cx0 := boxD cx0 qb
          replace lx : bx < w16x.heap.size := by omega
          replace cv0 := boxD cv0 qb
          replace lv : bv < w16x.heap.size := by omega
          replace Tt := Lib.hid (Tt.out.below qb)
          replace Tx := Lib.hid (Tx.out.below qb)
          replace BW := Lib.hid (BW.out.trans (qb.mono BW.out.size))
          clear qb zb
          by_cases hb : 0 < pb
          · go_wp2_with fail
            go_ret
            exact ⟨by simp, BW.out⟩
          · obtain ⟨h5, h6⟩ := HN.out (fun h => hb h.2)
            clear HN h6
            have hr2 : 6 - (us.length : Int) < 2 := by omega
            by_cases h6 : us.length = 6
            · have hr0 : (6 - (us.length : Int) == 0) = true := by rw [beq_iff_eq]; omega
              clear h6
              go_wp2_with fail
              go_ret
              exact ⟨by simp, BW.out⟩
            · have hr0 : (6 - (us.length : Int) == 0) = false := by rw [beq_eq_false_iff_ne]; omega
              clear h6
              go_wp2_with fail
              (go_at_call 16; refine (HQA.out _ _ Tx.out.tab).mono ?_; rintro e w17x ⟨rfl, qb⟩)
              have zb := qb.size
              replace fx := boxF cx0 fx qb
              replace Gx := Lib.hid (Gx.out.later qb)
              replace fv := boxF cv0 fv qb
              replace Gv := Lib.hid (Gv.out.later qb)
              replace ct0 := boxD ct0 qb
              replace lt : bt < w17x.heap.size := by omega
              replace ca0 := boxD ca0 qb
              replace ca1 := boxD ca1 qb
              replace la : ba < w17x.heap.size := by omega
              replace cu0 := boxD cu0 qb
              replace lu : bu < w17x.heap.size := by omega
              replace cr0 := boxD cr0 qb
              replace cr1 := boxD cr1 qb
              replace lr : br < w17x.heap.size := by omega
              replace cx0 := boxD cx0 qb
              replace lx : bx < w17x.heap.size := by omega
              replace cv0 := boxD cv0 qb
              replace lv : bv < w17x.heap.size := by omega
              replace Tt := Lib.hid (Tt.out.below qb)
              replace Tx := Lib.hid (Tx.out.below qb)
              replace BW := Lib.hid (BW.out.trans (qb.mono BW.out.size))
              clear qb zb
              go_wp2_with fail
              go_ret
              exact ⟨by simp <;> omega, BW.out⟩
        · obtain ⟨h5, h6⟩ := HN.out (fun h => ha h.1)
          have h6' : us.length = 6 := by rcases h6 with h | h; exact h; exact absurd h ha
          have hr2 : 6 - (us.length : Int) < 2 := by omega
          have hr0 : (6 - (us.length : Int) == 0) = true := by rw [beq_iff_eq]; omega
          clear HN h6 h6' h5
          go_wp2_with fail
          go_ret
          exact ⟨by simp, BW.out⟩

set_option maxRecDepth 100000 in
set_option maxHeartbeats 800000 in
theorem lwMapMany_any (ao : Option Addr) (n cap : Nat) (ao2 : Option Addr) (n2 cap2 : Nat) (w : World) (h : BytesIn w ao n) (hn : n ≤ cap) (h2 : BytesIn w ao2 n2) (hn2 : n2 ≤ cap2) :
    Calls Try.prog 6 #[.slice ao n cap, .slice ao2 n2 cap2] w fun e w' => e = .returned (.bool true) ∧ Below w.heap.size w w' := by
  by_cases hb1 : 1048576 < n
  · clear h h2
    go_enter Try.func6, Try.ntmps6
    go_wp2_with fail
    go_ret
    exact ⟨rfl, Below.refl _ _⟩
  · by_cases hb2 : 1048576 < n2
    · clear h h2
      go_enter Try.func6, Try.ntmps6
      go_wp2_with fail
      go_ret
      exact ⟨rfl, Below.refl _ _⟩
    · exact lwMapMany_of ao n cap ao2 n2 cap2 w h hn h2 hn2 hb1 hb2

end Go.Proofs.Ytaafnnelhlmdiaa
