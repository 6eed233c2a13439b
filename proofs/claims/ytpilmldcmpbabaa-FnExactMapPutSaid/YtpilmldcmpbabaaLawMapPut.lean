/- The law of MapPut. Condition: the argument's ends lie in the machine's memory, at any address. -/
import Derived.Test.YtpilmldcmpbabaaIMapPut
import Derived.Test.YtpilmldcmpbabaaArgTab
import Derived.Test.YtpilmldcmpbabaaLawMapPort
import Derived.Deep.RegionHeld3
import Derived.Deep.DeepCutAuto
namespace Go.Proofs.Ytpilmldcmpbabaa
open Go.RowKit Go.Sort

set_option maxRecDepth 100000 in
set_option maxHeartbeats 3200000 in
theorem lawMapPut_any (v : Value) (es : List (Int × Int)) (a p : Int) (w : World) (hL : es.length ≤ 9223372036854775807) (ht : ArgTab w v es) (hwf : wfE es) (_ : (Lit.int .i64 a).wf = true) (_ : (Lit.int .i64 p).wf = true) :
    Calls Try.prog 6 #[.agg #[v], .agg #[.int .i64 a, .int .i64 p]] w fun e w' => e = .returned (.bool true) ∧ Below w.heap.size w w' := by
  have HT := Lib.hid ht
  obtain ⟨ad, cap, rfl, _, _⟩ := ht
  rcases Nat.lt_or_ge 1048576 es.length with h | h
  · have HS : Hid (∀ w, ArgTab w (.slice ad es.length cap) es → Calls Try.prog 7 #[.agg #[.slice ad es.length cap], .int .i64 1048576] w fun e w' => e = .returned (.int .i64 (-1)) ∧ Below w.heap.size w w') := fun w ht => szTab_big es _ w hL h ht
    clear hwf
    go_enter Try.func6, Try.ntmps6
    go_wp2_with (go_at_call 7; refine (HS.out _ (HT.out.below (((Below.refl _ _).alloc (Nat.le_refl _) _).alloc (by simp) _))).mono ?_; rintro e w1 ⟨rfl, b1⟩)
    go_ret
    exact ⟨rfl, (((Below.refl _ _).alloc (Nat.le_refl _) _).alloc (by simp) _).trans (b1.mono (by simp; omega))⟩
  · have hn : es.length ≤ 4194304 := by omega
    obtain ⟨q0, hq0⟩ : ∃ q0 : Int, q0 = 1048576 - es.length := ⟨_, rfl⟩
    have hq1 : 0 ≤ q0 := by omega
    have HS : Hid (∀ w, ArgTab w (.slice ad es.length cap) es → Calls Try.prog 7 #[.agg #[.slice ad es.length cap], .int .i64 1048576] w fun e w' => e = .returned (.int .i64 q0) ∧ Below w.heap.size w w') := fun w ht => szTab_small es _ q0 w h hq0 ht
    have HTo : Hid (∀ w, ArgTab w (.slice ad es.length cap) es → Calls Try.prog 9 #[.agg #[.slice ad es.length cap]] w fun e w' => ∃ g c, e = .returned (.agg #[.slice (some ⟨g, 0, none⟩) es.length c]) ∧ TabRoom w' w.heap.size (.slice (some ⟨g, 0, none⟩) es.length c) es ∧ Below w.heap.size w w') := fun w ht => toTab_form _ es w hn ht
    have hul := putA_le es (a, p)
    obtain ⟨us, hus⟩ : ∃ us, us = (putA es (a, p)).1 := ⟨_, rfl⟩
    obtain ⟨q, hq⟩ : ∃ q, q = (putA es (a, p)).2 := ⟨_, rfl⟩
    have HM : Hid (∀ v w, TabAt w v es → Calls Try.prog 18 #[.agg #[v], .agg #[.int .i64 a, .int .i64 p]] w fun e w' => ∃ g c, e = .returned (.tuple #[.agg #[.slice g us.length c], .int .i64 q]) ∧ FreshTab w' w.heap.size (.slice g us.length c) us ∧ Below w.heap.size w w') := fun v w ht => by rw [hus, hq]; exact specPutA v es a p w hn ht
    have HI : Hid (∀ v w, TabAt w v es → Calls Try.prog 19 #[.agg #[v], .agg #[.int .i64 a, .int .i64 p]] w fun e w' => ∃ g c, e = .returned (.tuple #[.agg #[.slice g us.length c], .int .i64 q]) ∧ FreshTab w' w.heap.size (.slice g us.length c) us ∧ Below w.heap.size w w') := fun v w ht => by rw [hus, hq]; exact implPutA v es a p w hn hwf ht
    rw [← hus] at hul
    have HE : Hid (∀ u v w, TabAt w u es → TabAt w v es → Calls Try.prog 11 #[.agg #[u], .agg #[v]] w fun e w' => e = .returned (.bool true) ∧ Below w.heap.size w w') := fun u v w h1 h2 => eqTab_same u v es w hn h1 h2
    have HU : Hid (∀ u v w, TabAt w u us → TabAt w v us → Calls Try.prog 11 #[.agg #[u], .agg #[v]] w fun e w' => e = .returned (.bool true) ∧ Below w.heap.size w w') := fun u v w h1 h2 => eqTab_same u v us w (by omega) h1 h2
    clear hus hq hq0 hL hwf
    go_enter Try.func6, Try.ntmps6
    go_wp2_with fail
    (go_at_call 7; refine (HS.out _ (HT.out.below (((Below.refl _ _).alloc (Nat.le_refl _) _).alloc (by simp) _))).mono ?_; rintro e w1 ⟨rfl, b1⟩; have t1 : w1.cell? ⟨w.heap.size, 0, none⟩ = some (.slice ad es.length cap) := (by rw [b1.cell (by simp <;> omega)]; simp); have e10 : w1.cell? ⟨w.heap.size + 1, 0, none⟩ = some (.int .i64 a) := (by rw [b1.cell (by simp <;> omega)]; simp); have e11 : w1.cell? ⟨w.heap.size + 1, 1, none⟩ = some (.int .i64 p) := (by rw [b1.cell (by simp <;> omega)]; simp); have B1 : Hid (Below w.heap.size w w1) := ((((Below.refl _ _).alloc (Nat.le_refl _) _).alloc (by simp) _).trans (b1.mono (by simp; omega))); have z1 : w.heap.size + 1 < w1.heap.size := (by have := b1.size; simp at this; omega); clear b1)
    have HT1 : Hid (∀ wx, Below w1.heap.size w1 wx → ArgTab wx (.slice ad es.length cap) es) := fun wx hb => (HT.out.below B1.out).below hb
    have mk : Hid (∀ w', Below w1.heap.size w1 w' → w'.cell? ⟨w.heap.size, 0, none⟩ = some (.slice ad es.length cap) ∧ w'.cell? ⟨w.heap.size + 1, 0, none⟩ = some (.int .i64 a) ∧ w'.cell? ⟨w.heap.size + 1, 1, none⟩ = some (.int .i64 p) ∧ Below w1.heap.size w1 w') :=
      fun w' hb => ⟨by rw [hb.cell (by simp; omega)]; exact t1, by rw [hb.cell (by simp; omega)]; exact e10, by rw [hb.cell (by simp; omega)]; exact e11, hb⟩
    clear t1 e10 e11
    go_upto_region 5 with fail
    go_cut [6, 7] (fun s6 s7 wx => ∃ b g c, s6 = .pointer (some ⟨b, 0, none⟩) ∧ s7 = .int .i64 q ∧ wx.cell? ⟨b, 0, none⟩ = some (.slice g us.length c) ∧ TabAt wx (.slice g us.length c) us ∧ Below w1.heap.size w1 wx ∧ w1.heap.size ≤ b)
    case first =>
      go_region_held3 (fun w' => w'.cell? ⟨w.heap.size, 0, none⟩ = some (.slice ad es.length cap) ∧ w'.cell? ⟨w.heap.size + 1, 0, none⟩ = some (.int .i64 a) ∧ w'.cell? ⟨w.heap.size + 1, 1, none⟩ = some (.int .i64 p) ∧ Below w1.heap.size w1 w')
        (first
          | exact mk.out _ (Below.refl _ _).drew
          | exact mk.out _ cc
          | exact mk.out _ (cc.alloc cc.size _)
          | exact mk.out _ (cc.setCell (by first | (simp; done) | (simp; omega)) _)
          | exact mk.out _ ((‹_ ∧ _ ∧ _ ∧ Below w1.heap.size w1 _›.2.2.2).alloc (‹_ ∧ _ ∧ _ ∧ Below w1.heap.size w1 _›.2.2.2).size _)
          | exact mk.out _ (((Below.refl _ _).drew).alloc (Nat.le_refl _) _)
          | exact mk.out _ ((‹_ ∧ _ ∧ _ ∧ Below w1.heap.size w1 _›.2.2.2).setCell (by first | exact (‹_ ∧ _ ∧ _ ∧ Below w1.heap.size w1 _›.2.2.2).size | (simp; done) | (simp; omega)) _)
          | (trace_state; fail))
        (first
          | (go_at_call 9; have hS := (by assumption : _ ∧ _ ∧ _ ∧ Below w1.heap.size w1 _); refine (HTo.out _ (HT1.out _ hS.2.2.2)).mono ?_; rintro e wN ⟨ga, ca, rfl, ra, bN⟩; have RA := Lib.hid ra.tab; have cc : Below w1.heap.size w1 wN := hS.2.2.2.trans (bN.mono hS.2.2.2.size); have zc := cc.size; (first | (have hk := fresh1 bN; obtain ⟨k0, kf⟩ := hk) | (have hk := fresh1d bN; obtain ⟨k0, kf⟩ := hk) | (have kf := box_frozen k0 kf bN; have k0 := box_below k0 bN) | skip))
          | (go_at_call 13; have hS := (by assumption : _ ∧ _ ∧ _ ∧ Below w1.heap.size w1 _); refine (toEnd_any a p _).mono ?_; rintro e wN ⟨rfl, bN⟩; have cc : Below w1.heap.size w1 wN := hS.2.2.2.trans (bN.mono hS.2.2.2.size); (first | (have RA := Lib.hid (RA.out.below bN)) | (have RA := Lib.hid ((RA.out.below ((Below.refl _ _).alloc (Nat.le_refl _) _)).below bN)) | skip); have zc := cc.size; (first | (have hk := fresh1 bN; obtain ⟨k0, kf⟩ := hk) | (have hk := fresh1d bN; obtain ⟨k0, kf⟩ := hk) | (have kf := box_frozen k0 kf bN; have k0 := box_below k0 bN) | skip))
          | (go_at_call 18; (try have kb := World.block_lt_of_cell? _ _ k0); have hS := (by assumption : _ ∧ _ ∧ _ ∧ Below w1.heap.size w1 _); refine (HM.out _ _ (by first | exact RA.out | exact RA.out.below ((Below.refl _ _).alloc (Nat.le_refl _) _))).mono ?_; rintro e wN ⟨g, c, rfl, fr, bN⟩; have FR := Lib.hid fr; have cc : Below w1.heap.size w1 wN := hS.2.2.2.trans (bN.mono hS.2.2.2.size); have zc := cc.size; (first | (have hk := fresh1 bN; obtain ⟨k0, kf⟩ := hk) | (have hk := fresh1d bN; obtain ⟨k0, kf⟩ := hk) | (have kf := box_frozen k0 kf bN; have k0 := box_below k0 bN) | skip)))
      all_goals (go_wp2_with fail; go_meet)
      all_goals (first | exact ⟨_, _, _, rfl, rfl, by simp, (FR.out.later ((Below.refl _ _).alloc (Nat.le_refl _) _)).tab, cc.alloc cc.size _, cc.size⟩ | exact ⟨_, _, _, rfl, rfl, World.cell?_setCell_same _ _ _ k0, (FR.out.setCell (by first | exact kb | (simp; done) | (simp; omega)) _).tab, cc.setCell (by first | (simp; done) | (simp; omega)) _, by first | exact Nat.le_refl _ | omega⟩ | (trace_state; fail))
    case rest =>
      obtain ⟨bW, gW, cW, rfl, rfl, kW, tW, c5, lW⟩ := hcut
      obtain ⟨w5, hw5⟩ : ∃ w5, w5 = wc := ⟨_, rfl⟩
      rw [← hw5] at kW tW c5 ⊢
      clear hw5
      have z5 : w1.heap.size ≤ w5.heap.size := c5.size
      have kWl := World.block_lt_of_cell? _ _ kW
      have mk5 : Hid (∀ w', Below w5.heap.size w5 w' → (w'.cell? ⟨w.heap.size, 0, none⟩ = some (.slice ad es.length cap) ∧ w'.cell? ⟨w.heap.size + 1, 0, none⟩ = some (.int .i64 a) ∧ w'.cell? ⟨w.heap.size + 1, 1, none⟩ = some (.int .i64 p)) ∧ w'.cell? ⟨bW, 0, none⟩ = some (.slice gW us.length cW) ∧ TabAt w' (.slice gW us.length cW) us ∧ ArgTab w' (.slice ad es.length cap) es ∧ Below w.heap.size w w') := fun w' hb => by
        have h1 : Below w1.heap.size w1 w' := c5.trans (hb.mono z5)
        obtain ⟨q1, q2, q3, _⟩ := mk.out _ h1
        exact ⟨⟨q1, q2, q3⟩, by rw [hb.cell kWl]; exact kW, tW.below hb, HT1.out _ h1, B1.out.trans (h1.mono (by omega))⟩
      clear kW tW c5 mk
      have C5 : Below w5.heap.size w5 w5 := Below.refl _ _
      obtain ⟨⟨t5, _, _⟩, _⟩ := mk5.out _ C5
      go_wp2_with fail
      (go_at_call 9; refine (HTo.out _ (mk5.out _ C5).2.2.2.1).mono ?_; rintro e w6 ⟨gx, cx, rfl, rx, b6⟩; have C6 := C5.trans (b6.mono C5.size); have RX6 := Lib.hid rx; clear rx)
      go_upto_region 7 with fail
      obtain ⟨W7, hW7⟩ : ∃ W7, W7 = w6.alloc (.cells #[.slice (some ⟨gx, 0, none⟩) es.length cx] 29) := ⟨_, rfl⟩
      obtain ⟨bX, hbX⟩ : ∃ bX, bX = w6.heap.size := ⟨_, rfl⟩
      have x7 : W7.cell? ⟨bX, 0, none⟩ = some (.slice (some ⟨gx, 0, none⟩) es.length cx) := by rw [hW7, hbX]; exact (cell_new w6 _ _ 0).1
      have z7 : bX < W7.heap.size := by rw [hW7, hbX]; simp
      have C7 : Hid (Below w5.heap.size w5 W7) := by rw [hW7]; exact C6.alloc C6.size _
      have RX7 : Hid (TabRoom W7 w5.heap.size (.slice (some ⟨gx, 0, none⟩) es.length cx) es) := by rw [hW7]; exact RX6.out.below ((Below.refl _ _).alloc (Nat.le_refl _) _)
      have gxl : w5.heap.size ≤ gx ∧ gx < bX := by
        obtain ⟨g, c, e1, _, h1, h2, _⟩ := RX6.out
        simp at e1
        obtain ⟨rfl, rfl⟩ := e1
        rw [hbX]
        exact ⟨h1, h2⟩
      have z57 : w5.heap.size ≤ W7.heap.size := C7.out.size
      rw [← hW7, ← hbX]
      clear hW7 hbX RX6 C6 C5 b6 t5
      obtain ⟨⟨t7, e70, e71⟩, _⟩ := mk5.out _ C7.out
      have mk7 : Hid (∀ w', Below W7.heap.size W7 w' → w'.cell? ⟨bX, 0, none⟩ = some (.slice (some ⟨gx, 0, none⟩) es.length cx) ∧ w'.cell? ⟨w.heap.size + 1, 0, none⟩ = some (.int .i64 a) ∧ w'.cell? ⟨w.heap.size + 1, 1, none⟩ = some (.int .i64 p) ∧ Below W7.heap.size W7 w') :=
        fun w' hb => ⟨by rw [hb.cell z7]; exact x7, by rw [hb.cell (by simp; omega)]; exact e70, by rw [hb.cell (by simp; omega)]; exact e71, hb⟩
      clear t7 e70 e71 x7
      go_cut [9, 10] (fun s9 s10 wx => ∃ b g c, s9 = .pointer (some ⟨b, 0, none⟩) ∧ s10 = .int .i64 q ∧ wx.cell? ⟨b, 0, none⟩ = some (.slice g us.length c) ∧ FreshTab wx W7.heap.size (.slice g us.length c) us ∧ Below W7.heap.size W7 wx ∧ W7.heap.size ≤ b)
      case first =>
        go_region_held3 (fun w' => w'.cell? ⟨bX, 0, none⟩ = some (.slice (some ⟨gx, 0, none⟩) es.length cx) ∧ w'.cell? ⟨w.heap.size + 1, 0, none⟩ = some (.int .i64 a) ∧ w'.cell? ⟨w.heap.size + 1, 1, none⟩ = some (.int .i64 p) ∧ Below W7.heap.size W7 w')
          (first
            | exact mk7.out _ (Below.refl _ _).drew
            | exact mk7.out _ cc
            | exact mk7.out _ (cc.alloc cc.size _)
            | exact mk7.out _ (cc.setCell (by first | (simp; done) | (simp; omega)) _)
            | exact mk7.out _ ((‹_ ∧ _ ∧ _ ∧ Below W7.heap.size W7 _›.2.2.2).alloc (‹_ ∧ _ ∧ _ ∧ Below W7.heap.size W7 _›.2.2.2).size _)
            | exact mk7.out _ (((Below.refl _ _).drew).alloc (Nat.le_refl _) _)
            | exact mk7.out _ ((‹_ ∧ _ ∧ _ ∧ Below W7.heap.size W7 _›.2.2.2).setCell (by first | exact (‹_ ∧ _ ∧ _ ∧ Below W7.heap.size W7 _›.2.2.2).size | (simp; done) | (simp; omega)) _)
            | (trace_state; fail))
          (first
            | (go_at_call 13; have hS := (by assumption : _ ∧ _ ∧ _ ∧ Below W7.heap.size W7 _); refine (toEnd_any a p _).mono ?_; rintro e wN ⟨rfl, bN⟩; have cc : Below W7.heap.size W7 wN := hS.2.2.2.trans (bN.mono hS.2.2.2.size); have zc := cc.size; (first | (have hk := fresh1 bN; obtain ⟨k0, kf⟩ := hk) | (have hk := fresh1d bN; obtain ⟨k0, kf⟩ := hk) | (have kf := box_frozen k0 kf bN; have k0 := box_below k0 bN) | skip))
            | (go_at_call 19; (try have kb := World.block_lt_of_cell? _ _ k0); have hS := (by assumption : _ ∧ _ ∧ _ ∧ Below W7.heap.size W7 _); refine (HI.out _ _ (RX7.out.tab.below hS.2.2.2)).mono ?_; rintro e wN ⟨g, c, rfl, fr, bN⟩; have FR := Lib.hid fr; have zp := hS.2.2.2.size; have cc : Below W7.heap.size W7 wN := hS.2.2.2.trans (bN.mono hS.2.2.2.size); have zc := cc.size; (first | (have hk := fresh1 bN; obtain ⟨k0, kf⟩ := hk) | (have hk := fresh1d bN; obtain ⟨k0, kf⟩ := hk) | (have kf := box_frozen k0 kf bN; have k0 := box_below k0 bN) | skip)))
        all_goals (go_wp2_with fail; go_meet)
        all_goals (first | exact ⟨_, _, _, rfl, rfl, by simp, (FR.out.later ((Below.refl _ _).alloc (Nat.le_refl _) _)).mono zp, cc.alloc cc.size _, cc.size⟩ | exact ⟨_, _, _, rfl, rfl, World.cell?_setCell_same _ _ _ k0, (FR.out.setCell (by first | exact kb | (simp; done) | (simp; omega)) _).mono zp, cc.setCell (by first | (simp; done) | (simp; omega)) _, by first | exact Nat.le_refl _ | omega⟩ | (trace_state; fail))
      case rest =>
        obtain ⟨bG, gG, cG, rfl, rfl, kG, fG, c8, lG⟩ := hcut
        obtain ⟨w8, hw8⟩ : ∃ w8, w8 = wc := ⟨_, rfl⟩
        rw [← hw8] at kG fG c8 ⊢
        clear hw8
        have FG := Lib.hid fG
        have C5 : Below w5.heap.size w5 w8 := C7.out.trans (c8.mono z57)
        have xX := (mk7.out _ c8).1
        have RX := Lib.hid (RX7.out.below c8)
        obtain ⟨⟨tT, eE0, eE1⟩, kW, _⟩ := mk5.out _ C5
        obtain ⟨mX, hmX⟩ : ∃ mX : Int, mX = ((1 + 2 * es.length : Nat) : Int) := ⟨_, rfl⟩
        have hmX0 : 0 ≤ mX := by omega
        have HKX : Hid (∀ B v w, FreshTab w B v es → Calls Try.prog 20 #[.agg #[v], .int .i64 1] w fun e w' => e = .returned (.int .i64 mX) ∧ FreshTab w' B v (marksE 1 es.length) ∧ w.heap.size ≤ w'.heap.size ∧ ∃ row, w.grownBy w' row ∧ ∀ j, row = some j → v.ownBlock = some j ∧ B ≤ j ∧ j < w.heap.size ∧ es ≠ [] ∧ ∃ x, w.cell? ⟨j, 0, none⟩ = some (.int .i64 x)) := fun B v w h => mark1 mX B v es w hmX hn h
        obtain ⟨mG, hmG⟩ : ∃ mG : Int, mG = ((1 + 2 * us.length : Nat) : Int) := ⟨_, rfl⟩
        have hmG0 : 0 ≤ mG := by omega
        have HKG : Hid (∀ B v w, FreshTab w B v us → Calls Try.prog 20 #[.agg #[v], .int .i64 1] w fun e w' => e = .returned (.int .i64 mG) ∧ FreshTab w' B v (marksE 1 us.length) ∧ w.heap.size ≤ w'.heap.size ∧ ∃ row, w.grownBy w' row ∧ ∀ j, row = some j → v.ownBlock = some j ∧ B ≤ j ∧ j < w.heap.size ∧ us ≠ [] ∧ ∃ x, w.cell? ⟨j, 0, none⟩ = some (.int .i64 x)) := fun B v w h => mark1 mG B v us w hmG (by omega) h
        have HHG : Hid (∀ B v w, FreshTab w B v (marksE 1 us.length) → Calls Try.prog 21 #[.agg #[v], .int .i64 1] w fun e w' => e = .returned (.int .i64 mG) ∧ Below w.heap.size w w') := fun B v w h => held1 mG B v us.length w hmG (by omega) h
        clear fG mk7 RX7 c8 C7 hmX hmG
        go_wp2_with fail
        (go_at_call 11; refine (HU.out _ _ _ FG.out.tab (mk5.out _ C5).2.2.1).mono ?_; rintro e w9 ⟨rfl, b9⟩; replace C5 := C5.trans ((b9).mono C5.size); replace kG := box_below kG b9; replace FG := Lib.hid (FG.out.later b9); replace xX := box_below xX b9; replace RX := Lib.hid (RX.out.below b9); obtain ⟨⟨tT, eE0, eE1⟩, kW, _⟩ := mk5.out _ C5)
        go_upto_region 10 with fail
        go_cut [51] (fun s wx => s = .bool false ∧ Below w9.heap.size w9 wx)
        case first =>
          have mk9 : Hid (∀ w', Below w9.heap.size w9 w' → w'.cell? ⟨bX, 0, none⟩ = some (.slice (some ⟨gx, 0, none⟩) es.length cx) ∧ w'.cell? ⟨w.heap.size, 0, none⟩ = some (.slice ad es.length cap) ∧ Below w9.heap.size w9 w') := fun w' hb => ⟨box_below xX hb, box_below tT hb, hb⟩
          go_region_held3 (fun w' => w'.cell? ⟨bX, 0, none⟩ = some (.slice (some ⟨gx, 0, none⟩) es.length cx) ∧ w'.cell? ⟨w.heap.size, 0, none⟩ = some (.slice ad es.length cap) ∧ Below w9.heap.size w9 w')
            (first | exact mk9.out _ (Below.refl _ _).drew | exact mk9.out _ cc | (trace_state; fail))
            (first
              | (go_at_call 9; have hS := (by assumption : _ ∧ _ ∧ Below w9.heap.size w9 _); refine (HTo.out _ (mk5.out _ (C5.trans (hS.2.2.mono C5.size))).2.2.2.1).mono ?_; rintro e wN ⟨gy, cy, rfl, ry, bN⟩; have RY := Lib.hid ry.tab; have cc : Below w9.heap.size w9 wN := hS.2.2.trans (bN.mono hS.2.2.size))
              | (go_at_call 11; have hS := (by assumption : _ ∧ _ ∧ Below w9.heap.size w9 _); refine (HE.out _ _ _ (RX.out.tab.below hS.2.2) RY.out).mono ?_; rintro e wN ⟨rfl, bN⟩; have cc : Below w9.heap.size w9 wN := hS.2.2.trans (bN.mono hS.2.2.size)))
          all_goals (go_wp2_with fail; go_meet; exact ⟨rfl, cc⟩)
        case rest =>
          obtain ⟨rfl, c10⟩ := hcut
          obtain ⟨w10, hw10⟩ : ∃ w10, w10 = wc := ⟨_, rfl⟩
          rw [← hw10] at c10 ⊢
          clear hw10
          replace C5 := C5.trans ((c10).mono C5.size); replace kG := box_below kG c10; replace FG := Lib.hid (FG.out.later c10); replace xX := box_below xX c10; replace RX := Lib.hid (RX.out.below c10); obtain ⟨⟨tT, eE0, eE1⟩, kW, _⟩ := mk5.out _ C5
          go_wp2_with fail
          (go_at_call 20; refine (HKX.out _ _ _ RX.out.fresh).mono ?_; rintro e w11 ⟨rfl, _, z11, row, hg, hrow⟩; replace hrow : ∀ j, row = some j → j = gx := (fun j hj => by have := (hrow j hj).1; simp [Value.ownBlock] at this; omega); replace C5 := C5.trans (below_grown hg (fun j hj => by have := hrow j hj; omega) C5.size); replace kG := cell_grown kG hg (fun e => by have := hrow _ e.symm; omega); replace FG := Lib.hid (FG.out.grown hg (fun j hj => by have := hrow j hj; omega)); obtain ⟨⟨tT, eE0, eE1⟩, kW, _⟩ := mk5.out _ C5; clear hg hrow xX RX)
          go_wp2_with fail
          (go_at_call 11; refine (HU.out _ _ _ FG.out.tab (mk5.out _ C5).2.2.1).mono ?_; rintro e w12 ⟨rfl, b12⟩; replace C5 := C5.trans ((b12).mono C5.size); replace kG := box_below kG b12; replace FG := Lib.hid (FG.out.later b12); obtain ⟨⟨tT, eE0, eE1⟩, kW, _⟩ := mk5.out _ C5)
          go_wp2_with fail
          (go_at_call 20; refine (HKG.out _ _ _ FG.out).mono ?_; rintro e w13 ⟨rfl, fg, z13, row, hg, hrow⟩; replace C5 := C5.trans (below_grown hg (fun j hj => by have := (hrow j hj).2.1; omega) C5.size); replace kG := cell_grown kG hg (fun e => by obtain ⟨_, _, _, _, x, hx⟩ := hrow _ e.symm; rw [kG] at hx; cases hx); replace FG := Lib.hid fg; obtain ⟨⟨tT, eE0, eE1⟩, kW, _⟩ := mk5.out _ C5; clear hg hrow fg)
          go_wp2_with fail
          (go_at_call 21; refine (HHG.out _ _ _ FG.out).mono ?_; rintro e w14 ⟨rfl, b14⟩; replace C5 := C5.trans ((b14).mono C5.size); replace kG := box_below kG b14; replace FG := Lib.hid (FG.out.later b14); obtain ⟨⟨tT, eE0, eE1⟩, kW, _⟩ := mk5.out _ C5)
          go_upto_region 24 with fail
          go_cut [14, 15] (fun s14 s15 wx => ∃ b g c, s14 = .pointer (some ⟨b, 0, none⟩) ∧ s15 = .int .i64 q ∧ wx.cell? ⟨b, 0, none⟩ = some (.slice g us.length c) ∧ TabAt wx (.slice g us.length c) us ∧ Below w14.heap.size w14 wx)
          case first =>
            have z514 : w5.heap.size ≤ w14.heap.size := C5.size
            have mk14 : Hid (∀ w', Below w14.heap.size w14 w' → w'.cell? ⟨w.heap.size, 0, none⟩ = some (.slice ad es.length cap) ∧ w'.cell? ⟨w.heap.size + 1, 0, none⟩ = some (.int .i64 a) ∧ w'.cell? ⟨w.heap.size + 1, 1, none⟩ = some (.int .i64 p) ∧ Below w14.heap.size w14 w') := fun w' hb => ⟨box_below tT hb, box_below eE0 hb, box_below eE1 hb, hb⟩
            go_region_held3 (fun w' => w'.cell? ⟨w.heap.size, 0, none⟩ = some (.slice ad es.length cap) ∧ w'.cell? ⟨w.heap.size + 1, 0, none⟩ = some (.int .i64 a) ∧ w'.cell? ⟨w.heap.size + 1, 1, none⟩ = some (.int .i64 p) ∧ Below w14.heap.size w14 w')
              (first
                | exact mk14.out _ (Below.refl _ _).drew
                | exact mk14.out _ cc
                | exact mk14.out _ (cc.alloc cc.size _)
                | exact mk14.out _ (cc.setCell (by first | (simp; done) | (simp; omega)) _)
                | exact mk14.out _ ((‹_ ∧ _ ∧ _ ∧ Below w14.heap.size w14 _›.2.2.2).alloc (‹_ ∧ _ ∧ _ ∧ Below w14.heap.size w14 _›.2.2.2).size _)
                | exact mk14.out _ (((Below.refl _ _).drew).alloc (Nat.le_refl _) _)
                | exact mk14.out _ ((‹_ ∧ _ ∧ _ ∧ Below w14.heap.size w14 _›.2.2.2).setCell (by first | exact (‹_ ∧ _ ∧ _ ∧ Below w14.heap.size w14 _›.2.2.2).size | (simp; done) | (simp; omega)) _)
                | (trace_state; fail))
              (first
                | (go_at_call 9; have hS := (by assumption : _ ∧ _ ∧ _ ∧ Below w14.heap.size w14 _); refine (HTo.out _ (mk5.out _ (C5.trans (hS.2.2.2.mono C5.size))).2.2.2.1).mono ?_; rintro e wN ⟨ga, ca, rfl, ra, bN⟩; have RA := Lib.hid ra.tab; have cc : Below w14.heap.size w14 wN := hS.2.2.2.trans (bN.mono hS.2.2.2.size); have zc := cc.size; (first | (have hk := fresh1 bN; obtain ⟨k0, kf⟩ := hk) | (have hk := fresh1d bN; obtain ⟨k0, kf⟩ := hk) | (have kf := box_frozen k0 kf bN; have k0 := box_below k0 bN) | skip))
                | (go_at_call 13; have hS := (by assumption : _ ∧ _ ∧ _ ∧ Below w14.heap.size w14 _); refine (toEnd_any a p _).mono ?_; rintro e wN ⟨rfl, bN⟩; (first | (have RA := Lib.hid (RA.out.below bN)) | (have RA := Lib.hid ((RA.out.below ((Below.refl _ _).alloc (Nat.le_refl _) _)).below bN)) | skip); have cc : Below w14.heap.size w14 wN := hS.2.2.2.trans (bN.mono hS.2.2.2.size); have zc := cc.size; (first | (have hk := fresh1 bN; obtain ⟨k0, kf⟩ := hk) | (have hk := fresh1d bN; obtain ⟨k0, kf⟩ := hk) | (have kf := box_frozen k0 kf bN; have k0 := box_below k0 bN) | skip))
                | (go_at_call 19; (try have kb := World.block_lt_of_cell? _ _ k0); have hS := (by assumption : _ ∧ _ ∧ _ ∧ Below w14.heap.size w14 _); refine (HI.out _ _ (by first | exact RA.out | exact RA.out.below ((Below.refl _ _).alloc (Nat.le_refl _) _))).mono ?_; rintro e wN ⟨g, c, rfl, fr, bN⟩; have FR := Lib.hid fr; have cc : Below w14.heap.size w14 wN := hS.2.2.2.trans (bN.mono hS.2.2.2.size); have zc := cc.size; (first | (have hk := fresh1 bN; obtain ⟨k0, kf⟩ := hk) | (have hk := fresh1d bN; obtain ⟨k0, kf⟩ := hk) | (have kf := box_frozen k0 kf bN; have k0 := box_below k0 bN) | skip)))
            all_goals (go_wp2_with fail; go_meet)
            all_goals (first | exact ⟨_, _, _, rfl, rfl, by simp, (FR.out.later ((Below.refl _ _).alloc (Nat.le_refl _) _)).tab, cc.alloc cc.size _⟩ | exact ⟨_, _, _, rfl, rfl, World.cell?_setCell_same _ _ _ k0, (FR.out.setCell (by first | exact kb | (simp; done) | (simp; omega)) _).tab, cc.setCell (by first | (simp; done) | (simp; omega)) _⟩ | (trace_state; fail))
          case rest =>
            obtain ⟨bH, gH, cH, rfl, rfl, kH, tH, c15⟩ := hcut
            obtain ⟨w15, hw15⟩ : ∃ w15, w15 = wc := ⟨_, rfl⟩
            rw [← hw15] at kH tH c15 ⊢
            clear hw15
            replace C5 := C5.trans ((c15).mono C5.size); replace kG := box_below kG c15; replace FG := Lib.hid (FG.out.later c15); obtain ⟨⟨tT, eE0, eE1⟩, kW, _⟩ := mk5.out _ C5
            have TH := Lib.hid tH
            clear tH
            go_wp2_with fail
            (go_at_call 11; refine (HU.out _ _ _ TH.out (mk5.out _ C5).2.2.1).mono ?_; rintro e w16 ⟨rfl, b16⟩; replace C5 := C5.trans ((b16).mono C5.size); replace kG := box_below kG b16; replace FG := Lib.hid (FG.out.later b16); obtain ⟨⟨tT, eE0, eE1⟩, kW, _⟩ := mk5.out _ C5)
            go_wp2_with fail
            (go_at_call 21; refine (HHG.out _ _ _ FG.out).mono ?_; rintro e w17 ⟨rfl, b17⟩; replace C5 := C5.trans ((b17).mono C5.size); replace kG := box_below kG b17; replace FG := Lib.hid (FG.out.later b17); obtain ⟨⟨tT, eE0, eE1⟩, kW, _⟩ := mk5.out _ C5)
            go_wp2_with fail
            go_ret
            exact ⟨rfl, (mk5.out _ C5).2.2.2.2⟩

end Go.Proofs.Ytpilmldcmpbabaa
