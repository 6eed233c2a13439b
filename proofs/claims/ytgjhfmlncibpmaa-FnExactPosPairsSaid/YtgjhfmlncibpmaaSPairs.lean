/- PosPairs of the specification: the spans of two texts' lines, in memory of the call's own. Condition: each text has at most 2^21 bytes. -/
import Derived.Test.YtgjhfmlncibpmaaSpWith
import Derived.Test.YtgjhfmlncibpmaaSLine
import Derived.Test.YtgjhfmlncibpmaaRdV
import Derived.Deep.AppendLies
import Derived.Deep.RegionLaw
import Derived.Deep.DeepCutAuto
namespace Go.Proofs.Ytgjhfmlncibpmaa
open Go.RowKit

theorem heap_lastP (w : World) (o : Obj) : (w.alloc o).heap[w.heap.size]? = some o := by
  show (w.heap.push o)[w.heap.size]? = _
  simp

set_option maxRecDepth 100000 in
set_option maxHeartbeats 3200000 in
theorem specPairs4_any (l : List (List UInt8 × List UInt8)) (v1 v2 : Value) (xs ys : List (List UInt8)) (w : World) (hl : l = xs.zip ys) (hxl : xs.length ≤ 2097152) (hyl : ys.length ≤ 2097152) (hlx : ∀ x ∈ xs, x.length ≤ 2097152) (hly : ∀ x ∈ ys, x.length ≤ 2097152) (hi0 : insL l ≤ 2097152) (ho0 : outsL l ≤ 2097152) (r1 : RdV w v1 (xs.map strV)) (r2 : RdV w v2 (ys.map strV)) :
    Calls Try.prog 19 #[v1, v2] w fun e w' => ∃ v, e = .returned v ∧ OwnSp w' w.heap.size v (spansL l) ∧ Below w.heap.size w w' := by
  have hn : l.length = min xs.length ys.length := by rw [hl, List.length_zip]
  have hnx : l.length ≤ xs.length := by omega
  have hny : l.length ≤ ys.length := by omega
  obtain ⟨i0, hi, hz0, hz1, hz2⟩ := info_parts infoSpan
  obtain ⟨a1, c1, rfl, hr1⟩ := r1
  obtain ⟨a2, c2, rfl, hr2⟩ := r2
  rw [List.length_map] at hr1 hr2
  simp only [List.length_map]
  have HLX := Lib.hid hlx
  have HLY := Lib.hid hly
  have HL := Lib.hid hl
  have HN := Lib.hid hn
  have R1 := Lib.hid hr1
  have R2 := Lib.hid hr2
  have HO0 : Hid (∀ wx : World, OwnSp (wx.alloc (.cells #[] 36)) wx.heap.size (.slice (some ⟨wx.heap.size, 0, none⟩) 0 0) []) := fun wx => by
    have := World.ownsRow_made (base := wx.heap.size) (e := 36) (size := 5) wx #[] 0 (Nat.le_refl _) (Nat.zero_le _) rfl
    simpa [OwnSp, flatC] using this
  clear hlx hly hl hr1 hr2 hn
  go_enter Try.func19, Try.ntmps19
  go_wp2_with fail
  go_loopw [5, 6, 7, 8] (fun sp ia io i wr => ∃ (k : Nat) (a : Nat) (b : Nat) (g : Nat) (c : Nat), k ≤ l.length ∧ i = .int .i64 k ∧ sp = .slice (some ⟨g, 0, none⟩) k c ∧ ia = .int .i64 a ∧ io = .int .i64 b ∧ insL (l.take k) = a ∧ outsL (l.take k) = b ∧ OwnSp wr w.heap.size (.slice (some ⟨g, 0, none⟩) k c) ((spansL l).take k) ∧ Below w.heap.size w wr) (fun _ _ _ i _ => l.length - (intOf i).toNat)
  case atStart => exact ⟨0, 0, 0, _, 0, Nat.zero_le _, rfl, rfl, rfl, rfl, rfl, rfl, HO0.out w, (Below.refl _ _).alloc (Nat.le_refl _) _⟩
  case round =>
    obtain ⟨k, a, b, g, c, hk, rfl, rfl, rfl, rfl, hab, hbb, own, hb⟩ := hrel
    have HA := Lib.hid hab
    have HBB := Lib.hid hbb
    have OW := Lib.hid own
    have hsz := hb.size
    have HB := Lib.hid hb
    clear hab hbb own hb
    have ha : a ≤ 2097152 := by have := insL_le l k; have := HA.out; omega
    have hbo : b ≤ 2097152 := by have := outsL_le l k; have := HBB.out; omega
    by_cases hlt : k < l.length
    · obtain ⟨gx, rfl, rowx⟩ := R1.out (by omega)
      obtain ⟨gy, rfl, rowy⟩ := R2.out (by omega)
      have hkx : k < xs.length := by omega
      have hky : k < ys.length := by omega
      obtain ⟨x, hx⟩ : ∃ x, x = xs[k] := ⟨_, rfl⟩
      obtain ⟨y, hy⟩ : ∃ y, y = ys[k] := ⟨_, rfl⟩
      have hlk : l[k] = (x, y) := by rw [hx, hy]; simp only [HL.out, List.getElem_zip]
      have hgx : gx < w.heap.size := rowx.lt (by simp; omega)
      have hgy : gy < w.heap.size := rowy.lt (by simp; omega)
      have cX : wr.cell? ⟨gx, k, none⟩ = some (.string ⟨x.toArray⟩) := by
        rw [HB.out.cell (p := ⟨gx, k, none⟩) hgx, (rowx k (by simpa using hkx)).1]; simp [hx, strV]
      have cY : wr.cell? ⟨gy, k, none⟩ = some (.string ⟨y.toArray⟩) := by
        rw [HB.out.cell (p := ⟨gy, k, none⟩) hgy, (rowy k (by simpa using hky)).1]; simp [hy, strV]
      have hxn0 : x.length ≤ 2097152 := HLX.out x (by rw [hx]; exact List.getElem_mem _)
      have hyn0 : y.length ≤ 2097152 := HLY.out y (by rw [hy]; exact List.getElem_mem _)
      have HNX : Hid ((spansL l).take (k + 1) = (spansL l).take k ++ [(a, a + x.length + 1, b, b + y.length + 1, decide (y = x))]) := by
        show _ = _
        rw [spansL_succ hlt, spAt_next hlt, hlk, HA.out, HBB.out]
      have HIN : Hid (insL (l.take (k + 1)) = a + x.length + 1 ∧ outsL (l.take (k + 1)) = b + y.length + 1) := by
        rw [insL_succ hlt, outsL_succ hlt, hlk, HA.out, HBB.out]; exact ⟨by simp; omega, by simp; omega⟩
      obtain ⟨X, hX⟩ : ∃ X : ByteArray, X = ⟨x.toArray⟩ := ⟨_, rfl⟩
      obtain ⟨Y, hY⟩ : ∃ Y : ByteArray, Y = ⟨y.toArray⟩ := ⟨_, rfl⟩
      have hXs : X.size = x.length := by rw [hX]; simp [ByteArray.size]
      have hYs : Y.size = y.length := by rw [hY]; simp [ByteArray.size]
      have HE : Hid ((Y.toList == X.toList) = decide (y = x)) := by
        show _ = _
        rw [hX, hY, str_beq]
        exact decide_eq_decide.2 ⟨Eq.symm, Eq.symm⟩
      rw [← hX] at cX
      rw [← hY] at cY
      have HXS := Lib.hid hXs
      have HYS := Lib.hid hYs
      have hxn : X.size ≤ 2097152 := by omega
      have hyn : Y.size ≤ 2097152 := by omega
      have hkl : ((spansL l).take k).length = k := by rw [List.length_take, spansL_len]; omega
      have own3 : Hid (∀ o, (wr.alloc o).ownsRow w.heap.size 36 5 (.slice (some ⟨g, 0, none⟩) k c) k (flatC spC ((spansL l).take k))) := fun o => by
        have := OW.out.below ((Below.refl _ wr).alloc (Nat.le_refl _) o)
        unfold OwnSp at this
        rwa [hkl] at this
      have own2 : Hid (∀ o, (wr.alloc o).drew.ownsRow w.heap.size 36 5 (.slice (some ⟨g, 0, none⟩) k c) k (flatC spC ((spansL l).take k))) := fun o => (own3.out o).drew
      have own1 : Hid (∀ o, (wr.drew.alloc o).ownsRow w.heap.size 36 5 (.slice (some ⟨g, 0, none⟩) k c) k (flatC spC ((spansL l).take k))) := fun o => by
        have := OW.out.below (((Below.refl _ wr).drew).alloc (Nat.le_refl _) o)
        unfold OwnSp at this
        rwa [hkl] at this
      have hk2 : (k : Int) ≤ (c1 : Int) ∨ True := .inr trivial
      have hgB : w.heap.size ≤ g := by
        have := ((OW.out.lt g (by rfl))).1
        exact this
      clear rowx rowy hx hy hlk hX hY hXs hYs hkl hxn0 hyn0
      go_upto_region 8 with fail
      have hs1 : ∀ o, (wr.alloc o).heap[wr.heap.size]? = some o := fun o => heap_lastP wr o
      have H1 := Lib.hid hs1
      have HWA : Hid (IntKind.i64.wrap (IntKind.i64.wrap ((a : Int) + X.size) + 1) = ((a + X.size + 1 : Nat) : Int)) := by
        show _ = _
        rw [IntWalk.i64_in ((a : Int) + X.size) (by omega), IntWalk.i64_in ((a : Int) + X.size + 1) (by omega)]; omega
      have HWB : Hid (IntKind.i64.wrap (IntKind.i64.wrap ((b : Int) + Y.size) + 1) = ((b + Y.size + 1 : Nat) : Int)) := by
        show _ = _
        rw [IntWalk.i64_in ((b : Int) + Y.size) (by omega), IntWalk.i64_in ((b : Int) + Y.size + 1) (by omega)]; omega
      clear hs1
      go_cut [5] (fun s wx => ∃ g' c', s = .slice (some ⟨g', 0, none⟩) (k + 1) c' ∧ OwnSp wx w.heap.size (.slice (some ⟨g', 0, none⟩) (k + 1) c') ((spansL l).take (k + 1)) ∧ Below w.heap.size w wx)
      case first =>
        go_region_law (first
          | (refine step_append_lies _ rfl (.tmp 27) (.tmp 50) 22 rfl w.heap.size 36 i0 (.agg #[.int .i64 0, .int .i64 0, .int .i64 0, .int .i64 0, .bool false]) 5 40 Try.underlying22 hi hz0 hz1 hz2 rfl (by decide) (.slice (some ⟨g, 0, none⟩) k c) k (flatC spC ((spansL l).take k)) (by rfl) (by first | exact own3.out _ | exact own2.out _ | exact own1.out _) ⟨wr.heap.size, 0, none⟩ 1 1 [.int .i64 a, .int .i64 (IntKind.i64.wrap (IntKind.i64.wrap ((a : Int) + X.size) + 1)), .int .i64 b, .int .i64 (IntKind.i64.wrap (IntKind.i64.wrap ((b : Int) + Y.size) + 1)), .bool (Y.toList == X.toList)] (by rfl) (by rfl) (World.news_of_block (cs := #[.int .i64 a, .int .i64 (IntKind.i64.wrap (IntKind.i64.wrap ((a : Int) + X.size) + 1)), .int .i64 b, .int .i64 (IntKind.i64.wrap (IntKind.i64.wrap ((b : Int) + Y.size) + 1)), .bool (Y.toList == X.toList)]) (t := 36) (by exact H1.out _)) (by intro u hu; simp at hu; rcases hu with rfl | rfl | rfl | rfl | rfl <;> rfl) (by decide) (by unfold maxLen; omega) (by omega) (by simp; omega) _ rfl ?_
             intro g1 c1' w1 hown1 hgrow1 _ _
             have O1 := Lib.hid hown1
             have HB1 : Hid (Below w.heap.size w w1) := by
               first
                 | exact (HB.out.alloc hsz _).grown hgrow1 (by simp; omega) (fun k hk => by simp [Value.ownBlock] at hk; omega)
                 | exact ((HB.out.alloc hsz _).drew).grown hgrow1 (by simp; omega) (fun k hk => by simp [Value.ownBlock] at hk; omega)
                 | exact ((HB.out.drew).alloc hsz _).grown hgrow1 (by simp; omega) (fun k hk => by simp [Value.ownBlock] at hk; omega)
             clear hown1 hgrow1))
        all_goals
          go_wp2_with fail
          go_meet
          refine ⟨g1, c1', rfl, ?_, HB1.out⟩
          have := O1.out
          rw [HWA.out, HWB.out] at this
          rw [HNX.out]
          unfold OwnSp
          rw [flatC_app, List.length_append, List.length_take, spansL_len, Nat.min_eq_left hk, ← HE.out, ← HXS.out, ← HYS.out]
          exact this
      case rest =>
        obtain ⟨g', c', rfl, o', b'⟩ := hcut
        have OW' := Lib.hid o'
        have HB' := Lib.hid b'
        have cX' : wc.cell? ⟨gx, k, none⟩ = some (.string X) := by
          rw [HB'.out.cell (p := ⟨gx, k, none⟩) hgx, ← HB.out.cell (p := ⟨gx, k, none⟩) hgx]; exact cX
        clear o' b' own1 own2 own3 H1 OW HO0 HNX
        go_wp2_with fail
        go_roundw
        case rel => exact ⟨k + 1, a + X.size + 1, b + Y.size + 1, g', c', by omega, by go_num, rfl, by go_num, by go_num, by rw [HIN.out.1, HXS.out], by rw [HIN.out.2, HYS.out], OW'.out, HB'.out⟩
        case measure => simp [intOf]; omega
    · have hke : k = l.length := by omega
      have HF : Hid (OwnSp wr w.heap.size (.slice (some ⟨g, 0, none⟩) k c) (spansL l)) := by
        have := OW.out
        rw [List.take_of_length_le (by rw [spansL_len]; omega)] at this
        exact this
      subst hke
      clear OW HO0
      by_cases hlt1 : l.length < xs.length
      · have hge : ¬ ((l.length : Int) < (ys.length : Int)) := by have := HN.out; omega
        have hlt2 : (l.length : Int) < (xs.length : Int) := by omega
        go_wp2_with fail
        go_ret
        exact ⟨_, rfl, HF.out, HB.out⟩
      · have hge : ¬ ((l.length : Int) < (xs.length : Int)) := by omega
        go_wp2_with fail
        go_ret
        exact ⟨_, rfl, HF.out, HB.out⟩

set_option maxRecDepth 100000 in
set_option maxHeartbeats 1600000 in
theorem specBoth_any (s far : ByteArray) (w : World) (hs : s.size ≤ 2097152) (hf : far.size ≤ 2097152) :
    Calls Try.prog 12 #[.string s, .string far] w fun e w' => ∃ v, e = .returned v ∧ OwnSp w' w.heap.size v (spansL (pairsL s.data.toList far.data.toList)) ∧ Below w.heap.size w w' := by
  have hi0 := pairsL_ins s.data.toList far.data.toList
  have ho0 := pairsL_outs s.data.toList far.data.toList
  rw [len_list] at hi0 ho0
  have HI : Hid (∀ w, Calls Try.prog 18 #[.string s] w fun e w' => ∃ v, e = .returned (.tuple #[v, .string ⟨(restL s.data.toList).toArray⟩]) ∧ w'.ownsRow w.heap.size 9 1 v (linesL s.data.toList).length ((linesL s.data.toList).map strV) ∧ Below w.heap.size w w') := fun w => specLines_any s w hs
  have HF : Hid (∀ w, Calls Try.prog 18 #[.string far] w fun e w' => ∃ v, e = .returned (.tuple #[v, .string ⟨(restL far.data.toList).toArray⟩]) ∧ w'.ownsRow w.heap.size 9 1 v (linesL far.data.toList).length ((linesL far.data.toList).map strV) ∧ Below w.heap.size w w') := fun w => specLines_any far w hf
  have hlx : ∀ x ∈ linesL s.data.toList, x.length ≤ 2097152 := fun x hx => by have := line_len hx; rw [len_list] at this; omega
  have hly : ∀ x ∈ linesL far.data.toList, x.length ≤ 2097152 := fun x hx => by have := line_len hx; rw [len_list] at this; omega
  have hl1 := lines_len s.data.toList
  have hl2 := lines_len far.data.toList
  rw [len_list] at hl1 hl2
  have HP : Hid (∀ v1 v2 w, RdV w v1 ((linesL s.data.toList).map strV) → RdV w v2 ((linesL far.data.toList).map strV) → Calls Try.prog 19 #[v1, v2] w fun e w' => ∃ v, e = .returned v ∧ OwnSp w' w.heap.size v (spansL (pairsL s.data.toList far.data.toList)) ∧ Below w.heap.size w w') :=
    fun v1 v2 w h1 h2 => specPairs4_any _ v1 v2 _ _ w rfl (by omega) (by omega) hlx hly (by omega) (by omega) h1 h2
  obtain ⟨rs, hrs⟩ : ∃ rs, rs = (restL s.data.toList).toArray := ⟨_, rfl⟩
  obtain ⟨rf, hrf⟩ : ∃ rf, rf = (restL far.data.toList).toArray := ⟨_, rfl⟩
  obtain ⟨sp, hsp⟩ : ∃ sp, sp = spansL (pairsL s.data.toList far.data.toList) := ⟨_, rfl⟩
  obtain ⟨xs, hxs⟩ : ∃ xs, xs = linesL s.data.toList := ⟨_, rfl⟩
  obtain ⟨ys, hys⟩ : ∃ ys, ys = linesL far.data.toList := ⟨_, rfl⟩
  rw [← hsp] at HP ⊢
  rw [← hxs] at HI HP
  rw [← hys] at HF HP
  rw [← hrs] at HI
  rw [← hrf] at HF
  clear hlx hly hxs hys hrs hrf hl1 hl2 hsp hi0 ho0
  go_enter Try.func12, Try.ntmps12
  go_wp2_with fail
  (go_at_call 18; refine (HI.out _).mono ?_; rintro e w1 ⟨v1, rfl, own1, b1⟩; have B1 := Lib.hid b1; have R1 := Lib.hid (RdV.of_own own1).1; have z1 := b1.size; clear own1 b1)
  go_wp2_with fail
  (go_at_call 18; refine (HF.out _).mono ?_; rintro e w2 ⟨v2, rfl, own2, b2⟩; have B2 : Hid (Below w.heap.size w w2) := B1.out.trans (b2.mono z1); have R2 := Lib.hid (R1.out.below b2); have S2 := Lib.hid (RdV.of_own own2).1; have z2 := b2.size; clear own2 b2 R1 B1 HI HF)
  go_wp2_with fail
  (go_at_call 19; refine (HP.out _ _ _ R2.out S2.out).mono ?_; rintro e w3 ⟨v3, rfl, own3, b3⟩; have B3 : Hid (Below w.heap.size w w3) := B2.out.trans (b3.mono (by omega)); have O3 := Lib.hid (own3.mono (show w.heap.size ≤ w2.heap.size by omega)); clear own3 b3)
  go_wp2_with fail
  go_ret
  exact ⟨_, rfl, O3.out, B3.out⟩

set_option maxRecDepth 100000 in
set_option maxHeartbeats 1600000 in
theorem specPosPairs_any (s far : ByteArray) (w : World) (hs : s.size ≤ 2097152) (hf : far.size ≤ 2097152) :
    Calls Try.prog 5 #[.string s, .string far] w fun e w' => ∃ v, e = .returned v ∧ OwnSp w' w.heap.size v (spansL (pairsL s.data.toList far.data.toList)) ∧ Below w.heap.size w w' := by
  have HB := Lib.hid (specBoth_any s far w hs hf)
  obtain ⟨sp, hsp⟩ : ∃ sp, sp = spansL (pairsL s.data.toList far.data.toList) := ⟨_, rfl⟩
  rw [← hsp] at HB ⊢
  clear hsp
  go_enter Try.func5, Try.ntmps5
  go_wp2_with fail
  (go_at_call 12; refine HB.out.mono ?_; rintro e w3 ⟨v3, rfl, own3, b3⟩; have B3 := Lib.hid b3; have O3 := Lib.hid own3; clear own3 b3)
  go_wp2_with fail
  go_ret
  exact ⟨_, rfl, O3.out, B3.out⟩

end Go.Proofs.Ytgjhfmlncibpmaa
