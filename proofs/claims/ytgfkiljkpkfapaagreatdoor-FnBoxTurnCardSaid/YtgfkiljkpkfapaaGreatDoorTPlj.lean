/- Seven cells that may be written, and what is turned beside them. (Several texts, joined: SegAdd, SPairs, AppW, GState, Rdr, Pick, Draw, DrawSm, DrawLine, DrawBent, DrawStr, At7.) -/
import Derived.Test.YtgfkiljkpkfapaaGreatDoorGen
import Derived.Test.YtgfkiljkpkfapaaGreatDoorInside
import Derived.Test.YtgfkiljkpkfapaaGreatDoorTPlh
import Derived.Test.YtgfkiljkpkfapaaGreatDoorTPli
import Derived.Test.YtgfkiljkpkfapaaGreatDoorTPlb
import Derived.Test.YtgfkiljkpkfapaaGreatDoorRdV
import Derived.Deep.AppendLies
import Derived.Deep.RegionLaw
import Derived.Deep.DeepCutAuto
import Derived.Test.YtgfkiljkpkfapaaGreatDoorBase
import Derived.Deep.RegionHeld3
import Derived.Deep.RegionWith
import Derived.Laws.AppendOwn
import Derived.BigQuiet
import Derived.RegionTactic
import Derived.IntWalk
import Derived.Test.YtgfkiljkpkfapaaGreatDoorTPla
import Derived.Test.YtgfkiljkpkfapaaGreatDoorByte
import Derived.LoopTactic
import Derived.Test.YtgfkiljkpkfapaaGreatDoorSegLaw

/- SegAdd of the specification and of the program, at every text and every segment. Condition: the text has at most 2^21 bytes, the segment likewise. -/
namespace Go.Proofs.YtgfkiljkpkfapaaGreatDoor
open Go.RowKit

def addS (kn : ByteArray) (sq : Int) (d : ByteArray) : ByteArray := ⟨(addL kn.data.toList sq d.data.toList).toArray⟩
theorem addS_in (kn d : ByteArray) (q : Nat) (hq : q ≤ kn.size) : kn ++ d.extract (kn.size - q) d.size = addS kn q d := by
  unfold addS
  rw [addL_in (by rw [len_list]; exact hq), ext_list, List.take_of_length_le (by rw [len_list]; omega), len_list]
  apply ByteArray.ext
  apply Array.ext'
  simp
theorem addS_old (kn d : ByteArray) (q : Nat) (hq : q + d.size ≤ kn.size) : kn = addS kn q d := by
  unfold addS
  rw [addL_old (by rw [len_list, len_list]; exact hq)]
theorem addS_out (kn d : ByteArray) (q : Int) (hq : ¬ (0 ≤ q ∧ q ≤ kn.size)) : kn = addS kn q d := by
  unfold addS
  rw [addL_out (by rw [len_list]; exact hq)]
theorem ret_str {a b : ByteArray} (h : a = b) : Ending.returned (.string a) = .returned (.string b) := by rw [h]

set_option maxRecDepth 100000 in
set_option maxHeartbeats 1600000 in
theorem specGrown_any (kn : ByteArray) (sa sp da dp sq ak : Int) (d : ByteArray) (w : World) (hk : kn.size ≤ 2097152) (hd : d.size ≤ 2097152) :
    Calls Tryz.prog 153 #[.string kn, .agg #[.int .i64 sa, .int .i64 sp, .int .i64 da, .int .i64 dp, .int .i64 sq, .int .i64 ak, .string d]] w fun e w' => e = .returned (.string (addS kn sq d)) ∧ Below w.heap.size w w' := by
  by_cases hq : 0 ≤ sq ∧ sq ≤ kn.size
  · obtain ⟨q, rfl⟩ : ∃ q : Nat, sq = q := ⟨sq.toNat, by omega⟩
    have hq2 : q ≤ kn.size := by omega
    have HI := Lib.hid (addS_in kn d q hq2)
    have HO : Hid (q + d.size ≤ kn.size → kn = addS kn q d) := addS_old kn d q
    clear hq
    by_cases he : q + d.size ≤ kn.size
    · have he2 : (q : Int) + (d.size : Int) ≤ (kn.size : Int) := by omega
      go_enter Tryz.func153, Tryz.ntmps153
      go_wp2_with fail
      go_ret
      exact ⟨ret_str (HO.out he), (Below.refl _ _).alloc (Nat.le_refl _) _⟩
    · have he2 : ¬ (q : Int) + (d.size : Int) ≤ (kn.size : Int) := by omega
      have he3 : (kn.size : Int) - (q : Int) ≤ (d.size : Int) := by omega
      go_enter Tryz.func153, Tryz.ntmps153
      go_wp2_with fail
      go_ret
      exact ⟨ret_str HI.out, (Below.refl _ _).alloc (Nat.le_refl _) _⟩
  · have HO := Lib.hid (addS_out kn d sq hq)
    by_cases h0 : sq < 0
    · clear hq
      go_enter Tryz.func153, Tryz.ntmps153
      go_wp2_with fail
      go_ret
      exact ⟨ret_str HO.out, (Below.refl _ _).alloc (Nat.le_refl _) _⟩
    · have h1 : (kn.size : Int) < sq := by omega
      clear hq
      go_enter Tryz.func153, Tryz.ntmps153
      go_wp2_with fail
      go_ret
      exact ⟨ret_str HO.out, (Below.refl _ _).alloc (Nat.le_refl _) _⟩

end Go.Proofs.YtgfkiljkpkfapaaGreatDoor

/- PosPairs of the specification: the spans of two texts' lines, in memory of the call's own. Condition: each text has at most 2^21 bytes. -/
namespace Go.Proofs.YtgfkiljkpkfapaaGreatDoor
open Go.RowKit

theorem heap_lastP (w : World) (o : Obj) : (w.alloc o).heap[w.heap.size]? = some o := by
  show (w.heap.push o)[w.heap.size]? = _
  simp

set_option maxRecDepth 100000 in
set_option maxHeartbeats 3200000 in
theorem specPairs4_any (l : List (List UInt8 × List UInt8)) (v1 v2 : Value) (xs ys : List (List UInt8)) (w : World) (hl : l = xs.zip ys) (hxl : xs.length ≤ 2097152) (hyl : ys.length ≤ 2097152) (hlx : ∀ x ∈ xs, x.length ≤ 2097152) (hly : ∀ x ∈ ys, x.length ≤ 2097152) (hi0 : insL l ≤ 2097152) (ho0 : outsL l ≤ 2097152) (r1 : RdV w v1 (xs.map strV)) (r2 : RdV w v2 (ys.map strV)) :
    Calls Tryz.prog 171 #[v1, v2] w fun e w' => ∃ v, e = .returned v ∧ OwnSp w' w.heap.size v (spansL l) ∧ Below w.heap.size w w' := by
  have hn : l.length = min xs.length ys.length := by rw [hl, List.length_zip]
  have hnx : l.length ≤ xs.length := by omega
  have hny : l.length ≤ ys.length := by omega
  obtain ⟨i0, hi, hz0, hz1, hz2⟩ := info_parts infoSpan
  obtain ⟨a1, c1, rfl, hr1⟩ := r1
  obtain ⟨a2, c2, rfl, hr2⟩ := r2
  rw [List.length_map] at hr1 hr2
  simp only [List.length_map]
  have HLX := Lib.hid hlx
  have HLY := Lib.hid hly
  have HL := Lib.hid hl
  have HN := Lib.hid hn
  have R1 := Lib.hid hr1
  have R2 := Lib.hid hr2
  have HO0 : Hid (∀ wx : World, OwnSp (wx.alloc (.cells #[] 180)) wx.heap.size (.slice (some ⟨wx.heap.size, 0, none⟩) 0 0) []) := fun wx => by
    have := World.ownsRow_made (base := wx.heap.size) (e := 180) (size := 5) wx #[] 0 (Nat.le_refl _) (Nat.zero_le _) rfl
    simpa [OwnSp, flatC] using this
  clear hlx hly hl hr1 hr2 hn
  go_enter Tryz.func171, Tryz.ntmps171
  go_wp2_with fail
  go_loopw [5, 6, 7, 8] (fun sp ia io i wr => ∃ (k : Nat) (a : Nat) (b : Nat) (g : Nat) (c : Nat), k ≤ l.length ∧ i = .int .i64 k ∧ sp = .slice (some ⟨g, 0, none⟩) k c ∧ ia = .int .i64 a ∧ io = .int .i64 b ∧ insL (l.take k) = a ∧ outsL (l.take k) = b ∧ OwnSp wr w.heap.size (.slice (some ⟨g, 0, none⟩) k c) ((spansL l).take k) ∧ Below w.heap.size w wr) (fun _ _ _ i _ => l.length - (intOf i).toNat)
  case atStart => exact ⟨0, 0, 0, _, 0, Nat.zero_le _, rfl, rfl, rfl, rfl, rfl, rfl, HO0.out w, (Below.refl _ _).alloc (Nat.le_refl _) _⟩
  case round =>
    obtain ⟨k, a, b, g, c, hk, rfl, rfl, rfl, rfl, hab, hbb, own, hb⟩ := hrel
    have HA := Lib.hid hab
    have HBB := Lib.hid hbb
    have OW := Lib.hid own
    have hsz := hb.size
    have HB := Lib.hid hb
    clear hab hbb own hb
    have ha : a ≤ 2097152 := by have := insL_le l k; have := HA.out; omega
    have hbo : b ≤ 2097152 := by have := outsL_le l k; have := HBB.out; omega
    by_cases hlt : k < l.length
    · obtain ⟨gx, rfl, rowx⟩ := R1.out (by omega)
      obtain ⟨gy, rfl, rowy⟩ := R2.out (by omega)
      have hkx : k < xs.length := by omega
      have hky : k < ys.length := by omega
      obtain ⟨x, hx⟩ : ∃ x, x = xs[k] := ⟨_, rfl⟩
      obtain ⟨y, hy⟩ : ∃ y, y = ys[k] := ⟨_, rfl⟩
      have hlk : l[k] = (x, y) := by rw [hx, hy]; simp only [HL.out, List.getElem_zip]
      have hgx : gx < w.heap.size := rowx.lt (by simp; omega)
      have hgy : gy < w.heap.size := rowy.lt (by simp; omega)
      have cX : wr.cell? ⟨gx, k, none⟩ = some (.string ⟨x.toArray⟩) := by
        rw [HB.out.cell (p := ⟨gx, k, none⟩) hgx, (rowx k (by simpa using hkx)).1]; simp [hx, strV]
      have cY : wr.cell? ⟨gy, k, none⟩ = some (.string ⟨y.toArray⟩) := by
        rw [HB.out.cell (p := ⟨gy, k, none⟩) hgy, (rowy k (by simpa using hky)).1]; simp [hy, strV]
      have hxn0 : x.length ≤ 2097152 := HLX.out x (by rw [hx]; exact List.getElem_mem _)
      have hyn0 : y.length ≤ 2097152 := HLY.out y (by rw [hy]; exact List.getElem_mem _)
      have HNX : Hid ((spansL l).take (k + 1) = (spansL l).take k ++ [(a, a + x.length + 1, b, b + y.length + 1, decide (y = x))]) := by
        show _ = _
        rw [spansL_succ hlt, spAt_next hlt, hlk, HA.out, HBB.out]
      have HIN : Hid (insL (l.take (k + 1)) = a + x.length + 1 ∧ outsL (l.take (k + 1)) = b + y.length + 1) := by
        rw [insL_succ hlt, outsL_succ hlt, hlk, HA.out, HBB.out]; exact ⟨by simp; omega, by simp; omega⟩
      obtain ⟨X, hX⟩ : ∃ X : ByteArray, X = ⟨x.toArray⟩ := ⟨_, rfl⟩
      obtain ⟨Y, hY⟩ : ∃ Y : ByteArray, Y = ⟨y.toArray⟩ := ⟨_, rfl⟩
      have hXs : X.size = x.length := by rw [hX]; simp [ByteArray.size]
      have hYs : Y.size = y.length := by rw [hY]; simp [ByteArray.size]
      have HE : Hid ((Y.toList == X.toList) = decide (y = x)) := by
        show _ = _
        rw [hX, hY, str_beq]
        exact decide_eq_decide.2 ⟨Eq.symm, Eq.symm⟩
      rw [← hX] at cX
      rw [← hY] at cY
      have HXS := Lib.hid hXs
      have HYS := Lib.hid hYs
      have hxn : X.size ≤ 2097152 := by omega
      have hyn : Y.size ≤ 2097152 := by omega
      have hkl : ((spansL l).take k).length = k := by rw [List.length_take, spansL_len]; omega
      have own3 : Hid (∀ o, (wr.alloc o).ownsRow w.heap.size 180 5 (.slice (some ⟨g, 0, none⟩) k c) k (flatC spC ((spansL l).take k))) := fun o => by
        have := OW.out.below ((Below.refl _ wr).alloc (Nat.le_refl _) o)
        unfold OwnSp at this
        rwa [hkl] at this
      have own2 : Hid (∀ o, (wr.alloc o).drew.ownsRow w.heap.size 180 5 (.slice (some ⟨g, 0, none⟩) k c) k (flatC spC ((spansL l).take k))) := fun o => (own3.out o).drew
      have own1 : Hid (∀ o, (wr.drew.alloc o).ownsRow w.heap.size 180 5 (.slice (some ⟨g, 0, none⟩) k c) k (flatC spC ((spansL l).take k))) := fun o => by
        have := OW.out.below (((Below.refl _ wr).drew).alloc (Nat.le_refl _) o)
        unfold OwnSp at this
        rwa [hkl] at this
      have hk2 : (k : Int) ≤ (c1 : Int) ∨ True := .inr trivial
      have hgB : w.heap.size ≤ g := by
        have := ((OW.out.lt g (by rfl))).1
        exact this
      clear rowx rowy hx hy hlk hX hY hXs hYs hkl hxn0 hyn0
      go_upto_region 8 with fail
      have hs1 : ∀ o, (wr.alloc o).heap[wr.heap.size]? = some o := fun o => heap_lastP wr o
      have H1 := Lib.hid hs1
      have HWA : Hid (IntKind.i64.wrap (IntKind.i64.wrap ((a : Int) + X.size) + 1) = ((a + X.size + 1 : Nat) : Int)) := by
        show _ = _
        rw [IntWalk.i64_in ((a : Int) + X.size) (by omega), IntWalk.i64_in ((a : Int) + X.size + 1) (by omega)]; omega
      have HWB : Hid (IntKind.i64.wrap (IntKind.i64.wrap ((b : Int) + Y.size) + 1) = ((b + Y.size + 1 : Nat) : Int)) := by
        show _ = _
        rw [IntWalk.i64_in ((b : Int) + Y.size) (by omega), IntWalk.i64_in ((b : Int) + Y.size + 1) (by omega)]; omega
      clear hs1
      go_cut [5] (fun s wx => ∃ g' c', s = .slice (some ⟨g', 0, none⟩) (k + 1) c' ∧ OwnSp wx w.heap.size (.slice (some ⟨g', 0, none⟩) (k + 1) c') ((spansL l).take (k + 1)) ∧ Below w.heap.size w wx)
      case first =>
        go_region_law (first
          | (refine step_append_lies _ rfl (.tmp 27) (.tmp 50) 171 rfl w.heap.size 180 i0 (.agg #[.int .i64 0, .int .i64 0, .int .i64 0, .int .i64 0, .bool false]) 5 40 Tryz.underlying171 hi hz0 hz1 hz2 rfl (by decide) (.slice (some ⟨g, 0, none⟩) k c) k (flatC spC ((spansL l).take k)) (by rfl) (by first | exact own3.out _ | exact own2.out _ | exact own1.out _) ⟨wr.heap.size, 0, none⟩ 1 1 [.int .i64 a, .int .i64 (IntKind.i64.wrap (IntKind.i64.wrap ((a : Int) + X.size) + 1)), .int .i64 b, .int .i64 (IntKind.i64.wrap (IntKind.i64.wrap ((b : Int) + Y.size) + 1)), .bool (Y.toList == X.toList)] (by rfl) (by rfl) (World.news_of_block (cs := #[.int .i64 a, .int .i64 (IntKind.i64.wrap (IntKind.i64.wrap ((a : Int) + X.size) + 1)), .int .i64 b, .int .i64 (IntKind.i64.wrap (IntKind.i64.wrap ((b : Int) + Y.size) + 1)), .bool (Y.toList == X.toList)]) (t := 180) (by exact H1.out _)) (by intro u hu; simp at hu; rcases hu with rfl | rfl | rfl | rfl | rfl <;> rfl) (by decide) (by unfold maxLen; omega) (by omega) (by simp; omega) _ rfl ?_
             intro g1 c1' w1 hown1 hgrow1 _ _
             have O1 := Lib.hid hown1
             have HB1 : Hid (Below w.heap.size w w1) := by
               first
                 | exact (HB.out.alloc hsz _).grown hgrow1 (by simp; omega) (fun k hk => by simp [Value.ownBlock] at hk; omega)
                 | exact ((HB.out.alloc hsz _).drew).grown hgrow1 (by simp; omega) (fun k hk => by simp [Value.ownBlock] at hk; omega)
                 | exact ((HB.out.drew).alloc hsz _).grown hgrow1 (by simp; omega) (fun k hk => by simp [Value.ownBlock] at hk; omega)
             clear hown1 hgrow1))
        all_goals
          go_wp2_with fail
          go_meet
          refine ⟨g1, c1', rfl, ?_, HB1.out⟩
          have := O1.out
          rw [HWA.out, HWB.out] at this
          rw [HNX.out]
          unfold OwnSp
          rw [flatC_app, List.length_append, List.length_take, spansL_len, Nat.min_eq_left hk, ← HE.out, ← HXS.out, ← HYS.out]
          exact this
      case rest =>
        obtain ⟨g', c', rfl, o', b'⟩ := hcut
        have OW' := Lib.hid o'
        have HB' := Lib.hid b'
        have cX' : wc.cell? ⟨gx, k, none⟩ = some (.string X) := by
          rw [HB'.out.cell (p := ⟨gx, k, none⟩) hgx, ← HB.out.cell (p := ⟨gx, k, none⟩) hgx]; exact cX
        clear o' b' own1 own2 own3 H1 OW HO0 HNX
        go_wp2_with fail
        go_roundw
        case rel => exact ⟨k + 1, a + X.size + 1, b + Y.size + 1, g', c', by omega, by go_num, rfl, by go_num, by go_num, by rw [HIN.out.1, HXS.out], by rw [HIN.out.2, HYS.out], OW'.out, HB'.out⟩
        case measure => simp [intOf]; omega
    · have hke : k = l.length := by omega
      have HF : Hid (OwnSp wr w.heap.size (.slice (some ⟨g, 0, none⟩) k c) (spansL l)) := by
        have := OW.out
        rw [List.take_of_length_le (by rw [spansL_len]; omega)] at this
        exact this
      subst hke
      clear OW HO0
      by_cases hlt1 : l.length < xs.length
      · have hge : ¬ ((l.length : Int) < (ys.length : Int)) := by have := HN.out; omega
        have hlt2 : (l.length : Int) < (xs.length : Int) := by omega
        go_wp2_with fail
        go_ret
        exact ⟨_, rfl, HF.out, HB.out⟩
      · have hge : ¬ ((l.length : Int) < (xs.length : Int)) := by omega
        go_wp2_with fail
        go_ret
        exact ⟨_, rfl, HF.out, HB.out⟩

set_option maxRecDepth 100000 in
set_option maxHeartbeats 1600000 in
theorem specBoth_any (s far : ByteArray) (w : World) (hs : s.size ≤ 2097152) (hf : far.size ≤ 2097152) :
    Calls Tryz.prog 156 #[.string s, .string far] w fun e w' => ∃ v, e = .returned v ∧ OwnSp w' w.heap.size v (spansL (pairsL s.data.toList far.data.toList)) ∧ Below w.heap.size w w' := by
  have hi0 := pairsL_ins s.data.toList far.data.toList
  have ho0 := pairsL_outs s.data.toList far.data.toList
  rw [len_list] at hi0 ho0
  have HI : Hid (∀ w, Calls Tryz.prog 123 #[.string s] w fun e w' => ∃ v, e = .returned (.tuple #[v, .string ⟨(restL s.data.toList).toArray⟩]) ∧ w'.ownsRow w.heap.size 9 1 v (linesL s.data.toList).length ((linesL s.data.toList).map strV) ∧ Below w.heap.size w w') := fun w => specLines_any s w hs
  have HF : Hid (∀ w, Calls Tryz.prog 123 #[.string far] w fun e w' => ∃ v, e = .returned (.tuple #[v, .string ⟨(restL far.data.toList).toArray⟩]) ∧ w'.ownsRow w.heap.size 9 1 v (linesL far.data.toList).length ((linesL far.data.toList).map strV) ∧ Below w.heap.size w w') := fun w => specLines_any far w hf
  have hlx : ∀ x ∈ linesL s.data.toList, x.length ≤ 2097152 := fun x hx => by have := line_len hx; rw [len_list] at this; omega
  have hly : ∀ x ∈ linesL far.data.toList, x.length ≤ 2097152 := fun x hx => by have := line_len hx; rw [len_list] at this; omega
  have hl1 := lines_len s.data.toList
  have hl2 := lines_len far.data.toList
  rw [len_list] at hl1 hl2
  have HP : Hid (∀ v1 v2 w, RdV w v1 ((linesL s.data.toList).map strV) → RdV w v2 ((linesL far.data.toList).map strV) → Calls Tryz.prog 171 #[v1, v2] w fun e w' => ∃ v, e = .returned v ∧ OwnSp w' w.heap.size v (spansL (pairsL s.data.toList far.data.toList)) ∧ Below w.heap.size w w') :=
    fun v1 v2 w h1 h2 => specPairs4_any _ v1 v2 _ _ w rfl (by omega) (by omega) hlx hly (by omega) (by omega) h1 h2
  obtain ⟨rs, hrs⟩ : ∃ rs, rs = (restL s.data.toList).toArray := ⟨_, rfl⟩
  obtain ⟨rf, hrf⟩ : ∃ rf, rf = (restL far.data.toList).toArray := ⟨_, rfl⟩
  obtain ⟨sp, hsp⟩ : ∃ sp, sp = spansL (pairsL s.data.toList far.data.toList) := ⟨_, rfl⟩
  obtain ⟨xs, hxs⟩ : ∃ xs, xs = linesL s.data.toList := ⟨_, rfl⟩
  obtain ⟨ys, hys⟩ : ∃ ys, ys = linesL far.data.toList := ⟨_, rfl⟩
  rw [← hsp] at HP ⊢
  rw [← hxs] at HI HP
  rw [← hys] at HF HP
  rw [← hrs] at HI
  rw [← hrf] at HF
  clear hlx hly hxs hys hrs hrf hl1 hl2 hsp hi0 ho0
  go_enter Tryz.func156, Tryz.ntmps156
  go_wp2_with fail
  (go_at_call 123; refine (HI.out _).mono ?_; rintro e w1 ⟨v1, rfl, own1, b1⟩; have B1 := Lib.hid b1; have R1 := Lib.hid (RdV.of_own own1).1; have z1 := b1.size; clear own1 b1)
  go_wp2_with fail
  (go_at_call 123; refine (HF.out _).mono ?_; rintro e w2 ⟨v2, rfl, own2, b2⟩; have B2 : Hid (Below w.heap.size w w2) := B1.out.trans (b2.mono z1); have R2 := Lib.hid (R1.out.below b2); have S2 := Lib.hid (RdV.of_own own2).1; have z2 := b2.size; clear own2 b2 R1 B1 HI HF)
  go_wp2_with fail
  (go_at_call 171; refine (HP.out _ _ _ R2.out S2.out).mono ?_; rintro e w3 ⟨v3, rfl, own3, b3⟩; have B3 : Hid (Below w.heap.size w w3) := B2.out.trans (b3.mono (by omega)); have O3 := Lib.hid (own3.mono (show w.heap.size ≤ w2.heap.size by omega)); clear own3 b3)
  go_wp2_with fail
  go_ret
  exact ⟨_, rfl, O3.out, B3.out⟩

end Go.Proofs.YtgfkiljkpkfapaaGreatDoor

/- append as a step of a region that draws its order; where a slice of the call's own lies. No condition. -/
namespace Go.Proofs.YtgfkiljkpkfapaaGreatDoor
open Go.RowKit

/-- append onto a slice of the call's own, something or other, at a step of a region that draws its order; the step is wanted. -/
theorem step_append_w {P : Program} (w : World) {ops : Array Oper} {o : Oper} {a : Act} {K : Act → World → Prop} {Q : Exit → Act → World → Prop} {E : Prop} (hw : Region.wanted o (yielded ops a.tmps) = true) (s x : Operand) (t : TypeId)
    (ho : o.op = .call { callee := .builtin .append, args := #[s, x], argTypes := #[t, t] })
    (base : Nat) (e : TypeId) (i : TypeInfo) (z : Value) (size bytes : Nat) (ht : P.underlying t = some (.slice e)) (hi : P.info? e = some i) (hz : i.zero = some z)
    (hsize : i.size = size) (hby : i.bytes = bytes) (hzs : z.cells.size = size) (hsz : 0 < size)
    (v : Value) (n : Nat) (xs : List Value) (hs : a.eval s = v) (hown : w.ownsRow base e size v n xs)
    (ad : Addr) (m c : Nat) (news : List Value) (hx : a.eval x = .slice (some ad) m c) (hl : news.length = m * size) (hnews : ∀ j u, news[j]? = some u → w.cell? (ad.add j) = some u) (h1 : ∀ u ∈ news, u.oneCell' = true)
    (h63 : n + m ≤ maxLen) (hbytes : (n + m) * bytes ≤ 140737488355328) (hbase : base ≤ w.heap.size)
    (h : ∀ v' w', w'.ownsRow base e size v' (n + m) (xs ++ news) → w.grownBy w' v.ownBlock → K (a.put o.dst v') w') :
    if Region.wanted o (yielded ops a.tmps) = true then Oper.wp P o a w K Q else E := by
  rw [if_pos hw]
  obtain ⟨v', w', hr, h2, h3, _, _⟩ := run_append_own_at (P := P) w base t o.type e i z size bytes ht hi hz hsize hby hzs hsz v n xs hown ad m c news hl hnews h1 h63 hbytes hbase
  unfold Oper.wp execOp
  simp only [ho, resolve, invoke, builtin, Sem.run_bind, Sem.run_pure, Result.andThen_ok, List.map_toArray, List.map_cons, List.map_nil, hs, hx, hr]
  exact h v' w' h2 h3

theorem own_ge {w : World} {B : Nat} {t : TypeId} {k : Nat} {v : Value} {n : Nat} {xs : List Value} (h : w.ownsRow B t k v n xs) : ∀ b, v.ownBlock = some b → B ≤ b := fun b e => by
  rcases h.2 with ⟨rfl, _⟩ | ⟨g, cap, cur, rfl, hB, _⟩
  · simp [Value.ownBlock] at e
  · simp [Value.ownBlock] at e
    omega

end Go.Proofs.YtgfkiljkpkfapaaGreatDoor

/- How things stand while l7Ctl and l7In of the specification run: boxes, lists, and what stays. No condition. -/
namespace Go.Proofs.YtgfkiljkpkfapaaGreatDoor
open Go.RowKit Go.Sort

/-- The boxes of a call that has a box, a segment, and a box to answer. -/
def CQ (s : Nat) (w : World) (t3 t4 t6 : List Value) : Prop := Blk w s 29 t3 ∧ Blk w (s + 1) 33 t4 ∧ Blk w (s + 1 + 1) 29 t6
theorem CQ.call {s : Nat} {w w' : World} {t3 t4 t6 : List Value} (h : CQ s w t3 t4 t6) (hb : Below w.heap.size w w') : CQ s w' t3 t4 t6 := ⟨h.1.below hb, h.2.1.below hb, h.2.2.below hb⟩
theorem CQ.row {s B k n : Nat} {w w' : World} {t3 t4 t6 xs : List Value} {v : Value} (h : CQ s w t3 t4 t6) (ho : w.ownsRow B 49 k v n xs) (hg : w.grownBy w' v.ownBlock) : CQ s w' t3 t4 t6 :=
  ⟨h.1.grownR hg (own_tyG ho h.1 (by decide)), h.2.1.grownR hg (own_tyG ho h.2.1 (by decide)), h.2.2.grownR hg (own_tyG ho h.2.2 (by decide))⟩
theorem Blk.setO {w : World} {g b : Nat} {t : TypeId} {l : List Value} (h : Blk w g t l) (hne : g ≠ b) (i : Nat) (u : Value) : Blk (w.setCell ⟨b, i, none⟩ u) g t l := h.grownR (grown_setG w b i u) (by intro e; injection e with e; exact hne e.symm)
theorem CQ.set3 {s : Nat} {w : World} {t3 t4 t6 : List Value} (h : CQ s w t3 t4 t6) (i : Nat) (u : Value) : CQ s (w.setCell ⟨s, i, none⟩ u) (t3.set i u) t4 t6 := ⟨h.1.set i u, h.2.1.setO (by omega) i u, h.2.2.setO (by omega) i u⟩
theorem CQ.set4 {s : Nat} {w : World} {t3 t4 t6 : List Value} (h : CQ s w t3 t4 t6) (i : Nat) (u : Value) : CQ s (w.setCell ⟨s + 1, i, none⟩ u) t3 (t4.set i u) t6 := ⟨h.1.setO (by omega) i u, h.2.1.set i u, h.2.2.setO (by omega) i u⟩
theorem CQ.set6 {s : Nat} {w : World} {t3 t4 t6 : List Value} (h : CQ s w t3 t4 t6) (i : Nat) (u : Value) : CQ s (w.setCell ⟨s + 1 + 1, i, none⟩ u) t3 t4 (t6.set i u) := ⟨h.1.setO (by omega) i u, h.2.1.setO (by omega) i u, h.2.2.set i u⟩
theorem CQ.new (w : World) (t3 t4 t6 : List Value) : CQ w.heap.size (((w.alloc (.cells ⟨t3⟩ 29)).alloc (.cells ⟨t4⟩ 33)).alloc (.cells ⟨t6⟩ 29)) t3 t4 t6 := by
  refine ⟨?_, ?_, ?_⟩
  · have h : Blk (w.alloc (.cells ⟨t3⟩ 29)) w.heap.size 29 t3 := heap_at _ _ _ rfl
    exact (h.alloc _).alloc _
  · have h : Blk ((w.alloc (.cells ⟨t3⟩ 29)).alloc (.cells ⟨t4⟩ 33)) (w.heap.size + 1) 33 t4 := heap_at _ _ _ (by simp)
    exact h.alloc _
  · exact heap_at _ _ _ (by simp)
theorem seven_partsG {w : World} {b : Nat} {t : TypeId} {x0 x1 x2 x3 x4 x5 x6 : Value} (h : Blk w b t [x0, x1, x2, x3, x4, x5, x6]) :
    (w.cell? ⟨b, 0, none⟩ = some x0 ∧ w.cell? ⟨b, 1, none⟩ = some x1 ∧ w.cell? ⟨b, 2, none⟩ = some x2 ∧ w.cell? ⟨b, 3, none⟩ = some x3 ∧ w.cell? ⟨b, 4, none⟩ = some x4 ∧ w.cell? ⟨b, 5, none⟩ = some x5 ∧ w.cell? ⟨b, 6, none⟩ = some x6) ∧
    (w.frozen? ⟨b, 0, none⟩ = false ∧ w.frozen? ⟨b, 1, none⟩ = false ∧ w.frozen? ⟨b, 2, none⟩ = false ∧ w.frozen? ⟨b, 3, none⟩ = false ∧ w.frozen? ⟨b, 4, none⟩ = false ∧ w.frozen? ⟨b, 5, none⟩ = false ∧ w.frozen? ⟨b, 6, none⟩ = false) :=
  ⟨⟨(h.cell 0 x0 rfl).1, (h.cell 1 x1 rfl).1, (h.cell 2 x2 rfl).1, (h.cell 3 x3 rfl).1, (h.cell 4 x4 rfl).1, (h.cell 5 x5 rfl).1, (h.cell 6 x6 rfl).1⟩, ⟨(h.cell 0 x0 rfl).2, (h.cell 1 x1 rfl).2, (h.cell 2 x2 rfl).2, (h.cell 3 x3 rfl).2, (h.cell 4 x4 rfl).2, (h.cell 5 x5 rfl).2, (h.cell 6 x6 rfl).2⟩⟩

/-- All blocks stay as they were that lie below B, and all that hold no streams. -/
def KeepC (B : Nat) (w w' : World) : Prop := B ≤ w.heap.size ∧ Below B w w' ∧ ∀ g t l, Blk w g t l → t ≠ 49 → Blk w' g t l
theorem KeepC.trans {B : Nat} {a b c : World} (h : KeepC B a b) (k : KeepC B b c) : KeepC B a c := ⟨h.1, h.2.1.trans k.2.1, fun g t l hb hne => k.2.2 g t l (h.2.2 g t l hb hne) hne⟩
theorem KeepC.of {B : Nat} {w w' : World} (h : Below w.heap.size w w') (hB : B ≤ w.heap.size) : KeepC B w w' := ⟨hB, h.mono hB, fun _ _ _ hb _ => hb.below h⟩
theorem KeepC.call {B : Nat} {w0 w w' : World} (k : KeepC B w0 w) (h : Below w.heap.size w w') : KeepC B w0 w' := k.trans (KeepC.of h (Nat.le_trans k.1 k.2.1.size))
theorem KeepC.row {B k n : Nat} {w w' : World} {v : Value} {xs : List Value} (ho : w.ownsRow B 49 k v n xs) (hB : B ≤ w.heap.size) (hg : w.grownBy w' v.ownBlock) : KeepC B w w' :=
  ⟨hB, ⟨hg.os, hg.tape, hg.output, hg.size, fun j hj => hg.block j (by omega) (fun e => by have := (World.ownsRow.lt ho j e.symm).1; omega)⟩, fun g t l hb hne => hb.grownR hg (own_tyG ho hb hne)⟩
theorem KeepC.own {B B2 k n : Nat} {w w' : World} {t : TypeId} {v : Value} {xs : List Value} (h : KeepC B w w') (ho : w.ownsRow B2 t k v n xs) (hne : t ≠ 49) : w'.ownsRow B2 t k v n xs := by
  refine ⟨ho.1, ?_⟩
  rcases ho.2 with h2 | ⟨g, cap, cur, hv, hB, hg, r⟩
  · exact .inl h2
  · obtain ⟨cl⟩ := cur
    exact .inr ⟨g, cap, ⟨cl⟩, hv, hB, h.2.2 g t cl hg hne, r⟩
theorem KeepC.putN {B b : Nat} {w0 w : World} (h : KeepC B w0 w) (hb : w0.heap.size ≤ b) (i : Nat) (u : Value) : KeepC B w0 (w.setCell ⟨b, i, none⟩ u) :=
  ⟨h.1, h.2.1.setCell (by have := h.1; show B ≤ b; omega) u, fun g t l hg hne => (h.2.2 g t l hg hne).setO (by have := hg.lt; omega) i u⟩
theorem KeepC.putC {B b : Nat} {w0 w : World} {l : List Value} (h : KeepC B w0 w) (hB : B ≤ b) (hb : Blk w b 49 l) (i : Nat) (u : Value) : KeepC B w0 (w.setCell ⟨b, i, none⟩ u) :=
  ⟨h.1, h.2.1.setCell hB u, fun g t l2 hg hne => (h.2.2 g t l2 hg hne).setO (fun e => by
    have h2 := h.2.2 g t l2 hg hne
    subst e
    unfold Blk at h2 hb
    rw [hb] at h2
    injection h2 with h3
    injection h3 with _ h4 _
    exact hne h4.symm) i u⟩
/-- How things stand in l7Ctl and l7In: the boxes, the streams that are turned in a box g9, and the lists. -/
def CS (B s g9 : Nat) (w0 w : World) (t3 t4 t6 t9 : List Value) (v2 : Value) (us : List (Int × Int)) (v3 : Value) (P : List Cn) : Prop :=
  CQ s w t3 t4 t6 ∧ Blk w g9 49 t9 ∧ OwnTab w B v2 us ∧ OwnCn w B v3 P ∧ KeepC B w0 w
theorem CS.call {B s g9 : Nat} {w0 w w' : World} {t3 t4 t6 t9 : List Value} {v2 v3 : Value} {us : List (Int × Int)} {P : List Cn} (h : CS B s g9 w0 w t3 t4 t6 t9 v2 us v3 P) (hb : Below w.heap.size w w') : CS B s g9 w0 w' t3 t4 t6 t9 v2 us v3 P :=
  ⟨h.1.call hb, h.2.1.below hb, own_later h.2.2.1 hb, own_later h.2.2.2.1 hb, h.2.2.2.2.call hb⟩
theorem CS.drew {B s g9 : Nat} {w0 w : World} {t3 t4 t6 t9 : List Value} {v2 v3 : Value} {us : List (Int × Int)} {P : List Cn} (h : CS B s g9 w0 w t3 t4 t6 t9 v2 us v3 P) : CS B s g9 w0 w.drew t3 t4 t6 t9 v2 us v3 P :=
  h.call (Below.refl _ w).drew
/-- A store into the turned streams' box. -/
theorem CS.set9 {B s g9 : Nat} {w0 w : World} {t3 t4 t6 t9 : List Value} {v2 v3 : Value} {us : List (Int × Int)} {P : List Cn} (h : CS B s g9 w0 w t3 t4 t6 t9 v2 us v3 P) (hs : s + 2 < g9) (h0 : w0.heap.size ≤ g9) (hg : v3.ownBlock ≠ some g9) (i : Nat) (u : Value) :
    CS B s g9 w0 (w.setCell ⟨g9, i, none⟩ u) t3 t4 t6 (t9.set i u) v2 us v3 P :=
  ⟨⟨h.1.1.setO (by omega) i u, h.1.2.1.setO (by omega) i u, h.1.2.2.setO (by omega) i u⟩, h.2.1.set i u, own_setR h.2.2.1 h.2.1 (by decide) i u, h.2.2.2.1.kept (grown_setG w g9 i u) (.inr hg), KeepC.putN h.2.2.2.2 h0 i u⟩
theorem CS.set3 {B s g9 : Nat} {w0 w : World} {t3 t4 t6 t9 : List Value} {v2 v3 : Value} {us : List (Int × Int)} {P : List Cn} (h : CS B s g9 w0 w t3 t4 t6 t9 v2 us v3 P) (hs : s + 2 < g9) (h0 : w0.heap.size ≤ s) (i : Nat) (u : Value) :
    CS B s g9 w0 (w.setCell ⟨s, i, none⟩ u) (t3.set i u) t4 t6 t9 v2 us v3 P :=
  ⟨h.1.set3 i u, h.2.1.setO (by omega) i u, own_setR h.2.2.1 h.1.1 (by decide) i u, own_setR h.2.2.2.1 h.1.1 (by decide) i u, KeepC.putN h.2.2.2.2 h0 i u⟩
theorem CS.set4 {B s g9 : Nat} {w0 w : World} {t3 t4 t6 t9 : List Value} {v2 v3 : Value} {us : List (Int × Int)} {P : List Cn} (h : CS B s g9 w0 w t3 t4 t6 t9 v2 us v3 P) (hs : s + 2 < g9) (h0 : w0.heap.size ≤ s) (i : Nat) (u : Value) :
    CS B s g9 w0 (w.setCell ⟨s + 1, i, none⟩ u) t3 (t4.set i u) t6 t9 v2 us v3 P :=
  ⟨h.1.set4 i u, h.2.1.setO (by omega) i u, own_setR h.2.2.1 h.1.2.1 (by decide) i u, own_setR h.2.2.2.1 h.1.2.1 (by decide) i u, KeepC.putN h.2.2.2.2 (by omega) i u⟩
theorem CS.set6 {B s g9 : Nat} {w0 w : World} {t3 t4 t6 t9 : List Value} {v2 v3 : Value} {us : List (Int × Int)} {P : List Cn} (h : CS B s g9 w0 w t3 t4 t6 t9 v2 us v3 P) (hs : s + 2 < g9) (h0 : w0.heap.size ≤ s) (i : Nat) (u : Value) :
    CS B s g9 w0 (w.setCell ⟨s + 1 + 1, i, none⟩ u) t3 t4 (t6.set i u) t9 v2 us v3 P :=
  ⟨h.1.set6 i u, h.2.1.setO (by omega) i u, own_setR h.2.2.1 h.1.2.2 (by decide) i u, own_setR h.2.2.2.1 h.1.2.2 (by decide) i u, KeepC.putN h.2.2.2.2 (by omega) i u⟩
theorem CS.tab {B s g9 : Nat} {w0 w : World} {t3 t4 t6 t9 : List Value} {v2 v2' v3 : Value} {us us' : List (Int × Int)} {P : List Cn} (h : CS B s g9 w0 w t3 t4 t6 t9 v2 us v3 P) (ht : OwnTab w B v2' us') : CS B s g9 w0 w t3 t4 t6 t9 v2' us' v3 P :=
  ⟨h.1, h.2.1, ht, h.2.2.2.1, h.2.2.2.2⟩
/-- A stream's streams written: seven stores. -/
theorem CS.putC {B s g9 g m n c : Nat} {w0 w : World} {t3 t4 t6 t9 : List Value} {v2 : Value} {us : List (Int × Int)} {P : List Cn} (h : CS B s g9 w0 w t3 t4 t6 t9 v2 us (.slice (some ⟨g, 0, none⟩) n c) P) (hn : n = P.length) (hm : m < n) (hg9 : g ≠ g9) (x : Cn) :
    CS B s g9 w0 (((((((w.setCell ⟨g, m * 7, none⟩ (.int .i64 x.ia)).setCell ⟨g, m * 7 + 1, none⟩ (.int .i64 x.ip)).setCell ⟨g, m * 7 + 2, none⟩ (.int .i64 x.oa)).setCell ⟨g, m * 7 + 3, none⟩ (.int .i64 x.op)).setCell ⟨g, m * 7 + 4, none⟩ (.string x.kn)).setCell ⟨g, m * 7 + 5, none⟩ (.string x.he)).setCell ⟨g, m * 7 + 6, none⟩ (.string x.ne)) t3 t4 t6 t9 v2 us (.slice (some ⟨g, 0, none⟩) n c) (P.set m x) := by
  have hone : ∀ (w : World) (Y : List Value) (i : Nat) (u : Value), (CQ s w t3 t4 t6 ∧ Blk w g9 49 t9 ∧ OwnTab w B v2 us ∧ w.ownsRow B 49 7 (.slice (some ⟨g, 0, none⟩) n c) n Y ∧ KeepC B w0 w) →
      (CQ s (w.setCell ⟨g, i, none⟩ u) t3 t4 t6 ∧ Blk (w.setCell ⟨g, i, none⟩ u) g9 49 t9 ∧ OwnTab (w.setCell ⟨g, i, none⟩ u) B v2 us ∧ (w.setCell ⟨g, i, none⟩ u).ownsRow B 49 7 (.slice (some ⟨g, 0, none⟩) n c) n (Y.set i u) ∧ KeepC B w0 (w.setCell ⟨g, i, none⟩ u)) := by
    intro w Y i u ⟨q, b9, t, o, k⟩
    have hgB := (World.ownsRow.lt o g rfl).1
    obtain ⟨l, hl⟩ : ∃ l, Blk w g 49 l := by
      rcases o.2 with ⟨h0, _⟩ | ⟨g', cap, cur, hv, _, hg, _⟩
      · cases h0
      · simp at hv
        obtain ⟨rfl, rfl⟩ := hv
        obtain ⟨cl⟩ := cur
        exact ⟨cl, hg⟩
    have hty : ∀ {b : Nat} {t : TypeId} {l2 : List Value}, Blk w b t l2 → t ≠ 49 → b ≠ g := fun hb hne e => own_tyG o hb hne (by rw [e]; rfl)
    refine ⟨⟨q.1.setO (hty q.1 (by decide)) i u, q.2.1.setO (hty q.2.1 (by decide)) i u, q.2.2.setO (hty q.2.2 (by decide)) i u⟩, b9.setO (Ne.symm hg9) i u, own_setR t hl (by decide) i u, own_setI o i u, k.putC hgB hl i u⟩
  obtain ⟨q, b9, t, o, k⟩ := h
  subst hn
  have h7 := hone _ _ (m * 7 + 6) (.string x.ne) (hone _ _ (m * 7 + 5) (.string x.he) (hone _ _ (m * 7 + 4) (.string x.kn) (hone _ _ (m * 7 + 3) (.int .i64 x.op) (hone _ _ (m * 7 + 2) (.int .i64 x.oa) (hone _ _ (m * 7 + 1) (.int .i64 x.ip) (hone w _ (m * 7) (.int .i64 x.ia) ⟨q, b9, t, o, k⟩))))))
  obtain ⟨q', b9', t', o', k'⟩ := h7
  refine ⟨q', b9', t', ?_, k'⟩
  show World.ownsRow _ _ _ _ _ _ _
  rw [List.length_set, ← flat_set7 P m hm x]
  exact o'
theorem addS_len (kn : ByteArray) (q : Int) (d : ByteArray) : (addS kn q d).size ≤ kn.size + d.size := by
  show (addL kn.data.toList q d.data.toList).toArray.size ≤ _
  rw [← len_list kn, ← len_list d]
  simp only [List.size_toArray]
  unfold addL
  split
  · simp only [List.length_append, List.length_drop]; omega
  · omega
theorem own_conn {w : World} {B n c m : Nat} {a : Option Addr} {cs : List Cn} (h : OwnCn w B (.slice a n c) cs) (hm : m < n) (x : Cn) (hx : cs[m]? = some x) :
    ∃ g, a = some ⟨g, 0, none⟩ ∧ B ≤ g ∧ g < w.heap.size ∧ n ≤ c ∧ n = cs.length ∧
    (w.cell? ⟨g, m * 7, none⟩ = some (.int .i64 x.ia) ∧ w.cell? ⟨g, m * 7 + 1, none⟩ = some (.int .i64 x.ip) ∧ w.cell? ⟨g, m * 7 + 2, none⟩ = some (.int .i64 x.oa) ∧ w.cell? ⟨g, m * 7 + 3, none⟩ = some (.int .i64 x.op) ∧ w.cell? ⟨g, m * 7 + 4, none⟩ = some (.string x.kn) ∧ w.cell? ⟨g, m * 7 + 5, none⟩ = some (.string x.he) ∧ w.cell? ⟨g, m * 7 + 6, none⟩ = some (.string x.ne)) ∧
    (w.frozen? ⟨g, m * 7, none⟩ = false ∧ w.frozen? ⟨g, m * 7 + 1, none⟩ = false ∧ w.frozen? ⟨g, m * 7 + 2, none⟩ = false ∧ w.frozen? ⟨g, m * 7 + 3, none⟩ = false ∧ w.frozen? ⟨g, m * 7 + 4, none⟩ = false ∧ w.frozen? ⟨g, m * 7 + 5, none⟩ = false ∧ w.frozen? ⟨g, m * 7 + 6, none⟩ = false) := by
  have hx2 := hx
  have hlt : m < cs.length := by
    rcases Nat.lt_or_ge m cs.length with h1 | h1
    · exact h1
    · rw [List.getElem?_eq_none h1] at hx; cases hx
  have hrow := RdC.of_own cnC_len (by decide) h
  obtain ⟨a', c', e, hcap, hr⟩ := hrow
  simp only [Value.slice.injEq] at e
  obtain ⟨rfl, rfl, rfl⟩ := e
  obtain ⟨g, rfl, hat⟩ := hr (by omega)
  have hge := own_ge h g rfl
  refine ⟨g, rfl, hge, (World.ownsRow.lt h g rfl).2, hcap, rfl, ?_⟩
  exact RowAt.conn hat m hlt x (by rw [List.getElem?_eq_getElem hlt] at hx2; injection hx2 with h; exact h.symm)

end Go.Proofs.YtgfkiljkpkfapaaGreatDoor

/- The reader of a code: at each pick it gives some number below the bound; nothing but its own place turns. Conditions: the reader is there; its place is small. -/
namespace Go.Proofs.YtgfkiljkpkfapaaGreatDoor
open Go.RowKit

/-- A reader lies in block R: its bytes, at most 2000 of them, lie below B; its place is at most L. -/
def Rd (B R L : Nat) (w : World) : Prop := ∃ (ao : Option Addr) (n cap p : Nat), p ≤ L ∧ B ≤ R ∧ n ≤ 2000 ∧
  w.cell? ⟨R, 0, none⟩ = some (.slice ao n cap) ∧ w.cell? ⟨R, 1, none⟩ = some (.int .i64 (p : Int)) ∧ w.frozen? ⟨R, 1, none⟩ = false ∧
  (n = 0 ∨ ∃ x, ao = some x ∧ x.block < B ∧ ∀ i, i < n → ∃ c : UInt8, w.cell? (x.add i) = some (.int .u8 (c.toNat : Int)))

theorem addr_block (a : Addr) (i : Nat) : (a.add i).block = a.block := by unfold Addr.add; split <;> rfl
theorem grown_set (w : World) (R i : Nat) (v : Value) : w.grownBy (w.setCell ⟨R, i, none⟩ v) (some R) :=
  ⟨rfl, rfl, rfl, by simp [World.setCell], fun k _ hk => Below.heap_setCell _ _ _ k (fun e => hk (by rw [e]))⟩

theorem Rd.lt {B R L : Nat} {w : World} (h : Rd B R L w) : R < w.heap.size := by
  obtain ⟨ao, n, cap, p, _, _, _, h0, _⟩ := h
  exact World.block_lt_of_cell? w _ h0
theorem Rd.base {B R L : Nat} {w : World} (h : Rd B R L w) : B ≤ R := by
  obtain ⟨ao, n, cap, p, _, hb, _⟩ := h; exact hb
theorem Rd.mono {B R L L' : Nat} {w : World} (h : Rd B R L w) (hl : L ≤ L') : Rd B R L' w := by
  obtain ⟨ao, n, cap, p, hp, r⟩ := h; exact ⟨ao, n, cap, p, by omega, r⟩

set_option maxRecDepth 100000 in
set_option maxHeartbeats 1600000 in
theorem pick_zero (m : Int) (R n cap p : Nat) (ao : Option Addr) (w : World) (hp : p ≤ 1000000)
    (h0 : w.cell? ⟨R, 0, none⟩ = some (.slice ao n cap)) (h1 : w.cell? ⟨R, 1, none⟩ = some (.int .i64 (p : Int))) (f1 : w.frozen? ⟨R, 1, none⟩ = false) (hz : m < 1 ∨ n = 0) :
    Calls Tryz.prog 27 #[.pointer (some ⟨R, 0, none⟩), .int .i64 m] w fun e w' => e = .returned (.int .i64 0) ∧ w' = w.setCell ⟨R, 1, none⟩ (.int .i64 ((p : Int) + 1)) := by
  by_cases hm : m < 1
  · go_enter Tryz.func27, Tryz.ntmps27
    go_wp2_with fail
    go_ret
    exact ⟨rfl, by first | rfl | (congr 2; omega)⟩
  · obtain rfl : n = 0 := by omega
    go_enter Tryz.func27, Tryz.ntmps27
    go_wp2_with fail
    go_ret
    exact ⟨rfl, by first | rfl | (congr 2; omega)⟩

set_option maxRecDepth 100000 in
set_option maxHeartbeats 1600000 in
theorem pick_in (m : Int) (R n cap p : Nat) (x : Addr) (c : UInt8) (w : World) (hp : p ≤ 1000000) (hx : x.block ≠ R) (hpn : p < n)
    (h0 : w.cell? ⟨R, 0, none⟩ = some (.slice (some x) n cap)) (h1 : w.cell? ⟨R, 1, none⟩ = some (.int .i64 (p : Int))) (f1 : w.frozen? ⟨R, 1, none⟩ = false) (hm : 1 ≤ m)
    (hc : w.cell? (x.add p) = some (.int .u8 (c.toNat : Int))) :
    Calls Tryz.prog 27 #[.pointer (some ⟨R, 0, none⟩), .int .i64 m] w fun e w' => (∃ k : Nat, e = .returned (.int .i64 (k : Int)) ∧ (k : Int) < m) ∧ w' = w.setCell ⟨R, 1, none⟩ (.int .i64 ((p : Int) + 1)) := by
  have hc' : (w.setCell ⟨R, 1, none⟩ (.int .i64 ((p : Int) + 1))).cell? (x.add p) = some (.int .u8 (c.toNat : Int)) := by
    rw [World.cell?_setCell_other _ _ _ _ (fun e => hx (by have := congrArg Addr.block e; rw [addr_block] at this; exact this.symm))]; exact hc
  have hnz : ((n : Int) == 0) = false := by simp; omega
  have hmz : ¬ m < 1 := by omega
  have hlt : (p : Int) < (n : Int) := by omega
  go_enter Tryz.func27, Tryz.ntmps27
  go_wp2_with fail
  go_ret
  have e1 : (0 : Int) ≤ (c.toNat : Int) % m := Int.emod_nonneg _ (by omega)
  have e2 : (c.toNat : Int) % m < m := Int.emod_lt_of_pos _ (by omega)
  have e3 : (wrap64 (c.toNat : Int)).tmod m = (c.toNat : Int) % m := by
    have := c.toNat_lt
    rw [show wrap64 (c.toNat : Int) = (c.toNat : Int) by unfold wrap64; omega, Int.tmod_eq_emod_of_nonneg (by omega)]
  exact ⟨⟨((c.toNat : Int) % m).toNat, by rw [Int.toNat_of_nonneg e1, ← e3]; first | rfl | simp, by omega⟩, rfl⟩

theorem xor_i64 (a b : Nat) (ha : a < 9223372036854775808) (hb : b < 9223372036854775808) : bits .xor .i64 (a : Int) (b : Int) = ((a ^^^ b : Nat) : Int) := by
  have hx : a ^^^ b < 2 ^ 63 := Nat.xor_lt_two_pow (by omega) (by omega)
  have h1 : (BitVec.ofInt 64 (a : Int)).toNat = a := by
    rw [BitVec.ofInt_natCast, BitVec.toNat_ofNat]; exact Nat.mod_eq_of_lt (by omega)
  have h2 : (BitVec.ofInt 64 (b : Int)).toNat = b := by
    rw [BitVec.ofInt_natCast, BitVec.toNat_ofNat]; exact Nat.mod_eq_of_lt (by omega)
  show IntKind.i64.wrap ((BitVec.ofInt 64 (a : Int) ^^^ BitVec.ofInt 64 (b : Int)).toNat : Int) = _
  rw [BitVec.toNat_xor, h1, h2]
  exact IntWalk.i64_in _ (by omega)
theorem wrap_small {x : Int} (h0 : 0 ≤ x) (h1 : x ≤ 1000000000000) : wrap64 x = x := by unfold wrap64; omega
theorem mix_nat (a b p q : Nat) (ha : a < 256) (hb : b < 256) (hp : p ≤ 1000000) (hq : q ≤ 1000000) :
    ∃ K : Nat, bits .xor .i64 (wrap64 (wrap64 (wrap64 (wrap64 (wrap64 (a : Int) * 131) + wrap64 (wrap64 (b : Int) * 1117)) + (p : Int) * 29) + (q : Int) * 53))
      (wrap64 ((wrap64 (wrap64 (wrap64 (wrap64 (wrap64 (a : Int) * 131) + wrap64 (wrap64 (b : Int) * 1117)) + (p : Int) * 29) + (q : Int) * 53)).tdiv 64)) = (K : Int) := by
  have e : wrap64 (wrap64 (wrap64 (wrap64 (wrap64 (a : Int) * 131) + wrap64 (wrap64 (b : Int) * 1117)) + (p : Int) * 29) + (q : Int) * 53) = ((a * 131 + b * 1117 + p * 29 + q * 53 : Nat) : Int) := by
    rw [wrap_small (x := (a : Int)) (by omega) (by omega), wrap_small (x := (b : Int)) (by omega) (by omega), wrap_small (x := (a : Int) * 131) (by omega) (by omega), wrap_small (x := (b : Int) * 1117) (by omega) (by omega),
      wrap_small (x := (a : Int) * 131 + (b : Int) * 1117) (by omega) (by omega), wrap_small (x := (a : Int) * 131 + (b : Int) * 1117 + (p : Int) * 29) (by omega) (by omega), wrap_small (by omega) (by omega)]
    omega
  obtain ⟨X, hX⟩ : ∃ X, X = a * 131 + b * 1117 + p * 29 + q * 53 := ⟨_, rfl⟩
  rw [e, ← hX]
  have e2 : wrap64 (((X : Nat) : Int).tdiv 64) = ((X / 64 : Nat) : Int) := by
    rw [Int.tdiv_eq_ediv_of_nonneg (by omega), wrap_small (by omega) (by omega)]; omega
  rw [e2]
  exact ⟨_, xor_i64 _ _ (by omega) (by omega)⟩

set_option maxRecDepth 100000 in
set_option maxHeartbeats 1600000 in
theorem pick_mix (m : Int) (R n cap p : Nat) (x : Addr) (w : World) (hp : p ≤ 1000000) (hx : x.block ≠ R) (hn : n ≤ 2000) (hn1 : 1 ≤ n) (hpn : n ≤ p)
    (h0 : w.cell? ⟨R, 0, none⟩ = some (.slice (some x) n cap)) (h1 : w.cell? ⟨R, 1, none⟩ = some (.int .i64 (p : Int))) (f1 : w.frozen? ⟨R, 1, none⟩ = false) (hm : 1 ≤ m)
    (hc : ∀ i, i < n → ∃ c : UInt8, w.cell? (x.add i) = some (.int .u8 (c.toNat : Int))) :
    Calls Tryz.prog 27 #[.pointer (some ⟨R, 0, none⟩), .int .i64 m] w fun e w' => (∃ k : Nat, e = .returned (.int .i64 (k : Int)) ∧ (k : Int) < m) ∧ w' = (w.setCell ⟨R, 1, none⟩ (.int .i64 ((p : Int) + 1))).drew := by
  have hcs : ∀ i, i < n → ∃ c : UInt8, (w.setCell ⟨R, 1, none⟩ (.int .i64 ((p : Int) + 1))).cell? (x.add i) = some (.int .u8 (c.toNat : Int)) := by
    intro i hi
    obtain ⟨c, hc⟩ := hc i hi
    exact ⟨c, by rw [World.cell?_setCell_other _ _ _ _ (fun e => hx (by have := congrArg Addr.block e; rw [addr_block] at this; exact this.symm))]; exact hc⟩
  obtain ⟨i, hi⟩ : ∃ i, i = p % n := ⟨_, rfl⟩
  obtain ⟨j, hj⟩ : ∃ j, j = (p * 7 + 3) % n := ⟨_, rfl⟩
  obtain ⟨q, hq⟩ : ∃ q, q = p / n := ⟨_, rfl⟩
  have hin : i < n := by rw [hi]; exact Nat.mod_lt _ (by omega)
  have hjn : j < n := by rw [hj]; exact Nat.mod_lt _ (by omega)
  have hqn : q ≤ 1000000 := by rw [hq]; exact Nat.le_trans (Nat.div_le_self _ _) hp
  obtain ⟨c1, hc1⟩ := hcs i hin
  obtain ⟨c2, hc2⟩ := hcs j hjn
  have hnz : ((n : Int) == 0) = false := by simp; omega
  have hmz : ¬ m < 1 := by omega
  have hlt : ¬ (p : Int) < (n : Int) := by omega
  have hnI : (1 : Int) ≤ (n : Int) := by omega
  have hr1 : (p : Int) % (n : Int) = (i : Int) := by rw [hi]; simp
  have hr2 : ((p : Int) * 7 + 3) % (n : Int) = (j : Int) := by rw [hj]; simp
  have hr3 : (p : Int) / (n : Int) = (q : Int) := by rw [hq]; simp
  have hr4 : (p : Int).tdiv (n : Int) = (q : Int) := by rw [Int.tdiv_eq_ediv_of_nonneg (by omega)]; exact hr3
  clear hi hj hq
  clear hc hcs
  go_enter Tryz.func27, Tryz.ntmps27
  go_wp2_with fail
  obtain ⟨K, hK⟩ := mix_nat c1.toNat c2.toNat p q c1.toNat_lt c2.toNat_lt hp hqn
  have HK := Lib.hid hK
  clear hK
  go_region
  go_wp2
  go_ret
  have e1 : (0 : Int) ≤ (K : Int) % m := Int.emod_nonneg _ (by omega)
  have e2 : (K : Int) % m < m := Int.emod_lt_of_pos _ (by omega)
  refine ⟨⟨((K : Int) % m).toNat, ?_, by omega⟩, rfl⟩
  rw [Int.toNat_of_nonneg e1, ← Int.tmod_eq_emod_of_nonneg (show (0 : Int) ≤ (K : Int) by omega), ← HK.out]
  rfl

end Go.Proofs.YtgfkiljkpkfapaaGreatDoor

/- What a reader gives at each pick, and what one in so many says. Conditions: the reader is there; its place is small. -/
namespace Go.Proofs.YtgfkiljkpkfapaaGreatDoor
open Go.RowKit

theorem rd_set {R n cap p B L : Nat} {ao : Option Addr} {w : World} {u : Int} (hu : u = (p : Int) + 1) (hp : p ≤ L) (hb : B ≤ R) (hn : n ≤ 2000) (h0 : w.cell? ⟨R, 0, none⟩ = some (.slice ao n cap)) (h1 : w.cell? ⟨R, 1, none⟩ = some (.int .i64 (p : Int))) (f1 : w.frozen? ⟨R, 1, none⟩ = false)
    (hc : n = 0 ∨ ∃ x, ao = some x ∧ x.block < B ∧ ∀ i, i < n → ∃ c : UInt8, w.cell? (x.add i) = some (.int .u8 (c.toNat : Int))) : Rd B R (L + 1) (w.setCell ⟨R, 1, none⟩ (.int .i64 u)) := by
  have n01 : (⟨R, 0, none⟩ : Addr) ≠ ⟨R, 1, none⟩ := by intro e; injection e with _ e2; omega
  have hu' : u = ((p + 1 : Nat) : Int) := by omega
  have hx : ∀ x : Addr, x.block < B → ∀ i, x.add i ≠ ⟨R, 1, none⟩ := by
    intro x hxb i e
    have h2 := congrArg Addr.block e
    rw [addr_block] at h2
    simp only at h2
    omega
  have e1 : (w.setCell ⟨R, 1, none⟩ (.int .i64 u)).cell? ⟨R, 1, none⟩ = some (.int .i64 ((p + 1 : Nat) : Int)) := by
    rw [World.cell?_setCell_same w ⟨R, 1, none⟩ (.int .i64 u) h1, hu']
  have e0 : (w.setCell ⟨R, 1, none⟩ (.int .i64 u)).cell? ⟨R, 0, none⟩ = some (.slice ao n cap) := (World.cell?_setCell_other w ⟨R, 1, none⟩ ⟨R, 0, none⟩ _ n01.symm).trans h0
  have e2 : (w.setCell ⟨R, 1, none⟩ (.int .i64 u)).frozen? ⟨R, 1, none⟩ = false := by rw [World.frozen?_setCell]; exact f1
  refine ⟨ao, n, cap, p + 1, Nat.succ_le_succ hp, hb, hn, e0, e1, e2, ?_⟩
  rcases hc with hc | ⟨x, hxa, hxb, hc⟩
  · exact .inl hc
  · refine .inr ⟨x, hxa, hxb, fun i hi => ?_⟩
    obtain ⟨c, hc⟩ := hc i hi
    exact ⟨c, (World.cell?_setCell_other w ⟨R, 1, none⟩ (x.add i) _ (hx x hxb i).symm).trans hc⟩
theorem rd_drew {B R L : Nat} {w : World} (h : Rd B R L w) : Rd B R L w.drew := h

/-- At each pick: some number below the bound, or nought; nothing but the reader's place turns. -/
theorem pick_any (m : Int) (B R L : Nat) (w : World) (h : Rd B R L w) (hL : L ≤ 1000000) :
    Calls Tryz.prog 27 #[.pointer (some ⟨R, 0, none⟩), .int .i64 m] w fun e w' => ∃ k : Nat, e = .returned (.int .i64 (k : Int)) ∧ ((k : Int) < m ∨ k = 0) ∧ w.grownBy w' (some R) ∧ Rd B R (L + 1) w' := by
  obtain ⟨ao, n, cap, p, hp, hb, hn, h0, h1, f1, hc⟩ := h
  have hrd := rd_set (u := (p : Int) + 1) rfl hp hb hn h0 h1 f1 hc
  by_cases hz : m < 1 ∨ n = 0
  · refine (pick_zero m R n cap p ao w (by omega) h0 h1 f1 hz).mono ?_
    rintro e w' ⟨rfl, rfl⟩
    exact ⟨0, rfl, .inr rfl, grown_set _ _ _ _, hrd⟩
  · rcases hc with hc | ⟨x, rfl, hxb, hc⟩
    · omega
    · by_cases hpn : p < n
      · obtain ⟨c, hcc⟩ := hc p hpn
        refine (pick_in m R n cap p x c w (by omega) (by omega) hpn h0 h1 f1 (by omega) hcc).mono ?_
        rintro e w' ⟨⟨k, rfl, hk⟩, rfl⟩
        exact ⟨k, rfl, .inl hk, grown_set _ _ _ _, hrd⟩
      · refine (pick_mix m R n cap p x w (by omega) (by omega) hn (by omega) (by omega) h0 h1 f1 (by omega) hc).mono ?_
        rintro e w' ⟨⟨k, rfl, hk⟩, rfl⟩
        exact ⟨k, rfl, .inl hk, (grown_set w R 1 _).trans ⟨rfl, rfl, rfl, Nat.le_refl _, fun _ _ _ => rfl⟩, rd_drew hrd⟩

/-- What leaves the reader alone leaves it there. -/
theorem rd_kept {B R L : Nat} {w w' : World} {row : Option Nat} (h : Rd B R L w) (hg : w.grownBy w' row) (hr : ∀ b, row = some b → B ≤ b ∧ b ≠ R) : Rd B R L w' := by
  have hlt := h.lt
  obtain ⟨ao, n, cap, p, hp, hb, hn, h0, h1, f1, hc⟩ := h
  have hR : some R ≠ row := fun e => (hr R e.symm).2 rfl
  refine ⟨ao, n, cap, p, hp, hb, hn, hg.cell h0 hR, hg.cell h1 hR, (World.frozen?_of_block (hg.block R hlt hR)).trans f1, ?_⟩
  rcases hc with hc | ⟨x, hxa, hxb, hc⟩
  · exact .inl hc
  · refine .inr ⟨x, hxa, hxb, fun i hi => ?_⟩
    obtain ⟨c, hc⟩ := hc i hi
    refine ⟨c, hg.cell hc fun e => ?_⟩
    rw [addr_block] at e
    have := (hr _ e.symm).1
    omega
theorem rd_alloc {B R L : Nat} {w : World} (h : Rd B R L w) (o : Obj) : Rd B R L (w.alloc o) := rd_kept h (World.grownBy_alloc w o none) (fun b e => by cases e)
theorem rd_put {B R L : Nat} {w : World} (h : Rd B R L w) {b i : Nat} (v : Value) (hb : B ≤ b) (hne : b ≠ R) : Rd B R L (w.setCell ⟨b, i, none⟩ v) :=
  rd_kept h (grown_set w b i v) (fun j e => by cases e; exact ⟨hb, hne⟩)
theorem rd_below {B R L B0 : Nat} {w w' : World} (h : Rd B R L w) (hb : Below B0 w w') (hB : w.heap.size ≤ B0) : Rd B R L w' := by
  have hlt := h.lt
  obtain ⟨ao, n, cap, p, hp, hbR, hn, h0, h1, f1, hc⟩ := h
  refine ⟨ao, n, cap, p, hp, hbR, hn, (hb.cell (p := ⟨R, 0, none⟩) (by simp only; omega)).trans h0, (hb.cell (p := ⟨R, 1, none⟩) (by simp only; omega)).trans h1, (hb.frozen (p := ⟨R, 1, none⟩) (by simp only; omega)).trans f1, ?_⟩
  rcases hc with hc | ⟨x, hxa, hxb, hc⟩
  · exact .inl hc
  · refine .inr ⟨x, hxa, hxb, fun i hi => ?_⟩
    obtain ⟨c, hc⟩ := hc i hi
    exact ⟨c, (hb.cell (p := x.add i) (by rw [addr_block]; omega)).trans hc⟩
/-- What a step that turns the reader alone says of the cells of other older blocks. -/
theorem gcell {w w' : World} {R : Nat} (hg : w.grownBy w' (some R)) {b : Nat} (hb : b < w.heap.size) (hne : b ≠ R) (i : Nat) : w'.cell? ⟨b, i, none⟩ = w.cell? ⟨b, i, none⟩ ∧ w'.frozen? ⟨b, i, none⟩ = w.frozen? ⟨b, i, none⟩ := by
  have e := hg.block b hb (fun e => by cases e; exact hne rfl)
  exact ⟨by simp [World.cell?, e], World.frozen?_of_block e⟩
theorem grown_new {w w' : World} {R : Nat} (hg : w.grownBy w' (some R)) {b : Nat} (i : Nat) (v : Value) (hb : w.heap.size ≤ b) : w.grownBy (w'.setCell ⟨b, i, none⟩ v) (some R) :=
  hg.andThen (grown_set w' b i v) (fun j e => by cases e; exact .inl hb)
theorem grown_alloc {w w' : World} {R : Nat} (hg : w.grownBy w' (some R)) (o : Obj) : w.grownBy (w'.alloc o) (some R) := hg.trans (World.grownBy_alloc w' o _)

set_option maxRecDepth 100000 in
set_option maxHeartbeats 800000 in
theorem odd_any (m : Int) (B R L : Nat) (w : World) (h : Rd B R L w) (hL : L ≤ 999990) (hm : 0 ≤ m) (hm2 : m ≤ 1000000) :
    Calls Tryz.prog 28 #[.pointer (some ⟨R, 0, none⟩), .int .i64 m] w fun e w' => ∃ b : Bool, e = .returned (.bool b) ∧ w.grownBy w' (some R) ∧ Rd B R (L + 1) w' := by
  have H := Lib.hid h
  clear h
  by_cases h9 : m < 9000
  · go_enter Tryz.func28, Tryz.ntmps28
    go_wp2_with (go_at_call 27; refine (pick_any m B R L _ H.out (by omega)).mono ?_; rintro e w1 ⟨k, rfl, hk, hg, hr⟩)
    go_ret
    exact ⟨_, rfl, hg, hr⟩
  · go_enter Tryz.func28, Tryz.ntmps28
    go_wp2_with fail
    go_ret
    exact ⟨.inl rfl, World.grownBy.refl _ _, H.out.mono (by omega)⟩

set_option maxRecDepth 100000 in
set_option maxHeartbeats 1600000 in
theorem in_any (B R L : Nat) (w : World) (h : Rd B R L w) (hL : L ≤ 999990) :
    Calls Tryz.prog 70 #[.pointer (some ⟨R, 0, none⟩)] w fun e w' => ∃ a p : Int, e = .returned (.agg #[.int .i64 a, .int .i64 p]) ∧ w.grownBy w' (some R) ∧ Rd B R (L + 3) w' := by
  have hR := h.lt
  have hBR := h.base
  have H := Lib.hid h
  clear h
  go_enter Tryz.func70, Tryz.ntmps70
  go_wp2_with fail
  (go_at_call 27; refine (pick_any 4 B R L _ (rd_alloc H.out _) (by omega)).mono ?_; rintro e w1 ⟨k1, rfl, hk1, g1, r1⟩)
  have R1 := Lib.hid r1
  have G1 := Lib.hid g1
  have s1 := g1.size
  clear r1 g1
  go_wp2_with fail
  (go_at_call 27; refine (pick_any 40 B R (L + 1) _ R1.out (by omega)).mono ?_; rintro e w2 ⟨k2, rfl, hk2, g2, r2⟩)
  have R2 := Lib.hid r2
  have G2 := Lib.hid g2
  have s2 := g2.size
  clear r2 g2
  go_wp2_with fail
  (go_at_call 27; refine (pick_any 5 B R (L + 2) _ (rd_alloc R2.out _) (by omega)).mono ?_; rintro e w3 ⟨k3, rfl, hk3, g3, r3⟩)
  have hk5 : k3 < 5 := by omega
  simp only [World.size_alloc] at s1
  obtain ⟨v, hv⟩ : ∃ v : Int, w3.cell? ⟨w2.heap.size, k3, none⟩ = some (.int .i64 v) := by
    rw [(gcell g3 (by simp) (by omega) k3).1, (cell_new _ _ _ _).1]
    match k3, hk5 with
    | 0, _ => exact ⟨_, rfl⟩
    | 1, _ => exact ⟨_, rfl⟩
    | 2, _ => exact ⟨_, rfl⟩
    | 3, _ => exact ⟨_, rfl⟩
    | 4, _ => exact ⟨_, rfl⟩
  have gAll : w.grownBy w3 (some R) := (((World.grownBy_alloc w _ _).trans G1.out).trans G2.out).trans ((World.grownBy_alloc w2 _ _).trans g3)
  have q : ∀ i, w3.cell? ⟨w.heap.size, i, none⟩ = (w.alloc (.cells #[.int .i64 0, .int .i64 0] 31)).cell? ⟨w.heap.size, i, none⟩ ∧ w3.frozen? ⟨w.heap.size, i, none⟩ = (w.alloc (.cells #[.int .i64 0, .int .i64 0] 31)).frozen? ⟨w.heap.size, i, none⟩ := fun i =>
    gcell ((G1.out.trans G2.out).trans ((World.grownBy_alloc w2 _ _).trans g3)) (by simp) (by omega) i
  have c0 : w3.cell? ⟨w.heap.size, 0, none⟩ = some (.int .i64 0) := by rw [(q 0).1]; simp
  have c1 : w3.cell? ⟨w.heap.size, 1, none⟩ = some (.int .i64 0) := by rw [(q 1).1]; simp
  have f0 : w3.frozen? ⟨w.heap.size, 0, none⟩ = false := by rw [(q 0).2]; simp
  have f1 : w3.frozen? ⟨w.heap.size, 1, none⟩ = false := by rw [(q 1).2]; simp
  have R3 := Lib.hid r3
  have G3 := Lib.hid gAll
  have hk6 : (k3 : Int) < 5 := by omega
  clear r3 g3 gAll q hk3
  go_wp2_with fail
  obtain ⟨q0, q1, q2⟩ := set_two (w := w3) (b := w.heap.size) (x := .int .i64 0) (y := .int .i64 0) (.int .i64 (1 + (k1 : Int))) (.int .i64 v) c0 c1
  refine bodyPost_ret (v := .agg #[.int .i64 (1 + (k1 : Int)), .int .i64 v]) (by simp [results, Tryz.results70, go_sem, q1, q2]) rfl ⟨_, _, rfl, ?_, ?_⟩
  · exact grown_new (grown_new G3.out _ _ (Nat.le_refl _)) _ _ (Nat.le_refl _)
  · exact rd_put (rd_put R3.out _ (by omega) (by omega)) _ (by omega) (by omega)

end Go.Proofs.YtgfkiljkpkfapaaGreatDoor

/- The ends that are drawn: some end, or what is none; nothing but the reader's place turns. Conditions: the reader is there; its place is small. -/
namespace Go.Proofs.YtgfkiljkpkfapaaGreatDoor
open Go.RowKit

set_option maxRecDepth 100000 in
set_option maxHeartbeats 1600000 in
theorem out_any (B R L : Nat) (w : World) (h : Rd B R L w) (hL : L ≤ 999990) :
    Calls Tryz.prog 71 #[.pointer (some ⟨R, 0, none⟩)] w fun e w' => ∃ a p : Int, e = .returned (.agg #[.int .i64 a, .int .i64 p]) ∧ w.grownBy w' (some R) ∧ Rd B R (L + 2) w' := by
  have hR := h.lt
  have hBR := h.base
  have H := Lib.hid h
  clear h
  go_enter Tryz.func71, Tryz.ntmps71
  go_wp2_with fail
  (go_at_call 27; refine (pick_any 3 B R L _ (rd_alloc H.out _) (by omega)).mono ?_; rintro e w2 ⟨k1, rfl, hk1, g2, r2⟩)
  have R2 := Lib.hid r2
  have G2 := Lib.hid g2
  have s2 := g2.size
  clear r2 g2
  go_wp2_with fail
  (go_at_call 27; refine (pick_any 4 B R (L + 1) _ (rd_alloc R2.out _) (by omega)).mono ?_; rintro e w3 ⟨k3, rfl, hk3, g3, r3⟩)
  have hk5 : k3 < 4 := by omega
  simp only [World.size_alloc] at s2
  obtain ⟨v, hv⟩ : ∃ v : Int, w3.cell? ⟨w2.heap.size, k3, none⟩ = some (.int .i64 v) := by
    rw [(gcell g3 (by simp) (by omega) k3).1, (cell_new _ _ _ _).1]
    match k3, hk5 with
    | 0, _ => exact ⟨_, rfl⟩
    | 1, _ => exact ⟨_, rfl⟩
    | 2, _ => exact ⟨_, rfl⟩
    | 3, _ => exact ⟨_, rfl⟩
  have gAll : w.grownBy w3 (some R) := ((World.grownBy_alloc w _ _).trans G2.out).trans ((World.grownBy_alloc w2 _ _).trans g3)
  have q : ∀ i, w3.cell? ⟨w.heap.size, i, none⟩ = (w.alloc (.cells #[.int .i64 0, .int .i64 0] 31)).cell? ⟨w.heap.size, i, none⟩ ∧ w3.frozen? ⟨w.heap.size, i, none⟩ = (w.alloc (.cells #[.int .i64 0, .int .i64 0] 31)).frozen? ⟨w.heap.size, i, none⟩ := fun i =>
    gcell (G2.out.trans ((World.grownBy_alloc w2 _ _).trans g3)) (by simp) (by omega) i
  have c0 : w3.cell? ⟨w.heap.size, 0, none⟩ = some (.int .i64 0) := by rw [(q 0).1]; simp
  have c1 : w3.cell? ⟨w.heap.size, 1, none⟩ = some (.int .i64 0) := by rw [(q 1).1]; simp
  have f0 : w3.frozen? ⟨w.heap.size, 0, none⟩ = false := by rw [(q 0).2]; simp
  have f1 : w3.frozen? ⟨w.heap.size, 1, none⟩ = false := by rw [(q 1).2]; simp
  have R3 := Lib.hid r3
  have G3 := Lib.hid gAll
  have hk6 : (k3 : Int) < 4 := by omega
  clear r3 g3 gAll q hk3
  go_wp2_with fail
  obtain ⟨q0, q1, q2⟩ := set_two (w := w3) (b := w.heap.size) (x := .int .i64 0) (y := .int .i64 0) (.int .i64 (100 + (k1 : Int))) (.int .i64 v) c0 c1
  refine bodyPost_ret (v := .agg #[.int .i64 (100 + (k1 : Int)), .int .i64 v]) (by simp [results, Tryz.results71, go_sem, q1, q2]) rfl ⟨_, _, rfl, ?_, ?_⟩
  · exact grown_new (grown_new G3.out _ _ (Nat.le_refl _)) _ _ (Nat.le_refl _)
  · exact rd_put (rd_put R3.out _ (by omega) (by omega)) _ (by omega) (by omega)

set_option maxRecDepth 100000 in
set_option maxHeartbeats 3200000 in
theorem end_any (m : Int) (B R L : Nat) (w : World) (h : Rd B R L w) (hL : L ≤ 999900) (hm : 0 ≤ m) (hm2 : m ≤ 1000000) :
    Calls Tryz.prog 68 #[.pointer (some ⟨R, 0, none⟩), .int .i64 m] w fun e w' => ∃ a p : Int, e = .returned (.agg #[.int .i64 a, .int .i64 p]) ∧ w.grownBy w' (some R) ∧ Rd B R (L + 8) w' := by
  have hR := h.lt
  have hBR := h.base
  have H := Lib.hid h
  clear h
  go_enter Tryz.func68, Tryz.ntmps68
  go_wp2_with fail
  (go_at_call 28; refine (odd_any m B R L _ (rd_alloc H.out _) (by omega) hm hm2).mono ?_; rintro e w1 ⟨b, rfl, g1, r1⟩)
  have R1 := Lib.hid r1
  have G1 := Lib.hid g1
  have s1 := g1.size
  simp only [World.size_alloc] at s1
  clear r1 g1
  cases b
  · go_wp2_with fail
    (go_at_call 70; refine (in_any B R (L + 1) _ R1.out (by omega)).mono ?_; rintro e w2 ⟨a1, p1, rfl, g2, r2⟩)
    have R2 := Lib.hid r2
    have G2 := Lib.hid g2
    have s2 := g2.size
    clear r2 g2
    go_wp2_with fail
    (go_at_call 71; refine (out_any B R (L + 4) _ R2.out (by omega)).mono ?_; rintro e w4 ⟨a2, p2, rfl, g4, r4⟩)
    have R4 := Lib.hid r4
    have G4 := Lib.hid g4
    have s4 := g4.size
    clear r4 g4
    go_wp2_with fail
    (go_at_call 27; refine (pick_any 7 B R (L + 6) _ R4.out (by omega)).mono ?_; rintro e w5 ⟨k5, rfl, hk5, g5, r5⟩)
    have R5 := Lib.hid r5
    have G5 := Lib.hid g5
    have s5 := g5.size
    clear r5 g5
    go_wp2_with fail
    (go_at_call 27; refine (pick_any 3 B R (L + 7) _ (rd_alloc R5.out _) (by omega)).mono ?_; rintro e w3 ⟨k3, rfl, hk3, g3, r3⟩)
    have hk7 : k3 < 3 := by omega
    obtain ⟨a, p, ha, hp⟩ : ∃ a p : Int, w3.cell? ⟨w5.heap.size, k3 * 2, none⟩ = some (.int .i64 a) ∧ w3.cell? ⟨w5.heap.size, k3 * 2 + 1, none⟩ = some (.int .i64 p) := by
      rw [(gcell g3 (by simp) (by omega) (k3 * 2)).1, (gcell g3 (by simp) (by omega) (k3 * 2 + 1)).1, (cell_new _ _ _ _).1, (cell_new _ _ _ _).1]
      match k3, hk7 with
      | 0, _ => exact ⟨_, _, rfl, rfl⟩
      | 1, _ => exact ⟨_, _, rfl, rfl⟩
      | 2, _ => exact ⟨_, _, rfl, rfl⟩
    have gT := ((G2.out.trans G4.out).trans G5.out).trans ((World.grownBy_alloc w5 _ _).trans g3)
    have gAll : w.grownBy w3 (some R) := ((World.grownBy_alloc w _ _).trans G1.out).trans gT
    have q : ∀ i, w3.cell? ⟨w.heap.size, i, none⟩ = (w.alloc (.cells #[.int .i64 0, .int .i64 0] 31)).cell? ⟨w.heap.size, i, none⟩ ∧ w3.frozen? ⟨w.heap.size, i, none⟩ = (w.alloc (.cells #[.int .i64 0, .int .i64 0] 31)).frozen? ⟨w.heap.size, i, none⟩ := fun i =>
      gcell (G1.out.trans gT) (by simp) (by omega) i
    have c0 : w3.cell? ⟨w.heap.size, 0, none⟩ = some (.int .i64 0) := by rw [(q 0).1]; simp
    have c1 : w3.cell? ⟨w.heap.size, 1, none⟩ = some (.int .i64 0) := by rw [(q 1).1]; simp
    have f0 : w3.frozen? ⟨w.heap.size, 0, none⟩ = false := by rw [(q 0).2]; simp
    have f1 : w3.frozen? ⟨w.heap.size, 1, none⟩ = false := by rw [(q 1).2]; simp
    have R3 := Lib.hid r3
    have G3 := Lib.hid gAll
    have hk6 : (k3 : Int) < 3 := by omega
    clear r3 g3 gAll gT q hk3
    go_wp2_with fail
    obtain ⟨q0, q1, q2⟩ := set_two (w := w3) (b := w.heap.size) (x := .int .i64 0) (y := .int .i64 0) (.int .i64 a) (.int .i64 p) c0 c1
    refine bodyPost_ret (v := .agg #[.int .i64 a, .int .i64 p]) (by simp [results, Tryz.results68, go_sem, q1, q2]) rfl ⟨_, _, rfl, ?_, ?_⟩
    · exact grown_new (grown_new G3.out _ _ (Nat.le_refl _)) _ _ (Nat.le_refl _)
    · exact rd_put (rd_put R3.out _ (by omega) (by omega)) _ (by omega) (by omega)
  · go_wp2_with fail
    (go_at_call 27; refine (pick_any 6 B R (L + 1) _ (rd_alloc R1.out _) (by omega)).mono ?_; rintro e w3 ⟨k3, rfl, hk3, g3, r3⟩)
    have hk5 : k3 < 6 := by omega
    obtain ⟨a, p, ha, hp⟩ : ∃ a p : Int, w3.cell? ⟨w1.heap.size, k3 * 2, none⟩ = some (.int .i64 a) ∧ w3.cell? ⟨w1.heap.size, k3 * 2 + 1, none⟩ = some (.int .i64 p) := by
      rw [(gcell g3 (by simp) (by omega) (k3 * 2)).1, (gcell g3 (by simp) (by omega) (k3 * 2 + 1)).1, (cell_new _ _ _ _).1, (cell_new _ _ _ _).1]
      match k3, hk5 with
      | 0, _ => exact ⟨_, _, rfl, rfl⟩
      | 1, _ => exact ⟨_, _, rfl, rfl⟩
      | 2, _ => exact ⟨_, _, rfl, rfl⟩
      | 3, _ => exact ⟨_, _, rfl, rfl⟩
      | 4, _ => exact ⟨_, _, rfl, rfl⟩
      | 5, _ => exact ⟨_, _, rfl, rfl⟩
    have gAll : w.grownBy w3 (some R) := ((World.grownBy_alloc w _ _).trans G1.out).trans ((World.grownBy_alloc w1 _ _).trans g3)
    have q : ∀ i, w3.cell? ⟨w.heap.size, i, none⟩ = (w.alloc (.cells #[.int .i64 0, .int .i64 0] 31)).cell? ⟨w.heap.size, i, none⟩ ∧ w3.frozen? ⟨w.heap.size, i, none⟩ = (w.alloc (.cells #[.int .i64 0, .int .i64 0] 31)).frozen? ⟨w.heap.size, i, none⟩ := fun i =>
      gcell (G1.out.trans ((World.grownBy_alloc w1 _ _).trans g3)) (by simp) (by omega) i
    have c0 : w3.cell? ⟨w.heap.size, 0, none⟩ = some (.int .i64 0) := by rw [(q 0).1]; simp
    have c1 : w3.cell? ⟨w.heap.size, 1, none⟩ = some (.int .i64 0) := by rw [(q 1).1]; simp
    have f0 : w3.frozen? ⟨w.heap.size, 0, none⟩ = false := by rw [(q 0).2]; simp
    have f1 : w3.frozen? ⟨w.heap.size, 1, none⟩ = false := by rw [(q 1).2]; simp
    have R3 := Lib.hid r3
    have G3 := Lib.hid gAll
    have hk6 : (k3 : Int) < 6 := by omega
    clear r3 g3 gAll q hk3
    go_wp2_with fail
    obtain ⟨q0, q1, q2⟩ := set_two (w := w3) (b := w.heap.size) (x := .int .i64 0) (y := .int .i64 0) (.int .i64 a) (.int .i64 p) c0 c1
    refine bodyPost_ret (v := .agg #[.int .i64 a, .int .i64 p]) (by simp [results, Tryz.results68, go_sem, q1, q2]) rfl ⟨_, _, rfl, ?_, ?_⟩
    · exact grown_new (grown_new G3.out _ _ (Nat.le_refl _)) _ _ (Nat.le_refl _)
    · exact rd_put (rd_put (R3.out.mono (by omega)) _ (by omega) (by omega)) _ (by omega) (by omega)

/-- A list of bytes that came in. -/
def BytesIn (w : World) (ao : Option Addr) (n : Nat) : Prop := n = 0 ∨ ∃ x, ao = some x ∧ x.block < w.heap.size ∧ ∀ i, i < n → ∃ c : UInt8, w.cell? (x.add i) = some (.int .u8 (c.toNat : Int))
theorem BytesIn.below {w w' : World} {ao : Option Addr} {n : Nat} (h : BytesIn w ao n) (hb : Below w.heap.size w w') : BytesIn w' ao n := by
  rcases h with h | ⟨x, hx, hl, hc⟩
  · exact .inl h
  · refine .inr ⟨x, hx, Nat.lt_of_lt_of_le hl hb.size, fun i hi => ?_⟩
    obtain ⟨c, hc⟩ := hc i hi
    exact ⟨c, (hb.cell (p := x.add i) (by rw [addr_block]; exact hl)).trans hc⟩
theorem rd_new {w : World} {ao : Option Addr} {n : Nat} (cap : Nat) (t : TypeId) (hn : n ≤ 2000) (h : BytesIn w ao n) : Rd w.heap.size w.heap.size 0 (w.alloc (.cells #[.slice ao n cap, .int .i64 0] t)) := by
  refine ⟨ao, n, cap, 0, Nat.le_refl _, Nat.le_refl _, hn, (cell_new w _ t 0).1, (cell_new w _ t 1).1, (cell_new w _ t 1).2, ?_⟩
  rcases h with h | ⟨x, hx, hb, hc⟩
  · exact .inl h
  · refine .inr ⟨x, hx, hb, fun i hi => ?_⟩
    obtain ⟨c, hc⟩ := hc i hi
    exact ⟨c, (World.cell?_alloc_old w _ (x.add i) (by rw [addr_block]; omega)).trans hc⟩

set_option maxRecDepth 100000 in
set_option maxHeartbeats 1600000 in
theorem open_any (ao : Option Addr) (n cap : Nat) (w : World) (h : BytesIn w ao n) (hn : n ≤ cap) :
    Calls Tryz.prog 24 #[.slice ao n cap] w fun e w' => ∃ R, e = .returned (.pointer (some ⟨R, 0, none⟩)) ∧ w.heap.size ≤ R ∧ Below w.heap.size w w' ∧ Rd w.heap.size R 0 w' := by
  have H := Lib.hid h
  clear h
  by_cases h2 : 2000 < n
  · obtain ⟨x, rfl⟩ : ∃ x, ao = some x := by
      rcases H.out with h | ⟨x, h, _⟩
      · omega
      · exact ⟨x, h⟩
    go_enter Tryz.func24, Tryz.ntmps24
    go_wp2_with fail
    go_ret
    refine ⟨_, rfl, Nat.le_refl _, (Below.refl _ _).alloc (Nat.le_refl _) _, rd_new _ _ (by omega) ?_⟩
    rcases H.out with h | ⟨x', hx, hb, hc⟩
    · omega
    · cases hx; exact .inr ⟨_, rfl, hb, fun i hi => hc i (by omega)⟩
  · go_enter Tryz.func24, Tryz.ntmps24
    go_wp2_with fail
    go_ret
    exact ⟨_, rfl, Nat.le_refl _, (Below.refl _ _).alloc (Nat.le_refl _) _, rd_new _ _ (by omega) H.out⟩

end Go.Proofs.YtgfkiljkpkfapaaGreatDoor

/- The ends that are drawn, and that their numbers are small. Conditions: the reader is there; its place is small. -/
namespace Go.Proofs.YtgfkiljkpkfapaaGreatDoor
open Go.RowKit

/-- Numbers of at most a million. -/
def Sm (a p : Int) : Prop := -1000000 ≤ a ∧ a ≤ 1000000 ∧ -1000000 ≤ p ∧ p ≤ 1000000
theorem Sm.wf {a p : Int} (h : Sm a p) : (Lit.int .i64 a).wf = true ∧ (Lit.int .i64 p).wf = true := by
  unfold Sm at h
  exact ⟨WalkArith.wf_i64 (by omega), WalkArith.wf_i64 (by omega)⟩

set_option maxRecDepth 100000 in
set_option maxHeartbeats 3200000 in
theorem in_sm (B R L : Nat) (w : World) (h : Rd B R L w) (hL : L ≤ 999990) :
    Calls Tryz.prog 70 #[.pointer (some ⟨R, 0, none⟩)] w fun e w' => ∃ a p : Int, e = .returned (.agg #[.int .i64 a, .int .i64 p]) ∧ w.grownBy w' (some R) ∧ Rd B R (L + 3) w' ∧ Sm a p := by
  have hR := h.lt
  have hBR := h.base
  have H := Lib.hid h
  clear h
  go_enter Tryz.func70, Tryz.ntmps70
  go_wp2_with fail
  (go_at_call 27; refine (pick_any 4 B R L _ (rd_alloc H.out _) (by omega)).mono ?_; rintro e w1 ⟨k1, rfl, hk1, g1, r1⟩)
  have R1 := Lib.hid r1
  have G1 := Lib.hid g1
  have s1 := g1.size
  clear r1 g1
  go_wp2_with fail
  (go_at_call 27; refine (pick_any 40 B R (L + 1) _ R1.out (by omega)).mono ?_; rintro e w2 ⟨k2, rfl, hk2, g2, r2⟩)
  have R2 := Lib.hid r2
  have G2 := Lib.hid g2
  have s2 := g2.size
  clear r2 g2
  go_wp2_with fail
  (go_at_call 27; refine (pick_any 5 B R (L + 2) _ (rd_alloc R2.out _) (by omega)).mono ?_; rintro e w3 ⟨k3, rfl, hk3, g3, r3⟩)
  have hk5 : k3 < 5 := by omega
  simp only [World.size_alloc] at s1
  obtain ⟨v, hv, hsv⟩ : ∃ v : Int, w3.cell? ⟨w2.heap.size, k3, none⟩ = some (.int .i64 v) ∧ -1000000 ≤ v ∧ v ≤ 1000000 := by
    rw [(gcell g3 (by simp) (by omega) k3).1, (cell_new _ _ _ _).1]
    match k3, hk5 with
    | 0, _ => exact ⟨_, rfl, by first | omega | decide, by first | omega | decide⟩
    | 1, _ => exact ⟨_, rfl, by first | omega | decide, by first | omega | decide⟩
    | 2, _ => exact ⟨_, rfl, by first | omega | decide, by first | omega | decide⟩
    | 3, _ => exact ⟨_, rfl, by first | omega | decide, by first | omega | decide⟩
    | 4, _ => exact ⟨_, rfl, by first | omega | decide, by first | omega | decide⟩
  have gAll : w.grownBy w3 (some R) := (((World.grownBy_alloc w _ _).trans G1.out).trans G2.out).trans ((World.grownBy_alloc w2 _ _).trans g3)
  have q : ∀ i, w3.cell? ⟨w.heap.size, i, none⟩ = (w.alloc (.cells #[.int .i64 0, .int .i64 0] 31)).cell? ⟨w.heap.size, i, none⟩ ∧ w3.frozen? ⟨w.heap.size, i, none⟩ = (w.alloc (.cells #[.int .i64 0, .int .i64 0] 31)).frozen? ⟨w.heap.size, i, none⟩ := fun i =>
    gcell ((G1.out.trans G2.out).trans ((World.grownBy_alloc w2 _ _).trans g3)) (by simp) (by omega) i
  have c0 : w3.cell? ⟨w.heap.size, 0, none⟩ = some (.int .i64 0) := by rw [(q 0).1]; simp
  have c1 : w3.cell? ⟨w.heap.size, 1, none⟩ = some (.int .i64 0) := by rw [(q 1).1]; simp
  have f0 : w3.frozen? ⟨w.heap.size, 0, none⟩ = false := by rw [(q 0).2]; simp
  have f1 : w3.frozen? ⟨w.heap.size, 1, none⟩ = false := by rw [(q 1).2]; simp
  have R3 := Lib.hid r3
  have G3 := Lib.hid gAll
  have hk6 : (k3 : Int) < 5 := by omega
  clear r3 g3 gAll q hk3
  go_wp2_with fail
  obtain ⟨q0, q1, q2⟩ := set_two (w := w3) (b := w.heap.size) (x := .int .i64 0) (y := .int .i64 0) (.int .i64 (1 + (k1 : Int))) (.int .i64 v) c0 c1
  refine bodyPost_ret (v := .agg #[.int .i64 (1 + (k1 : Int)), .int .i64 v]) (by simp [results, Tryz.results70, go_sem, q1, q2]) rfl ⟨_, _, rfl, ?_, ?_, ?_⟩
  · exact grown_new (grown_new G3.out _ _ (Nat.le_refl _)) _ _ (Nat.le_refl _)
  · exact rd_put (rd_put R3.out _ (by omega) (by omega)) _ (by omega) (by omega)
  · first | exact hsm | (unfold Sm; omega)

set_option maxRecDepth 100000 in
set_option maxHeartbeats 3200000 in
theorem out_sm (B R L : Nat) (w : World) (h : Rd B R L w) (hL : L ≤ 999990) :
    Calls Tryz.prog 71 #[.pointer (some ⟨R, 0, none⟩)] w fun e w' => ∃ a p : Int, e = .returned (.agg #[.int .i64 a, .int .i64 p]) ∧ w.grownBy w' (some R) ∧ Rd B R (L + 2) w' ∧ Sm a p := by
  have hR := h.lt
  have hBR := h.base
  have H := Lib.hid h
  clear h
  go_enter Tryz.func71, Tryz.ntmps71
  go_wp2_with fail
  (go_at_call 27; refine (pick_any 3 B R L _ (rd_alloc H.out _) (by omega)).mono ?_; rintro e w2 ⟨k1, rfl, hk1, g2, r2⟩)
  have R2 := Lib.hid r2
  have G2 := Lib.hid g2
  have s2 := g2.size
  clear r2 g2
  go_wp2_with fail
  (go_at_call 27; refine (pick_any 4 B R (L + 1) _ (rd_alloc R2.out _) (by omega)).mono ?_; rintro e w3 ⟨k3, rfl, hk3, g3, r3⟩)
  have hk5 : k3 < 4 := by omega
  simp only [World.size_alloc] at s2
  obtain ⟨v, hv, hsv⟩ : ∃ v : Int, w3.cell? ⟨w2.heap.size, k3, none⟩ = some (.int .i64 v) ∧ -1000000 ≤ v ∧ v ≤ 1000000 := by
    rw [(gcell g3 (by simp) (by omega) k3).1, (cell_new _ _ _ _).1]
    match k3, hk5 with
    | 0, _ => exact ⟨_, rfl, by first | omega | decide, by first | omega | decide⟩
    | 1, _ => exact ⟨_, rfl, by first | omega | decide, by first | omega | decide⟩
    | 2, _ => exact ⟨_, rfl, by first | omega | decide, by first | omega | decide⟩
    | 3, _ => exact ⟨_, rfl, by first | omega | decide, by first | omega | decide⟩
  have gAll : w.grownBy w3 (some R) := ((World.grownBy_alloc w _ _).trans G2.out).trans ((World.grownBy_alloc w2 _ _).trans g3)
  have q : ∀ i, w3.cell? ⟨w.heap.size, i, none⟩ = (w.alloc (.cells #[.int .i64 0, .int .i64 0] 31)).cell? ⟨w.heap.size, i, none⟩ ∧ w3.frozen? ⟨w.heap.size, i, none⟩ = (w.alloc (.cells #[.int .i64 0, .int .i64 0] 31)).frozen? ⟨w.heap.size, i, none⟩ := fun i =>
    gcell (G2.out.trans ((World.grownBy_alloc w2 _ _).trans g3)) (by simp) (by omega) i
  have c0 : w3.cell? ⟨w.heap.size, 0, none⟩ = some (.int .i64 0) := by rw [(q 0).1]; simp
  have c1 : w3.cell? ⟨w.heap.size, 1, none⟩ = some (.int .i64 0) := by rw [(q 1).1]; simp
  have f0 : w3.frozen? ⟨w.heap.size, 0, none⟩ = false := by rw [(q 0).2]; simp
  have f1 : w3.frozen? ⟨w.heap.size, 1, none⟩ = false := by rw [(q 1).2]; simp
  have R3 := Lib.hid r3
  have G3 := Lib.hid gAll
  have hk6 : (k3 : Int) < 4 := by omega
  clear r3 g3 gAll q hk3
  go_wp2_with fail
  obtain ⟨q0, q1, q2⟩ := set_two (w := w3) (b := w.heap.size) (x := .int .i64 0) (y := .int .i64 0) (.int .i64 (100 + (k1 : Int))) (.int .i64 v) c0 c1
  refine bodyPost_ret (v := .agg #[.int .i64 (100 + (k1 : Int)), .int .i64 v]) (by simp [results, Tryz.results71, go_sem, q1, q2]) rfl ⟨_, _, rfl, ?_, ?_, ?_⟩
  · exact grown_new (grown_new G3.out _ _ (Nat.le_refl _)) _ _ (Nat.le_refl _)
  · exact rd_put (rd_put R3.out _ (by omega) (by omega)) _ (by omega) (by omega)
  · first | exact hsm | (unfold Sm; omega)

set_option maxRecDepth 100000 in
set_option maxHeartbeats 3200000 in
theorem end_sm (m : Int) (B R L : Nat) (w : World) (h : Rd B R L w) (hL : L ≤ 999900) (hm : 0 ≤ m) (hm2 : m ≤ 1000000) :
    Calls Tryz.prog 68 #[.pointer (some ⟨R, 0, none⟩), .int .i64 m] w fun e w' => ∃ a p : Int, e = .returned (.agg #[.int .i64 a, .int .i64 p]) ∧ w.grownBy w' (some R) ∧ Rd B R (L + 8) w' ∧ Sm a p := by
  have hR := h.lt
  have hBR := h.base
  have H := Lib.hid h
  clear h
  go_enter Tryz.func68, Tryz.ntmps68
  go_wp2_with fail
  (go_at_call 28; refine (odd_any m B R L _ (rd_alloc H.out _) (by omega) hm hm2).mono ?_; rintro e w1 ⟨b, rfl, g1, r1⟩)
  have R1 := Lib.hid r1
  have G1 := Lib.hid g1
  have s1 := g1.size
  simp only [World.size_alloc] at s1
  clear r1 g1
  cases b
  · go_wp2_with fail
    (go_at_call 70; refine (in_sm B R (L + 1) _ R1.out (by omega)).mono ?_; rintro e w2 ⟨a1, p1, rfl, g2, r2, Q1⟩)
    have R2 := Lib.hid r2
    have G2 := Lib.hid g2
    have s2 := g2.size
    clear r2 g2
    go_wp2_with fail
    (go_at_call 71; refine (out_sm B R (L + 4) _ R2.out (by omega)).mono ?_; rintro e w4 ⟨a2, p2, rfl, g4, r4, Q2⟩)
    have R4 := Lib.hid r4
    have G4 := Lib.hid g4
    have s4 := g4.size
    clear r4 g4
    go_wp2_with fail
    (go_at_call 27; refine (pick_any 7 B R (L + 6) _ R4.out (by omega)).mono ?_; rintro e w5 ⟨k5, rfl, hk5, g5, r5⟩)
    have R5 := Lib.hid r5
    have G5 := Lib.hid g5
    have s5 := g5.size
    clear r5 g5
    go_wp2_with fail
    (go_at_call 27; refine (pick_any 3 B R (L + 7) _ (rd_alloc R5.out _) (by omega)).mono ?_; rintro e w3 ⟨k3, rfl, hk3, g3, r3⟩)
    have hk7 : k3 < 3 := by omega
    obtain ⟨a, p, ha, hp, hsm⟩ : ∃ a p : Int, w3.cell? ⟨w5.heap.size, k3 * 2, none⟩ = some (.int .i64 a) ∧ w3.cell? ⟨w5.heap.size, k3 * 2 + 1, none⟩ = some (.int .i64 p) ∧ Sm a p := by
      rw [(gcell g3 (by simp) (by omega) (k3 * 2)).1, (gcell g3 (by simp) (by omega) (k3 * 2 + 1)).1, (cell_new _ _ _ _).1, (cell_new _ _ _ _).1]
      match k3, hk7 with
      | 0, _ => exact ⟨_, _, rfl, rfl, by first | exact Q1 | exact Q2 | (unfold Sm; omega) | (unfold Sm; decide)⟩
      | 1, _ => exact ⟨_, _, rfl, rfl, by first | exact Q1 | exact Q2 | (unfold Sm; omega) | (unfold Sm; decide)⟩
      | 2, _ => exact ⟨_, _, rfl, rfl, by first | exact Q1 | exact Q2 | (unfold Sm; omega) | (unfold Sm; decide)⟩
    have gT := ((G2.out.trans G4.out).trans G5.out).trans ((World.grownBy_alloc w5 _ _).trans g3)
    have gAll : w.grownBy w3 (some R) := ((World.grownBy_alloc w _ _).trans G1.out).trans gT
    have q : ∀ i, w3.cell? ⟨w.heap.size, i, none⟩ = (w.alloc (.cells #[.int .i64 0, .int .i64 0] 31)).cell? ⟨w.heap.size, i, none⟩ ∧ w3.frozen? ⟨w.heap.size, i, none⟩ = (w.alloc (.cells #[.int .i64 0, .int .i64 0] 31)).frozen? ⟨w.heap.size, i, none⟩ := fun i =>
      gcell (G1.out.trans gT) (by simp) (by omega) i
    have c0 : w3.cell? ⟨w.heap.size, 0, none⟩ = some (.int .i64 0) := by rw [(q 0).1]; simp
    have c1 : w3.cell? ⟨w.heap.size, 1, none⟩ = some (.int .i64 0) := by rw [(q 1).1]; simp
    have f0 : w3.frozen? ⟨w.heap.size, 0, none⟩ = false := by rw [(q 0).2]; simp
    have f1 : w3.frozen? ⟨w.heap.size, 1, none⟩ = false := by rw [(q 1).2]; simp
    have R3 := Lib.hid r3
    have G3 := Lib.hid gAll
    have hk6 : (k3 : Int) < 3 := by omega
    clear r3 g3 gAll gT q hk3
    go_wp2_with fail
    obtain ⟨q0, q1, q2⟩ := set_two (w := w3) (b := w.heap.size) (x := .int .i64 0) (y := .int .i64 0) (.int .i64 a) (.int .i64 p) c0 c1
    refine bodyPost_ret (v := .agg #[.int .i64 a, .int .i64 p]) (by simp [results, Tryz.results68, go_sem, q1, q2]) rfl ⟨_, _, rfl, ?_, ?_, ?_⟩
    · exact grown_new (grown_new G3.out _ _ (Nat.le_refl _)) _ _ (Nat.le_refl _)
    · exact rd_put (rd_put R3.out _ (by omega) (by omega)) _ (by omega) (by omega)
    · first | exact hsm | (unfold Sm; omega)
  · go_wp2_with fail
    (go_at_call 27; refine (pick_any 6 B R (L + 1) _ (rd_alloc R1.out _) (by omega)).mono ?_; rintro e w3 ⟨k3, rfl, hk3, g3, r3⟩)
    have hk5 : k3 < 6 := by omega
    obtain ⟨a, p, ha, hp, hsm⟩ : ∃ a p : Int, w3.cell? ⟨w1.heap.size, k3 * 2, none⟩ = some (.int .i64 a) ∧ w3.cell? ⟨w1.heap.size, k3 * 2 + 1, none⟩ = some (.int .i64 p) ∧ Sm a p := by
      rw [(gcell g3 (by simp) (by omega) (k3 * 2)).1, (gcell g3 (by simp) (by omega) (k3 * 2 + 1)).1, (cell_new _ _ _ _).1, (cell_new _ _ _ _).1]
      match k3, hk5 with
      | 0, _ => exact ⟨_, _, rfl, rfl, by first | exact Q1 | exact Q2 | (unfold Sm; omega) | (unfold Sm; decide)⟩
      | 1, _ => exact ⟨_, _, rfl, rfl, by first | exact Q1 | exact Q2 | (unfold Sm; omega) | (unfold Sm; decide)⟩
      | 2, _ => exact ⟨_, _, rfl, rfl, by first | exact Q1 | exact Q2 | (unfold Sm; omega) | (unfold Sm; decide)⟩
      | 3, _ => exact ⟨_, _, rfl, rfl, by first | exact Q1 | exact Q2 | (unfold Sm; omega) | (unfold Sm; decide)⟩
      | 4, _ => exact ⟨_, _, rfl, rfl, by first | exact Q1 | exact Q2 | (unfold Sm; omega) | (unfold Sm; decide)⟩
      | 5, _ => exact ⟨_, _, rfl, rfl, by first | exact Q1 | exact Q2 | (unfold Sm; omega) | (unfold Sm; decide)⟩
    have gAll : w.grownBy w3 (some R) := ((World.grownBy_alloc w _ _).trans G1.out).trans ((World.grownBy_alloc w1 _ _).trans g3)
    have q : ∀ i, w3.cell? ⟨w.heap.size, i, none⟩ = (w.alloc (.cells #[.int .i64 0, .int .i64 0] 31)).cell? ⟨w.heap.size, i, none⟩ ∧ w3.frozen? ⟨w.heap.size, i, none⟩ = (w.alloc (.cells #[.int .i64 0, .int .i64 0] 31)).frozen? ⟨w.heap.size, i, none⟩ := fun i =>
      gcell (G1.out.trans ((World.grownBy_alloc w1 _ _).trans g3)) (by simp) (by omega) i
    have c0 : w3.cell? ⟨w.heap.size, 0, none⟩ = some (.int .i64 0) := by rw [(q 0).1]; simp
    have c1 : w3.cell? ⟨w.heap.size, 1, none⟩ = some (.int .i64 0) := by rw [(q 1).1]; simp
    have f0 : w3.frozen? ⟨w.heap.size, 0, none⟩ = false := by rw [(q 0).2]; simp
    have f1 : w3.frozen? ⟨w.heap.size, 1, none⟩ = false := by rw [(q 1).2]; simp
    have R3 := Lib.hid r3
    have G3 := Lib.hid gAll
    have hk6 : (k3 : Int) < 6 := by omega
    clear r3 g3 gAll q hk3
    go_wp2_with fail
    obtain ⟨q0, q1, q2⟩ := set_two (w := w3) (b := w.heap.size) (x := .int .i64 0) (y := .int .i64 0) (.int .i64 a) (.int .i64 p) c0 c1
    refine bodyPost_ret (v := .agg #[.int .i64 a, .int .i64 p]) (by simp [results, Tryz.results68, go_sem, q1, q2]) rfl ⟨_, _, rfl, ?_, ?_, ?_⟩
    · exact grown_new (grown_new G3.out _ _ (Nat.le_refl _)) _ _ (Nat.le_refl _)
    · exact rd_put (rd_put (R3.out.mono (by omega)) _ (by omega) (by omega)) _ (by omega) (by omega)
    · first | exact hsm | (unfold Sm; omega)

end Go.Proofs.YtgfkiljkpkfapaaGreatDoor

/- The lines that are drawn: some text of at most 40 bytes; nothing but the reader's place turns. Conditions: the reader is there; its place is small. -/
namespace Go.Proofs.YtgfkiljkpkfapaaGreatDoor
open Go.RowKit

theorem grown_of_belowD {w w' : World} (h : Below w.heap.size w w') (row : Option Nat) : w.grownBy w' row := ⟨h.os, h.tape, h.output, h.size, fun k hk _ => h.block k hk⟩
theorem lpL_len (a p : Int) : (lpL a p).length ≤ 20 := by
  unfold lpL
  split
  · rename_i h
    obtain ⟨h1, h2, h3, h4⟩ := end_bounds h
    have l1 := dec_len4 (k := a.toNat) (by omega)
    have l2 := dec_len4 (k := p.toNat) (by omega)
    simp [portL, endL]; omega
  · simp

set_option maxRecDepth 100000 in
set_option maxHeartbeats 3200000 in
theorem line_any (B R L : Nat) (w : World) (h : Rd B R L w) (hL : L ≤ 999900) :
    Calls Tryz.prog 141 #[.pointer (some ⟨R, 0, none⟩)] w fun e w' => ∃ s : ByteArray, e = .returned (.string s) ∧ s.size ≤ 40 ∧ w.grownBy w' (some R) ∧ Rd B R (L + 4) w' := by
  have hR := h.lt
  have hBR := h.base
  have H := Lib.hid h
  clear h
  go_enter Tryz.func141, Tryz.ntmps141
  go_wp2_with fail
  (go_at_call 27; refine (pick_any 3 B R L _ H.out (by omega)).mono ?_; rintro e w1 ⟨k1, rfl, hk1, g1, r1⟩)
  have R1 := Lib.hid r1
  have G1 := Lib.hid g1
  have s1 := g1.size
  clear r1 g1 hk1
  by_cases h0 : k1 = 0
  · have e0 : ((k1 : Int) == 0) = true := by simp [h0]
    clear h0
    go_wp2_with fail
    (go_at_call 70; refine (in_any B R (L + 1) _ R1.out (by omega)).mono ?_; rintro e w2 ⟨a, p, rfl, g2, r2⟩)
    have R2 := Lib.hid r2
    have G2 := Lib.hid g2
    have s2 := g2.size
    clear r2 g2
    go_wp2_with fail
    (go_at_call 143; refine (specLinPort_any a p _).mono ?_; rintro e w3 ⟨rfl, b3⟩)
    go_wp2_with fail
    go_ret
    exact ⟨_, rfl, by (have e := lpL_len a p; show (lpL a p).length ≤ 40; omega), (G1.out.trans G2.out).trans (grown_of_belowD b3 _), (rd_below R2.out b3 (Nat.le_refl _))⟩
  · have e0 : ((k1 : Int) == 0) = false := by simp [h0]
    by_cases h1 : k1 = 1
    · have e1 : ((k1 : Int) == 1) = true := by simp [h1]
      clear h0 h1
      go_wp2_with fail
      (go_at_call 27; refine (pick_any 10 B R (L + 1) _ (rd_alloc R1.out _) (by omega)).mono ?_; rintro e w3 ⟨k3, rfl, hk3, g3, r3⟩)
      have hk5 : k3 < 10 := by omega
      obtain ⟨x, hx, hxs⟩ : ∃ x : ByteArray, w3.cell? ⟨w1.heap.size, k3, none⟩ = some (.string x) ∧ x.size ≤ 40 := by
        rw [(gcell g3 (by simp) (by omega) k3).1, (cell_new _ _ _ _).1]
        match k3, hk5 with
        | 0, _ => exact ⟨_, rfl, by decide⟩
        | 1, _ => exact ⟨_, rfl, by decide⟩
        | 2, _ => exact ⟨_, rfl, by decide⟩
        | 3, _ => exact ⟨_, rfl, by decide⟩
        | 4, _ => exact ⟨_, rfl, by decide⟩
        | 5, _ => exact ⟨_, rfl, by decide⟩
        | 6, _ => exact ⟨_, rfl, by decide⟩
        | 7, _ => exact ⟨_, rfl, by decide⟩
        | 8, _ => exact ⟨_, rfl, by decide⟩
        | 9, _ => exact ⟨_, rfl, by decide⟩
      have hk6 : (k3 : Int) < 10 := by omega
      have gAll := G1.out.trans ((World.grownBy_alloc w1 _ _).trans g3)
      have R3 := Lib.hid r3
      have G3 := Lib.hid gAll
      clear r3 g3 gAll hk3
      go_wp2_with fail
      go_ret
      exact ⟨x, rfl, hxs, G3.out, R3.out.mono (by omega)⟩
    · have e1 : ((k1 : Int) == 1) = false := by (simp; omega)
      clear h0 h1
      go_wp2_with fail
      (go_at_call 27; refine (pick_any 4 B R (L + 1) _ (rd_alloc R1.out _) (by omega)).mono ?_; rintro e w3 ⟨k3, rfl, hk3, g3, r3⟩)
      have hk5 : k3 < 4 := by omega
      obtain ⟨x, hx, hxs⟩ : ∃ x : ByteArray, w3.cell? ⟨w1.heap.size, k3, none⟩ = some (.string x) ∧ x.size ≤ 40 := by
        rw [(gcell g3 (by simp) (by omega) k3).1, (cell_new _ _ _ _).1]
        match k3, hk5 with
        | 0, _ => exact ⟨_, rfl, by decide⟩
        | 1, _ => exact ⟨_, rfl, by decide⟩
        | 2, _ => exact ⟨_, rfl, by decide⟩
        | 3, _ => exact ⟨_, rfl, by decide⟩
      have hk6 : (k3 : Int) < 4 := by omega
      have gAll := G1.out.trans ((World.grownBy_alloc w1 _ _).trans g3)
      have R3 := Lib.hid r3
      have G3 := Lib.hid gAll
      clear r3 g3 gAll hk3
      go_wp2_with fail
      go_ret
      exact ⟨x, rfl, hxs, G3.out, R3.out.mono (by omega)⟩

end Go.Proofs.YtgfkiljkpkfapaaGreatDoor

/- A text with one byte put in, taken out or turned: some text of at most one byte more; nothing but the reader's place turns. Conditions: the reader is there; its place is small; the text has at most 2000 bytes. -/
namespace Go.Proofs.YtgfkiljkpkfapaaGreatDoor
open Go.RowKit

theorem grown_drew (w : World) (row : Option Nat) : w.grownBy w.drew row := ⟨rfl, rfl, rfl, Nat.le_refl _, fun _ _ _ => rfl⟩

set_option maxRecDepth 100000 in
set_option maxHeartbeats 3200000 in
theorem bent_any (s : ByteArray) (hs : s.size ≤ 2000) (B R L : Nat) (w : World) (h : Rd B R L w) (hL : L ≤ 999900) :
    Calls Tryz.prog 117 #[.pointer (some ⟨R, 0, none⟩), .string s] w fun e w' => ∃ t : ByteArray, e = .returned (.string t) ∧ t.size ≤ s.size + 1 ∧ w.grownBy w' (some R) ∧ Rd B R (L + 4) w' := by
  have hR := h.lt
  have hBR := h.base
  have H := Lib.hid h
  clear h
  go_enter Tryz.func117, Tryz.ntmps117
  go_wp2_with fail
  (go_at_call 27; refine (pick_any _ B R L _ H.out (by omega)).mono ?_; rintro e w1 ⟨k1, rfl, hk1, g1, r1⟩)
  have hks : k1 ≤ s.size := by omega
  have R1 := Lib.hid r1
  have G1 := Lib.hid g1
  have s1 := g1.size
  clear r1 g1 hk1
  go_wp2_with fail
  (go_at_call 27; refine (pick_any 256 B R (L + 1) _ R1.out (by omega)).mono ?_; rintro e w2 ⟨k2, rfl, hk2, g2, r2⟩)
  have hk2' : k2 < 256 := by omega
  have R2 := Lib.hid r2
  have G2 := Lib.hid g2
  have s2 := g2.size
  clear r2 g2 hk2
  go_wp2_with fail
  (go_at_call 27; refine (pick_any 8 B R (L + 2) _ (rd_alloc R2.out _) (by omega)).mono ?_; rintro e w3 ⟨k3, rfl, hk3, g3, r3⟩)
  have hk5 : k3 < 8 := by omega
  obtain ⟨c, hc⟩ : ∃ c : UInt8, w3.cell? ⟨w2.heap.size, k3, none⟩ = some (.int .i64 (c.toNat : Int)) := by
    rw [(gcell g3 (by simp) (by omega) k3).1, (cell_new _ _ _ _).1]
    match k3, hk5 with
    | 0, _ => exact ⟨32, rfl⟩
    | 1, _ => exact ⟨48, rfl⟩
    | 2, _ => exact ⟨49, rfl⟩
    | 3, _ => exact ⟨57, rfl⟩
    | 4, _ => exact ⟨59, rfl⟩
    | 5, _ => exact ⟨97, rfl⟩
    | 6, _ => exact ⟨112, rfl⟩
    | 7, _ =>
      refine ⟨UInt8.ofNat k2, ?_⟩
      have e : (UInt8.ofNat k2).toNat = k2 := by simp; omega
      rw [e]; rfl
  have hk6 : (k3 : Int) < 8 := by omega
  have gAll := (G1.out.trans G2.out).trans ((World.grownBy_alloc w2 _ _).trans g3)
  have R3 := Lib.hid r3
  have G3 := Lib.hid gAll
  have s3 := gAll.size
  have hcl := c.toNat_lt
  have hcv := run_one_byte w3 (c.toNat : Int) c rfl
  clear r3 g3 gAll hk3
  go_wp2_with fail
  (go_at_call 27; refine (pick_any 3 B R (L + 3) _ (rd_alloc R3.out _) (by omega)).mono ?_; rintro e w4 ⟨k4, rfl, hk4, g4, r4⟩)
  have R4 := Lib.hid r4
  have G4 := Lib.hid (G3.out.trans ((World.grownBy_alloc w3 _ _).trans g4))
  have hki : (k1 : Int) ≤ (s.size : Int) := by omega
  clear r4 g4 hk4 hcv hc
  have hone : (⟨#[c]⟩ : ByteArray).size = 1 := rfl
  by_cases h0 : k4 = 0
  · have e0 : ((k4 : Int) == 0) = true := by simp [h0]
    clear h0
    go_wp2_with fail
    go_region
    go_wp2_with fail
    go_ret
    refine ⟨_, rfl, ?_, G4.out.trans (grown_drew _ _), rd_drew R4.out⟩
    simp [hone]; omega
  · have e0 : ((k4 : Int) == 0) = false := by simp [h0]
    by_cases hlt : k1 < s.size
    · have hlti : (k1 : Int) < (s.size : Int) := by omega
      by_cases h1 : k4 = 1
      · have e1 : ((k4 : Int) == 1) = true := by simp [h1]
        clear h0 h1
        go_wp2_with fail
        go_region
        go_wp2_with fail
        go_ret
        refine ⟨_, rfl, ?_, G4.out.trans (grown_drew _ _), rd_drew R4.out⟩
        simp; omega
      · have e1 : ((k4 : Int) == 1) = false := by (simp; omega)
        clear h0 h1
        go_wp2_with fail
        go_region
        go_wp2_with fail
        go_ret
        refine ⟨_, rfl, ?_, G4.out.trans (grown_drew _ _), rd_drew R4.out⟩
        simp [hone]; omega
    · have hlti : ¬ (k1 : Int) < (s.size : Int) := by omega
      by_cases h1 : k4 = 1
      · have e1 : ((k4 : Int) == 1) = true := by simp [h1]
        clear h0 h1
        go_wp2_with fail
        go_ret
        exact ⟨_, rfl, by omega, G4.out, R4.out⟩
      · have e1 : ((k4 : Int) == 1) = false := by (simp; omega)
        clear h0 h1
        go_wp2_with fail
        go_ret
        exact ⟨_, rfl, by omega, G4.out, R4.out⟩

end Go.Proofs.YtgfkiljkpkfapaaGreatDoor

/- The streams that are drawn, and texts that may be none: at most 200 bytes. Conditions: the reader is there; its place is small; the code lies in memory. -/
namespace Go.Proofs.YtgfkiljkpkfapaaGreatDoor
open Go.RowKit

set_option maxRecDepth 100000 in
set_option maxHeartbeats 3200000 in
theorem stream_any (B R L : Nat) (w : World) (h : Rd B R L w) (hL : L ≤ 999000) :
    Calls Tryz.prog 116 #[.pointer (some ⟨R, 0, none⟩)] w fun e w' => ∃ s : ByteArray, e = .returned (.string s) ∧ s.size ≤ 120 ∧ w.grownBy w' (some R) ∧ Rd B R (L + 50) w' := by
  have hR := h.lt
  have hBR := h.base
  have H := Lib.hid h
  clear h
  go_enter Tryz.func116, Tryz.ntmps116
  go_wp2_with fail
  (go_at_call 27; refine (pick_any 9 B R L _ H.out (by omega)).mono ?_; rintro e w1 ⟨k1, rfl, hk1, g1, r1⟩)
  have hk9 : k1 ≤ 8 := by omega
  have R1 := Lib.hid r1
  have G1 := Lib.hid g1
  clear r1 g1 hk1
  go_wp2_with fail
  go_loopw [3, 4] (fun sv i wr => ∃ (k : Nat) (s : ByteArray) (L' : Nat), sv = .string s ∧ i = .int .i64 k ∧ k ≤ 8 ∧ s.size ≤ 120 ∧ L' + 4 * k ≤ L + 40 ∧ Hid (w.grownBy wr (some R)) ∧ Hid (Rd B R L' wr)) (fun _ i _ => (intOf i).toNat)
  case atStart => exact ⟨k1, ⟨#[]⟩, L + 1, rfl, rfl, hk9, by decide, by omega, G1, R1⟩
  case round =>
    obtain ⟨k, s, L', rfl, rfl, hk8, hs, hl, hg, hr⟩ := hrel
    by_cases h0 : 0 < k
    · have h0i : (0 : Int) < (k : Int) := by omega
      go_wp2_with fail
      (go_at_call 141; refine (line_any B R L' _ hr.out (by omega)).mono ?_; rintro e w2 ⟨x, rfl, hx, g2, r2⟩)
      have n1 : ¬ 9223372036854775807 < s.size + x.size := by omega
      have n2 : ¬ 9223372036854775807 < s.size + x.size + 1 := by omega
      have R2 := Lib.hid r2
      have G2 := Lib.hid (hg.out.trans g2)
      clear r2 g2
      by_cases hle : s.size + x.size + 1 ≤ 120
      · have hlei : (s.size : Int) + (x.size : Int) + 1 ≤ 120 := by omega
        go_wp2_with fail
        go_roundw
        case rel => exact ⟨k - 1, s ++ x ++ ⟨#[59]⟩, L' + 4, rfl, by (congr 1; omega), by omega, by (have e : (⟨#[59]⟩ : ByteArray).size = 1 := rfl; simp [e]; omega), by omega, G2, R2⟩
        case measure => simp [intOf]; omega
      · have hlei : ¬ (s.size : Int) + (x.size : Int) + 1 ≤ 120 := by omega
        go_wp2_with fail
        go_roundw
        case rel => exact ⟨k - 1, s, L' + 4, rfl, by (congr 1; omega), by omega, hs, by omega, G2, R2⟩
        case measure => simp [intOf]; omega
    · have h0i : ¬ (0 : Int) < (k : Int) := by omega
      go_wp2_with fail
      (go_at_call 27; refine (pick_any 3 B R L' _ hr.out (by omega)).mono ?_; rintro e w2 ⟨k2, rfl, hk2, g2, r2⟩)
      have R2 := Lib.hid r2
      have G2 := Lib.hid (hg.out.trans g2)
      clear r2 g2
      by_cases h2 : k2 = 0
      · have e2 : ((k2 : Int) == 0) = true := by simp [h2]
        clear h2 hk2
        go_wp2_with fail
        (go_at_call 141; refine (line_any B R (L' + 1) _ R2.out (by omega)).mono ?_; rintro e w3 ⟨x, rfl, hx, g3, r3⟩)
        have n1 : ¬ 9223372036854775807 < s.size + x.size := by omega
        have R3 := Lib.hid r3
        have G3 := Lib.hid (G2.out.trans g3)
        clear r3 g3
        by_cases hle : s.size + x.size ≤ 120
        · have hlei : (s.size : Int) + (x.size : Int) ≤ 120 := by omega
          go_wp2_with fail
          go_ret
          exact ⟨_, rfl, by simpa using hle, G3.out, R3.out.mono (by omega)⟩
        · have hlei : ¬ (s.size : Int) + (x.size : Int) ≤ 120 := by omega
          go_wp2_with fail
          go_ret
          exact ⟨_, rfl, hs, G3.out, R3.out.mono (by omega)⟩
      · have e2 : ((k2 : Int) == 0) = false := by simp [h2]
        clear h2 hk2
        go_wp2_with fail
        go_ret
        exact ⟨_, rfl, hs, G2.out, R2.out.mono (by omega)⟩

set_option maxRecDepth 100000 in
set_option maxHeartbeats 3200000 in
theorem streamOr_any (m : Int) (hm : 0 ≤ m) (hm2 : m ≤ 1000000) (B R L : Nat) (w : World) (h : Rd B R L w) (hL : L ≤ 990000) :
    Calls Tryz.prog 67 #[.pointer (some ⟨R, 0, none⟩), .int .i64 m] w fun e w' => ∃ s : ByteArray, e = .returned (.string s) ∧ s.size ≤ 200 ∧ w.grownBy w' (some R) ∧ Rd B R (L + 60) w' := by
  have hR := h.lt
  have hBR := h.base
  have H := Lib.hid h
  clear h
  go_enter Tryz.func67, Tryz.ntmps67
  go_wp2_with fail
  (go_at_call 116; refine (stream_any B R L _ H.out (by omega)).mono ?_; rintro e w1 ⟨s, rfl, hs, g1, r1⟩)
  have R1 := Lib.hid r1
  have G1 := Lib.hid g1
  clear r1 g1
  go_wp2_with fail
  (go_at_call 28; refine (odd_any m B R (L + 50) _ R1.out (by omega) hm hm2).mono ?_; rintro e w2 ⟨b, rfl, g2, r2⟩)
  have R2 := Lib.hid r2
  have G2 := Lib.hid (G1.out.trans g2)
  clear r2 g2
  cases b
  · go_wp2_with fail
    go_ret
    exact ⟨_, rfl, by omega, G2.out, R2.out.mono (by omega)⟩
  · go_wp2_with fail
    (go_at_call 27; refine (pick_any 3 B R (L + 51) _ R2.out (by omega)).mono ?_; rintro e w3 ⟨k1, rfl, hk1, g3, r3⟩)
    have R3 := Lib.hid r3
    have G3 := Lib.hid (G2.out.trans g3)
    clear r3 g3 hk1
    by_cases h0 : k1 = 0
    · have e0 : ((k1 : Int) == 0) = true := by simp [h0]
      clear h0
      go_wp2_with fail
      (go_at_call 117; refine (bent_any s (by omega) B R (L + 52) _ R3.out (by omega)).mono ?_; rintro e w4 ⟨t, rfl, ht, g4, r4⟩)
      go_wp2_with fail
      go_ret
      exact ⟨t, rfl, by omega, G3.out.trans g4, r4.mono (by omega)⟩
    · have e0 : ((k1 : Int) == 0) = false := by simp [h0]
      by_cases h1 : k1 = 1
      · have e1 : ((k1 : Int) == 1) = true := by simp [h1]
        have n1 : ¬ 9223372036854775807 < s.size + 18 := by omega
        clear h0 h1
        go_wp2_with fail
        go_ret
        exact ⟨_, rfl, by (simp only [ByteArray.size_append]; have e : (⟨#[97, 98, 99, 100, 101, 102, 103, 104, 105, 106, 32, 107, 108, 109, 110, 111, 112, 59]⟩ : ByteArray).size = 18 := rfl; omega), G3.out, R3.out.mono (by omega)⟩
      · have e1 : ((k1 : Int) == 1) = false := by (simp; omega)
        clear h0 h1
        go_wp2_with fail
        go_loop [5] (fun sv => ∃ t : ByteArray, sv = .string t ∧ t.size ≤ 125) (fun sv => 125 - (match sv with | .string t => t.size | _ => 0))
        case atStart => exact ⟨s, rfl, by omega⟩
        case round =>
          obtain ⟨t, rfl, ht⟩ := hrel
          have n1 : ¬ 9223372036854775807 < t.size + 5 := by omega
          by_cases hle : t.size ≤ 120
          · have hlei : (t.size : Int) ≤ 120 := by omega
            go_wp2_with fail
            go_round
            case rel => exact ⟨_, rfl, by (simp only [ByteArray.size_append]; have e : (⟨#[108, 105, 115, 116, 59]⟩ : ByteArray).size = 5 := rfl; omega)⟩
            case measure => (simp only [ByteArray.size_append]; have e : (⟨#[108, 105, 115, 116, 59]⟩ : ByteArray).size = 5 := rfl; omega)
          · have hlei : ¬ (t.size : Int) ≤ 120 := by omega
            go_wp2_with fail
            go_ret
            exact ⟨_, rfl, by omega, G3.out, R3.out.mono (by omega)⟩

end Go.Proofs.YtgfkiljkpkfapaaGreatDoor

/- Seven cells that may be written, and what is turned beside them. -/
namespace Go.Proofs.YtgfkiljkpkfapaaGreatDoor
open Go.RowKit

/-- Seven cells that may be written. -/
def At7 (w : World) (b : Nat) (x0 x1 x2 x3 x4 x5 x6 : Value) : Prop := b < w.heap.size ∧ Box7 w b x0 x1 x2 x3 x4 x5 x6 ∧ (w.frozen? ⟨b, 0, none⟩ = false ∧ w.frozen? ⟨b, 1, none⟩ = false ∧ w.frozen? ⟨b, 2, none⟩ = false ∧ w.frozen? ⟨b, 3, none⟩ = false ∧ w.frozen? ⟨b, 4, none⟩ = false ∧ w.frozen? ⟨b, 5, none⟩ = false ∧ w.frozen? ⟨b, 6, none⟩ = false)
theorem At7.grown {w w' : World} {R b : Nat} {x0 x1 x2 x3 x4 x5 x6 : Value} (h : At7 w b x0 x1 x2 x3 x4 x5 x6) (hg : w.grownBy w' (some R)) (hne : b ≠ R) : At7 w' b x0 x1 x2 x3 x4 x5 x6 := by
  obtain ⟨hb, ⟨c0, c1, c2, c3, c4, c5, c6⟩, f0, f1, f2, f3, f4, f5, f6⟩ := h
  have s := hg.size
  have q := gcell hg hb hne
  exact ⟨by omega, ⟨(q 0).1.trans c0, (q 1).1.trans c1, (q 2).1.trans c2, (q 3).1.trans c3, (q 4).1.trans c4, (q 5).1.trans c5, (q 6).1.trans c6⟩, (q 0).2.trans f0, (q 1).2.trans f1, (q 2).2.trans f2, (q 3).2.trans f3, (q 4).2.trans f4, (q 5).2.trans f5, (q 6).2.trans f6⟩
theorem at7_new (w : World) (x0 x1 x2 x3 x4 x5 x6 : Value) (t : TypeId) : At7 (w.alloc (.cells #[x0, x1, x2, x3, x4, x5, x6] t)) w.heap.size x0 x1 x2 x3 x4 x5 x6 :=
  ⟨by simp, box7_new w x0 x1 x2 x3 x4 x5 x6 t, (cell_new w _ t 0).2, (cell_new w _ t 1).2, (cell_new w _ t 2).2, (cell_new w _ t 3).2, (cell_new w _ t 4).2, (cell_new w _ t 5).2, (cell_new w _ t 6).2⟩
theorem At7.put {w : World} {b c i : Nat} {x0 x1 x2 x3 x4 x5 x6 : Value} (h : At7 w b x0 x1 x2 x3 x4 x5 x6) (v : Value) (hne : b ≠ c) : At7 (w.setCell ⟨c, i, none⟩ v) b x0 x1 x2 x3 x4 x5 x6 := by
  obtain ⟨hb, ⟨c0, c1, c2, c3, c4, c5, c6⟩, f0, f1, f2, f3, f4, f5, f6⟩ := h
  have n : ∀ j, (⟨c, i, none⟩ : Addr) ≠ ⟨b, j, none⟩ := fun j e => hne (by injection e with e1; exact e1.symm)
  refine ⟨by simpa using hb, ⟨(World.cell?_setCell_other _ _ _ _ (n 0)).trans c0, (World.cell?_setCell_other _ _ _ _ (n 1)).trans c1, (World.cell?_setCell_other _ _ _ _ (n 2)).trans c2, (World.cell?_setCell_other _ _ _ _ (n 3)).trans c3, (World.cell?_setCell_other _ _ _ _ (n 4)).trans c4, (World.cell?_setCell_other _ _ _ _ (n 5)).trans c5, (World.cell?_setCell_other _ _ _ _ (n 6)).trans c6⟩, by simpa using f0, by simpa using f1, by simpa using f2, by simpa using f3, by simpa using f4, by simpa using f5, by simpa using f6⟩
theorem At7.set0 {w : World} {b : Nat} {x0 x1 x2 x3 x4 x5 x6 : Value} (h : At7 w b x0 x1 x2 x3 x4 x5 x6) (u : Value) : At7 (w.setCell ⟨b, 0, none⟩ u) b u x1 x2 x3 x4 x5 x6 := by
  obtain ⟨hb, ⟨c0, c1, c2, c3, c4, c5, c6⟩, f0, f1, f2, f3, f4, f5, f6⟩ := h
  exact ⟨by simpa using hb, ⟨World.cell?_setCell_same _ _ _ c0, (World.cell?_setCell_other _ _ _ _ (seg_ne (show 0 ≠ 1 by decide))).trans c1, (World.cell?_setCell_other _ _ _ _ (seg_ne (show 0 ≠ 2 by decide))).trans c2, (World.cell?_setCell_other _ _ _ _ (seg_ne (show 0 ≠ 3 by decide))).trans c3, (World.cell?_setCell_other _ _ _ _ (seg_ne (show 0 ≠ 4 by decide))).trans c4, (World.cell?_setCell_other _ _ _ _ (seg_ne (show 0 ≠ 5 by decide))).trans c5, (World.cell?_setCell_other _ _ _ _ (seg_ne (show 0 ≠ 6 by decide))).trans c6⟩, by simpa using f0, by simpa using f1, by simpa using f2, by simpa using f3, by simpa using f4, by simpa using f5, by simpa using f6⟩
theorem At7.set1 {w : World} {b : Nat} {x0 x1 x2 x3 x4 x5 x6 : Value} (h : At7 w b x0 x1 x2 x3 x4 x5 x6) (u : Value) : At7 (w.setCell ⟨b, 1, none⟩ u) b x0 u x2 x3 x4 x5 x6 := by
  obtain ⟨hb, ⟨c0, c1, c2, c3, c4, c5, c6⟩, f0, f1, f2, f3, f4, f5, f6⟩ := h
  exact ⟨by simpa using hb, ⟨(World.cell?_setCell_other _ _ _ _ (seg_ne (show 1 ≠ 0 by decide))).trans c0, World.cell?_setCell_same _ _ _ c1, (World.cell?_setCell_other _ _ _ _ (seg_ne (show 1 ≠ 2 by decide))).trans c2, (World.cell?_setCell_other _ _ _ _ (seg_ne (show 1 ≠ 3 by decide))).trans c3, (World.cell?_setCell_other _ _ _ _ (seg_ne (show 1 ≠ 4 by decide))).trans c4, (World.cell?_setCell_other _ _ _ _ (seg_ne (show 1 ≠ 5 by decide))).trans c5, (World.cell?_setCell_other _ _ _ _ (seg_ne (show 1 ≠ 6 by decide))).trans c6⟩, by simpa using f0, by simpa using f1, by simpa using f2, by simpa using f3, by simpa using f4, by simpa using f5, by simpa using f6⟩
theorem At7.set2 {w : World} {b : Nat} {x0 x1 x2 x3 x4 x5 x6 : Value} (h : At7 w b x0 x1 x2 x3 x4 x5 x6) (u : Value) : At7 (w.setCell ⟨b, 2, none⟩ u) b x0 x1 u x3 x4 x5 x6 := by
  obtain ⟨hb, ⟨c0, c1, c2, c3, c4, c5, c6⟩, f0, f1, f2, f3, f4, f5, f6⟩ := h
  exact ⟨by simpa using hb, ⟨(World.cell?_setCell_other _ _ _ _ (seg_ne (show 2 ≠ 0 by decide))).trans c0, (World.cell?_setCell_other _ _ _ _ (seg_ne (show 2 ≠ 1 by decide))).trans c1, World.cell?_setCell_same _ _ _ c2, (World.cell?_setCell_other _ _ _ _ (seg_ne (show 2 ≠ 3 by decide))).trans c3, (World.cell?_setCell_other _ _ _ _ (seg_ne (show 2 ≠ 4 by decide))).trans c4, (World.cell?_setCell_other _ _ _ _ (seg_ne (show 2 ≠ 5 by decide))).trans c5, (World.cell?_setCell_other _ _ _ _ (seg_ne (show 2 ≠ 6 by decide))).trans c6⟩, by simpa using f0, by simpa using f1, by simpa using f2, by simpa using f3, by simpa using f4, by simpa using f5, by simpa using f6⟩
theorem At7.set3 {w : World} {b : Nat} {x0 x1 x2 x3 x4 x5 x6 : Value} (h : At7 w b x0 x1 x2 x3 x4 x5 x6) (u : Value) : At7 (w.setCell ⟨b, 3, none⟩ u) b x0 x1 x2 u x4 x5 x6 := by
  obtain ⟨hb, ⟨c0, c1, c2, c3, c4, c5, c6⟩, f0, f1, f2, f3, f4, f5, f6⟩ := h
  exact ⟨by simpa using hb, ⟨(World.cell?_setCell_other _ _ _ _ (seg_ne (show 3 ≠ 0 by decide))).trans c0, (World.cell?_setCell_other _ _ _ _ (seg_ne (show 3 ≠ 1 by decide))).trans c1, (World.cell?_setCell_other _ _ _ _ (seg_ne (show 3 ≠ 2 by decide))).trans c2, World.cell?_setCell_same _ _ _ c3, (World.cell?_setCell_other _ _ _ _ (seg_ne (show 3 ≠ 4 by decide))).trans c4, (World.cell?_setCell_other _ _ _ _ (seg_ne (show 3 ≠ 5 by decide))).trans c5, (World.cell?_setCell_other _ _ _ _ (seg_ne (show 3 ≠ 6 by decide))).trans c6⟩, by simpa using f0, by simpa using f1, by simpa using f2, by simpa using f3, by simpa using f4, by simpa using f5, by simpa using f6⟩
theorem At7.set4 {w : World} {b : Nat} {x0 x1 x2 x3 x4 x5 x6 : Value} (h : At7 w b x0 x1 x2 x3 x4 x5 x6) (u : Value) : At7 (w.setCell ⟨b, 4, none⟩ u) b x0 x1 x2 x3 u x5 x6 := by
  obtain ⟨hb, ⟨c0, c1, c2, c3, c4, c5, c6⟩, f0, f1, f2, f3, f4, f5, f6⟩ := h
  exact ⟨by simpa using hb, ⟨(World.cell?_setCell_other _ _ _ _ (seg_ne (show 4 ≠ 0 by decide))).trans c0, (World.cell?_setCell_other _ _ _ _ (seg_ne (show 4 ≠ 1 by decide))).trans c1, (World.cell?_setCell_other _ _ _ _ (seg_ne (show 4 ≠ 2 by decide))).trans c2, (World.cell?_setCell_other _ _ _ _ (seg_ne (show 4 ≠ 3 by decide))).trans c3, World.cell?_setCell_same _ _ _ c4, (World.cell?_setCell_other _ _ _ _ (seg_ne (show 4 ≠ 5 by decide))).trans c5, (World.cell?_setCell_other _ _ _ _ (seg_ne (show 4 ≠ 6 by decide))).trans c6⟩, by simpa using f0, by simpa using f1, by simpa using f2, by simpa using f3, by simpa using f4, by simpa using f5, by simpa using f6⟩
theorem At7.set5 {w : World} {b : Nat} {x0 x1 x2 x3 x4 x5 x6 : Value} (h : At7 w b x0 x1 x2 x3 x4 x5 x6) (u : Value) : At7 (w.setCell ⟨b, 5, none⟩ u) b x0 x1 x2 x3 x4 u x6 := by
  obtain ⟨hb, ⟨c0, c1, c2, c3, c4, c5, c6⟩, f0, f1, f2, f3, f4, f5, f6⟩ := h
  exact ⟨by simpa using hb, ⟨(World.cell?_setCell_other _ _ _ _ (seg_ne (show 5 ≠ 0 by decide))).trans c0, (World.cell?_setCell_other _ _ _ _ (seg_ne (show 5 ≠ 1 by decide))).trans c1, (World.cell?_setCell_other _ _ _ _ (seg_ne (show 5 ≠ 2 by decide))).trans c2, (World.cell?_setCell_other _ _ _ _ (seg_ne (show 5 ≠ 3 by decide))).trans c3, (World.cell?_setCell_other _ _ _ _ (seg_ne (show 5 ≠ 4 by decide))).trans c4, World.cell?_setCell_same _ _ _ c5, (World.cell?_setCell_other _ _ _ _ (seg_ne (show 5 ≠ 6 by decide))).trans c6⟩, by simpa using f0, by simpa using f1, by simpa using f2, by simpa using f3, by simpa using f4, by simpa using f5, by simpa using f6⟩
theorem At7.set6 {w : World} {b : Nat} {x0 x1 x2 x3 x4 x5 x6 : Value} (h : At7 w b x0 x1 x2 x3 x4 x5 x6) (u : Value) : At7 (w.setCell ⟨b, 6, none⟩ u) b x0 x1 x2 x3 x4 x5 u := by
  obtain ⟨hb, ⟨c0, c1, c2, c3, c4, c5, c6⟩, f0, f1, f2, f3, f4, f5, f6⟩ := h
  exact ⟨by simpa using hb, ⟨(World.cell?_setCell_other _ _ _ _ (seg_ne (show 6 ≠ 0 by decide))).trans c0, (World.cell?_setCell_other _ _ _ _ (seg_ne (show 6 ≠ 1 by decide))).trans c1, (World.cell?_setCell_other _ _ _ _ (seg_ne (show 6 ≠ 2 by decide))).trans c2, (World.cell?_setCell_other _ _ _ _ (seg_ne (show 6 ≠ 3 by decide))).trans c3, (World.cell?_setCell_other _ _ _ _ (seg_ne (show 6 ≠ 4 by decide))).trans c4, (World.cell?_setCell_other _ _ _ _ (seg_ne (show 6 ≠ 5 by decide))).trans c5, World.cell?_setCell_same _ _ _ c6⟩, by simpa using f0, by simpa using f1, by simpa using f2, by simpa using f3, by simpa using f4, by simpa using f5, by simpa using f6⟩
theorem At7.all {w : World} {b : Nat} {x0 x1 x2 x3 x4 x5 x6 : Value} (h : At7 w b x0 x1 x2 x3 x4 x5 x6) (u0 u1 u2 u3 u4 u5 u6 : Value) : At7 (((((((w.setCell ⟨b, 0, none⟩ u0).setCell ⟨b, 1, none⟩ u1).setCell ⟨b, 2, none⟩ u2).setCell ⟨b, 3, none⟩ u3).setCell ⟨b, 4, none⟩ u4).setCell ⟨b, 5, none⟩ u5).setCell ⟨b, 6, none⟩ u6) b u0 u1 u2 u3 u4 u5 u6 :=
  ((((((h.set0 u0).set1 u1).set2 u2).set3 u3).set4 u4).set5 u5).set6 u6
theorem rd_puts {B R L : Nat} {w : World} {b : Nat} (h : Rd B R L w) (u0 u1 u2 u3 u4 u5 u6 : Value) (hb : B ≤ b) (hne : b ≠ R) : Rd B R L (((((((w.setCell ⟨b, 0, none⟩ u0).setCell ⟨b, 1, none⟩ u1).setCell ⟨b, 2, none⟩ u2).setCell ⟨b, 3, none⟩ u3).setCell ⟨b, 4, none⟩ u4).setCell ⟨b, 5, none⟩ u5).setCell ⟨b, 6, none⟩ u6) :=
  rd_put (rd_put (rd_put (rd_put (rd_put (rd_put (rd_put h u0 hb hne) u1 hb hne) u2 hb hne) u3 hb hne) u4 hb hne) u5 hb hne) u6 hb hne
theorem grown_puts {w w' : World} {R b : Nat} (hg : w.grownBy w' (some R)) (u0 u1 u2 u3 u4 u5 u6 : Value) (hb : w.heap.size ≤ b) : w.grownBy (((((((w'.setCell ⟨b, 0, none⟩ u0).setCell ⟨b, 1, none⟩ u1).setCell ⟨b, 2, none⟩ u2).setCell ⟨b, 3, none⟩ u3).setCell ⟨b, 4, none⟩ u4).setCell ⟨b, 5, none⟩ u5).setCell ⟨b, 6, none⟩ u6) (some R) :=
  grown_new (grown_new (grown_new (grown_new (grown_new (grown_new (grown_new hg 0 u0 hb) 1 u1 hb) 2 u2 hb) 3 u3 hb) 4 u4 hb) 5 u5 hb) 6 u6 hb


end Go.Proofs.YtgfkiljkpkfapaaGreatDoor
