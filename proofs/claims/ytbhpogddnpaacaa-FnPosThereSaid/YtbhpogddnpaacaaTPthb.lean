/- How the law compares lists of spans, marks them and finds the marks again. Conditions: at most 2^22 spans. (Several texts, joined: SPairs, Semi, Shelf, ICut, ISeq, ILines, IPairs, MarkSp.) -/
import Derived.Test.YtbhpogddnpaacaaTPtha
import Derived.Test.YtbhpogddnpaacaaSLine
import Derived.Deep.AppendLies
import Derived.Deep.RegionLaw
import Derived.Deep.DeepCutAuto
import Derived.Test.YtbhpogddnpaacaaLines
import Derived.Lib.LastIndexByte
import Derived.Lib.CutLaws
import Derived.Shelf.Lays
import Derived.Test.YtbhpogddnpaacaaProg
import Derived.Test.YtbhpogddnpaacaaChecked
import Derived.Test.YtbhpogddnpaacaaGen
import Derived.Shelf.Strings.LastIndex
import Derived.Shelf.Strings.Search2
import Derived.Lib.IndexBytes
import Derived.RegionTactic
import Derived.IntWalk
import Derived.Lib.SmallJoins
import Derived.RangeFuncNested
import Derived.RangeFuncBound
import Derived.RangeFuncCalls
import Derived.RangeFuncLeaves
import Derived.RangeFuncBox
import Derived.Shelf.Abstract
import Derived.Shelf.RegionOpen
import Derived.WalkKit
import Derived.OwnWalkIn
import Derived.TacticsInMore
import Derived.LoopNIn
import Derived.LoopIn
import Derived.Maps.AppendAt
import Derived.Deep.RegionWith

/- PosPairs of the specification: the spans of two texts' lines, in memory of the call's own. Condition: each text has at most 2^21 bytes. -/
namespace Go.Proofs.Ytbhpogddnpaacaa
open Go.RowKit

theorem heap_lastP (w : World) (o : Obj) : (w.alloc o).heap[w.heap.size]? = some o := by
  show (w.heap.push o)[w.heap.size]? = _
  simp

set_option maxRecDepth 100000 in
set_option maxHeartbeats 3200000 in
theorem specPairs4_any (l : List (List UInt8 × List UInt8)) (v1 v2 : Value) (xs ys : List (List UInt8)) (w : World) (hl : l = xs.zip ys) (hxl : xs.length ≤ 2097152) (hyl : ys.length ≤ 2097152) (hlx : ∀ x ∈ xs, x.length ≤ 2097152) (hly : ∀ x ∈ ys, x.length ≤ 2097152) (hi0 : insL l ≤ 2097152) (ho0 : outsL l ≤ 2097152) (r1 : RdV w v1 (xs.map strV)) (r2 : RdV w v2 (ys.map strV)) :
    Calls Try.prog 37 #[v1, v2] w fun e w' => ∃ v, e = .returned v ∧ OwnSp w' w.heap.size v (spansL l) ∧ Below w.heap.size w w' := by
  have hn : l.length = min xs.length ys.length := by rw [hl, List.length_zip]
  have hnx : l.length ≤ xs.length := by omega
  have hny : l.length ≤ ys.length := by omega
  obtain ⟨i0, hi, hz0, hz1, hz2⟩ := info_parts infoSpan
  obtain ⟨a1, c1, rfl, hr1⟩ := r1
  obtain ⟨a2, c2, rfl, hr2⟩ := r2
  rw [List.length_map] at hr1 hr2
  simp only [List.length_map]
  have HLX := Lib.hid hlx
  have HLY := Lib.hid hly
  have HL := Lib.hid hl
  have HN := Lib.hid hn
  have R1 := Lib.hid hr1
  have R2 := Lib.hid hr2
  have HO0 : Hid (∀ wx : World, OwnSp (wx.alloc (.cells #[] 29)) wx.heap.size (.slice (some ⟨wx.heap.size, 0, none⟩) 0 0) []) := fun wx => by
    have := World.ownsRow_made (base := wx.heap.size) (e := 29) (size := 5) wx #[] 0 (Nat.le_refl _) (Nat.zero_le _) rfl
    simpa [OwnSp, flatC] using this
  clear hlx hly hl hr1 hr2 hn
  go_enter Try.func37, Try.ntmps37
  go_wp2_with fail
  go_loopw [5, 6, 7, 8] (fun sp ia io i wr => ∃ (k : Nat) (a : Nat) (b : Nat) (g : Nat) (c : Nat), k ≤ l.length ∧ i = .int .i64 k ∧ sp = .slice (some ⟨g, 0, none⟩) k c ∧ ia = .int .i64 a ∧ io = .int .i64 b ∧ insL (l.take k) = a ∧ outsL (l.take k) = b ∧ OwnSp wr w.heap.size (.slice (some ⟨g, 0, none⟩) k c) ((spansL l).take k) ∧ Below w.heap.size w wr) (fun _ _ _ i _ => l.length - (intOf i).toNat)
  case atStart => exact ⟨0, 0, 0, _, 0, Nat.zero_le _, rfl, rfl, rfl, rfl, rfl, rfl, HO0.out w, (Below.refl _ _).alloc (Nat.le_refl _) _⟩
  case round =>
    obtain ⟨k, a, b, g, c, hk, rfl, rfl, rfl, rfl, hab, hbb, own, hb⟩ := hrel
    have HA := Lib.hid hab
    have HBB := Lib.hid hbb
    have OW := Lib.hid own
    have hsz := hb.size
    have HB := Lib.hid hb
    clear hab hbb own hb
    have ha : a ≤ 2097152 := by have := insL_le l k; have := HA.out; omega
    have hbo : b ≤ 2097152 := by have := outsL_le l k; have := HBB.out; omega
    by_cases hlt : k < l.length
    · obtain ⟨gx, rfl, rowx⟩ := R1.out (by omega)
      obtain ⟨gy, rfl, rowy⟩ := R2.out (by omega)
      have hkx : k < xs.length := by omega
      have hky : k < ys.length := by omega
      obtain ⟨x, hx⟩ : ∃ x, x = xs[k] := ⟨_, rfl⟩
      obtain ⟨y, hy⟩ : ∃ y, y = ys[k] := ⟨_, rfl⟩
      have hlk : l[k] = (x, y) := by rw [hx, hy]; simp only [HL.out, List.getElem_zip]
      have hgx : gx < w.heap.size := rowx.lt (by simp; omega)
      have hgy : gy < w.heap.size := rowy.lt (by simp; omega)
      have cX : wr.cell? ⟨gx, k, none⟩ = some (.string ⟨x.toArray⟩) := by
        rw [HB.out.cell (p := ⟨gx, k, none⟩) hgx, (rowx k (by simpa using hkx)).1]; simp [hx, strV]
      have cY : wr.cell? ⟨gy, k, none⟩ = some (.string ⟨y.toArray⟩) := by
        rw [HB.out.cell (p := ⟨gy, k, none⟩) hgy, (rowy k (by simpa using hky)).1]; simp [hy, strV]
      have hxn0 : x.length ≤ 2097152 := HLX.out x (by rw [hx]; exact List.getElem_mem _)
      have hyn0 : y.length ≤ 2097152 := HLY.out y (by rw [hy]; exact List.getElem_mem _)
      have HNX : Hid ((spansL l).take (k + 1) = (spansL l).take k ++ [(a, a + x.length + 1, b, b + y.length + 1, decide (y = x))]) := by
        show _ = _
        rw [spansL_succ hlt, spAt_next hlt, hlk, HA.out, HBB.out]
      have HIN : Hid (insL (l.take (k + 1)) = a + x.length + 1 ∧ outsL (l.take (k + 1)) = b + y.length + 1) := by
        rw [insL_succ hlt, outsL_succ hlt, hlk, HA.out, HBB.out]; exact ⟨by simp; omega, by simp; omega⟩
      obtain ⟨X, hX⟩ : ∃ X : ByteArray, X = ⟨x.toArray⟩ := ⟨_, rfl⟩
      obtain ⟨Y, hY⟩ : ∃ Y : ByteArray, Y = ⟨y.toArray⟩ := ⟨_, rfl⟩
      have hXs : X.size = x.length := by rw [hX]; simp [ByteArray.size]
      have hYs : Y.size = y.length := by rw [hY]; simp [ByteArray.size]
      have HE : Hid ((Y.toList == X.toList) = decide (y = x)) := by
        show _ = _
        rw [hX, hY, str_beq]
        exact decide_eq_decide.2 ⟨Eq.symm, Eq.symm⟩
      rw [← hX] at cX
      rw [← hY] at cY
      have HXS := Lib.hid hXs
      have HYS := Lib.hid hYs
      have hxn : X.size ≤ 2097152 := by omega
      have hyn : Y.size ≤ 2097152 := by omega
      have hkl : ((spansL l).take k).length = k := by rw [List.length_take, spansL_len]; omega
      have own3 : Hid (∀ o, (wr.alloc o).ownsRow w.heap.size 29 5 (.slice (some ⟨g, 0, none⟩) k c) k (flatC spC ((spansL l).take k))) := fun o => by
        have := OW.out.below ((Below.refl _ wr).alloc (Nat.le_refl _) o)
        unfold OwnSp at this
        rwa [hkl] at this
      have own2 : Hid (∀ o, (wr.alloc o).drew.ownsRow w.heap.size 29 5 (.slice (some ⟨g, 0, none⟩) k c) k (flatC spC ((spansL l).take k))) := fun o => (own3.out o).drew
      have own1 : Hid (∀ o, (wr.drew.alloc o).ownsRow w.heap.size 29 5 (.slice (some ⟨g, 0, none⟩) k c) k (flatC spC ((spansL l).take k))) := fun o => by
        have := OW.out.below (((Below.refl _ wr).drew).alloc (Nat.le_refl _) o)
        unfold OwnSp at this
        rwa [hkl] at this
      have hk2 : (k : Int) ≤ (c1 : Int) ∨ True := .inr trivial
      have hgB : w.heap.size ≤ g := by
        have := ((OW.out.lt g (by rfl))).1
        exact this
      clear rowx rowy hx hy hlk hX hY hXs hYs hkl hxn0 hyn0
      go_upto_region 8 with fail
      have hs1 : ∀ o, (wr.alloc o).heap[wr.heap.size]? = some o := fun o => heap_lastP wr o
      have H1 := Lib.hid hs1
      have HWA : Hid (IntKind.i64.wrap (IntKind.i64.wrap ((a : Int) + X.size) + 1) = ((a + X.size + 1 : Nat) : Int)) := by
        show _ = _
        rw [IntWalk.i64_in ((a : Int) + X.size) (by omega), IntWalk.i64_in ((a : Int) + X.size + 1) (by omega)]; omega
      have HWB : Hid (IntKind.i64.wrap (IntKind.i64.wrap ((b : Int) + Y.size) + 1) = ((b + Y.size + 1 : Nat) : Int)) := by
        show _ = _
        rw [IntWalk.i64_in ((b : Int) + Y.size) (by omega), IntWalk.i64_in ((b : Int) + Y.size + 1) (by omega)]; omega
      clear hs1
      go_cut [5] (fun s wx => ∃ g' c', s = .slice (some ⟨g', 0, none⟩) (k + 1) c' ∧ OwnSp wx w.heap.size (.slice (some ⟨g', 0, none⟩) (k + 1) c') ((spansL l).take (k + 1)) ∧ Below w.heap.size w wx)
      case first =>
        go_region_law (first
          | (refine step_append_lies _ rfl (.tmp 27) (.tmp 50) 26 rfl w.heap.size 29 i0 (.agg #[.int .i64 0, .int .i64 0, .int .i64 0, .int .i64 0, .bool false]) 5 40 Try.underlying26 hi hz0 hz1 hz2 rfl (by decide) (.slice (some ⟨g, 0, none⟩) k c) k (flatC spC ((spansL l).take k)) (by rfl) (by first | exact own3.out _ | exact own2.out _ | exact own1.out _) ⟨wr.heap.size, 0, none⟩ 1 1 [.int .i64 a, .int .i64 (IntKind.i64.wrap (IntKind.i64.wrap ((a : Int) + X.size) + 1)), .int .i64 b, .int .i64 (IntKind.i64.wrap (IntKind.i64.wrap ((b : Int) + Y.size) + 1)), .bool (Y.toList == X.toList)] (by rfl) (by rfl) (World.news_of_block (cs := #[.int .i64 a, .int .i64 (IntKind.i64.wrap (IntKind.i64.wrap ((a : Int) + X.size) + 1)), .int .i64 b, .int .i64 (IntKind.i64.wrap (IntKind.i64.wrap ((b : Int) + Y.size) + 1)), .bool (Y.toList == X.toList)]) (t := 29) (by exact H1.out _)) (by intro u hu; simp at hu; rcases hu with rfl | rfl | rfl | rfl | rfl <;> rfl) (by decide) (by unfold maxLen; omega) (by omega) (by simp; omega) _ rfl ?_
             intro g1 c1' w1 hown1 hgrow1 _ _
             have O1 := Lib.hid hown1
             have HB1 : Hid (Below w.heap.size w w1) := by
               first
                 | exact (HB.out.alloc hsz _).grown hgrow1 (by simp; omega) (fun k hk => by simp [Value.ownBlock] at hk; omega)
                 | exact ((HB.out.alloc hsz _).drew).grown hgrow1 (by simp; omega) (fun k hk => by simp [Value.ownBlock] at hk; omega)
                 | exact ((HB.out.drew).alloc hsz _).grown hgrow1 (by simp; omega) (fun k hk => by simp [Value.ownBlock] at hk; omega)
             clear hown1 hgrow1))
        all_goals
          go_wp2_with fail
          go_meet
          refine ⟨g1, c1', rfl, ?_, HB1.out⟩
          have := O1.out
          rw [HWA.out, HWB.out] at this
          rw [HNX.out]
          unfold OwnSp
          rw [flatC_app, List.length_append, List.length_take, spansL_len, Nat.min_eq_left hk, ← HE.out, ← HXS.out, ← HYS.out]
          exact this
      case rest =>
        obtain ⟨g', c', rfl, o', b'⟩ := hcut
        have OW' := Lib.hid o'
        have HB' := Lib.hid b'
        have cX' : wc.cell? ⟨gx, k, none⟩ = some (.string X) := by
          rw [HB'.out.cell (p := ⟨gx, k, none⟩) hgx, ← HB.out.cell (p := ⟨gx, k, none⟩) hgx]; exact cX
        clear o' b' own1 own2 own3 H1 OW HO0 HNX
        go_wp2_with fail
        go_roundw
        case rel => exact ⟨k + 1, a + X.size + 1, b + Y.size + 1, g', c', by omega, by go_num, rfl, by go_num, by go_num, by rw [HIN.out.1, HXS.out], by rw [HIN.out.2, HYS.out], OW'.out, HB'.out⟩
        case measure => simp [intOf]; omega
    · have hke : k = l.length := by omega
      have HF : Hid (OwnSp wr w.heap.size (.slice (some ⟨g, 0, none⟩) k c) (spansL l)) := by
        have := OW.out
        rw [List.take_of_length_le (by rw [spansL_len]; omega)] at this
        exact this
      subst hke
      clear OW HO0
      by_cases hlt1 : l.length < xs.length
      · have hge : ¬ ((l.length : Int) < (ys.length : Int)) := by have := HN.out; omega
        have hlt2 : (l.length : Int) < (xs.length : Int) := by omega
        go_wp2_with fail
        go_ret
        exact ⟨_, rfl, HF.out, HB.out⟩
      · have hge : ¬ ((l.length : Int) < (xs.length : Int)) := by omega
        go_wp2_with fail
        go_ret
        exact ⟨_, rfl, HF.out, HB.out⟩

set_option maxRecDepth 100000 in
set_option maxHeartbeats 1600000 in
theorem specBoth_any (s far : ByteArray) (w : World) (hs : s.size ≤ 2097152) (hf : far.size ≤ 2097152) :
    Calls Try.prog 19 #[.string s, .string far] w fun e w' => ∃ v, e = .returned v ∧ OwnSp w' w.heap.size v (spansL (pairsL s.data.toList far.data.toList)) ∧ Below w.heap.size w w' := by
  have hi0 := pairsL_ins s.data.toList far.data.toList
  have ho0 := pairsL_outs s.data.toList far.data.toList
  rw [len_list] at hi0 ho0
  have HI : Hid (∀ w, Calls Try.prog 36 #[.string s] w fun e w' => ∃ v, e = .returned (.tuple #[v, .string ⟨(restL s.data.toList).toArray⟩]) ∧ w'.ownsRow w.heap.size 9 1 v (linesL s.data.toList).length ((linesL s.data.toList).map strV) ∧ Below w.heap.size w w') := fun w => specLines_any s w hs
  have HF : Hid (∀ w, Calls Try.prog 36 #[.string far] w fun e w' => ∃ v, e = .returned (.tuple #[v, .string ⟨(restL far.data.toList).toArray⟩]) ∧ w'.ownsRow w.heap.size 9 1 v (linesL far.data.toList).length ((linesL far.data.toList).map strV) ∧ Below w.heap.size w w') := fun w => specLines_any far w hf
  have hlx : ∀ x ∈ linesL s.data.toList, x.length ≤ 2097152 := fun x hx => by have := line_len hx; rw [len_list] at this; omega
  have hly : ∀ x ∈ linesL far.data.toList, x.length ≤ 2097152 := fun x hx => by have := line_len hx; rw [len_list] at this; omega
  have hl1 := lines_len s.data.toList
  have hl2 := lines_len far.data.toList
  rw [len_list] at hl1 hl2
  have HP : Hid (∀ v1 v2 w, RdV w v1 ((linesL s.data.toList).map strV) → RdV w v2 ((linesL far.data.toList).map strV) → Calls Try.prog 37 #[v1, v2] w fun e w' => ∃ v, e = .returned v ∧ OwnSp w' w.heap.size v (spansL (pairsL s.data.toList far.data.toList)) ∧ Below w.heap.size w w') :=
    fun v1 v2 w h1 h2 => specPairs4_any _ v1 v2 _ _ w rfl (by omega) (by omega) hlx hly (by omega) (by omega) h1 h2
  obtain ⟨rs, hrs⟩ : ∃ rs, rs = (restL s.data.toList).toArray := ⟨_, rfl⟩
  obtain ⟨rf, hrf⟩ : ∃ rf, rf = (restL far.data.toList).toArray := ⟨_, rfl⟩
  obtain ⟨sp, hsp⟩ : ∃ sp, sp = spansL (pairsL s.data.toList far.data.toList) := ⟨_, rfl⟩
  obtain ⟨xs, hxs⟩ : ∃ xs, xs = linesL s.data.toList := ⟨_, rfl⟩
  obtain ⟨ys, hys⟩ : ∃ ys, ys = linesL far.data.toList := ⟨_, rfl⟩
  rw [← hsp] at HP ⊢
  rw [← hxs] at HI HP
  rw [← hys] at HF HP
  rw [← hrs] at HI
  rw [← hrf] at HF
  clear hlx hly hxs hys hrs hrf hl1 hl2 hsp hi0 ho0
  go_enter Try.func19, Try.ntmps19
  go_wp2_with fail
  (go_at_call 36; refine (HI.out _).mono ?_; rintro e w1 ⟨v1, rfl, own1, b1⟩; have B1 := Lib.hid b1; have R1 := Lib.hid (RdV.of_own own1).1; have z1 := b1.size; clear own1 b1)
  go_wp2_with fail
  (go_at_call 36; refine (HF.out _).mono ?_; rintro e w2 ⟨v2, rfl, own2, b2⟩; have B2 : Hid (Below w.heap.size w w2) := B1.out.trans (b2.mono z1); have R2 := Lib.hid (R1.out.below b2); have S2 := Lib.hid (RdV.of_own own2).1; have z2 := b2.size; clear own2 b2 R1 B1 HI HF)
  go_wp2_with fail
  (go_at_call 37; refine (HP.out _ _ _ R2.out S2.out).mono ?_; rintro e w3 ⟨v3, rfl, own3, b3⟩; have B3 : Hid (Below w.heap.size w w3) := B2.out.trans (b3.mono (by omega)); have O3 := Lib.hid (own3.mono (show w.heap.size ≤ w2.heap.size by omega)); clear own3 b3)
  go_wp2_with fail
  go_ret
  exact ⟨_, rfl, O3.out, B3.out⟩

end Go.Proofs.Ytbhpogddnpaacaa

/- Plain facts: a text's lines are those that are cut off one by one at the sign that ends a line; what is behind the last such sign. No program. No condition. -/
namespace Go.Proofs.Ytbhpogddnpaacaa

theorem indexK_none {b0 : UInt8} {l : List UInt8} (h : Lib.index l [b0] < 0) : ∀ c ∈ l, c ≠ b0 := by
  induction l with
  | nil => simp
  | cons b r ih =>
    unfold Lib.index at h
    intro c hc
    split at h
    · omega
    · rename_i hb
      have hb' : b ≠ b0 := by
        intro e; subst e; simp at hb
      have hge := Lib.index_ge r [b0]
      split at h
      · rename_i h2
        have h2' : Lib.index r [b0] = -1 := by simpa using h2
        rcases List.mem_cons.1 hc with rfl | hc
        · exact hb'
        · exact ih (by omega) c hc
      · rename_i h2
        have h2' : Lib.index r [b0] ≠ -1 := by simpa using h2
        omega
theorem cutK_yes {b0 : UInt8} {l : List UInt8} (h : 0 ≤ Lib.index l [b0]) : l = (Lib.cut l [b0]).1 ++ b0 :: (Lib.cut l [b0]).2.1 ∧ ∀ c ∈ (Lib.cut l [b0]).1, c ≠ b0 := by
  unfold Lib.cut
  rw [if_pos h]
  simp only [List.length_singleton]
  induction l with
  | nil => simp [Lib.index] at h
  | cons b r ih =>
    by_cases hb : b = b0
    · subst hb
      have e : Lib.index (b :: r) [b] = 0 := by simp [Lib.index]
      rw [e]; simp
    · have hp : List.isPrefixOf [b0] (b :: r) = false := by
        show (b0 == b && List.isPrefixOf [] r) = false
        rw [show (b0 == b) = false by (simp; exact fun e => hb e.symm)]; rfl
      have hge := Lib.index_ge r [b0]
      by_cases h2 : Lib.index r [b0] = -1
      · have e : Lib.index (b :: r) [b0] = -1 := by unfold Lib.index; rw [hp]; simp [h2]
        omega
      · have e : Lib.index (b :: r) [b0] = Lib.index r [b0] + 1 := by
          rw [Lib.index, hp]; simp [h2]
        rw [e]
        have h3 : 0 ≤ Lib.index r [b0] := by omega
        obtain ⟨i1, i2⟩ := ih h3
        have e3 : (Lib.index r [b0] + 1).toNat = (Lib.index r [b0]).toNat + 1 := by omega
        rw [e3]
        refine ⟨?_, ?_⟩
        · rw [List.take_succ_cons, show (Lib.index r [b0]).toNat + 1 + 1 = ((Lib.index r [b0]).toNat + 1) + 1 from rfl, List.drop_succ_cons, List.cons_append, ← i1]
        · intro c hc
          rw [List.take_succ_cons] at hc
          rcases List.mem_cons.1 hc with rfl | hc
          · exact hb
          · exact i2 c hc
theorem cutK_no {b0 : UInt8} {l : List UInt8} (h : ¬ 0 ≤ Lib.index l [b0]) : Lib.cut l [b0] = (l, [], false) := by unfold Lib.cut; rw [if_neg h]

theorem stl_plain (l : List UInt8) (x : List (List UInt8) × List UInt8) (h : ∀ c ∈ l, c ≠ 59) : l.foldl stl x = (x.1, x.2 ++ l) := by
  induction l generalizing x with
  | nil => simp
  | cons c r ih =>
    rw [List.foldl_cons, ih _ (fun c hc => h c (by simp [hc]))]
    unfold stl; rw [if_neg (h c (by simp))]; simp
theorem stl_shift (l : List UInt8) (a x : List (List UInt8)) (y : List UInt8) : l.foldl stl (a ++ x, y) = (a ++ (l.foldl stl (x, y)).1, (l.foldl stl (x, y)).2) := by
  induction l generalizing x y with
  | nil => rfl
  | cons c r ih =>
    rw [List.foldl_cons, List.foldl_cons]
    by_cases h : c = 59
    · have e1 : stl (a ++ x, y) c = (a ++ (x ++ [y]), []) := by unfold stl; rw [if_pos h]; simp
      have e2 : stl (x, y) c = (x ++ [y], []) := by unfold stl; rw [if_pos h]
      rw [e1, e2, ih]
    · have e1 : stl (a ++ x, y) c = (a ++ x, y ++ [c]) := by unfold stl; rw [if_neg h]
      have e2 : stl (x, y) c = (x, y ++ [c]) := by unfold stl; rw [if_neg h]
      rw [e1, e2, ih]
/-- A text that begins with a line and its sign. -/
theorem linesF_cons {p r : List UInt8} (h : ∀ c ∈ p, c ≠ 59) : linesL (p ++ 59 :: r) = p :: linesL r ∧ restL (p ++ 59 :: r) = restL r := by
  have e : linesF (p ++ 59 :: r) = ([p] ++ (linesF r).1, (linesF r).2) := by
    unfold linesF
    rw [List.foldl_append, stl_plain p _ h, List.foldl_cons]
    have e1 : stl (([] : List (List UInt8)), [] ++ p) 59 = ([p] ++ [], []) := by unfold stl; simp
    show r.foldl stl (stl ([], [] ++ p) 59) = _
    rw [e1, stl_shift]
  constructor
  · show (linesF _).1 = _; rw [e]; rfl
  · show (linesF _).2 = _; rw [e]; rfl
theorem lines_none {l : List UInt8} (h : ∀ c ∈ l, c ≠ 59) : linesL l = [] ∧ restL l = l := by
  have e : linesF l = ([], l) := by unfold linesF; rw [stl_plain l _ h]; rfl
  constructor
  · show (linesF _).1 = _; rw [e]
  · show (linesF _).2 = _; rw [e]
/-- What is behind the last sign. -/
theorem rest_last {p r : List UInt8} (h : ∀ c ∈ r, c ≠ 59) : restL (p ++ 59 :: r) = r := by
  show (linesF _).2 = _
  unfold linesF
  rw [List.foldl_append, List.foldl_cons]
  have e1 : ∀ x, stl x 59 = (x.1 ++ [x.2], []) := fun x => by unfold stl; simp
  rw [e1, stl_plain r _ h]; rfl

theorem lines_cut_yes {l : List UInt8} (h : 0 ≤ Lib.index l [59]) : linesL l = (Lib.cut l [59]).1 :: linesL (Lib.cut l [59]).2.1 := by
  obtain ⟨e, hp⟩ := cutK_yes h
  exact (congrArg linesL e).trans (linesF_cons hp).1
theorem lines_cut_no {l : List UInt8} (h : ¬ 0 ≤ Lib.index l [59]) : linesL l = [] := (lines_none (indexK_none (by omega))).1
theorem cut_len {l : List UInt8} (h : 0 ≤ Lib.index l [59]) : (Lib.cut l [59]).2.1.length < l.length := by
  obtain ⟨e, _⟩ := cutK_yes h
  have := congrArg List.length e
  simp at this; omega

theorem bang_list (s : ByteArray) (j : Nat) (hj : j < s.size) : s.data[j]! = s.data.toList[j]'(by simpa using hj) := by
  rw [getElem!_pos s.data j (by simpa using hj)]; simp
/-- What is behind the last sign, by its place. -/
theorem rest_at (s : ByteArray) : ∃ i : Nat, Lib.lastIndexByte s 59 + 1 = i ∧ i ≤ s.size ∧ restL s.data.toList = s.data.toList.drop i := by
  have hl : s.data.toList.length = s.size := by simp
  rcases Lib.lastIndexByte_spec s 59 with ⟨e, hn⟩ | ⟨i, hi, e, hc, hn⟩
  · refine ⟨0, by omega, by omega, ?_⟩
    rw [List.drop_zero]
    refine (lines_none fun c hm => ?_).2
    obtain ⟨j, hj, rfl⟩ := List.getElem_of_mem hm
    have := hn j (by omega)
    rw [bang_list s j (by omega)] at this
    intro e'; rw [e'] at this; exact this rfl
  · refine ⟨i + 1, by omega, by omega, ?_⟩
    have hc' : s.data.toList[i]'(by omega) = 59 := by
      rw [bang_list s i hi] at hc
      apply UInt8.toNat_inj.1
      have : (59 : UInt8).toNat = 59 := rfl
      omega
    have e1 : s.data.toList = s.data.toList.take i ++ 59 :: s.data.toList.drop (i + 1) := by
      rw [← hc', List.getElem_cons_drop, List.take_append_drop]
    rw [e1]
    have e2 : (s.data.toList.take i ++ 59 :: s.data.toList.drop (i + 1)).drop (i + 1) = s.data.toList.drop (i + 1) := by rw [← e1]
    rw [e2]
    refine rest_last fun c hm => ?_
    obtain ⟨j, hj, rfl⟩ := List.getElem_of_mem hm
    rw [List.length_drop] at hj
    rw [List.getElem_drop]
    have := hn (i + 1 + j) (by omega) (by omega)
    rw [bang_list s _ (by omega)] at this
    intro e'; rw [e'] at this; exact this rfl

end Go.Proofs.Ytbhpogddnpaacaa

/- The layings of the library's contracts at this dump: that the bodies of the library functions that are met here are the bodies that the contracts were proved of. No condition. -/
namespace Go.Proofs
open Go.Shelf
def Try.lays219_ren : Go.Shelf.Ren := ⟨fun | 219 => 73 | 217 => 78 | 225 => 79 | 224 => 80 | 267 => 81 | 266 => 84 | 314 => 85 | n => n, fun | 9 => 9 | 3 => 3 | 4 => 4 | 5 => 5 | 46 => 88 | 146 => 98 | 51 => 97 | n => n, fun | 1 => 0 | n => n⟩
theorem Try.lays219 : Go.Proofs.Lays.n219 Try.prog Try.lays219_ren := {
  mixed := by kernel_rfl
  f217 := Try.func78.trans (congrArg some (by kernel_rfl))
  f219 := Try.func73.trans (congrArg some (by kernel_rfl))
  f224 := Try.func80.trans (congrArg some (by kernel_rfl))
  f225 := Try.func79.trans (congrArg some (by kernel_rfl))
  f266 := Try.func84.trans (congrArg some (by kernel_rfl))
  f267 := Try.func81.trans (congrArg some (by kernel_rfl))
  f314 := Try.func85.trans (congrArg some (by kernel_rfl))
  t3 := Try.underlying3
  a3 := Try.isAgg3
  z3 := Try.sizeOf3
  v3 := Try.zeroValue3
  t4 := Try.underlying4
  a4 := Try.isAgg4
  z4 := Try.sizeOf4
  v4 := Try.zeroValue4
  t5 := Try.underlying5
  a5 := Try.isAgg5
  z5 := Try.sizeOf5
  v5 := Try.zeroValue5
  t9 := Try.underlying9
  a9 := Try.isAgg9
  z9 := Try.sizeOf9
  v9 := Try.zeroValue9
  t46 := Try.underlying88
  a46 := Try.isAgg88
  z46 := Try.sizeOf88
  v46 := Try.zeroValue88
  t51 := Try.underlying97
  a51 := Try.isAgg97
  z51 := Try.sizeOf97
  v51 := Try.zeroValue97
  t146 := Try.underlying98
  a146 := Try.isAgg98
  z146 := Try.sizeOf98
  v146 := Try.zeroValue98
  g1 := by kernel_rfl }
def Try.lays148_ren : Go.Shelf.Ren := ⟨fun | 148 => 58 | 222 => 66 | 223 => 67 | 269 => 74 | n => n, fun | 9 => 9 | 3 => 3 | 4 => 4 | 5 => 5 | 146 => 98 | 51 => 97 | 46 => 88 | n => n, fun | n => n⟩
theorem Try.lays148 : Go.Proofs.Lays.n148 Try.prog Try.lays148_ren := {
  mixed := by kernel_rfl
  f148 := Try.func58.trans (congrArg some (by kernel_rfl))
  f222 := Try.func66.trans (congrArg some (by kernel_rfl))
  f223 := Try.func67.trans (congrArg some (by kernel_rfl))
  f269 := Try.func74.trans (congrArg some (by kernel_rfl))
  t3 := Try.underlying3
  a3 := Try.isAgg3
  z3 := Try.sizeOf3
  v3 := Try.zeroValue3
  t4 := Try.underlying4
  a4 := Try.isAgg4
  z4 := Try.sizeOf4
  v4 := Try.zeroValue4
  t5 := Try.underlying5
  a5 := Try.isAgg5
  z5 := Try.sizeOf5
  v5 := Try.zeroValue5
  t9 := Try.underlying9
  a9 := Try.isAgg9
  z9 := Try.sizeOf9
  v9 := Try.zeroValue9
  t46 := Try.underlying88
  a46 := Try.isAgg88
  z46 := Try.sizeOf88
  v46 := Try.zeroValue88
  t51 := Try.underlying97
  a51 := Try.isAgg97
  z51 := Try.sizeOf97
  v51 := Try.zeroValue97
  t146 := Try.underlying98
  a146 := Try.isAgg98
  z146 := Try.sizeOf98
  v146 := Try.zeroValue98 }
end Go.Proofs

/- The text cut at its first sign that ends a line, by the library; what is behind the last one. Condition: the text has at most 2^48 bytes. -/
namespace Go.Proofs.Ytbhpogddnpaacaa
open Go.RowKit Go.Sort

set_option maxRecDepth 100000 in
set_option maxHeartbeats 800000 in
theorem cutSemiS_any (s : ByteArray) (w : World) (hs : s.size ≤ 281474976710656) :
    Calls Try.prog 65 #[.string s, .string ⟨#[59]⟩] w fun e w' => e = .returned (.tuple #[.string ⟨(Lib.cut s.data.toList [59]).1.toArray⟩, .string ⟨(Lib.cut s.data.toList [59]).2.1.toArray⟩, .bool (Lib.cut s.data.toList [59]).2.2]) ∧ ∃ n, w' = w.drewN n := by
  have hc : ∀ w, Calls Try.prog 73 #[.string s, .string ⟨#[59]⟩] w fun e w' => e = .returned (.int .i64 (Lib.index s.data.toList [59])) ∧ w' = w := by
    intro w; have := Any.stringslite_Index_one Try.lays219 s 59 w; rw [← Lib.index_one] at this; exact this
  have HC := Lib.hid hc
  clear hc
  rcases Lib.indexB_cases s ⟨#[59]⟩ with hix | ⟨i, hix, hroom⟩
  · obtain ⟨e1, e2, e3⟩ := Lib.cutB_miss s ⟨#[59]⟩ hix
    have hix' : Lib.index s.data.toList [59] = -1 := hix
    have E1 : Hid ((⟨(Lib.cut s.data.toList [59]).1.toArray⟩ : ByteArray) = s) := e1
    have E2 : Hid ((⟨(Lib.cut s.data.toList [59]).2.1.toArray⟩ : ByteArray) = ByteArray.empty) := e2
    have E3 : Hid ((Lib.cut s.data.toList [59]).2.2 = false) := e3
    have HI := Lib.hid hix'
    clear e1 e2 e3 hix hix'
    go_enter Try.func65, Try.ntmps65
    go_wp2_with (go_at_call 73; refine (HC.out _).mono ?_; rintro e w' ⟨rfl, rfl⟩; rw [HI.out])
    go_ret3
    exact ⟨by rw [E1.out, E2.out, E3.out]; rfl, 0, rfl⟩
  · obtain ⟨e1, e2, e3⟩ := Lib.cutB_hit s ⟨#[59]⟩ i hix
    have hix' : Lib.index s.data.toList [59] = i := hix
    have hr : i + 1 ≤ s.size := hroom
    have E1 : Hid ((⟨(Lib.cut s.data.toList [59]).1.toArray⟩ : ByteArray) = s.extract 0 i) := e1
    have E2 : Hid ((⟨(Lib.cut s.data.toList [59]).2.1.toArray⟩ : ByteArray) = s.extract (i + 1) s.size) := e2
    have E3 : Hid ((Lib.cut s.data.toList [59]).2.2 = true) := e3
    have HI := Lib.hid hix'
    clear e1 e2 e3 hix hix' hroom
    have c1 : (0 : Int) ≤ ↑i := by omega
    have c2 : (↑i : Int) ≤ ↑s.size := by omega
    have c3 : (0 : Int) ≤ ↑i + 1 := by omega
    have c4 : (↑i + 1 : Int) ≤ ↑s.size := by omega
    have c5 : IntKind.i64.wrap ((i : Int) + 1) = (i : Int) + 1 := IntWalk.i64_in _ (by omega)
    have c6 : ((i : Int) + 1).toNat = i + 1 := by omega
    go_enter Try.func65, Try.ntmps65
    go_wp2_with (go_at_call 73; refine (HC.out _).mono ?_; rintro e w' ⟨rfl, rfl⟩; rw [HI.out])
    go_region
    go_wp2
    go_ret3
    exact ⟨by rw [E1.out, E2.out, E3.out]; rfl, 1, rfl⟩

theorem cutSemi_any (s : ByteArray) (w : World) (hs : s.size ≤ 281474976710656) :
    Calls Try.prog 57 #[.string s, .string ⟨#[59]⟩] w fun e w' => e = .returned (.tuple #[.string ⟨(Lib.cut s.data.toList [59]).1.toArray⟩, .string ⟨(Lib.cut s.data.toList [59]).2.1.toArray⟩, .bool (Lib.cut s.data.toList [59]).2.2]) ∧ ∃ n, w' = w.drewN n := by
  go_enter Try.func57, Try.ntmps57
  go_wp2_with (go_at_call 65; refine (cutSemiS_any _ _ hs).mono ?_; rintro e w' ⟨rfl, n, rfl⟩)
  go_ret3
  exact ⟨rfl, n, rfl⟩


theorem lastSemi_any (s : ByteArray) (w : World) (hs : s.size ≤ 281474976710656) :
    Calls Try.prog 58 #[.string s, .string ⟨#[59]⟩] w fun e w' => e = .returned (.int .i64 (Lib.lastIndexByte s 59)) ∧ w' = w :=
  Any.strings_LastIndex_one Try.lays148 s ⟨#[59]⟩ rfl (by omega) w

set_option maxRecDepth 100000 in
set_option maxHeartbeats 800000 in
theorem rest_any (s : ByteArray) (w : World) (hs : s.size ≤ 281474976710656) :
    Calls Try.prog 40 #[.string s] w fun e w' => e = .returned (.string ⟨(restL s.data.toList).toArray⟩) ∧ w' = w := by
  obtain ⟨i, hi, hle, hr⟩ := rest_at s
  have c1 : (0 : Int) ≤ (i : Int) := by omega
  have c2 : (i : Int) ≤ (s.size : Int) := by omega
  have c5 : IntKind.i64.wrap (Lib.lastIndexByte s 59 + 1) = (i : Int) := by rw [hi]; exact IntWalk.i64_in _ (by omega)
  have HX : Hid (s.extract i s.size = ⟨(restL s.data.toList).toArray⟩) := by
    show s.extract i s.size = _
    rw [hr, ext_list, List.take_of_length_le (by rw [len_list]; omega)]
  have HI := Lib.hid hi
  clear hr hi
  go_enter Try.func40, Try.ntmps40
  go_wp2_with (go_at_call 58; refine (lastSemi_any _ _ hs).mono ?_; rintro e w' ⟨rfl, rfl⟩)
  go_ret
  exact ⟨by rw [← HX.out]; simp, rfl⟩

end Go.Proofs.Ytbhpogddnpaacaa

/- The lines of a text, told one by one: what the program's iterator gives to each loop body. Condition: the text has at most 2^21 bytes. -/
namespace Go.Proofs.Ytbhpogddnpaacaa
open Go.RowKit Go.Shelf

/-- How long a text is. -/
def szOf : Value → Nat | .string s => s.size | _ => 0

theorem grownBy_drewN (W : World) (n : Nat) : W.grownBy (W.drewN n) none := ⟨rfl, rfl, rfl, Nat.le_refl _, fun _ _ _ => rfl⟩

set_option maxRecDepth 100000 in
set_option maxHeartbeats 1000000 in
theorem tell_in (n : Nat) (hn : 1 ≤ n) (l Bn : Nat) (s : ByteArray) (hs : s.size ≤ 2097152) (J Jx : List (List UInt8) → World → Prop)
    (hY : ∀ pre x W, J pre W → pre.length < (linesL s.data.toList).length → YieldAt Fence.wide (n - 1) Try.prog l #[.string ⟨x.toArray⟩] W fun e W' =>
      (e = .returned (.bool true) ∧ J (pre ++ [x]) W' ∧ True) ∨ (e = .returned (.bool false) ∧ Jx (pre ++ [x]) W'))
    (W : World) (hJ : AbidesFrom W.heap.size J) (hBn : W.cell? ⟨Bn, 0, none⟩ = some (.string s)) (h0 : J [] W) :
    CallsIn Fence.wide n Try.prog 56 #[.func (.yield l) #[] #[], .pointer (some ⟨Bn, 0, none⟩)] W fun e W' => (∃ v, e = .returned v) ∧
      ((∃ ys, ys = linesL s.data.toList ∧ J ys W') ∨ (∃ pre, pre <+: linesL s.data.toList ∧ Jx pre W')) := by
  refine callsIn_of_wp Try.func56 rfl trivial ?_ rfl
  simp only [Try.ntmps56, List.size_toArray, List.length_cons, List.length_nil, Nat.reduceAdd, Nat.reduceSub, Array.replicate_succ, Array.replicate_zero, List.push_toArray, List.append_toArray, List.nil_append, List.cons_append]
  gi_wp2
  gi_loopw [3] (fun p wr => ∃ (pre : List (List UInt8)) (t : ByteArray), p = .string t ∧ t.size ≤ s.size ∧ linesL s.data.toList = pre ++ linesL t.data.toList ∧ J pre wr)
    (fun p _ => szOf p)
  case atStart =>
    exact ⟨[], s, rfl, Nat.le_refl _, rfl, h0⟩
  case round =>
    obtain ⟨pre, t, rfl, ht, hx, hJs⟩ := hrel
    by_cases hi : 0 ≤ Lib.index t.data.toList [59]
    · have h3 : (Lib.cut t.data.toList [59]).2.2 = true := by unfold Lib.cut; rw [if_pos hi]
      have hl := lines_cut_yes hi
      have hm := cut_len hi
      rw [len_list] at hm
      obtain ⟨x, hxx⟩ : ∃ x, x = (Lib.cut t.data.toList [59]).1 := ⟨_, rfl⟩
      obtain ⟨r, hrr⟩ : ∃ r, r = (Lib.cut t.data.toList [59]).2.1 := ⟨_, rfl⟩
      have hcut : ∀ w, Calls Try.prog 57 #[.string t, .string ⟨#[59]⟩] w fun e w' => e = .returned (.tuple #[.string ⟨x.toArray⟩, .string ⟨r.toArray⟩, .bool true]) ∧ ∃ n, w' = w.drewN n := by
        intro w; have := cutSemi_any t w (by omega); rw [h3, ← hxx, ← hrr] at this; exact this
      rw [← hxx, ← hrr] at hl
      rw [← hrr] at hm
      rw [hl] at hx
      have HC := Lib.hid hcut
      have HX := Lib.hid hx
      have hlen : pre.length < (linesL s.data.toList).length := by rw [hx]; simp
      clear hcut hxx hrr h3 hi hx hl
      gi_wp2_with (refine ⟨trivial, ?_⟩; gi_at_call 57; refine (callsIn_wide.2 (HC.out _)).mono ?_; rintro e w1 ⟨rfl, k, rfl⟩; obtain ⟨fn, tmps, assign, body, hy, hR⟩ := hY pre x _ (hJ _ _ _ none hJs (grownBy_drewN wr k) (fun r e => by cases e)) hlen)
      refine hR.mono ?_
      rintro e W3 (⟨rfl, hJ3, _⟩ | ⟨rfl, hJx3⟩)
      · gi_wp2
        go_roundw
        case rel => exact ⟨pre ++ [x], ⟨r.toArray⟩, rfl, by (have e : (⟨r.toArray⟩ : ByteArray).size = r.length := rfl); omega, by rw [HX.out]; simp, hJ3⟩
        case measure => show (⟨r.toArray⟩ : ByteArray).size < t.size; exact hm
      · gi_wp2
        refine bodyPost_ret (results_none rfl _ _ _) rfl ?_
        exact ⟨⟨_, rfl⟩, .inr ⟨pre ++ [x], ⟨linesL r, by rw [HX.out]; simp⟩, hJx3⟩⟩
    · have hcut : ∀ w, Calls Try.prog 57 #[.string t, .string ⟨#[59]⟩] w fun e w' => e = .returned (.tuple #[.string t, .string ⟨#[]⟩, .bool false]) ∧ ∃ n, w' = w.drewN n := by
        intro w; have := cutSemi_any t w (by omega); rw [cutK_no hi] at this; exact this
      have HC := Lib.hid hcut
      have hl := lines_cut_no hi
      rw [hl, List.append_nil] at hx
      have HX := Lib.hid hx
      clear hcut hi hl hx
      gi_wp2_with (refine ⟨trivial, ?_⟩; gi_at_call 57; refine (callsIn_wide.2 (HC.out _)).mono ?_; rintro e w1 ⟨rfl, k, rfl⟩)
      refine ⟨fun _ h => (by cases h), ?_⟩
      gi_wp2
      refine bodyPost_ret (results_none rfl _ _ _) rfl ?_
      exact ⟨⟨_, rfl⟩, .inl ⟨pre, HX.out.symm, hJ _ _ _ none hJs (grownBy_drewN wr k) (fun r e => by cases e)⟩⟩

theorem linesOf_any (s : ByteArray) (w : World) :
    Calls Try.prog 39 #[.string s] w fun e w' => e = .returned (.func (.func 56) #[] #[.pointer (some ⟨w.heap.size, 0, none⟩)]) ∧ w' = w.alloc (.cells #[.string s] 9) := by
  go_enter Try.func39, Try.ntmps39
  go_wp2
  go_ret
  exact ⟨rfl, rfl⟩

/-- What linesOf hands back tells the text's lines, in their order, until a round says no more. -/
theorem tell_stops (n : Nat) (hn : 1 ≤ n) (Bn : Nat) (s : ByteArray) (hs : s.size ≤ 2097152) (w : World) (hBn : Bn < w.heap.size) (hc : w.cell? ⟨Bn, 0, none⟩ = some (.string s)) :
    SeqStopsK Fence.wide n Try.prog 56 #[.pointer (some ⟨Bn, 0, none⟩)] (fun x : List UInt8 => #[Value.string ⟨x.toArray⟩]) (fun _ _ => True) (fun ys => ys = linesL s.data.toList) (fun pre => pre <+: linesL s.data.toList) (linesL s.data.toList).length w := fun l J Jx W hW hJ _ hY h0 =>
  tell_in n hn l Bn s hs J Jx hY W hJ ((hW.cell (p := ⟨Bn, 0, none⟩) hBn).trans hc) h0

end Go.Proofs.Ytbhpogddnpaacaa

/- StrLines of the program: the lines of a text as a list of its own, and what is behind the last sign. Condition: the text has at most 2^21 bytes. -/
namespace Go.Proofs.Ytbhpogddnpaacaa
open Go.RowKit Go.Shelf

set_option maxRecDepth 100000 in
set_option maxHeartbeats 2000000 in
theorem append_in (n : Nat) (hn : 3 ≤ n) (s : ByteArray) (hs : s.size ≤ 2097152) (Bn : Nat) (w : World) (hBn : Bn < w.heap.size) (hc : w.cell? ⟨Bn, 0, none⟩ = some (.string s)) :
    CallsIn Fence.wide n Try.prog 55 #[.slice none 0 0, .func (.func 56) #[] #[.pointer (some ⟨Bn, 0, none⟩)]] w fun e w' => ∃ v, e = .returned v ∧ w'.ownsRow w.heap.size 9 1 v (linesL s.data.toList).length ((linesL s.data.toList).map strV) ∧ Below w.heap.size w w' := by
  have h1 : 1 ≤ n := by omega
  have hll := lines_len s.data.toList
  rw [len_list] at hll
  obtain ⟨i0, hi, hz0, hz1, hz2⟩ := info_parts infoStr
  refine callsIn_of_wp_marks Try.func55 rfl trivial ?_ rfl
  simp only [Try.ntmps55, List.size_toArray, List.length_cons, List.length_nil, Nat.reduceAdd, Nat.reduceSub, Array.replicate_succ, Array.replicate_zero, List.push_toArray, List.append_toArray, List.nil_append, List.cons_append]
  gi_wp2
  have bO := Boxed.new w 48 (.slice none 0 0)
  have hB0 : Below w.heap.size w (w.alloc (.cells #[.slice none 0 0] 48)) := (Below.refl _ w).alloc (Nat.le_refl _) _
  refine wpIn_rangeFunc_ownG rfl h1 (gf := 56) (lb := #[.pointer (some ⟨Bn, 0, none⟩)]) rfl trivial (enters_of Try.func56 (by kernel_rfl) rfl)
    (tell_stops (n - 1) (by omega) Bn s hs (w.alloc (.cells #[.slice none 0 0] 48)) (by simp; omega) ((hB0.cell (p := ⟨Bn, 0, none⟩) hBn).trans hc)) (fun _ _ => trivial) (fun _ _ _ _ _ _ _ _ => trivial) (Below.refl _ _) (fun _ => rfl)
    (fun pre W => (∃ v, Boxed W w.heap.size 48 v ∧ W.ownsRow w.heap.size 9 1 v pre.length (pre.map strV) ∧ True) ∧ Below w.heap.size w W)
    (fun _ _ _ => False)
    (OwnFrom.and (Own.from (holdsRow_own w.heap.size w.heap.size 48 9 1 (fun pre : List (List UInt8) => pre.length) (fun pre => pre.map strV) (fun _ _ => True)) _) (ownFrom_below (Nat.le_refl _) (by simp)))
    (fun _ _ _ _ _ hs _ _ => hs)
    ⟨⟨_, bO, World.ownsRow_nil _ _ _ _, trivial⟩, hB0⟩
    (fun x => { tmps := #[.slice none 0 0, .func (.func 56) #[] #[.pointer (some ⟨Bn, 0, none⟩)], .pointer (some ⟨w.heap.size, 0, none⟩), undef, .slice none 0 0, .string ⟨x.toArray⟩, .func (.func 56) #[] #[.pointer (some ⟨Bn, 0, none⟩)], .string ⟨x.toArray⟩, undef, undef, undef, undef, undef], defers := [] }) ?assign ?body ?done ?stop
  case assign =>
    intro l x W K hK
    gi_wp2_with (rw [Oper.semAt_eq _ _ _ (fun c h => by cases h)]; go_simp; try go_bits)
    exact hK
  case body =>
    rintro l pre x W ⟨⟨v, hv, hrow, _⟩, hB⟩ hlt
    have hc := hv.cell
    have hpl : (pre.map strV).length = pre.length := List.length_map _
    gi_wp2_with (first
      | (gi_at_builtin; refine wpListIn_append_own _ rfl _ _ 48 rfl w.heap.size 9 i0 (.string ⟨#[]⟩) 1 16 Try.underlying48 hi hz0 hz1 hz2 rfl (by decide) _ _ _ rfl (hrow.alloc _) ⟨W.heap.size, 0, none⟩ 1 1 [.string ⟨x.toArray⟩] rfl rfl (cell_one_new _ _ _) (by simp [Value.oneCell']) (by unfold maxLen; omega) (by omega) (by have := hB.size; simp; omega) ?_; intro v' w1 hown' hgrow _; obtain ⟨g', cap', rfl⟩ := ownsRow_succ hown'; obtain ⟨hv1, hv2, hr2, hk2, hb2⟩ := hv.appended (by decide) hrow hB.size (Nat.le_refl _) hown' hgrow; have hc1 := hv1.cell; have hf1 := hv1.frozen)
      | (rw [Oper.semAt_eq _ _ _ (fun c h => by cases h)]; go_simp; try go_bits))
    exact ⟨hk2.from _, trivial, ⟨_, hv2, by simpa [strV] using hr2, trivial⟩, hB.trans hb2⟩
  case done =>
    rintro D ys W hD rfl ⟨⟨v, hv, hrow, _⟩, hB⟩ hK
    have hc := hv.cell
    gi_wp2
    refine ⟨by simp, .inl ⟨_, _, rfl, run_takeDeferred hK, ?_⟩⟩
    exact ⟨_, results_tmp rfl _ _ _, v, rfl, ownsRow_putObj hrow _ hK rfl, hB.trans (belowK_b (w := w) (Nat.le_refl _) W D _ _ (by simp at hD; omega) hK rfl rfl)⟩
  case stop =>
    rintro D c pre W _ _ h _
    exact h.elim

set_option maxRecDepth 100000 in
set_option maxHeartbeats 800000 in
theorem collect_any (s : ByteArray) (hs : s.size ≤ 2097152) (Bn : Nat) (w : World) (hBn : Bn < w.heap.size) (hc : w.cell? ⟨Bn, 0, none⟩ = some (.string s)) :
    Calls Try.prog 38 #[.func (.func 56) #[] #[.pointer (some ⟨Bn, 0, none⟩)]] w fun e w' => ∃ v, e = .returned v ∧ w'.ownsRow w.heap.size 9 1 v (linesL s.data.toList).length ((linesL s.data.toList).map strV) ∧ Below w.heap.size w w' := by
  have HA := Lib.hid (callsIn_wide.1 (append_in 3 (by omega) s hs Bn w hBn hc))
  clear hc
  go_enter Try.func38, Try.ntmps38
  go_wp2_with (go_at_call 55; refine HA.out.mono ?_; rintro e w' ⟨v, rfl, ho, hb⟩)
  obtain ⟨a1, cap1, rfl⟩ := own_form ho
  go_ret
  exact ⟨_, rfl, ho, hb⟩

set_option maxRecDepth 100000 in
set_option maxHeartbeats 800000 in
theorem implLines_any (s : ByteArray) (w : World) (hs : s.size ≤ 2097152) :
    Calls Try.prog 20 #[.string s] w fun e w' => ∃ v, e = .returned (.tuple #[v, .string ⟨(restL s.data.toList).toArray⟩]) ∧ w'.ownsRow w.heap.size 9 1 v (linesL s.data.toList).length ((linesL s.data.toList).map strV) ∧ Below w.heap.size w w' := by
  go_enter Try.func20, Try.ntmps20
  go_wp2_with (first
    | (go_at_call 39; refine (linesOf_any _ _).mono ?_; rintro e w' ⟨rfl, rfl⟩)
    | (go_at_call 38; refine (collect_any s hs w.heap.size _ (by simp) (by simp)).mono ?_; rintro e w1 ⟨v, rfl, ho, hb⟩; obtain ⟨a1, cap1, rfl⟩ := own_form ho)
    | (go_at_call 40; refine (rest_any _ _ (by omega)).mono ?_; rintro e w2 ⟨rfl, rfl⟩))
  go_ret2
  exact ⟨_, rfl, own_base ho (by simp), below_box hb⟩

end Go.Proofs.Ytbhpogddnpaacaa

/- PosPairs of the program: the spans of two texts' lines, in memory of the call's own. Condition: each text has at most 2^21 bytes. -/
namespace Go.Proofs.Ytbhpogddnpaacaa
open Go.RowKit

set_option maxRecDepth 100000 in
set_option maxHeartbeats 3200000 in
theorem implPairs_any (s far : ByteArray) (w : World) (hs : s.size ≤ 2097152) (hf : far.size ≤ 2097152) :
    Calls Try.prog 8 #[.string s, .string far] w fun e w' => ∃ v, e = .returned v ∧ OwnSp w' w.heap.size v (spansL (pairsL s.data.toList far.data.toList)) ∧ Below w.heap.size w w' := by
  have hi0 := pairsL_ins s.data.toList far.data.toList
  have ho0 := pairsL_outs s.data.toList far.data.toList
  rw [len_list] at hi0 ho0
  have HI : Hid (∀ w, Calls Try.prog 20 #[.string s] w fun e w' => ∃ v, e = .returned (.tuple #[v, .string ⟨(restL s.data.toList).toArray⟩]) ∧ w'.ownsRow w.heap.size 9 1 v (linesL s.data.toList).length ((linesL s.data.toList).map strV) ∧ Below w.heap.size w w') := fun w => implLines_any s w hs
  have HF : Hid (∀ w, Calls Try.prog 20 #[.string far] w fun e w' => ∃ v, e = .returned (.tuple #[v, .string ⟨(restL far.data.toList).toArray⟩]) ∧ w'.ownsRow w.heap.size 9 1 v (linesL far.data.toList).length ((linesL far.data.toList).map strV) ∧ Below w.heap.size w w') := fun w => implLines_any far w hf
  have hlx : ∀ x ∈ linesL s.data.toList, x.length ≤ 2097152 := fun x hx => by have := line_len hx; rw [len_list] at this; omega
  have hly : ∀ x ∈ linesL far.data.toList, x.length ≤ 2097152 := fun x hx => by have := line_len hx; rw [len_list] at this; omega
  have hl1 := lines_len s.data.toList
  have hl2 := lines_len far.data.toList
  rw [len_list] at hl1 hl2
  obtain ⟨rs, hrs⟩ : ∃ rs, rs = (restL s.data.toList).toArray := ⟨_, rfl⟩
  obtain ⟨rf, hrf⟩ : ∃ rf, rf = (restL far.data.toList).toArray := ⟨_, rfl⟩
  obtain ⟨l, hl⟩ : ∃ l, l = pairsL s.data.toList far.data.toList := ⟨_, rfl⟩
  rw [← hl] at hi0 ho0 ⊢
  unfold pairsL at hl
  obtain ⟨xs, hxs⟩ : ∃ xs, xs = linesL s.data.toList := ⟨_, rfl⟩
  obtain ⟨ys, hys⟩ : ∃ ys, ys = linesL far.data.toList := ⟨_, rfl⟩
  rw [← hxs] at HI hlx hl1 hl
  rw [← hys] at HF hly hl2 hl
  rw [← hrs] at HI
  rw [← hrf] at HF
  have hxl : xs.length ≤ 2097152 := by omega
  have hyl : ys.length ≤ 2097152 := by omega
  have hn : l.length = min xs.length ys.length := by rw [hl, List.length_zip]
  have HLX := Lib.hid hlx
  have HLY := Lib.hid hly
  have HL := Lib.hid hl
  clear hlx hly hl hxs hys hrs hrf hl1 hl2
  go_enter Try.func8, Try.ntmps8
  go_wp2_with fail
  (go_at_call 20; refine (HI.out _).mono ?_; rintro e w1 ⟨v1, rfl, own1, b1⟩; obtain ⟨a1, c1, rfl⟩ := own_form own1; have B1 := Lib.hid b1; have OX1 := Lib.hid own1; have z1 := b1.size; clear own1 b1)
  go_wp2_with fail
  (go_at_call 20; refine (HF.out _).mono ?_; rintro e w2 ⟨v2, rfl, own2, b2⟩; obtain ⟨a2, c2, rfl⟩ := own_form own2; have B2 : Hid (Below w.heap.size w w2) := B1.out.trans (b2.mono z1); have OX := Lib.hid (own_below OX1.out b2); have OY := Lib.hid own2; have z2 := b2.size; clear own2 b2 OX1 B1 HI HF)
  go_wp2_with fail
  rw [show min (xs.length : Int) (ys.length : Int) = (l.length : Int) by omega]
  have hnx : l.length ≤ xs.length := by omega
  have hny : l.length ≤ ys.length := by omega
  clear hn
  go_loopw [9, 26] (fun sp i wr => ∃ (k : Nat) (v : Value), k ≤ l.length ∧ i = .int .i64 k ∧ v = sp ∧ OwnSp wr w2.heap.size v ((spansL l).take k) ∧ Below w2.heap.size w2 wr) (fun _ i _ => l.length - (intOf i).toNat)
  case atStart => exact ⟨0, _, Nat.zero_le _, rfl, rfl, OwnSp.nil _ _, Below.refl _ _⟩
  case round =>
    obtain ⟨k, v, hk, rfl, rfl, own, hb⟩ := hrel
    have hsz := hb.size
    have hkl : ((spansL l).take k).length = k := by rw [List.length_take, spansL_len]; omega
    by_cases hlt : k < l.length
    · obtain ⟨gx, cx, ex, _, hgx, hcx, cellx⟩ := own_cells OX.out (by omega)
      obtain ⟨gy, cy, ey, _, hgy, hcy, celly⟩ := own_cells OY.out (by omega)
      simp at ex ey
      obtain ⟨rfl, rfl⟩ := ex
      obtain ⟨rfl, rfl⟩ := ey
      have hkx : k < xs.length := by omega
      have hky : k < ys.length := by omega
      obtain ⟨x, hx⟩ : ∃ x, x = xs[k] := ⟨_, rfl⟩
      obtain ⟨y, hy⟩ : ∃ y, y = ys[k] := ⟨_, rfl⟩
      have hlk : l[k] = (x, y) := by rw [hx, hy]; simp only [HL.out, List.getElem_zip]
      have cX : wr.cell? ⟨gx, k, none⟩ = some (.string ⟨x.toArray⟩) := by
        rw [hb.cell (p := ⟨gx, k, none⟩) hgx, (cellx k (by simpa using hkx)).1]; simp [hx, strV]
      have cY : wr.cell? ⟨gy, k, none⟩ = some (.string ⟨y.toArray⟩) := by
        rw [hb.cell (p := ⟨gy, k, none⟩) hgy, (celly k (by simpa using hky)).1]; simp [hy, strV]
      have hxn : x.length ≤ 2097152 := HLX.out x (by rw [hx]; exact List.getElem_mem _)
      have hyn : y.length ≤ 2097152 := HLY.out y (by rw [hy]; exact List.getElem_mem _)
      obtain ⟨e1, e2⟩ := lastS_take l hk
      have hi1 := insL_le l k
      have ho1 := outsL_le l k
      have HN : Hid ((spansL l).take (k + 1) = (spansL l).take k ++ [(insL (l.take k), insL (l.take k) + x.length + 1, outsL (l.take k), outsL (l.take k) + y.length + 1, decide (y = x))]) := by
        show _ = _
        rw [spansL_succ hlt, spAt_next hlt, hlk]
      have HW : Hid (∀ wx, Below wr.heap.size wr wx → Calls Try.prog 21 #[v, .string ⟨x.toArray⟩, .string ⟨y.toArray⟩] wx fun e w' => ∃ v', e = .returned v' ∧ OwnSp w' w2.heap.size v' ((spansL l).take (k + 1)) ∧ Below w2.heap.size w2 w') := fun wx hbx => by
        refine (with_any w2.heap.size v ((spansL l).take k) ⟨x.toArray⟩ ⟨y.toArray⟩ wx (by omega) (Nat.le_trans hsz hbx.size) (own.below hbx) (by simpa [ByteArray.size] using hxn) (by simpa [ByteArray.size] using hyn) (by rw [e1]; omega) (by rw [e2]; omega)).mono ?_
        rintro e w' ⟨v', rfl, h1, h2⟩
        refine ⟨v', rfl, ?_, (hb.trans (hbx.mono hsz)).trans h2⟩
        rw [HN.out, ← str_beq]
        rw [e1, e2] at h1
        simpa [ByteArray.size] using h1
      have hk2 : (k : Int) ≤ (c1 : Int) := by omega
      have hk3 : (k : Int) ≤ (c2 : Int) := by omega
      clear cellx celly hx hy hlk own e1 e2 HN hkl hi1 ho1
      go_wp2_with fail
      go_region_with (go_at_call 21; refine (HW.out _ (by first | exact Below.refl _ _ | exact (Below.refl _ _).drew)).mono ?_; rintro e w' ⟨v', rfl, h1, h2⟩; have H1 := Lib.hid h1; have H2 := Lib.hid h2; clear h1 h2)
      all_goals
        go_wp2_with fail
        go_roundw
        case rel => exact ⟨k + 1, _, by omega, by go_num, rfl, H1.out, H2.out⟩
        case measure => simp [intOf]; omega
    · have hke : k = l.length := by omega
      subst hke
      have HO : Hid (OwnSp wr w2.heap.size v (spansL l)) := by
        rw [List.take_of_length_le (by rw [spansL_len]; omega)] at own
        exact own
      clear own hlt
      go_wp2_with fail
      go_ret
      exact ⟨_, rfl, HO.out.mono (by omega), B2.out.trans (hb.mono (by omega))⟩

end Go.Proofs.Ytbhpogddnpaacaa

/- How the law compares lists of spans, marks them and finds the marks again. Conditions: at most 2^22 spans. -/
namespace Go.Proofs.Ytbhpogddnpaacaa
open Go.RowKit

/-- The five cells of an element. -/
theorem RowAt.five {w : World} {g : Nat} {xs : List (Nat × Nat × Nat × Nat × Bool)} (h : RowAt w g (flatC spC xs)) (i : Nat) (hi : i < xs.length) (f t o u : Nat) (p : Bool) (hp : (f, t, o, u, p) = xs[i]) :
    (w.cell? ⟨g, i * 5, none⟩ = some (.int .i64 f) ∧ w.cell? ⟨g, i * 5 + 1, none⟩ = some (.int .i64 t) ∧ w.cell? ⟨g, i * 5 + 2, none⟩ = some (.int .i64 o) ∧ w.cell? ⟨g, i * 5 + 3, none⟩ = some (.int .i64 u) ∧ w.cell? ⟨g, i * 5 + 4, none⟩ = some (.bool p)) ∧
    (w.frozen? ⟨g, i * 5, none⟩ = false ∧ w.frozen? ⟨g, i * 5 + 1, none⟩ = false ∧ w.frozen? ⟨g, i * 5 + 2, none⟩ = false ∧ w.frozen? ⟨g, i * 5 + 3, none⟩ = false ∧ w.frozen? ⟨g, i * 5 + 4, none⟩ = false) := by
  have e0 := h.elem spC_len i hi 0 (by decide) (.int .i64 f) (by rw [← hp]; rfl)
  have e1 := h.elem spC_len i hi 1 (by decide) (.int .i64 t) (by rw [← hp]; rfl)
  have e2 := h.elem spC_len i hi 2 (by decide) (.int .i64 o) (by rw [← hp]; rfl)
  have e3 := h.elem spC_len i hi 3 (by decide) (.int .i64 u) (by rw [← hp]; rfl)
  have e4 := h.elem spC_len i hi 4 (by decide) (.bool p) (by rw [← hp]; rfl)
  exact ⟨⟨e0.1, e1.1, e2.1, e3.1, e4.1⟩, ⟨e0.2, e1.2, e2.2, e3.2, e4.2⟩⟩

/-- n marks of spans, from k on. -/
def marksS (k n : Nat) : List (Nat × Nat × Nat × Nat × Bool) := (List.range n).map fun i => (k + 5 * i, k + 5 * i + 1, k + 5 * i + 2, k + 5 * i + 3, decide ((k + 5 * i + 4) % 3 = 0))
theorem marksS_len (k n : Nat) : (marksS k n).length = n := by simp [marksS]
theorem marksS_at (k n i : Nat) (h : i < (marksS k n).length) : (marksS k n)[i] = (k + 5 * i, k + 5 * i + 1, k + 5 * i + 2, k + 5 * i + 3, decide ((k + 5 * i + 4) % 3 = 0)) := by simp [marksS]
theorem set_right {α : Type} (X Y : List α) (i : Nat) (v : α) : (X ++ Y).set (X.length + i) v = X ++ Y.set i v := by
  rw [List.set_append_right _ _ (by omega)]; congr 2; omega
theorem flat_set5 (A C : List (Nat × Nat × Nat × Nat × Bool)) (o p : Nat × Nat × Nat × Nat × Bool) :
    (((((flatC spC (A ++ o :: C)).set (A.length * 5) (.int .i64 p.1)).set (A.length * 5 + 1) (.int .i64 p.2.1)).set (A.length * 5 + 2) (.int .i64 p.2.2.1)).set (A.length * 5 + 3) (.int .i64 p.2.2.2.1)).set (A.length * 5 + 4) (.bool p.2.2.2.2) = flatC spC (A ++ p :: C) := by
  have hX := flatC_len spC_len A
  rw [flatC_app, flatC_app]
  obtain ⟨X, hx⟩ : ∃ X, X = flatC spC A := ⟨_, rfl⟩
  rw [← hx] at hX ⊢
  rw [← hX]
  have h0 := set_right X (flatC spC (o :: C)) 0 (.int .i64 p.1)
  simp only [Nat.add_zero] at h0
  rw [h0, set_right, set_right, set_right, set_right]
  rfl
theorem marks_next {k : Nat} {xs : List (Nat × Nat × Nat × Nat × Bool)} {j : Nat} (h : j < xs.length) :
    (marksS k xs.length).take j ++ xs.drop j = (marksS k xs.length).take j ++ xs[j] :: xs.drop (j + 1) ∧
    (marksS k xs.length).take (j + 1) ++ xs.drop (j + 1) = (marksS k xs.length).take j ++ (k + 5 * j, k + 5 * j + 1, k + 5 * j + 2, k + 5 * j + 3, decide ((k + 5 * j + 4) % 3 = 0)) :: xs.drop (j + 1) := by
  refine ⟨by rw [List.drop_eq_getElem_cons h], ?_⟩
  rw [List.take_succ_eq_append_getElem (by rw [marksS_len]; exact h), marksS_at]
  simp

theorem RowAt.mark5 {w : World} {g j : Nat} {A C : List (Nat × Nat × Nat × Nat × Bool)} {o : Nat × Nat × Nat × Nat × Bool} (h : RowAt w g (flatC spC (A ++ o :: C))) (hj : A.length = j) (p : Nat × Nat × Nat × Nat × Bool) (v0 v1 v2 v3 v4 : Value) (hv : spC p = [v0, v1, v2, v3, v4]) :
    RowAt (((((w.setCell ⟨g, j * 5, none⟩ v0).setCell ⟨g, j * 5 + 1, none⟩ v1).setCell ⟨g, j * 5 + 2, none⟩ v2).setCell ⟨g, j * 5 + 3, none⟩ v3).setCell ⟨g, j * 5 + 4, none⟩ v4) g (flatC spC (A ++ p :: C)) := by
  subst hj
  have hl : (flatC spC (A ++ o :: C)).length = (A.length + (C.length + 1)) * 5 := by rw [flatC_len spC_len]; simp
  simp only [spC, List.cons.injEq, and_true] at hv
  obtain ⟨rfl, rfl, rfl, rfl, rfl⟩ := hv
  rw [← flat_set5 A C o p]
  exact ((((h.set (by omega) _).set (by simp only [List.length_set]; omega) _).set (by simp only [List.length_set]; omega) _).set (by simp only [List.length_set]; omega) _).set (by simp only [List.length_set]; omega) _

end Go.Proofs.Ytbhpogddnpaacaa
