/- PosPairs of the program: the spans of two texts' lines, in memory of the call's own. Condition: each text has at most 2^21 bytes. -/
import Derived.Test.YtgjhfmlncibpmaaSpWith
import Derived.Test.YtgjhfmlncibpmaaILines
import Derived.Deep.RegionWith
namespace Go.Proofs.Ytgjhfmlncibpmaa
open Go.RowKit

set_option maxRecDepth 100000 in
set_option maxHeartbeats 3200000 in
theorem implPairs_any (s far : ByteArray) (w : World) (hs : s.size ≤ 2097152) (hf : far.size ≤ 2097152) :
    Calls Try.prog 6 #[.string s, .string far] w fun e w' => ∃ v, e = .returned v ∧ OwnSp w' w.heap.size v (spansL (pairsL s.data.toList far.data.toList)) ∧ Below w.heap.size w w' := by
  have hi0 := pairsL_ins s.data.toList far.data.toList
  have ho0 := pairsL_outs s.data.toList far.data.toList
  rw [len_list] at hi0 ho0
  have HI : Hid (∀ w, Calls Try.prog 13 #[.string s] w fun e w' => ∃ v, e = .returned (.tuple #[v, .string ⟨(restL s.data.toList).toArray⟩]) ∧ w'.ownsRow w.heap.size 9 1 v (linesL s.data.toList).length ((linesL s.data.toList).map strV) ∧ Below w.heap.size w w') := fun w => implLines_any s w hs
  have HF : Hid (∀ w, Calls Try.prog 13 #[.string far] w fun e w' => ∃ v, e = .returned (.tuple #[v, .string ⟨(restL far.data.toList).toArray⟩]) ∧ w'.ownsRow w.heap.size 9 1 v (linesL far.data.toList).length ((linesL far.data.toList).map strV) ∧ Below w.heap.size w w') := fun w => implLines_any far w hf
  have hlx : ∀ x ∈ linesL s.data.toList, x.length ≤ 2097152 := fun x hx => by have := line_len hx; rw [len_list] at this; omega
  have hly : ∀ x ∈ linesL far.data.toList, x.length ≤ 2097152 := fun x hx => by have := line_len hx; rw [len_list] at this; omega
  have hl1 := lines_len s.data.toList
  have hl2 := lines_len far.data.toList
  rw [len_list] at hl1 hl2
  obtain ⟨rs, hrs⟩ : ∃ rs, rs = (restL s.data.toList).toArray := ⟨_, rfl⟩
  obtain ⟨rf, hrf⟩ : ∃ rf, rf = (restL far.data.toList).toArray := ⟨_, rfl⟩
  obtain ⟨l, hl⟩ : ∃ l, l = pairsL s.data.toList far.data.toList := ⟨_, rfl⟩
  rw [← hl] at hi0 ho0 ⊢
  unfold pairsL at hl
  obtain ⟨xs, hxs⟩ : ∃ xs, xs = linesL s.data.toList := ⟨_, rfl⟩
  obtain ⟨ys, hys⟩ : ∃ ys, ys = linesL far.data.toList := ⟨_, rfl⟩
  rw [← hxs] at HI hlx hl1 hl
  rw [← hys] at HF hly hl2 hl
  rw [← hrs] at HI
  rw [← hrf] at HF
  have hxl : xs.length ≤ 2097152 := by omega
  have hyl : ys.length ≤ 2097152 := by omega
  have hn : l.length = min xs.length ys.length := by rw [hl, List.length_zip]
  have HLX := Lib.hid hlx
  have HLY := Lib.hid hly
  have HL := Lib.hid hl
  clear hlx hly hl hxs hys hrs hrf hl1 hl2
  go_enter Try.func6, Try.ntmps6
  go_wp2_with fail
  (go_at_call 13; refine (HI.out _).mono ?_; rintro e w1 ⟨v1, rfl, own1, b1⟩; obtain ⟨a1, c1, rfl⟩ := own_form own1; have B1 := Lib.hid b1; have OX1 := Lib.hid own1; have z1 := b1.size; clear own1 b1)
  go_wp2_with fail
  (go_at_call 13; refine (HF.out _).mono ?_; rintro e w2 ⟨v2, rfl, own2, b2⟩; obtain ⟨a2, c2, rfl⟩ := own_form own2; have B2 : Hid (Below w.heap.size w w2) := B1.out.trans (b2.mono z1); have OX := Lib.hid (own_below OX1.out b2); have OY := Lib.hid own2; have z2 := b2.size; clear own2 b2 OX1 B1 HI HF)
  go_wp2_with fail
  rw [show min (xs.length : Int) (ys.length : Int) = (l.length : Int) by omega]
  have hnx : l.length ≤ xs.length := by omega
  have hny : l.length ≤ ys.length := by omega
  clear hn
  go_loopw [9, 26] (fun sp i wr => ∃ (k : Nat) (v : Value), k ≤ l.length ∧ i = .int .i64 k ∧ v = sp ∧ OwnSp wr w2.heap.size v ((spansL l).take k) ∧ Below w2.heap.size w2 wr) (fun _ i _ => l.length - (intOf i).toNat)
  case atStart => exact ⟨0, _, Nat.zero_le _, rfl, rfl, OwnSp.nil _ _, Below.refl _ _⟩
  case round =>
    obtain ⟨k, v, hk, rfl, rfl, own, hb⟩ := hrel
    have hsz := hb.size
    have hkl : ((spansL l).take k).length = k := by rw [List.length_take, spansL_len]; omega
    by_cases hlt : k < l.length
    · obtain ⟨gx, cx, ex, _, hgx, hcx, cellx⟩ := own_cells OX.out (by omega)
      obtain ⟨gy, cy, ey, _, hgy, hcy, celly⟩ := own_cells OY.out (by omega)
      simp at ex ey
      obtain ⟨rfl, rfl⟩ := ex
      obtain ⟨rfl, rfl⟩ := ey
      have hkx : k < xs.length := by omega
      have hky : k < ys.length := by omega
      obtain ⟨x, hx⟩ : ∃ x, x = xs[k] := ⟨_, rfl⟩
      obtain ⟨y, hy⟩ : ∃ y, y = ys[k] := ⟨_, rfl⟩
      have hlk : l[k] = (x, y) := by rw [hx, hy]; simp only [HL.out, List.getElem_zip]
      have cX : wr.cell? ⟨gx, k, none⟩ = some (.string ⟨x.toArray⟩) := by
        rw [hb.cell (p := ⟨gx, k, none⟩) hgx, (cellx k (by simpa using hkx)).1]; simp [hx, strV]
      have cY : wr.cell? ⟨gy, k, none⟩ = some (.string ⟨y.toArray⟩) := by
        rw [hb.cell (p := ⟨gy, k, none⟩) hgy, (celly k (by simpa using hky)).1]; simp [hy, strV]
      have hxn : x.length ≤ 2097152 := HLX.out x (by rw [hx]; exact List.getElem_mem _)
      have hyn : y.length ≤ 2097152 := HLY.out y (by rw [hy]; exact List.getElem_mem _)
      obtain ⟨e1, e2⟩ := lastS_take l hk
      have hi1 := insL_le l k
      have ho1 := outsL_le l k
      have HN : Hid ((spansL l).take (k + 1) = (spansL l).take k ++ [(insL (l.take k), insL (l.take k) + x.length + 1, outsL (l.take k), outsL (l.take k) + y.length + 1, decide (y = x))]) := by
        show _ = _
        rw [spansL_succ hlt, spAt_next hlt, hlk]
      have HW : Hid (∀ wx, Below wr.heap.size wr wx → Calls Try.prog 14 #[v, .string ⟨x.toArray⟩, .string ⟨y.toArray⟩] wx fun e w' => ∃ v', e = .returned v' ∧ OwnSp w' w2.heap.size v' ((spansL l).take (k + 1)) ∧ Below w2.heap.size w2 w') := fun wx hbx => by
        refine (with_any w2.heap.size v ((spansL l).take k) ⟨x.toArray⟩ ⟨y.toArray⟩ wx (by omega) (Nat.le_trans hsz hbx.size) (own.below hbx) (by simpa [ByteArray.size] using hxn) (by simpa [ByteArray.size] using hyn) (by rw [e1]; omega) (by rw [e2]; omega)).mono ?_
        rintro e w' ⟨v', rfl, h1, h2⟩
        refine ⟨v', rfl, ?_, (hb.trans (hbx.mono hsz)).trans h2⟩
        rw [HN.out, ← str_beq]
        rw [e1, e2] at h1
        simpa [ByteArray.size] using h1
      have hk2 : (k : Int) ≤ (c1 : Int) := by omega
      have hk3 : (k : Int) ≤ (c2 : Int) := by omega
      clear cellx celly hx hy hlk own e1 e2 HN hkl hi1 ho1
      go_wp2_with fail
      go_region_with (go_at_call 14; refine (HW.out _ (by first | exact Below.refl _ _ | exact (Below.refl _ _).drew)).mono ?_; rintro e w' ⟨v', rfl, h1, h2⟩; have H1 := Lib.hid h1; have H2 := Lib.hid h2; clear h1 h2)
      all_goals
        go_wp2_with fail
        go_roundw
        case rel => exact ⟨k + 1, _, by omega, by go_num, rfl, H1.out, H2.out⟩
        case measure => simp [intOf]; omega
    · have hke : k = l.length := by omega
      subst hke
      have HO : Hid (OwnSp wr w2.heap.size v (spansL l)) := by
        rw [List.take_of_length_le (by rw [spansL_len]; omega)] at own
        exact own
      clear own hlt
      go_wp2_with fail
      go_ret
      exact ⟨_, rfl, HO.out.mono (by omega), B2.out.trans (hb.mono (by omega))⟩

end Go.Proofs.Ytgjhfmlncibpmaa
