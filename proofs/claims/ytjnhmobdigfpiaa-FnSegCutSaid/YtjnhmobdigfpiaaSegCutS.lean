/- SegCut of the specification, at every segment, text and place. Conditions: the segment's bytes and the text are at most 2^21 each; the place is a number. -/
import Derived.Test.YtjnhmobdigfpiaaSegCutI
namespace Go.Proofs.Ytjnhmobdigfpiaa
open Go.RowKit

theorem made_at7 (w : World) (B b : Nat) (hB : B ≤ w.heap.size) (hb : b = w.heap.size) : (w.alloc (.cells #[] 26)).ownsRow B 26 7 (.slice (some ⟨b, 0, none⟩) 0 0) 0 [] := by
  rw [hb]; exact World.ownsRow_made w #[] 0 hB (Nat.zero_le _) rfl
theorem heap_at (w : World) (o : Obj) (b : Nat) (hb : b = w.heap.size) : (w.alloc o).heap[b]? = some o := by rw [hb]; exact heap_alloc_new w o

set_option maxRecDepth 100000 in
set_option maxHeartbeats 3200000 in
theorem specCut5_any (sa sp da dp sq ak : Int) (d far : ByteArray) (a : Nat) (w : World) (hf : far.size ≤ 240) (ha : (a : Int) ≤ 9223372036854775807) :
    Calls Try.prog 18 #[.agg #[.int .i64 sa, .int .i64 sp, .int .i64 da, .int .i64 dp, .int .i64 sq, .int .i64 ak, .string d], .string far, .int .i64 a] w fun e w' => ∃ v, e = .returned v ∧ OwnSg w' w.heap.size v (cutL ⟨sa, sp, da, dp, sq, ak, d.data.toList⟩ far.data.toList a) ∧ Below w.heap.size w w' := by
  obtain ⟨i0, hi, hz0, hz1, hz2⟩ := info_parts infoSeg
  by_cases hlt : a < far.size
  · obtain ⟨L, hL⟩ : ∃ L, L = cutL ⟨sa, sp, da, dp, sq, ak, d.data.toList⟩ far.data.toList a := ⟨_, rfl⟩
    have hlen : L.length = piecesN far.size a := by rw [hL, cutL_len, len_list, Nat.min_eq_left (by omega)]
    have HP : Hid (∀ k, k < L.length → L.take (k + 1) = L.take k ++ [pieceL ⟨sa, sp, da, dp, sq, ak, d.data.toList⟩ far.data.toList a k]) := fun k hk => by
      have := cutL_take (s := ⟨sa, sp, da, dp, sq, ak, d.data.toList⟩) (far := far.data.toList) (a := a) (k := k) (by rw [← hL]; exact hk)
      rw [len_list, Nat.min_eq_left (by omega)] at this
      rw [hL]; exact this
    have hpos : 1 ≤ L.length := by rw [hlen]; exact pieces_pos _ _
    have HN : Hid (∀ k, k ≤ L.length → (k < L.length ↔ a + 12 * k < far.size)) := fun k _ => by
      rw [hlen]; unfold piecesN; omega
    have hsmall : L.length ≤ 100 := by rw [hlen]; unfold piecesN; omega
    rw [← hL]
    clear hL hlen
    have hf2 : (far.size : Int) ≤ 240 := by omega
    go_enter Try.func18, Try.ntmps18
    go_wp2_with fail
    obtain ⟨W1, hW1⟩ : ∃ W1, W1 = (w.alloc (.cells #[.int .i64 sa, .int .i64 sp, .int .i64 da, .int .i64 dp, .int .i64 sq, .int .i64 ak, .string d] 26)).alloc (.cells #[] 26) := ⟨_, rfl⟩
    rw [← hW1]
    have B1 : Hid (Below w.heap.size w W1) := by rw [hW1]; exact ((Below.refl _ _).alloc (Nat.le_refl _) _).alloc (by simp) _
    have s1 : w.heap.size + 1 < W1.heap.size := by rw [hW1]; simp
    have K1 : Hid (Box7 W1 w.heap.size (.int .i64 sa) (.int .i64 sp) (.int .i64 da) (.int .i64 dp) (.int .i64 sq) (.int .i64 ak) (.string d)) := by
      rw [hW1]
      exact (box7_new w _ _ _ _ _ _ _ _).below ((Below.refl _ _).alloc (Nat.le_refl _) _) (by simp)
    have O1 : Hid (OwnSg W1 (w.heap.size + 1) (.slice (some ⟨w.heap.size + 1, 0, none⟩) 0 0) (L.take 0)) := by
      show OwnSg _ _ _ _
      rw [hW1]
      have := World.ownsRow_made (base := w.heap.size + 1) (e := 26) (size := 7) (w.alloc (.cells #[.int .i64 sa, .int .i64 sp, .int .i64 da, .int .i64 dp, .int .i64 sq, .int .i64 ak, .string d] 26)) #[] 0 (by simp) (Nat.zero_le _) rfl
      simpa [OwnSg, flatC] using this
    clear hW1
    go_loopw [2, 7] (fun at' v wr => ∃ (k t : Nat) (u : Value), k ≤ L.length ∧ u = v ∧ at' = .int .i64 t ∧ t = min far.size (a + 12 * k) ∧ OwnSg wr (w.heap.size + 1) u (L.take k) ∧ Below (w.heap.size + 1) W1 wr ∧ W1.heap.size ≤ wr.heap.size) (fun at' _ _ => far.size - (intOf at').toNat)
    case atStart => exact ⟨0, a, _, Nat.zero_le _, rfl, rfl, by omega, O1.out, Below.refl _ _, Nat.le_refl _⟩
    case round =>
      obtain ⟨k, t, v, hk, rfl, rfl, ht, own, hb, hsz⟩ := hrel
      have hiff := HN.out k hk
      have HT := Lib.hid ht
      by_cases hl2 : t < far.size
      · have hkl : k < L.length := hiff.2 (by omega)
        have hte : t = a + 12 * k := by omega
        have HTE := Lib.hid hte
        have hlt2 : (t : Int) < (far.size : Int) := by omega
        have HX := Lib.hid (HP.out k hkl)
        have hlen : (L.take k).length = k := by rw [List.length_take]; omega
        obtain ⟨va, vc, ev⟩ := own.form
        rw [hlen] at ev
        subst ev
        have HOW := Lib.hid own
        have HB := Lib.hid hb
        have KR := K1.out.below hb (by omega)
        obtain ⟨k0, k1, k2, k3, k4, k5, k6⟩ := KR
        have HM : Hid (far.extract t (min (far.size : Int) ((t : Int) + 12)).toNat = cutS far t) := by
          show _ = _
          rw [show min (far.size : Int) ((t : Int) + 12) = min ((t : Int) + 12) (far.size : Int) by omega]
          exact cutS_min far t
        have HO2 : Hid (((wr.alloc (.cells #[.int .i64 sa, .int .i64 sp, .int .i64 da, .int .i64 dp, .int .i64 (t : Int), .int .i64 ak, .string (far.extract t (min (far.size : Int) ((t : Int) + 12)).toNat)] 26)).ownsRow (w.heap.size + 1) 26 7 (.slice va k vc) k (flatC sgC (L.take k)))) := by
          have h1 := HOW.out.below ((Below.refl _ wr).alloc (Nat.le_refl _) (.cells #[.int .i64 sa, .int .i64 sp, .int .i64 da, .int .i64 dp, .int .i64 (t : Int), .int .i64 ak, .string (far.extract t (min (far.size : Int) ((t : Int) + 12)).toNat)] 26))
          unfold OwnSg at h1
          rw [hlen] at h1
          exact h1
        have HLN := Lib.hid hlen
        clear own hb hlen ht hiff hte
        go_wp2_with (at_builtin; refine wpList_append_own _ rfl (.tmp 28) (.tmp 30) 29 rfl (w.heap.size + 1) 26 i0 (.agg #[.int .i64 0, .int .i64 0, .int .i64 0, .int .i64 0, .int .i64 0, .int .i64 0, .string ⟨#[]⟩]) 7 64 Try.underlying29 hi hz0 hz1 hz2 rfl (by decide) (.slice va k vc) k (flatC sgC (L.take k)) rfl (World.ownsRow.alloc HO2.out _) ⟨wr.heap.size + 1, 0, none⟩ 1 1 [.int .i64 sa, .int .i64 sp, .int .i64 da, .int .i64 dp, .int .i64 (t : Int), .int .i64 ak, .string (far.extract t (min (far.size : Int) ((t : Int) + 12)).toNat)] rfl rfl ?c1 ?c2 ?c3 ?c4 ?c5 ?_)
        case c1 => exact World.news_of_block (cs := #[.int .i64 sa, .int .i64 sp, .int .i64 da, .int .i64 dp, .int .i64 (t : Int), .int .i64 ak, .string (far.extract t (min (far.size : Int) ((t : Int) + 12)).toNat)]) (t := 26) (by have := heap_alloc_new (wr.alloc (.cells #[.int .i64 sa, .int .i64 sp, .int .i64 da, .int .i64 dp, .int .i64 (t : Int), .int .i64 ak, .string (far.extract t (min (far.size : Int) ((t : Int) + 12)).toNat)] 26)) (.cells #[.int .i64 sa, .int .i64 sp, .int .i64 da, .int .i64 dp, .int .i64 (t : Int), .int .i64 ak, .string (far.extract t (min (far.size : Int) ((t : Int) + 12)).toNat)] 26); rw [show (wr.alloc (.cells #[.int .i64 sa, .int .i64 sp, .int .i64 da, .int .i64 dp, .int .i64 (t : Int), .int .i64 ak, .string (far.extract t (min (far.size : Int) ((t : Int) + 12)).toNat)] 26)).heap.size = wr.heap.size + 1 by simp] at this; exact this)
        case c2 => intro u hu; simp at hu; rcases hu with rfl | rfl | rfl | rfl | rfl | rfl | rfl <;> rfl
        case c3 => unfold maxLen; omega
        case c4 => omega
        case c5 => simp; omega
        intro v' w4 hown hgrow _
        have HW := Lib.hid hown
        have HB4 : Hid (Below (w.heap.size + 1) wr w4) := (((Below.refl _ wr).alloc (by omega) _).alloc (by simp; omega) _).grown hgrow (by simp; omega) (fun k hk => (World.ownsRow.lt HO2.out k hk).1)
        clear hown hgrow k0 k1 k2 k3 k4 k5 k6
        go_wp2_with fail
        go_roundw
        case rel =>
          have h4 := HB4.out
          refine ⟨k + 1, min far.size (t + 12), v', by omega, rfl, congrArg (Value.int .i64) (by omega), by have := HTE.out; omega, ?_, HB.out.trans h4, by have := h4.size; omega⟩
          have h1 := HW.out
          have h2 := HTE.out
          have h3 := HM.out
          unfold OwnSg
          rw [HX.out, flatC_app, List.length_append, HLN.out]
          rw [h3] at h1
          subst h2
          simpa [flatC, piece_cells] using h1
        case measure => simp [intOf]; omega
      · have hke : k = L.length := by
          have : ¬ k < L.length := fun h => hl2 (by have := hiff.1 h; omega)
          omega
        have hk1 : 1 ≤ k := by omega
        have HE : Hid (OwnSg wr (w.heap.size + 1) v L) := by
          rw [List.take_of_length_le (by omega)] at own; exact own
        obtain ⟨va, vc, ev⟩ := HE.out.form
        rw [← hke] at ev
        subst ev
        have HB := Lib.hid hb
        have hk0 : ((k : Int) == 0) = false := by rw [beq_eq_false_iff_ne]; omega
        clear own hb hke ht hiff
        go_wp2_with fail
        go_ret
        exact ⟨_, rfl, HE.out.mono (by omega), B1.out.trans (HB.out.mono (by omega))⟩
  · have hge : ¬ (a : Int) < (far.size : Int) := by omega
    have HL : Hid (cutL ⟨sa, sp, da, dp, sq, ak, d.data.toList⟩ far.data.toList a = [⟨sa, sp, da, dp, far.size, ak, []⟩]) := by
      show _ = _
      unfold cutL
      rw [len_list, Nat.min_eq_right (by omega), pieces_end (Nat.le_refl _)]
      simp [pieceL, List.range_succ, List.drop_of_length_le]
    obtain ⟨L, hL⟩ : ∃ L, L = cutL ⟨sa, sp, da, dp, sq, ak, d.data.toList⟩ far.data.toList a := ⟨_, rfl⟩
    rw [← hL] at HL ⊢
    clear hL
    go_enter Try.func18, Try.ntmps18
    go_wp2_with fail
    go_loop [2, 7] (fun at' v => at' = .int .i64 a ∧ v = .slice (some ⟨w.heap.size + 1, 0, none⟩) 0 0) (fun _ _ => 0)
    case atStart => exact ⟨rfl, rfl⟩
    case round =>
      obtain ⟨rfl, rfl⟩ := hrel
      go_wp2_with (at_builtin; refine wpList_append_own _ rfl (.tmp 40) (.tmp 42) 29 rfl (w.heap.size + 1) 26 i0 (.agg #[.int .i64 0, .int .i64 0, .int .i64 0, .int .i64 0, .int .i64 0, .int .i64 0, .string ⟨#[]⟩]) 7 64 Try.underlying29 hi hz0 hz1 hz2 rfl (by decide) (.slice (some ⟨w.heap.size + 1, 0, none⟩) 0 0) 0 [] rfl ?c0 ⟨w.heap.size + 1 + 1, 0, none⟩ 1 1 [.int .i64 sa, .int .i64 sp, .int .i64 da, .int .i64 dp, .int .i64 (far.size : Int), .int .i64 ak, .string ⟨#[]⟩] rfl rfl ?c1 ?c2 ?c3 ?c4 ?c5 ?_)
      case c0 => exact World.ownsRow.alloc (made_at7 _ _ _ (by simp) (by simp)) _
      case c2 => exact ⟨rfl, rfl, rfl, rfl, rfl, rfl, rfl⟩
      case c3 => unfold maxLen; omega
      intro v' w4 hown hgrow _
      have HW := Lib.hid hown
      have HB4 : Hid (Below w.heap.size w w4) := ((((Below.refl _ w).alloc (Nat.le_refl _) _).alloc (by simp) _).alloc (by simp; omega) _).grown hgrow (by simp; omega) (fun k hk => by simp [Value.ownBlock] at hk; omega)
      clear hown hgrow
      go_wp2_with fail
      go_ret
      refine ⟨_, rfl, OwnSg.mono (B := w.heap.size + 1) ?_ (by omega), HB4.out⟩
      rw [HL.out]
      have := HW.out
      simpa [OwnSg, flatC, sgC] using this

set_option maxRecDepth 100000 in
set_option maxHeartbeats 3200000 in
theorem specCut_any (sa sp da dp sq ak : Int) (d far : ByteArray) (a : Int) (w : World) (hd : d.size ≤ 2097152) (hf : far.size ≤ 2097152) (ha : a ≤ 9223372036854775807) :
    Calls Try.prog 8 #[.agg #[.int .i64 sa, .int .i64 sp, .int .i64 da, .int .i64 dp, .int .i64 sq, .int .i64 ak, .string d], .string far, .int .i64 a] w fun e w' => ∃ v, e = .returned v ∧ OwnSg w' w.heap.size v (segCutL ⟨sa, sp, da, dp, sq, ak, d.data.toList⟩ far.data.toList a) ∧ Below w.heap.size w w' := by
  have HO : Hid (∀ w, Calls Try.prog 9 #[.agg #[.int .i64 sa, .int .i64 sp, .int .i64 da, .int .i64 dp, .int .i64 sq, .int .i64 ak, .string d]] w fun e w' => e = .returned (.bool (segOkB ⟨sa, sp, da, dp, sq, ak, d.data.toList⟩)) ∧ Below w.heap.size w w') := fun w => specSegOk_any sa sp da dp sq ak d w hd
  have HE : Hid (∀ w1 : World, w.heap.size ≤ w1.heap.size → OwnSg (w1.alloc (.cells #[] 26)) w.heap.size (.slice (some ⟨w1.heap.size, 0, none⟩) 0 0) []) := fun w1 h => by
    have := World.ownsRow_made (base := w.heap.size) (e := 26) (size := 7) w1 #[] 0 h (Nat.zero_le _) rfl
    simpa [OwnSg, flatC] using this
  cases hok : segOkB ⟨sa, sp, da, dp, sq, ak, d.data.toList⟩
  · rw [hok] at HO
    rw [segCut_no (by rw [hok]; simp)]
    clear hok
    go_enter Try.func8, Try.ntmps8
    go_wp2_with (go_at_call 9; refine (HO.out _).mono ?_; rintro e w1 ⟨rfl, b1⟩)
    have hs : w.heap.size ≤ w1.heap.size := by have := b1.size; simp at this; omega
    go_ret
    exact ⟨_, rfl, HE.out w1 hs, (below_box b1).alloc hs _⟩
  · by_cases h1 : far.size ≤ 240
    · have h1i : (far.size : Int) ≤ 240 := by omega
      by_cases h2 : a < 0
      · rw [hok] at HO
        rw [segCut_no (by omega)]
        clear hok
        go_enter Try.func8, Try.ntmps8
        go_wp2_with (go_at_call 9; refine (HO.out _).mono ?_; rintro e w1 ⟨rfl, b1⟩)
        have hs : w.heap.size ≤ w1.heap.size := by have := b1.size; simp at this; omega
        go_ret
        exact ⟨_, rfl, HE.out w1 hs, (below_box b1).alloc hs _⟩
      · obtain ⟨n, rfl⟩ : ∃ n : Nat, a = n := ⟨a.toNat, by omega⟩
        rw [segCut_yes hok (by rw [len_list]; exact h1)]
        rw [hok] at HO
        have HC : Hid (∀ w, Calls Try.prog 18 #[.agg #[.int .i64 sa, .int .i64 sp, .int .i64 da, .int .i64 dp, .int .i64 sq, .int .i64 ak, .string d], .string far, .int .i64 (n : Int)] w fun e w' => ∃ v, e = .returned v ∧ OwnSg w' w.heap.size v (cutL ⟨sa, sp, da, dp, sq, ak, d.data.toList⟩ far.data.toList n) ∧ Below w.heap.size w w') := fun w => specCut5_any sa sp da dp sq ak d far n w h1 ha
        obtain ⟨L, hL⟩ : ∃ L, L = cutL ⟨sa, sp, da, dp, sq, ak, d.data.toList⟩ far.data.toList n := ⟨_, rfl⟩
        rw [← hL] at HC ⊢
        clear hok hL HE
        go_enter Try.func8, Try.ntmps8
        go_wp2_with fail
        (go_at_call 9; refine (HO.out _).mono ?_; rintro e w1 ⟨rfl, b1⟩)
        have hs : w.heap.size < w1.heap.size := by have := b1.size; simp at this; omega
        obtain ⟨k0, k1, k2, k3, k4, k5, k6⟩ := (box7_new w _ _ _ _ _ _ _ _).below b1 (by simp)
        have B1 := Lib.hid (below_box b1)
        clear b1
        go_wp2_with fail
        clear k0 k1 k2 k3 k4 k5 k6
        (go_at_call 18; refine (HC.out _).mono ?_; rintro e w2 ⟨v, rfl, o2, b2⟩)
        go_wp2_with fail
        go_ret
        exact ⟨_, rfl, o2.mono (by omega), B1.out.trans (b2.mono (by omega))⟩
    · have h1i : (240 : Int) < (far.size : Int) := by omega
      rw [hok] at HO
      rw [segCut_no (by rw [len_list]; omega)]
      clear hok
      go_enter Try.func8, Try.ntmps8
      go_wp2_with (go_at_call 9; refine (HO.out _).mono ?_; rintro e w1 ⟨rfl, b1⟩)
      have hs : w.heap.size ≤ w1.heap.size := by have := b1.size; simp at this; omega
      go_ret
      exact ⟨_, rfl, HE.out w1 hs, (below_box b1).alloc hs _⟩

end Go.Proofs.Ytjnhmobdigfpiaa
