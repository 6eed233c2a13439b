/- SegCut of the program, at every segment, text and place. Conditions: the segment's bytes and the text are at most 2^21 each; the place is a number. -/
import Derived.Test.YtjnhmobdigfpiaaSgMem
import Derived.Test.YtjnhmobdigfpiaaCuts
import Derived.Test.YtjnhmobdigfpiaaSegOk
import Derived.Test.YtjnhmobdigfpiaaSegLaw
import Derived.Laws.OwnMore
namespace Go.Proofs.Ytjnhmobdigfpiaa
open Go.RowKit

/-- Twelve bytes of a text from a place on, or as many as there are. -/
def cutS (far : ByteArray) (a : Nat) : ByteArray := ⟨((far.data.toList.drop a).take 12).toArray⟩
theorem cutS_mid (far : ByteArray) (a : Nat) : far.extract a (a + 12) = cutS far a := by
  unfold cutS
  rw [ext_list, List.drop_take, show a + 12 - a = 12 by omega]
theorem cutS_end (far : ByteArray) (a : Nat) (h : far.size ≤ a + 12) : far.extract a far.size = cutS far a := by
  unfold cutS
  rw [ext_list, List.take_of_length_le (by rw [len_list]; omega), List.take_of_length_le (by rw [List.length_drop, len_list]; omega)]

theorem cutS_min (far : ByteArray) (a : Nat) : far.extract a (min ((a : Int) + 12) (far.size : Int)).toNat = cutS far a := by
  by_cases h : a + 12 ≤ far.size
  · rw [show (min ((a : Int) + 12) (far.size : Int)).toNat = a + 12 by omega]; exact cutS_mid far a
  · rw [show (min ((a : Int) + 12) (far.size : Int)).toNat = far.size by omega]; exact cutS_end far a (by omega)

set_option maxRecDepth 100000 in
set_option maxHeartbeats 1600000 in
theorem segFrom_any (sa sp da dp sq ak : Int) (d far : ByteArray) (a : Nat) (w : World) (hf : far.size ≤ 2097152) (ha : a ≤ far.size) :
    Calls Try.prog 17 #[.agg #[.int .i64 sa, .int .i64 sp, .int .i64 da, .int .i64 dp, .int .i64 sq, .int .i64 ak, .string d], .string far, .int .i64 a] w fun e w' => e = .returned (.agg #[.int .i64 sa, .int .i64 sp, .int .i64 da, .int .i64 dp, .int .i64 a, .int .i64 ak, .string (cutS far a)]) ∧ Below w.heap.size w w' := by
  have HM := Lib.hid (cutS_min far a)
  by_cases hm : (a : Int) + 12 ≤ (far.size : Int)
  all_goals
    go_enter Try.func17, Try.ntmps17
    go_wp2_with fail
    rw [HM.out]
    refine bodyPost_ret (v := .agg #[.int .i64 sa, .int .i64 sp, .int .i64 da, .int .i64 dp, .int .i64 a, .int .i64 ak, .string (cutS far a)]) (by simp [results, Try.results17, go_sem]) rfl ⟨rfl, ?_⟩
    exact ((Below.refl _ _).alloc (Nat.le_refl _) _).alloc (by simp) _

/-- The k-th piece, with its cells. -/
theorem piece_cells (sa sp da dp sq ak : Int) (d far : ByteArray) (f k : Nat) : sgC (pieceL ⟨sa, sp, da, dp, sq, ak, d.data.toList⟩ far.data.toList f k) = [.int .i64 sa, .int .i64 sp, .int .i64 da, .int .i64 dp, .int .i64 ((f + 12 * k : Nat) : Int), .int .i64 ak, .string (cutS far (f + 12 * k))] := rfl

set_option maxRecDepth 100000 in
set_option maxHeartbeats 3200000 in
theorem implCut_in (sa sp da dp sq ak : Int) (d far : ByteArray) (a : Nat) (w : World) (hd : d.size ≤ 2097152) (hf : far.size ≤ 240) (ha : (a : Int) ≤ 9223372036854775807) (hok : segOkB ⟨sa, sp, da, dp, sq, ak, d.data.toList⟩ = true) :
    Calls Try.prog 6 #[.agg #[.int .i64 sa, .int .i64 sp, .int .i64 da, .int .i64 dp, .int .i64 sq, .int .i64 ak, .string d], .string far, .int .i64 a] w fun e w' => ∃ v, e = .returned v ∧ OwnSg w' w.heap.size v (cutL ⟨sa, sp, da, dp, sq, ak, d.data.toList⟩ far.data.toList a) ∧ Below w.heap.size w w' := by
  obtain ⟨i0, hi, hz0, hz1, hz2⟩ := info_parts infoSeg
  have HO : Hid (∀ w, Calls Try.prog 16 #[.agg #[.int .i64 sa, .int .i64 sp, .int .i64 da, .int .i64 dp, .int .i64 sq, .int .i64 ak, .string d]] w fun e w' => e = .returned (.bool true) ∧ Below w.heap.size w w') := fun w => by
    have := implSegOk_any sa sp da dp sq ak d w hd
    rwa [hok] at this
  obtain ⟨f, hfe⟩ : ∃ f : Nat, f = min a far.size := ⟨_, rfl⟩
  have hff : f ≤ far.size := by omega
  have HFM : Hid (min (a : Int) (far.size : Int) = (f : Int)) := by show _ = _; omega
  obtain ⟨L, hL⟩ : ∃ L, L = cutL ⟨sa, sp, da, dp, sq, ak, d.data.toList⟩ far.data.toList a := ⟨_, rfl⟩
  have hlen : L.length = piecesN far.size f := by rw [hL, cutL_len, len_list, hfe]
  have HP : Hid (∀ k, k < L.length → L.take (k + 1) = L.take k ++ [pieceL ⟨sa, sp, da, dp, sq, ak, d.data.toList⟩ far.data.toList f k]) := fun k hk => by
    have := cutL_take (s := ⟨sa, sp, da, dp, sq, ak, d.data.toList⟩) (far := far.data.toList) (a := a) (k := k) (by rw [← hL]; exact hk)
    rw [len_list, ← hfe] at this
    rw [hL]; exact this
  have hpos : 1 ≤ L.length := by rw [hlen]; exact pieces_pos _ _
  have HN : Hid (∀ k, 1 ≤ k → k ≤ L.length → (k < L.length ↔ f + 12 * k < far.size)) := fun k h1 _ => by
    rw [hlen]; unfold piecesN; omega
  have hsmall : L.length ≤ 100 := by rw [hlen]; unfold piecesN; omega
  rw [← hL]
  clear hL hlen hfe hok
  have HF : Hid (∀ b w, b ≤ far.size → Calls Try.prog 17 #[.agg #[.int .i64 sa, .int .i64 sp, .int .i64 da, .int .i64 dp, .int .i64 sq, .int .i64 ak, .string d], .string far, .int .i64 (b : Nat)] w fun e w' => e = .returned (.agg #[.int .i64 sa, .int .i64 sp, .int .i64 da, .int .i64 dp, .int .i64 (b : Nat), .int .i64 ak, .string (cutS far b)]) ∧ Below w.heap.size w w') := fun b w hb => segFrom_any sa sp da dp sq ak d far b w (by omega) hb
  have hf2 : (far.size : Int) ≤ 240 := by omega
  go_enter Try.func6, Try.ntmps6
  go_wp2_with fail
  (go_at_call 16; refine (HO.out _).mono ?_; rintro e w1 ⟨rfl, b1⟩)
  have B1 := Lib.hid (below_box b1)
  have s1 : w.heap.size < w1.heap.size := by have := b1.size; simp at this; omega
  have K1 : Hid (Box7 w1 w.heap.size (.int .i64 sa) (.int .i64 sp) (.int .i64 da) (.int .i64 dp) (.int .i64 sq) (.int .i64 ak) (.string d)) := (box7_new w _ _ _ _ _ _ _ _).below b1 (by simp)
  clear b1
  obtain ⟨k0, k1, k2, k3, k4, k5, k6⟩ := K1.out
  go_wp2_with fail
  rw [HFM.out]
  clear k0 k1 k2 k3 k4 k5 k6 HO
  (go_at_call 17; refine (HF.out f _ hff).mono ?_; rintro e w2 ⟨rfl, b2⟩)
  go_wp2_with fail
  have z2 := b2.size
  have HS : Hid (OwnSg (w2.alloc (.cells #[.int .i64 sa, .int .i64 sp, .int .i64 da, .int .i64 dp, .int .i64 (f : Int), .int .i64 ak, .string (cutS far f)] 26)) w1.heap.size (.slice (some ⟨w2.heap.size, 0, none⟩) 1 1) (L.take 1)) := by
    have h1 := HP.out 0 hpos
    simp only [List.take_zero, List.nil_append, Nat.zero_add] at h1
    show OwnSg _ _ _ _
    rw [h1]
    have := World.ownsRow_lit (base := w1.heap.size) (e := 26) (size := 7) w2 #[.int .i64 sa, .int .i64 sp, .int .i64 da, .int .i64 dp, .int .i64 (f : Int), .int .i64 ak, .string (cutS far f)] 1 z2 (by unfold maxLen; omega) rfl
    simpa [OwnSg, flatC, piece_cells] using this
  have B3 : Hid (Below w1.heap.size w1 (w2.alloc (.cells #[.int .i64 sa, .int .i64 sp, .int .i64 da, .int .i64 dp, .int .i64 (f : Int), .int .i64 ak, .string (cutS far f)] 26))) := b2.alloc z2 _
  clear b2
  go_loopw [8, 9] (fun v nx wr => ∃ (k t : Nat) (u : Value), 1 ≤ k ∧ k ≤ L.length ∧ u = v ∧ nx = .int .i64 t ∧ t = f + 12 * k ∧ OwnSg wr w1.heap.size u (L.take k) ∧ Below w1.heap.size w1 wr) (fun _ nx _ => far.size - (intOf nx).toNat)
  case atStart => exact ⟨1, f + 12, _, Nat.le_refl _, hpos, rfl, by go_num, rfl, HS.out, B3.out⟩
  case round =>
    obtain ⟨k, t, v, hk1, hk, rfl, rfl, ht, own, hb⟩ := hrel
    have hsz := hb.size
    have hiff := HN.out k hk1 hk
    have HT := Lib.hid ht
    by_cases hlt : t < far.size
    · have hkl : k < L.length := hiff.2 (by omega)
      have hlt2 : (t : Int) < (far.size : Int) := by omega
      have HX := Lib.hid (HP.out k hkl)
      have OW := Lib.hid own
      have hlen : (L.take k).length = k := by rw [List.length_take]; omega
      obtain ⟨va, vc, ev⟩ := own.form
      rw [hlen] at ev
      have HOW : Hid (wr.ownsRow w1.heap.size 26 7 (.slice va k vc) k (flatC sgC (L.take k))) := by
        have := own
        unfold OwnSg at this
        rw [hlen, ev] at this
        exact this
      subst ev
      have HB := Lib.hid hb
      have KR := K1.out.below hb s1
      obtain ⟨k0, k1, k2, k3, k4, k5, k6⟩ := KR
      clear own hb hlen ht hiff OW
      go_wp2_with fail
      clear k0 k1 k2 k3 k4 k5 k6
      (go_at_call 17; refine (HF.out t _ (by omega)).mono ?_; rintro e w3 ⟨rfl, b3⟩)
      have HO3 : Hid (w3.ownsRow w1.heap.size 26 7 (.slice va k vc) k (flatC sgC (L.take k))) := by
        have h1 : OwnSg wr w1.heap.size (.slice va k vc) (L.take k) := by
          unfold OwnSg
          rw [show (L.take k).length = k by rw [List.length_take]; omega]
          exact HOW.out
        have h2 := h1.below b3
        unfold OwnSg at h2
        rw [show (L.take k).length = k by rw [List.length_take]; omega] at h2
        exact h2
      have HB3 : Hid (Below w1.heap.size w1 w3) := HB.out.trans (b3.mono hsz)
      have z3 := HB3.out.size
      clear b3 HOW
      go_wp2_with (at_builtin; refine wpList_append_own _ rfl (.tmp 39) (.tmp 44) 29 rfl w1.heap.size 26 i0 (.agg #[.int .i64 0, .int .i64 0, .int .i64 0, .int .i64 0, .int .i64 0, .int .i64 0, .string ⟨#[]⟩]) 7 64 Try.underlying29 hi hz0 hz1 hz2 rfl (by decide) (.slice va k vc) k (flatC sgC (L.take k)) rfl (World.ownsRow.alloc HO3.out _) ⟨w3.heap.size, 0, none⟩ 1 1 [.int .i64 sa, .int .i64 sp, .int .i64 da, .int .i64 dp, .int .i64 (t : Int), .int .i64 ak, .string (cutS far t)] rfl rfl ?c1 ?c2 ?c3 ?c4 ?c5 ?_)
      case c1 => exact World.news_of_block (cs := #[.int .i64 sa, .int .i64 sp, .int .i64 da, .int .i64 dp, .int .i64 (t : Int), .int .i64 ak, .string (cutS far t)]) (t := 26) (heap_alloc_new w3 _)
      case c2 => intro u hu; simp at hu; rcases hu with rfl | rfl | rfl | rfl | rfl | rfl | rfl <;> rfl
      case c3 => unfold maxLen; omega
      case c4 => omega
      case c5 => simp; omega
      intro v' w4 hown hgrow _
      have HW := Lib.hid hown
      have HB4 : Hid (Below w1.heap.size w1 w4) := (HB3.out.alloc z3 _).grown hgrow (by simp; omega) (fun k hk => (World.ownsRow.lt HO3.out k hk).1)
      clear hown hgrow
      go_wp2_with fail
      go_roundw
      case rel =>
        refine ⟨k + 1, t + 12, v', by omega, by omega, rfl, by go_num, by have := HT.out; omega, ?_, HB4.out⟩
        have h1 := HW.out
        unfold OwnSg
        rw [HX.out, flatC_app, List.length_append, show (L.take k).length = k by rw [List.length_take]; omega]
        have h2 := HT.out
        subst h2
        simpa [flatC, piece_cells] using h1
      case measure => simp [intOf]; omega
    · have hke : k = L.length := by
        have : ¬ k < L.length := fun h => hlt (by have := hiff.1 h; omega)
        omega
      have HE : Hid (OwnSg wr w1.heap.size v L) := by
        rw [List.take_of_length_le (by omega)] at own; exact own
      have HB := Lib.hid hb
      clear own hb hke ht hiff
      go_wp2_with fail
      go_ret
      exact ⟨_, rfl, HE.out.mono (by omega), B1.out.trans (HB.out.mono (by omega))⟩

theorem segCut_no {s : Sg} {far : List UInt8} {a : Int} (h : ¬ (segOkB s = true ∧ far.length ≤ 240 ∧ 0 ≤ a)) : segCutL s far a = [] := if_neg h
theorem segCut_yes {s : Sg} {far : List UInt8} {a : Nat} (h : segOkB s = true) (h2 : far.length ≤ 240) : segCutL s far a = cutL s far a := by
  unfold segCutL; rw [if_pos ⟨h, h2, by omega⟩, Int.toNat_natCast]

set_option maxRecDepth 100000 in
set_option maxHeartbeats 3200000 in
theorem implCut_no (sa sp da dp sq ak : Int) (d far : ByteArray) (a : Int) (w : World) (hd : d.size ≤ 2097152) (hf : far.size ≤ 2097152) (h : ¬ (segOkB ⟨sa, sp, da, dp, sq, ak, d.data.toList⟩ = true ∧ far.size ≤ 240 ∧ 0 ≤ a)) :
    Calls Try.prog 6 #[.agg #[.int .i64 sa, .int .i64 sp, .int .i64 da, .int .i64 dp, .int .i64 sq, .int .i64 ak, .string d], .string far, .int .i64 a] w fun e w' => e = .returned (.slice none 0 0) ∧ Below w.heap.size w w' := by
  have HO : Hid (∀ w, Calls Try.prog 16 #[.agg #[.int .i64 sa, .int .i64 sp, .int .i64 da, .int .i64 dp, .int .i64 sq, .int .i64 ak, .string d]] w fun e w' => e = .returned (.bool (segOkB ⟨sa, sp, da, dp, sq, ak, d.data.toList⟩)) ∧ Below w.heap.size w w') := fun w => implSegOk_any sa sp da dp sq ak d w hd
  cases hok : segOkB ⟨sa, sp, da, dp, sq, ak, d.data.toList⟩
  · rw [hok] at HO
    clear hok h
    go_enter Try.func6, Try.ntmps6
    go_wp2_with (go_at_call 16; refine (HO.out _).mono ?_; rintro e w1 ⟨rfl, b1⟩)
    go_ret
    exact ⟨rfl, below_box b1⟩
  · rw [hok] at HO
    by_cases h1 : far.size ≤ 240
    · have h2 : a < 0 := by
        rcases Int.lt_or_le a 0 with h3 | h3
        · exact h3
        · exact absurd ⟨hok, h1, h3⟩ h
      have h4 : (far.size : Int) ≤ 240 := by omega
      clear hok h
      go_enter Try.func6, Try.ntmps6
      go_wp2_with (go_at_call 16; refine (HO.out _).mono ?_; rintro e w1 ⟨rfl, b1⟩)
      go_ret
      exact ⟨rfl, below_box b1⟩
    · have h4 : ¬ (far.size : Int) ≤ 240 := by omega
      have h5 : (240 : Int) < (far.size : Int) := by omega
      clear hok h
      go_enter Try.func6, Try.ntmps6
      go_wp2_with (go_at_call 16; refine (HO.out _).mono ?_; rintro e w1 ⟨rfl, b1⟩)
      go_ret
      exact ⟨rfl, below_box b1⟩

theorem implCut_any (sa sp da dp sq ak : Int) (d far : ByteArray) (a : Int) (w : World) (hd : d.size ≤ 2097152) (hf : far.size ≤ 2097152) (ha : a ≤ 9223372036854775807) :
    Calls Try.prog 6 #[.agg #[.int .i64 sa, .int .i64 sp, .int .i64 da, .int .i64 dp, .int .i64 sq, .int .i64 ak, .string d], .string far, .int .i64 a] w fun e w' => ∃ v, e = .returned v ∧ OwnSg w' w.heap.size v (segCutL ⟨sa, sp, da, dp, sq, ak, d.data.toList⟩ far.data.toList a) ∧ Below w.heap.size w w' := by
  by_cases h : segOkB ⟨sa, sp, da, dp, sq, ak, d.data.toList⟩ = true ∧ far.size ≤ 240 ∧ 0 ≤ a
  · obtain ⟨n, rfl⟩ : ∃ n : Nat, a = n := ⟨a.toNat, by omega⟩
    rw [segCut_yes h.1 (by rw [len_list]; exact h.2.1)]
    exact implCut_in sa sp da dp sq ak d far n w hd h.2.1 ha h.1
  · rw [segCut_no (by rw [len_list]; exact h)]
    refine (implCut_no sa sp da dp sq ak d far a w hd hf h).mono ?_
    rintro e w' ⟨rfl, b⟩
    exact ⟨_, rfl, OwnSg.nil _ _, b⟩

end Go.Proofs.Ytjnhmobdigfpiaa
