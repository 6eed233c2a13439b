/- The bytes that are drawn for the laws on what is read, and on sums. Condition: the code lies in memory. -/
import Derived.Test.YtjnhmobdigfpiaaDoorTurnB
import Derived.Test.YtjnhmobdigfpiaaDoorDrawSeg
import Derived.Test.YtjnhmobdigfpiaaDoorSegSum
import Derived.Deep.RegionHeld3
namespace Go.Proofs.YtjnhmobdigfpiaaDoor
open Go.RowKit

theorem own_parts {w : World} {B g c : Nat} {l : List UInt8} (h : OwnB w B (.slice (some ⟨g, 0, none⟩) l.length c) l) : B ≤ g ∧ g < w.heap.size ∧ l.length ≤ c ∧ RowAt w g (byV l) := by
  by_cases hn : 0 < l.length
  · obtain ⟨g', cap, e, hc, hB, hg, hr⟩ := h.cells hn
    simp at e
    obtain ⟨rfl, rfl⟩ := e
    exact ⟨hB, hg, hc, hr⟩
  · rcases h.2 with ⟨h0, _⟩ | ⟨g', cap, cur, hv, hB, hg, h2, _⟩
    · cases h0
    · simp at hv
      obtain ⟨rfl, rfl⟩ := hv
      refine ⟨hB, (Array.getElem?_eq_some_iff.1 hg).1, h2, fun i hi => ?_⟩
      rw [byV_len] at hi
      omega
theorem own_len {w : World} {B : Nat} {v : Value} {l : List UInt8} {n : Nat} (h : OwnB w B v l) (_ : l.length = n) : OwnB w B v l := h
theorem seg_short (s : Sg) : (segBytesL s).length ≤ 15 + s.data.length := by
  unfold segBytesL
  split
  · rw [segL_len]; exact Nat.le_refl _
  · simp
theorem seg_not1 {s : Sg} {l : List UInt8} (h : l = segBytesL s) : l.length ≠ 1 := by
  rw [h]
  unfold segBytesL
  split
  · rw [segL_len]; omega
  · simp
theorem row_take {w : World} {g : Nat} {l : List UInt8} (h : RowAt w g (byV l)) (n : Nat) : RowAt w g (byV (l.take n)) := fun i hi => by
  have hi2 : i < (byV l).length := by rw [byV_len] at hi ⊢; rw [List.length_take] at hi; omega
  have := h i hi2
  refine ⟨?_, this.2⟩
  rw [this.1]
  congr 1
  rw [byV_at, byV_at]
  simp

set_option maxRecDepth 100000 in
set_option maxHeartbeats 3200000 in
theorem drawSegRead_any (ao : Option Addr) (n cap : Nat) (w : World) (h : BytesIn w ao n) (hn : n ≤ cap) :
    Calls Tryd.prog 26 #[.slice ao n cap] w fun e w' => ∃ g c N l, e = .returned (.slice (some ⟨g, 0, none⟩) N c) ∧ N = l.length ∧ OwnB w' w.heap.size (.slice (some ⟨g, 0, none⟩) N c) l ∧ l.length ≤ 300 ∧ Below w.heap.size w w' := by
  have H := Lib.hid h
  clear h
  go_enter Tryd.func26, Tryd.ntmps26
  go_wp2_with fail
  (go_at_call 25; refine (open_any ao n cap _ H.out hn).mono ?_; rintro e w1 ⟨R, rfl, hR, b1, r1⟩)
  have R1 := Lib.hid r1
  have B1 := Lib.hid b1
  clear r1 b1
  go_wp2_with fail
  (go_at_call 24; refine (seg_any 99999 _ R 0 _ R1.out (by omega) (by omega) (by omega)).mono ?_; rintro e w2 ⟨sa, sp, da, dp, sq, ak, d, rfl, hD, g2, r2⟩)
  have G2 := Lib.hid g2
  have R2 := Lib.hid r2
  have hd : d.size ≤ 120 := hD.2.2
  clear g2 r2
  go_wp2_with fail
  (go_at_call 9; refine (specBytes_any sa sp da dp sq ak d w2 (by omega)).mono ?_; rintro e w3 ⟨g, c, rfl, o3, b3⟩)
  obtain ⟨l, hl⟩ : ∃ l, l = segBytesL ⟨sa, sp, da, dp, sq, ak, d.data.toList⟩ := ⟨_, rfl⟩
  have hll : l.length ≤ 200 := by rw [hl]; have := seg_short ⟨sa, sp, da, dp, sq, ak, d.data.toList⟩; simp only [len_list] at this; omega
  have hl1 : l.length ≠ 1 := seg_not1 hl
  rw [← hl] at o3 ⊢
  obtain ⟨p1, p2, p3, p4⟩ := own_parts o3
  have O3 := Lib.hid o3
  have P4 := Lib.hid p4
  have R3 := Lib.hid (rd_below R2.out b3 (Nat.le_refl _))
  have A3 : Hid (Below w.heap.size w w3) := (B1.out.grown G2.out (by have := B1.out.size; omega) (fun k e => by cases e; omega)).trans (b3.mono (by have := B1.out.size; have := G2.out.size; omega))
  have hRs : R < w2.heap.size := R2.out.lt
  have hgR : g ≠ R := by omega
  have z3 : w.heap.size ≤ w2.heap.size := by have := B1.out.size; have := G2.out.size; omega
  clear o3 hl p4 b3 R2 G2 B1 R1 hd hD
  go_wp2_with fail
  (go_at_call 39; refine (pick_any 4 _ R _ _ R3.out (by omega)).mono ?_; rintro e w4 ⟨z, rfl, hz, g4, r4⟩)
  have R4 := Lib.hid r4
  have A4 : Hid (Below w.heap.size w w4) := A3.out.grown g4 A3.out.size (fun k e => by cases e; omega)
  have O4 : Hid (OwnB w4 w2.heap.size (.slice (some ⟨g, 0, none⟩) l.length c) l) := own_keep O3.out g4 hRs
  have P4' := Lib.hid (row_grown P4.out g4 p2 hgR)
  have hg4 : g < w4.heap.size := Nat.lt_of_lt_of_le p2 g4.size
  have hz3 : z = 0 ∨ z = 1 ∨ z = 2 ∨ z = 3 := by omega
  clear hz r4 g4 R3 A3 O3 P4
  rcases hz3 with rfl | rfl | rfl | rfl
  · go_wp2_with fail
    (go_at_call 50; refine (turn_any _ R _ g c l w4 R4.out (by omega) p3 (by omega) hg4 hgR P4'.out).mono ?_; rintro e w5 ⟨v, l5, rfl, o5, ⟨h5, h5p⟩, g5, r5⟩)
    obtain ⟨gq, cq, eq5, -, -, -, -⟩ := o5.cells (h5p hl1)
    obtain ⟨a5, c5, e5⟩ := o5.form
    subst e5
    simp at eq5
    obtain ⟨rfl, rfl⟩ := eq5
    have O5 := Lib.hid (o5.mono (B' := w.heap.size) A4.out.size)
    have A5 : Hid (Below w.heap.size w w5) := A4.out.grown g5 A4.out.size (fun k e => by cases e; omega)
    clear o5 g5 r5
    go_wp2_with fail
    go_ret
    exact ⟨_, _, _, _, rfl, rfl, O5.out, by omega, A5.out⟩
  · go_wp2_with fail
    (go_at_call 50; refine (turn_any _ R _ g c l w4 R4.out (by omega) p3 (by omega) hg4 hgR P4'.out).mono ?_; rintro e w5 ⟨v, l5, rfl, o5, ⟨h5, h5p⟩, g5, r5⟩)
    obtain ⟨g6, cq, eq5, -, -, -, -⟩ := o5.cells (h5p hl1)
    obtain ⟨a5, c5, e5⟩ := o5.form
    subst e5
    simp at eq5
    obtain ⟨rfl, rfl⟩ := eq5
    have O5 := Lib.hid (o5.mono (B' := w.heap.size) A4.out.size)
    have A5 : Hid (Below w.heap.size w w5) := A4.out.grown g5 A4.out.size (fun k e => by cases e; omega)
    by_cases h2 : 2 < l5.length
    rotate_left
    · have h2i : ¬ (2 : Int) < (l5.length : Int) := by omega
      clear o5 g5 r5
      go_wp2_with fail
      go_ret
      exact ⟨_, _, _, _, rfl, rfl, O5.out, by omega, A5.out⟩
    have h2i : (2 : Int) < (l5.length : Int) := by omega
    obtain ⟨gy, cy, e6, hc6, -, hg6, hr6⟩ := o5.cells (by omega)
    simp at e6
    obtain ⟨rfl, rfl⟩ := e6
    obtain ⟨m, hm⟩ : ∃ m : Nat, m = l5.length - 2 := ⟨_, rfl⟩
    have hwm : IntKind.wrap .i64 ((l5.length : Int) - 2) = (m : Int) := by rw [show (m : Int) = (l5.length : Int) - 2 by omega]; exact IntWalk.i64_in _ (by omega)
    have hmc : (m : Int) ≤ (c5 : Int) := by omega
    have hml : (m : Int) ≤ (l5.length : Int) := by omega
    have hlt : (l5.take m).length = m := by rw [List.length_take]; omega
    have ROW : Hid (∀ w', Below w5.heap.size w5 w' → RowAt w' g6 (byV (l5.take m))) := fun w' h => row_take (hr6.below h hg6) m
    have HS : Hid (∀ w', Below w5.heap.size w5 w' → Calls Tryd.prog 13 #[.slice (some ⟨g6, 0, none⟩) m c5] w' fun e w'' => e = .returned (.int .i64 (sumL (l5.take m) : Nat)) ∧ w' = w'') := fun w' h => specSum_any _ (l5.take m) w' (by omega) ⟨_, c5, by rw [hlt], by omega, fun _ => ⟨g6, rfl, ROW.out w' h⟩⟩
    have HP : Hid (∀ w', Below w5.heap.size w5 w' → Calls Tryd.prog 29 #[.slice (some ⟨g6, 0, none⟩) m c5, .int .i64 (sumL (l5.take m) : Nat)] w' fun e w'' => ∃ g' cap', e = .returned (.slice (some ⟨g', 0, none⟩) (m + 2) cap') ∧ OwnB w'' w'.heap.size (.slice (some ⟨g', 0, none⟩) (m + 2) cap') (l5.take m ++ wordL (sumL (l5.take m))) ∧ Below w'.heap.size w' w'') := fun w' h => by
      have := specPutW_any g6 c5 (l5.take m) (sumL (l5.take m)) w' (by omega) (by have := sumL_lt (l5.take m); omega) (Nat.lt_of_lt_of_le hg6 h.size) (ROW.out w' h)
      rwa [hlt] at this
    obtain ⟨sm, hsm⟩ : ∃ n, n = sumL (l5.take m) := ⟨_, rfl⟩
    rw [← hsm] at HS HP
    clear hsm o5 g5 r5 hr6
    have HLN : Hid ((l5.take m ++ wordL sm).length = m + 2) := by show _ = _; rw [List.length_append, hlt]; rfl
    have mk : Hid (∀ w', Below w5.heap.size w5 w' → Below w5.heap.size w5 w' ∧ RowAt w' g6 (byV (l5.take m))) := fun w' h => ⟨h, ROW.out w' h⟩
    have hM := mk.out _ (Below.refl _ _)
    have h138 : m + 2 ≤ 300 := by omega
    clear hlt hm
    go_wp2_with fail
    go_region_held3 (fun w' => Below w5.heap.size w5 w' ∧ RowAt w' g6 (byV (l5.take m)))
      (first
        | exact mk.out _ (Below.refl _ _).drew
        | exact mk.out _ cc
        | (trace_state; fail))
      (first
        | (go_at_call 13; have hS := (by assumption : Below w5.heap.size w5 _ ∧ _); refine (HS.out _ hS.1).mono ?_; rintro e wS ⟨rfl, rfl⟩)
        | (go_at_call 29; have hS := (by assumption : Below w5.heap.size w5 _ ∧ _); refine (HP.out _ hS.1).mono ?_; rintro e wN ⟨g7, c7, rfl, o7, b7⟩; have cc : Below w5.heap.size w5 wN := hS.1.trans (b7.mono hS.1.size); have O7 := Lib.hid (o7.mono (B' := w.heap.size) (Nat.le_trans A5.out.size hS.1.size)); clear o7 b7))
    all_goals
      go_wp2_with fail
      go_ret
      exact ⟨_, _, _, _, rfl, HLN.out.symm, own_len O7.out HLN.out, by rw [HLN.out]; omega, A5.out.trans (cc.mono A5.out.size)⟩
  all_goals
    go_wp2_with fail
    go_ret
    exact ⟨_, _, _, _, rfl, rfl, OwnB.mono O4.out z3, by omega, A4.out⟩

end Go.Proofs.YtjnhmobdigfpiaaDoor
