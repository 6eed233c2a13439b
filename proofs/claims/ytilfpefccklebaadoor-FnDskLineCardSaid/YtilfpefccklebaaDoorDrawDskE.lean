/- The line that is drawn for the laws on lines of text: at most 60 bytes. Condition: the code lies in memory. -/
import Derived.Test.YtilfpefccklebaaDoorDrawLine
import Derived.Test.YtilfpefccklebaaDoorDrawBent
import Derived.Test.YtilfpefccklebaaDoorSEvT
import Derived.Deep.RegionWith
namespace Go.Proofs.YtilfpefccklebaaDoor
open Go.RowKit

theorem evTx_len {k : Nat} {xs : List Nat} (h : ∀ x ∈ xs, x ≤ 9999) (hl : xs.length ≤ 3) : (evTx k xs).length ≤ 20 := by
  have key : ∀ xs : List Nat, (∀ x ∈ xs, x ≤ 9999) → ((xs.map fun n => 32 :: Lib.decDigits n).flatten).length ≤ 5 * xs.length := by
    intro xs
    induction xs with
    | nil => intro _; simp
    | cons x r ih =>
      intro h
      have h1 := ih (fun y hy => h y (List.mem_cons_of_mem _ hy))
      have h2 := dec_len4 (h x (List.mem_cons_self ..))
      simp at h1 ⊢; omega
  have h1 := key xs h
  have h2 := nameL_len k
  unfold evTx
  rw [List.length_append]; omega
theorem numsE_le {k a b c d : Nat} (ha : a ≤ 9999) (hb : b ≤ 9999) (hc : c ≤ 9999) (hd : d ≤ 9999) : (∀ x ∈ numsE k a b c d, x ≤ 9999) ∧ (numsE k a b c d).length ≤ 3 := by
  unfold numsE
  repeat' split
  all_goals
    refine ⟨?_, by simp⟩
    intro x hx
    simp at hx
    omega

set_option maxRecDepth 100000 in
set_option maxHeartbeats 1600000 in
theorem say_any (k a b c d : Nat) (w : World) (h1 : 1 ≤ k) (h8 : k ≤ 8) (ha : a ≤ 9999) (hb : b ≤ 9999) (hc : c ≤ 9999) (hd : d ≤ 9999) :
    Calls Tryd.prog 45 #[.agg #[.int .i64 k, .int .i64 a, .int .i64 b, .int .i64 c, .int .i64 d]] w fun e w' => ∃ s : ByteArray, e = .returned (.string s) ∧ s.size ≤ 60 ∧ Below w.heap.size w w' := by
  obtain ⟨hx, hl⟩ := numsE_le (k := k) ha hb hc hd
  have hsz : (evTx k (numsE k a b c d)).length ≤ 20 := evTx_len hx hl
  have HT : Hid (∀ w, Calls Tryd.prog 29 #[.agg #[.int .i64 k, .int .i64 a, .int .i64 b, .int .i64 c, .int .i64 d]] w fun e w' => e = .returned (.string ⟨(evTx k (numsE k a b c d)).toArray⟩) ∧ Below w.heap.size w w') := fun w => specEvTx_any k a b c d w h1 h8 ha hb hc hd
  obtain ⟨T, hT⟩ : ∃ T : ByteArray, T = ⟨(evTx k (numsE k a b c d)).toArray⟩ := ⟨_, rfl⟩
  have hTs : T.size ≤ 60 := by rw [hT]; show (evTx k (numsE k a b c d)).toArray.size ≤ 60; simp; omega
  rw [← hT] at HT
  have HI : Hid (∀ w, Calls Tryd.prog 66 #[.int .i64 (k : Nat), .int .i64 1, .int .i64 8] w fun e w' => e = .returned (.bool true) ∧ w = w') := fun w => by
    have := specIn_any (k : Int) 1 8 w
    have e : inB (k : Int) 1 8 = true := by unfold inB; simp; omega
    rw [e] at this
    exact this
  clear hx hl hsz hT
  go_enter Tryd.func45, Tryd.ntmps45
  go_wp2_with fail
  (go_at_call 66; refine (HI.out _).mono ?_; rintro e w1 ⟨rfl, rfl⟩)
  have ga : ¬ ((a : Int) < 0) := by omega
  have gb : ¬ ((b : Int) < 0) := by omega
  have gc : ¬ ((c : Int) < 0) := by omega
  have gd : ¬ ((d : Int) < 0) := by omega
  go_wp2_with (go_at_call 29; refine (HT.out _).mono ?_; rintro e w2 ⟨rfl, b2⟩)
  go_ret
  exact ⟨T, rfl, hTs, below_box b2⟩

set_option maxRecDepth 100000 in
set_option maxHeartbeats 3200000 in
theorem drawDskEvent_any (ao : Option Addr) (n cap : Nat) (w : World) (h : BytesIn w ao n) (hn : n ≤ cap) :
    Calls Tryd.prog 20 #[.slice ao n cap] w fun e w' => ∃ s : ByteArray, e = .returned (.string s) ∧ s.size ≤ 100 ∧ Below w.heap.size w w' := by
  have H := Lib.hid h
  clear h
  go_enter Tryd.func20, Tryd.ntmps20
  go_wp2_with fail
  (go_at_call 44; refine (open_any ao n cap _ H.out hn).mono ?_; rintro e w1 ⟨R, rfl, hR, b1, r1⟩)
  have s1 := b1.size
  have hRl := r1.lt
  have R1 := Lib.hid r1
  have B1 := Lib.hid b1
  clear r1 b1
  go_wp2_with fail
  (go_at_call 46; refine (pick_any 8 w.heap.size R 0 _ R1.out (by omega)).mono ?_; rintro e w2 ⟨kk, rfl, hkk, g2, r2⟩)
  have s2 := g2.size
  have R2 := Lib.hid r2
  have B2 := Lib.hid (below_grown B1.out g2 hR)
  have bkk : kk < 8 := by omega
  clear r2 g2 hkk
  go_wp2_with fail
  (go_at_call 46; refine (pick_any 3 w.heap.size R 1 _ R2.out (by omega)).mono ?_; rintro e w3 ⟨ka, rfl, hka, g3, r3⟩)
  have s3 := g3.size
  have R3 := Lib.hid r3
  have B3 := Lib.hid (below_grown B2.out g3 hR)
  have bka : ka < 3 := by omega
  clear r3 g3 hka
  go_wp2_with fail
  (go_at_call 46; refine (pick_any 600 w.heap.size R 2 _ R3.out (by omega)).mono ?_; rintro e w4 ⟨kb, rfl, hkb, g4, r4⟩)
  have s4 := g4.size
  have R4 := Lib.hid r4
  have B4 := Lib.hid (below_grown B3.out g4 hR)
  have bkb : kb < 600 := by omega
  clear r4 g4 hkb
  go_wp2_with fail
  (go_at_call 46; refine (pick_any 20 w.heap.size R 3 _ R4.out (by omega)).mono ?_; rintro e w5 ⟨kc, rfl, hkc, g5, r5⟩)
  have s5 := g5.size
  have R5 := Lib.hid r5
  have B5 := Lib.hid (below_grown B4.out g5 hR)
  have bkc : kc < 20 := by omega
  clear r5 g5 hkc
  go_wp2_with fail
  (go_at_call 46; refine (pick_any 300 w.heap.size R 4 _ R5.out (by omega)).mono ?_; rintro e w6 ⟨kd, rfl, hkd, g6, r6⟩)
  have s6 := g6.size
  have R6 := Lib.hid r6
  have B6 := Lib.hid (below_grown B5.out g6 hR)
  have bkd : kd < 300 := by omega
  clear r6 g6 hkd
  have HSay : Hid (∀ w, Calls Tryd.prog 45 #[.agg #[.int .i64 (1 + (kk : Int)), .int .i64 (ka : Nat), .int .i64 (kb : Nat), .int .i64 (kc : Nat), .int .i64 (kd : Nat)]] w fun e w' => ∃ s : ByteArray, e = .returned (.string s) ∧ s.size ≤ 60 ∧ Below w.heap.size w w') := fun w => by
    have := say_any (1 + kk) ka kb kc kd w (by omega) (by omega) (by omega) (by omega) (by omega) (by omega)
    rw [show ((1 + kk : Nat) : Int) = 1 + (kk : Int) by omega] at this
    exact this
  go_wp2_with fail
  (go_at_call 45; refine (HSay.out _).mono ?_; rintro e w7 ⟨s, rfl, hs, b7⟩)
  have s7 := b7.size
  have R7 := Lib.hid (rd_below R6.out b7 (Nat.le_refl _))
  have B7 := Lib.hid (B6.out.trans (b7.mono B6.out.size))
  clear b7
  go_wp2_with fail
  (go_at_call 46; refine (pick_any 4 w.heap.size R 5 _ R7.out (by omega)).mono ?_; rintro e w8 ⟨k1, rfl, hk1, g8, r8⟩)
  have s8 := g8.size
  have R8 := Lib.hid r8
  have B8 := Lib.hid (below_grown B7.out g8 hR)
  clear r8 g8 hk1
  by_cases h0 : k1 = 0
  · have e0 : ((k1 : Int) == 0) = true := by simp [h0]
    clear h0
    go_wp2_with fail
    (go_at_call 47; refine (bent_any s (by omega) w.heap.size R 6 _ R8.out (by omega)).mono ?_; rintro e w9 ⟨t, rfl, ht, g9, r9⟩)
    go_wp2_with fail
    go_ret
    exact ⟨t, rfl, by omega, below_grown B8.out g9 hR⟩
  · have e0 : ((k1 : Int) == 0) = false := by simp [h0]
    by_cases h1 : k1 = 1
    · have e1 : ((k1 : Int) == 1) = true := by simp [h1]
      clear h0 h1
      go_wp2_with fail
      (go_at_call 46; refine (pick_any 10 w.heap.size R 6 _ (rd_alloc R8.out _) (by omega)).mono ?_; rintro e w9 ⟨k3, rfl, hk3, g9, r9⟩)
      have hk5 : k3 < 10 := by omega
      obtain ⟨x, hx, hxs⟩ : ∃ x : ByteArray, w9.cell? ⟨w8.heap.size, k3, none⟩ = some (.string x) ∧ x.size ≤ 60 := by
        rw [(gcell g9 (by simp) (by omega) k3).1, (cell_new _ _ _ _).1]
        match k3, hk5 with
        | 0, _ => exact ⟨_, rfl, by decide⟩
        | 1, _ => exact ⟨_, rfl, by decide⟩
        | 2, _ => exact ⟨_, rfl, by decide⟩
        | 3, _ => exact ⟨_, rfl, by decide⟩
        | 4, _ => exact ⟨_, rfl, by decide⟩
        | 5, _ => exact ⟨_, rfl, by decide⟩
        | 6, _ => exact ⟨_, rfl, by decide⟩
        | 7, _ => exact ⟨_, rfl, by decide⟩
        | 8, _ => exact ⟨_, rfl, by decide⟩
        | 9, _ => exact ⟨_, rfl, by decide⟩
      have hk6 : (k3 : Int) < 10 := by omega
      have B9 := Lib.hid (below_grown (B8.out.alloc B8.out.size _) g9 hR)
      clear r9 g9 hk3
      go_wp2_with fail
      go_ret
      exact ⟨x, rfl, by omega, B9.out⟩
    · have e1 : ((k1 : Int) == 1) = false := by (simp; omega)
      clear h0 h1
      go_wp2_with fail
      go_ret
      exact ⟨s, rfl, by omega, B8.out⟩

end Go.Proofs.YtilfpefccklebaaDoor
