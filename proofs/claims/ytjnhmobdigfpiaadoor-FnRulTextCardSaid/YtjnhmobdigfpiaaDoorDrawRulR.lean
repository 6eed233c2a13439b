/- The text that is drawn for the law on texts of rules: at most 200 bytes. Condition: the code lies in memory. -/
import Derived.Test.YtjnhmobdigfpiaaDoorDrawRul
import Derived.Test.YtjnhmobdigfpiaaDoorRulTxE
import Derived.Test.YtjnhmobdigfpiaaDoorDrawBent
namespace Go.Proofs.YtjnhmobdigfpiaaDoor
open Go.RowKit

set_option maxRecDepth 100000 in
set_option maxHeartbeats 3200000 in
theorem drawRulRead_any (ao : Option Addr) (n cap : Nat) (w : World) (h : BytesIn w ao n) (hn : n ≤ cap) :
    Calls Tryd.prog 17 #[.slice ao n cap] w fun e w' => ∃ s : ByteArray, e = .returned (.string s) ∧ s.size ≤ 200 ∧ Below w.heap.size w w' := by
  have H := Lib.hid h
  clear h
  go_enter Tryd.func17, Tryd.ntmps17
  go_wp2_with fail
  (go_at_call 25; refine (open_any ao n cap _ H.out hn).mono ?_; rintro e w1 ⟨R, rfl, hR, b1, r1⟩)
  have s1 := b1.size
  have hRl := r1.lt
  have R1 := Lib.hid r1
  have B1 := Lib.hid b1
  clear r1 b1
  go_wp2_with fail
  (go_at_call 38; refine (rule_any 99999 w.heap.size R 0 _ R1.out (by omega) (by omega) (by omega)).mono ?_; rintro e w2 ⟨al, i, it, o, ot, p, pt, rfl, g2, r2⟩)
  have s2 := g2.size
  have R2 := Lib.hid r2
  have B2 := Lib.hid (below_grown B1.out g2 hR)
  clear r2 g2
  obtain ⟨s, hs0⟩ : ∃ s : ByteArray, s = ⟨(rulTxL ⟨al, i, it, o, ot, p, pt⟩).toArray⟩ := ⟨_, rfl⟩
  have hs : s.size ≤ 100 := by rw [hs0]; have := rulTx_len ⟨al, i, it, o, ot, p, pt⟩; simpa [ByteArray.size] using this
  have HTX : Hid (∀ w, Calls Tryd.prog 21 #[.agg #[.bool al, .int .i64 i, .int .i64 it, .int .i64 o, .int .i64 ot, .int .i64 p, .int .i64 pt]] w fun e w' => e = .returned (.string s) ∧ Below w.heap.size w w') := fun w => by rw [hs0]; exact (rulTxE al i it o ot p pt).1 w
  clear hs0
  go_wp2_with fail
  (go_at_call 21; refine (HTX.out _).mono ?_; rintro e w22 ⟨rfl, b22⟩)
  have s22 := b22.size
  have R22 := Lib.hid (rd_below R2.out b22 (Nat.le_refl _))
  have B22 := Lib.hid (B2.out.trans (b22.mono B2.out.size))
  clear b22
  go_wp2_with fail
  (go_at_call 39; refine (pick_any 4 w.heap.size R 20 _ R22.out (by omega)).mono ?_; rintro e w3 ⟨k1, rfl, hk1, g3, r3⟩)
  have s3 := g3.size
  have R3 := Lib.hid r3
  have B3 := Lib.hid (below_grown B22.out g3 hR)
  clear r3 g3 hk1
  by_cases h0 : k1 = 0
  · have e0 : ((k1 : Int) == 0) = true := by simp [h0]
    clear h0
    go_wp2_with fail
    (go_at_call 40; refine (bent_any s (by omega) w.heap.size R 21 _ R3.out (by omega)).mono ?_; rintro e w4 ⟨t, rfl, ht, g4, r4⟩)
    go_wp2_with fail
    go_ret
    exact ⟨t, rfl, by omega, below_grown B3.out g4 hR⟩
  · have e0 : ((k1 : Int) == 0) = false := by simp [h0]
    by_cases h1 : k1 = 1
    · have e1 : ((k1 : Int) == 1) = true := by simp [h1]
      clear h0 h1
      go_wp2_with fail
      (go_at_call 39; refine (pick_any 6 w.heap.size R 21 _ (rd_alloc R3.out _) (by omega)).mono ?_; rintro e w4 ⟨k3, rfl, hk3, g4, r4⟩)
      have hk5 : k3 < 6 := by omega
      obtain ⟨x, hx, hxs⟩ : ∃ x : ByteArray, w4.cell? ⟨w3.heap.size, k3, none⟩ = some (.string x) ∧ x.size ≤ 200 := by
        rw [(gcell g4 (by simp) (by omega) k3).1, (cell_new _ _ _ _).1]
        match k3, hk5 with
        | 0, _ => exact ⟨_, rfl, by decide⟩
        | 1, _ => exact ⟨_, rfl, by decide⟩
        | 2, _ => exact ⟨_, rfl, by decide⟩
        | 3, _ => exact ⟨_, rfl, by decide⟩
        | 4, _ => exact ⟨_, rfl, by decide⟩
        | 5, _ => exact ⟨_, rfl, by decide⟩
      have hk6 : (k3 : Int) < 6 := by omega
      have B4 := Lib.hid (below_grown (B3.out.alloc B3.out.size _) g4 hR)
      clear r4 g4 hk3
      go_wp2_with fail
      go_ret
      exact ⟨x, rfl, hxs, B4.out⟩
    · have e1 : ((k1 : Int) == 1) = false := by (simp; omega)
      clear h0 h1
      go_wp2_with fail
      go_ret
      exact ⟨s, rfl, by omega, B3.out⟩

end Go.Proofs.YtjnhmobdigfpiaaDoor
