/- The law of SegRead, at all bytes. Condition: the sentinels that are read are there. -/
import Derived.Test.YtgoggndacichdaaDoorImpR5
import Derived.Test.YtgoggndacichdaaDoorByLaw
namespace Go.Proofs.YtgoggndacichdaaDoor
open Go.RowKit

theorem specRead5_any (g : Nat) (l : List UInt8) (w : World) (hl : l.length ≤ 2097152) (hg : g < w.heap.size) (hr : RowAt w g (byV l)) :
    Calls Tryd.prog 4 #[.slice (some ⟨g, 0, none⟩) l.length l.length] w fun e w' => e = .returned (rdAns5 l) ∧ Below w.heap.size w w' := by
  by_cases h1 : l.length < 15 ∨ 27 < l.length
  · exact specRead5_short g l.length l.length l w rfl hl h1
  · obtain ⟨n, hn⟩ : ∃ n, n = l.length - 15 := ⟨_, rfl⟩
    by_cases h2 : (l[12]?.getD 0).toNat = n
    · by_cases h3 : numAt l (13 + n) = sumL (l.take (13 + n))
      · exact specRead5_fit g l.length l.length n l w rfl (Nat.le_refl _) (by omega) (by omega) hg hr h2 h3
      · exact specRead5_sum g l.length l.length n l w rfl (Nat.le_refl _) (by omega) (by omega) hg hr h2 h3
    · exact specRead5_size g l.length l.length n l w rfl (by omega) (by omega) hg hr h2

theorem rd_row {w : World} {g : Nat} {l : List UInt8} (h : RowAt w g (byV l)) : RdB w (.slice (some ⟨g, 0, none⟩) l.length l.length) l := ⟨_, _, rfl, Nat.le_refl _, fun _ => ⟨g, rfl, h⟩⟩

set_option maxRecDepth 100000 in
set_option maxHeartbeats 1600000 in
theorem lawSegRead_any (v : Value) (l : List UInt8) (w : World) (hv : VarsE w) (hb : ArgB w v l) (hl : l.length ≤ 9223372036854775807) :
    Calls Tryd.prog 3 #[v] w fun e w' => e = .returned (.bool true) ∧ Below w.heap.size w w' := by
  have HA := Lib.hid hb
  have HV := Lib.hid hv
  obtain ⟨ao, cap, rfl, _, _⟩ := hb
  clear hv
  by_cases h : 1048576 < l.length
  · go_enter Tryd.func3, Tryd.ntmps3
    go_wp2_with fail
    go_ret
    exact ⟨rfl, Below.refl _ _⟩
  · have HT : Hid (∀ w, ArgB w (.slice ao l.length cap) l → Calls Tryd.prog 5 #[.slice ao l.length cap] w fun e w' => ∃ g, e = .returned (.slice (some ⟨g, 0, none⟩) l.length l.length) ∧ RowAt w' g (byV l) ∧ w.heap.size ≤ g ∧ g < w'.heap.size ∧ Below w.heap.size w w') := fun w h => toBytes_any _ l w (by omega) h
    obtain ⟨sa, sp, da, dp, sq, ak, d, q, hq⟩ := rdAns5_form l
    have HM : Hid (∀ g w, RowAt w g (byV l) → g < w.heap.size → Calls Tryd.prog 4 #[.slice (some ⟨g, 0, none⟩) l.length l.length] w fun e w' => e = .returned (.tuple #[.agg #[.int .i64 sa, .int .i64 sp, .int .i64 da, .int .i64 dp, .int .i64 sq, .int .i64 ak, .string d], .bool q]) ∧ Below w.heap.size w w') := fun g w h hg => by rw [← hq]; exact specRead5_any g l w (by omega) hg h
    have HI : Hid (∀ g w, VarsE w → RowAt w g (byV l) → g < w.heap.size → Calls Tryd.prog 6 #[.slice (some ⟨g, 0, none⟩) l.length l.length] w fun e w' => e = .returned (.tuple #[.agg #[.int .i64 sa, .int .i64 sp, .int .i64 da, .int .i64 dp, .int .i64 sq, .int .i64 ak, .string d], .bool q]) ∧ Below w.heap.size w w') := fun g w hv h hg => by rw [← hq]; exact implRead5_any g l.length l w (by omega) (Nat.le_refl _) hv hg h
    have HE : Hid (∀ v1 v2 w, RdB w v1 l → RdB w v2 l → Calls Tryd.prog 8 #[v1, v2] w fun e w' => e = .returned (.bool true) ∧ Below w.heap.size w w') := fun v1 v2 w h1 h2 => eqBytes_same v1 v2 l w (by omega) h1 h2
    have HS : Hid (∀ w, Calls Tryd.prog 7 #[.agg #[.int .i64 sa, .int .i64 sp, .int .i64 da, .int .i64 dp, .int .i64 sq, .int .i64 ak, .string d], .agg #[.int .i64 sa, .int .i64 sp, .int .i64 da, .int .i64 dp, .int .i64 sq, .int .i64 ak, .string d]] w fun e w' => e = .returned (.bool true) ∧ Below w.heap.size w w') := fun w => eqSeg_same sa sp da dp sq ak d w
    clear hq
    cases q
    all_goals
      go_enter Tryd.func3, Tryd.ntmps3
      go_wp2_with fail
      (go_at_call 5; refine (HT.out _ HA.out).mono ?_; rintro e w1 ⟨g1, rfl, r1, _, z1, b1⟩; have R1 := Lib.hid r1; clear r1)
      go_wp2_with fail
      (go_at_call 4; refine (HM.out _ _ R1.out z1).mono ?_; rintro e w2 ⟨rfl, b2⟩)
      have B2 : Hid (Below w.heap.size w w2) := b1.trans (b2.mono b1.size)
      have BX : Hid (Below w.heap.size w (w2.alloc (.cells #[.int .i64 sa, .int .i64 sp, .int .i64 da, .int .i64 dp, .int .i64 sq, .int .i64 ak, .string d] 26))) := B2.out.alloc B2.out.size _
      have K2 := Lib.hid (box7_new w2 (.int .i64 sa) (.int .i64 sp) (.int .i64 da) (.int .i64 dp) (.int .i64 sq) (.int .i64 ak) (.string d) 26)
      clear b1 b2 z1 R1
      have A2 := Lib.hid (HA.out.below BX.out)
      go_wp2_with fail
      (go_at_call 5; refine (HT.out _ A2.out).mono ?_; rintro e w3 ⟨g3, rfl, r3, _, z3, b3⟩)
      have z2 : w2.heap.size < w3.heap.size := by have := b3.size; simp at this; omega
      have K3 := Lib.hid (K2.out.below b3 (by simp))
      have B3 := Lib.hid (BX.out.trans (b3.mono BX.out.size))
      have R3 := Lib.hid r3
      have V3 := Lib.hid (HV.out.below B3.out)
      clear r3 b3 BX A2 K2
      go_wp2_with fail
      (go_at_call 6; refine (HI.out _ _ V3.out R3.out z3).mono ?_; rintro e w4 ⟨rfl, b4⟩)
      have z4 : w2.heap.size < w4.heap.size := Nat.lt_of_lt_of_le z2 b4.size
      have z5 : g3 < w4.heap.size := Nat.lt_of_lt_of_le z3 b4.size
      obtain ⟨k0, k1, k2, k3, k4, k5, k6⟩ := K3.out.below b4 z2
      have R4 := Lib.hid (R3.out.below (b4.alloc b4.size (.cells #[.int .i64 sa, .int .i64 sp, .int .i64 da, .int .i64 dp, .int .i64 sq, .int .i64 ak, .string d] 26)) z3)
      have B4 := Lib.hid ((B3.out.trans (b4.mono B3.out.size)).alloc (B3.out.trans (b4.mono B3.out.size)).size (.cells #[.int .i64 sa, .int .i64 sp, .int .i64 da, .int .i64 dp, .int .i64 sq, .int .i64 ak, .string d] 26))
      have y0 : ∀ o, (w4.alloc o).cell? ⟨w2.heap.size, 0, none⟩ = some (.int .i64 sa) := fun o => (cell_alloc_lt z4).trans k0
      have y1 : ∀ o, (w4.alloc o).cell? ⟨w2.heap.size, 1, none⟩ = some (.int .i64 sp) := fun o => (cell_alloc_lt z4).trans k1
      have y2 : ∀ o, (w4.alloc o).cell? ⟨w2.heap.size, 2, none⟩ = some (.int .i64 da) := fun o => (cell_alloc_lt z4).trans k2
      have y3 : ∀ o, (w4.alloc o).cell? ⟨w2.heap.size, 3, none⟩ = some (.int .i64 dp) := fun o => (cell_alloc_lt z4).trans k3
      have y4 : ∀ o, (w4.alloc o).cell? ⟨w2.heap.size, 4, none⟩ = some (.int .i64 sq) := fun o => (cell_alloc_lt z4).trans k4
      have y5 : ∀ o, (w4.alloc o).cell? ⟨w2.heap.size, 5, none⟩ = some (.int .i64 ak) := fun o => (cell_alloc_lt z4).trans k5
      have y6 : ∀ o, (w4.alloc o).cell? ⟨w2.heap.size, 6, none⟩ = some (.string d) := fun o => (cell_alloc_lt z4).trans k6
      clear k0 k1 k2 k3 k4 k5 k6 b4 K3 R3 B3 V3
      go_wp2_with fail
      (go_at_call 7; refine (HS.out _).mono ?_; rintro e w5 ⟨rfl, b5⟩)
      have B5 := Lib.hid (B4.out.trans (b5.mono B4.out.size))
      have z6 : g3 < (w4.alloc (.cells #[.int .i64 sa, .int .i64 sp, .int .i64 da, .int .i64 dp, .int .i64 sq, .int .i64 ak, .string d] 26)).heap.size := by simp; omega
      have R5 := Lib.hid (R4.out.below b5 z6)
      have z7 : g3 < w5.heap.size := Nat.lt_of_lt_of_le z6 b5.size
      have A5 := Lib.hid (HA.out.below B5.out)
      clear b5 R4 B4 y0 y1 y2 y3 y4 y5 y6
      go_wp2_with fail
      (go_at_call 5; refine (HT.out _ A5.out).mono ?_; rintro e w6 ⟨g6, rfl, r6, _, z8, b6⟩)
      have S6 := Lib.hid (rd_row (R5.out.below b6 z7))
      have R6 := Lib.hid (rd_row r6)
      have B6 := Lib.hid (B5.out.trans (b6.mono B5.out.size))
      clear r6 b6
      go_wp2_with fail
      (go_at_call 8; refine (HE.out _ _ _ S6.out R6.out).mono ?_; rintro e w7 ⟨rfl, b7⟩)
      go_wp2_with fail
      go_ret
      exact ⟨rfl, B6.out.trans (b7.mono B6.out.size)⟩

end Go.Proofs.YtgoggndacichdaaDoor
