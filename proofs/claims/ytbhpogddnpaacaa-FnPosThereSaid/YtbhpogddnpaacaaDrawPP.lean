/- The two texts that are drawn for the laws of PosPairs and PosThere. Condition: the code lies in memory. -/
import Derived.Test.YtbhpogddnpaacaaDrawTab
import Derived.Test.YtbhpogddnpaacaaDrawStr
import Derived.Test.YtbhpogddnpaacaaSStrL
import Derived.Test.YtbhpogddnpaacaaStrLen
namespace Go.Proofs.Ytbhpogddnpaacaa
open Go.RowKit Go.Sort

/-- What RwrStream of the specification answers is some table, and some text that is not long. -/
theorem specRwr_some (v : Value) (es : List (Int × Int)) (s : ByteArray) (w : World) (hn : es.length ≤ 4194304) (hs : s.size ≤ 2097152) (ht : TabAt w v es) :
    Calls Try.prog 32 #[.agg #[v], .string s] w fun e w' => ∃ (g : Option Addr) (n c : Nat) (far : ByteArray), e = .returned (.tuple #[.agg #[.slice g n c], .string far]) ∧ far.size ≤ 2097152 ∧ Below w.heap.size w w' := by
  by_cases h : (mapB es && strB s.data.toList) = true
  · have h1 : mapB es = true := by simp at h; exact h.1
    have h2 : strB s.data.toList = true := by simp at h; exact h.2
    refine (specRwrStream_ok v es s w hn hs ht h1 h2).mono ?_
    rintro e w' ⟨g, c, rfl, _, hb⟩
    refine ⟨_, _, _, _, rfl, ?_, hb⟩
    have h3 : s.data.toList.length ≤ 120 := by unfold strB at h2; simp only [Bool.and_eq_true, decide_eq_true_eq] at h2; exact h2.1.1
    have hl := lines_len s.data.toList
    have := strE_len (linesL s.data.toList) 120 (fun x hx => by have := line_len hx; omega) (es, [])
    unfold streamE
    have h4 : (linesL s.data.toList).length * (120 + 21) ≤ 120 * (120 + 21) := Nat.mul_le_mul_right _ (by omega)
    simp only [List.length_nil] at this
    simp only [ByteArray.size, List.size_toArray]
    omega
  · refine (specRwrStream_not v es s w hn hs ht (by simpa using h)).mono ?_
    rintro e w' ⟨rfl, hb⟩
    exact ⟨_, _, _, _, rfl, by decide, hb⟩

set_option maxRecDepth 100000 in
set_option maxHeartbeats 3200000 in
theorem drawPosPairs_any (ao : Option Addr) (n cap : Nat) (w : World) (h : BytesIn w ao n) (hn : n ≤ cap) :
    Calls Try.prog 14 #[.slice ao n cap] w fun e w' => ∃ s far : ByteArray, e = .returned (.tuple #[.string s, .string far]) ∧ s.size ≤ 2097152 ∧ far.size ≤ 2097152 ∧ Below w.heap.size w w' := by
  have H := Lib.hid h
  clear h
  go_enter Try.func14, Try.ntmps14
  go_wp2_with fail
  (go_at_call 15; refine (open_any ao n cap _ H.out hn).mono ?_; rintro e w1 ⟨R, rfl, hR, b1, r1⟩)
  have R1 := Lib.hid r1
  have B1 := Lib.hid b1
  have hRl := r1.lt
  have s1 := b1.size
  clear r1 b1
  go_wp2_with fail
  (go_at_call 23; refine (table_any 99999 w.heap.size R 0 _ R1.out (by omega) (by omega) (by omega)).mono ?_; rintro e w2 ⟨g, c, us, rfl, ho, hu, g2, r2⟩)
  obtain ⟨W3, hW3⟩ : ∃ W3, W3 = w2.alloc (.cells #[.slice g us.length c] 34) := ⟨_, rfl⟩
  obtain ⟨T, hT⟩ : ∃ T, T = w2.heap.size := ⟨_, rfl⟩
  have z2 := g2.size
  have gW : w1.grownBy W3 (some R) := by rw [hW3]; exact g2.trans (World.grownBy_alloc _ _ _)
  have t3 : W3.cell? ⟨T, 0, none⟩ = some (.slice g us.length c) := by rw [hW3, hT]; exact (cell_new w2 _ _ 0).1
  have O3 : Hid (OwnTab W3 w1.heap.size (.slice g us.length c) us) := by rw [hW3]; exact ho.below ((Below.refl _ _).alloc (Nat.le_refl _) _)
  have R3 : Hid (Rd w.heap.size R 90 W3) := by rw [hW3]; exact rd_alloc r2 _
  have BA : Hid (Below w.heap.size w W3) := B1.out.grown gW s1 (fun k e => by cases e; exact hR)
  have hu8 := hu.1
  have hTR : T ≠ R := by omega
  clear ho hu g2 r2 gW
  go_wp2_with fail
  rw [← hW3, ← hT]
  (go_at_call 30; refine (streamOr_any 9 (by omega) (by omega) w.heap.size R 90 _ R3.out (by omega)).mono ?_; rintro e w4 ⟨s, rfl, hs, g4, r4⟩)
  have t4 := gbox t3 g4 hTR
  have O4 := Lib.hid (O3.out.grown g4 hRl)
  have R4 := Lib.hid r4
  have BB : Hid (Below w.heap.size w w4) := BA.out.grown g4 BA.out.size (fun k e => by cases e; exact hR)
  clear g4 r4 t3 O3 R3 BA hW3 hT
  go_wp2_with fail
  (go_at_call 16; refine (pick_any 3 w.heap.size R 150 _ R4.out (by omega)).mono ?_; rintro e w5 ⟨k5, rfl, hk5, g5, r5⟩)
  have t5 := gbox t4 g5 hTR
  have O5 := Lib.hid (O4.out.grown g5 hRl)
  have R5 := Lib.hid r5
  have B5 : Hid (Below w.heap.size w w5) := BB.out.grown g5 BB.out.size (fun k e => by cases e; exact hR)
  clear g5 r5 t4 O4 R4 BB
  by_cases hk : k5 = 0
  · subst hk
    go_wp2_with fail
    (go_at_call 31; refine (stream_any w.heap.size R 151 _ R5.out (by omega)).mono ?_; rintro e w6 ⟨s2, rfl, hs2, g6, r6⟩)
    have B6 : Hid (Below w.heap.size w w6) := B5.out.grown g6 B5.out.size (fun k e => by cases e; exact hR)
    clear g6 r6
    go_wp2_with fail
    go_ret2
    exact ⟨_, _, rfl, by omega, by omega, B6.out⟩
  · have hkb : ((k5 : Int) == 0) = false := by rw [beq_eq_false_iff_ne]; omega
    have T5 := Lib.hid O5.out.tab
    clear O5
    go_wp2_with fail
    (go_at_call 32; refine (specRwr_some _ us s _ (by omega) (by omega) T5.out).mono ?_; rintro e w6 ⟨g6, n6, c6, far, rfl, hfar, b6⟩)
    have B6 : Hid (∀ o, Below w.heap.size w (w6.alloc o)) := fun o => (B5.out.trans (b6.mono B5.out.size)).alloc (Nat.le_trans B5.out.size b6.size) o
    clear b6
    go_wp2_with fail
    go_ret2
    exact ⟨_, _, rfl, by omega, hfar, B6.out _⟩

end Go.Proofs.Ytbhpogddnpaacaa
