/- PosThere of the program and of the specification, and the law on it, at every two texts and every place. No condition. -/
import Derived.Test.YtgjhfmlncibpmaaSPairs
import Derived.Test.YtgjhfmlncibpmaaIPairs
import Derived.Test.YtgjhfmlncibpmaaIThere
import Derived.Test.YtgjhfmlncibpmaaSBack
namespace Go.Proofs.Ytgjhfmlncibpmaa
open Go.RowKit

set_option maxRecDepth 100000 in
set_option maxHeartbeats 1600000 in
theorem implThere_any (s far : ByteArray) (a : Int) (w : World) (hs : s.size ≤ 2097152) (hf : far.size ≤ 2097152) (ha : -9223372036854775808 ≤ a ∧ a ≤ 9223372036854775807) :
    Calls Try.prog 11 #[.string s, .string far, .int .i64 a] w fun e w' => e = .returned (.int .i64 (backI (pairsL s.data.toList far.data.toList) a)) ∧ Below w.heap.size w w' := by
  have h1 := insL_ge (pairsL s.data.toList far.data.toList)
  have h2 := pairsL_ins s.data.toList far.data.toList
  have h3 := pairsL_outs s.data.toList far.data.toList
  rw [len_list] at h2 h3
  have HP := Lib.hid (implPairs_any s far w hs hf)
  have HT : Hid (∀ v w, RdSp w v (spansL (pairsL s.data.toList far.data.toList)) → Calls Try.prog 17 #[v, .int .i64 a] w fun e w' => e = .returned (.int .i64 (backI (pairsL s.data.toList far.data.toList) a)) ∧ Below w.heap.size w w') :=
    fun v w h => there_any v _ a w ha (by omega) (by omega) (by omega) h
  obtain ⟨z, hz⟩ : ∃ z, z = backI (pairsL s.data.toList far.data.toList) a := ⟨_, rfl⟩
  obtain ⟨sp, hsp⟩ : ∃ sp, sp = spansL (pairsL s.data.toList far.data.toList) := ⟨_, rfl⟩
  rw [← hz] at HT ⊢
  rw [← hsp] at HT HP
  clear hz hsp h1 h2 h3
  go_enter Try.func11, Try.ntmps11
  go_wp2_with fail
  (go_at_call 6; refine HP.out.mono ?_; rintro e w1 ⟨v1, rfl, own1, b1⟩; have R1 := Lib.hid own1.rd; have B1 := Lib.hid b1; have z1 := b1.size; clear own1 b1)
  go_wp2_with fail
  (go_at_call 17; refine (HT.out v1 _ R1.out).mono ?_; rintro e w2 ⟨rfl, b2⟩)
  go_wp2_with fail
  go_ret
  exact ⟨rfl, B1.out.trans (b2.mono z1)⟩

set_option maxRecDepth 100000 in
set_option maxHeartbeats 1600000 in
theorem specThere_any (s far : ByteArray) (a : Int) (w : World) (hs : s.size ≤ 2097152) (hf : far.size ≤ 2097152) (ha : -9223372036854775808 ≤ a ∧ a ≤ 9223372036854775807) :
    Calls Try.prog 10 #[.string s, .string far, .int .i64 a] w fun e w' => e = .returned (.int .i64 (backI (pairsL s.data.toList far.data.toList) a)) ∧ Below w.heap.size w w' := by
  have h1 := insL_ge (pairsL s.data.toList far.data.toList)
  have h2 := pairsL_ins s.data.toList far.data.toList
  have h3 := pairsL_outs s.data.toList far.data.toList
  rw [len_list] at h2 h3
  have HP := Lib.hid (specBoth_any s far w hs hf)
  have HT : Hid (∀ v w, RdSp w v (spansL (pairsL s.data.toList far.data.toList)) → Calls Try.prog 16 #[v, .int .i64 a] w fun e w' => e = .returned (.int .i64 (backI (pairsL s.data.toList far.data.toList) a)) ∧ Below w.heap.size w w') :=
    fun v w h => specBack_any v _ a w ha (by omega) (by omega) (by omega) h
  obtain ⟨z, hz⟩ : ∃ z, z = backI (pairsL s.data.toList far.data.toList) a := ⟨_, rfl⟩
  obtain ⟨sp, hsp⟩ : ∃ sp, sp = spansL (pairsL s.data.toList far.data.toList) := ⟨_, rfl⟩
  rw [← hz] at HT ⊢
  rw [← hsp] at HT HP
  clear hz hsp h1 h2 h3
  go_enter Try.func10, Try.ntmps10
  go_wp2_with fail
  (go_at_call 12; refine HP.out.mono ?_; rintro e w1 ⟨v1, rfl, own1, b1⟩; have R1 := Lib.hid own1.rd; have B1 := Lib.hid b1; have z1 := b1.size; clear own1 b1)
  go_wp2_with fail
  (go_at_call 16; refine (HT.out v1 _ R1.out).mono ?_; rintro e w2 ⟨rfl, b2⟩)
  go_wp2_with fail
  go_ret
  exact ⟨rfl, B1.out.trans (b2.mono z1)⟩

set_option maxRecDepth 100000 in
set_option maxHeartbeats 1600000 in
theorem lawThere_short (s far : ByteArray) (a : Int) (w : World) (hs : s.size ≤ 1048576) (hf : far.size ≤ 1048576) (ha : -9223372036854775808 ≤ a ∧ a ≤ 9223372036854775807) :
    Calls Try.prog 4 #[.string s, .string far, .int .i64 a] w fun e w' => e = .returned (.bool true) ∧ Below w.heap.size w w' := by
  obtain ⟨z, hz⟩ : ∃ z, z = backI (pairsL s.data.toList far.data.toList) a := ⟨_, rfl⟩
  have HS : Hid (∀ w, Calls Try.prog 10 #[.string s, .string far, .int .i64 a] w fun e w' => e = .returned (.int .i64 z) ∧ Below w.heap.size w w') := fun w => by rw [hz]; exact specThere_any s far a w (by omega) (by omega) ha
  have HI : Hid (∀ w, Calls Try.prog 11 #[.string s, .string far, .int .i64 a] w fun e w' => e = .returned (.int .i64 z) ∧ Below w.heap.size w w') := fun w => by rw [hz]; exact implThere_any s far a w (by omega) (by omega) ha
  have hs2 : (s.size : Int) ≤ 1048576 := by omega
  have hf2 : (far.size : Int) ≤ 1048576 := by omega
  clear hz
  go_enter Try.func4, Try.ntmps4
  go_wp2_with fail
  (go_at_call 10; refine (HS.out _).mono ?_; rintro e w1 ⟨rfl, b1⟩)
  go_wp2_with fail
  (go_at_call 11; refine (HI.out _).mono ?_; rintro e w2 ⟨rfl, b2⟩)
  go_wp2_with fail
  go_ret
  exact ⟨rfl, b1.trans (b2.mono b1.size)⟩

set_option maxRecDepth 100000 in
set_option maxHeartbeats 800000 in
theorem lawPosThere_any (s far : ByteArray) (a : Int) (w : World) (ha : -9223372036854775808 ≤ a ∧ a ≤ 9223372036854775807) :
    Calls Try.prog 4 #[.string s, .string far, .int .i64 a] w fun e w' => e = .returned (.bool true) ∧ Below w.heap.size w w' := by
  rcases Nat.lt_or_ge 1048576 s.size with h | h
  · go_enter Try.func4, Try.ntmps4
    go_wp2_with fail
    go_ret
    exact ⟨rfl, Below.refl _ _⟩
  · rcases Nat.lt_or_ge 1048576 far.size with h2 | h2
    · have h3 : (s.size : Int) ≤ 1048576 := by omega
      go_enter Try.func4, Try.ntmps4
      go_wp2_with fail
      go_ret
      exact ⟨rfl, Below.refl _ _⟩
    · exact lawThere_short s far a w h h2 ha

end Go.Proofs.Ytgjhfmlncibpmaa
