/- The law that what is known of a stream only grows, and just by a segment that goes on from it: at every code. Condition: the code lies in memory. -/
import Derived.Test.YthcgmkpalmcgbaaDrawSegAdd
import Derived.Test.YthcgmkpalmcgbaaSegAdd
import Derived.Test.YthcgmkpalmcgbaaHaOk
import Derived.Test.YthcgmkpalmcgbaaHaStarts
import Derived.Deep.QuietTactic
import Derived.BigQuiet
namespace Go.Proofs.Ythcgmkpalmcgbaa
open Go.RowKit

theorem addS_stay {kn d : ByteArray} {sq : Int} (h : sq < 0 ∨ (kn.size : Int) < sq ∨ sq + d.size ≤ (kn.size : Int)) : addS kn sq d = kn := by
  by_cases h1 : 0 ≤ sq ∧ sq ≤ kn.size
  · obtain ⟨q, rfl⟩ : ∃ q : Nat, sq = q := ⟨sq.toNat, by omega⟩
    exact (addS_old kn d q (by omega)).symm
  · exact (addS_out kn d sq h1).symm

set_option maxRecDepth 100000 in
set_option maxHeartbeats 3200000 in
theorem lwSegAdd_any (ao : Option Addr) (n cap : Nat) (w : World) (h : BytesIn w ao n) (hn : n ≤ cap) :
    Calls Try.prog 5 #[.slice ao n cap] w fun e w' => e = .returned (.bool true) ∧ Below w.heap.size w w' := by
  have H := Lib.hid h
  clear h
  by_cases hn2 : 1048576 < n
  · go_enter Try.func5, Try.ntmps5
    go_wp2_with fail
    go_ret
    exact ⟨rfl, Below.refl _ _⟩
  · go_enter Try.func5, Try.ntmps5
    go_wp2_with fail
    (go_at_call 18; refine (drawSegAdd_any ao n cap _ H.out hn).mono ?_; rintro e w1 ⟨kn, sa, sp, da, dp, sq, ak, d, rfl, hk, hD, b1⟩)
    obtain ⟨hq1, hq2, hd⟩ := hD
    have A1 : Hid (At7 (w1.alloc (.cells #[.int .i64 sa, .int .i64 sp, .int .i64 da, .int .i64 dp, .int .i64 sq, .int .i64 ak, .string d] 29)) w1.heap.size (.int .i64 sa) (.int .i64 sp) (.int .i64 da) (.int .i64 dp) (.int .i64 sq) (.int .i64 ak) (.string d)) := at7_new w1 _ _ _ _ _ _ _ _
    have B1 : Hid (Below w.heap.size w (w1.alloc (.cells #[.int .i64 sa, .int .i64 sp, .int .i64 da, .int .i64 dp, .int .i64 sq, .int .i64 ak, .string d] 29))) := b1.alloc b1.size _
    clear b1
    by_cases hB : 0 ≤ sq ∧ sq ≤ (kn.size : Int) ∧ (kn.size : Int) < sq + d.size
    · obtain ⟨q, rfl⟩ : ∃ q : Nat, sq = q := ⟨sq.toNat, by omega⟩
      obtain ⟨_, hb1, hb2⟩ := hB
      have hq : q ≤ kn.size := by omega
      obtain ⟨m, hm⟩ : ∃ m, m = addS kn q d := ⟨_, rfl⟩
      have hm2 : m = kn ++ d.extract (kn.size - q) d.size := by rw [hm]; exact (addS_in kn d q hq).symm
      have hml : m.data.toList = kn.data.toList ++ (d.extract (kn.size - q) d.size).data.toList := by rw [hm2]; simp
      have hms : m.size = q + d.size := by
        rw [← len_list, hml, List.length_append, len_list, len_list, ByteArray.size_extract]; omega
      have hxe : m.extract kn.size m.size = d.extract (kn.size - q) d.size := by
        apply ByteArray.ext
        apply Array.ext'
        rw [ext_list, hml, List.take_of_length_le (by rw [← hml, len_list]; exact Nat.le_refl _), ← len_list kn, List.drop_left']
        rfl
      have HI : Hid (∀ w, Calls Try.prog 19 #[.string kn, .agg #[.int .i64 sa, .int .i64 sp, .int .i64 da, .int .i64 dp, .int .i64 (q : Int), .int .i64 ak, .string d]] w fun e w' => e = .returned (.string m) ∧ Below w.heap.size w w') := fun w => by rw [hm]; exact implAdd_any kn sa sp da dp q ak d w (by omega) (by omega)
      have HM : Hid (∀ w, Calls Try.prog 20 #[.string kn, .agg #[.int .i64 sa, .int .i64 sp, .int .i64 da, .int .i64 dp, .int .i64 (q : Int), .int .i64 ak, .string d]] w fun e w' => e = .returned (.string m) ∧ Below w.heap.size w w') := fun w => by rw [hm]; exact specAdd_any kn sa sp da dp q ak d w (by omega) (by omega)
      have HI2 : Hid (∀ w, Calls Try.prog 19 #[.string m, .agg #[.int .i64 sa, .int .i64 sp, .int .i64 da, .int .i64 dp, .int .i64 (q : Int), .int .i64 ak, .string d]] w fun e w' => e = .returned (.string m) ∧ Below w.heap.size w w') := fun w => by have := implAdd_any m sa sp da dp q ak d w (by omega) (by omega); rwa [addS_stay (by omega)] at this
      have HH : Hid (∀ w, Calls Try.prog 21 #[.string m, .string kn] w fun e w' => e = .returned (.bool true) ∧ w = w') := fun w => haStarts_pre m kn _ w hml
      have HH2 : Hid (∀ w, Calls Try.prog 21 #[.string (m.extract kn.size m.size), .string (d.extract (kn.size - q) d.size)] w fun e w' => e = .returned (.bool true) ∧ w' = w) := fun w => (haStarts_pre _ _ [] w (by rw [hxe]; simp)).mono (fun e w' h => ⟨h.1, h.2.symm⟩)
      have hw1 : IntKind.i64.wrap ((q : Int) + (d.size : Int)) = (q : Int) + (d.size : Int) := IntWalk.i64_in _ (by omega)
      have hw2 : IntKind.i64.wrap ((kn.size : Int) - (q : Int)) = ((kn.size - q : Nat) : Int) := by rw [IntWalk.i64_in _ (by omega)]; omega
      have t1 : ¬ (q : Int) < 0 := by omega
      have t2 : ¬ (kn.size : Int) < (q : Int) := by omega
      have t3 : ¬ (q : Int) + (d.size : Int) ≤ (kn.size : Int) := by omega
      have t4 : ((m.size : Int) == (q : Int) + (d.size : Int)) = true := by rw [hms]; simp
      have t5 : (q : Int) ≤ (m.size : Int) := by omega
      have t6 : (kn.size : Int) ≤ (m.size : Int) := by omega
      have t7 : ((kn.size - q : Nat) : Int) ≤ (d.size : Int) := by omega
      have t8 : (m.extract q m.size) ≠ ⟨#[]⟩ := fun e => by
        have := congrArg ByteArray.size e
        rw [ByteArray.size_extract, Nat.min_self] at this
        have h0 : (⟨#[]⟩ : ByteArray).size = 0 := rfl
        omega
      have t9 : (0 : Int) ≤ ((kn.size - q : Nat) : Int) := by omega
      have u3 : (m.extract q m.size).toList ≠ [] := fun e => t8 (by
        apply ByteArray.ext; apply Array.ext'
        have h0 : (m.extract q m.size).data.toList = [] := by rw [← ByteArray.toList_eq]; exact e
        rw [h0])
      have u4 : ((m.extract q m.size).toList == []) = false := by rw [beq_eq_false_iff_ne]; exact u3
      clear hm hm2 hml hxe hms hb1 hb2 hq
      obtain ⟨uz, ⟨c0, c1, c2, c3, c4, c5, c6⟩, _⟩ := A1.out
      go_wp2_with fail
      (go_at_call 19; refine (HI.out _).mono ?_; rintro e w2 ⟨rfl, b2⟩)
      have A2 := Lib.hid (A1.out.below b2)
      have B2 := Lib.hid (B1.out.trans (b2.mono B1.out.size))
      clear b2 A1 B1 uz c0 c1 c2 c3 c4 c5 c6
      obtain ⟨uz, ⟨c0, c1, c2, c3, c4, c5, c6⟩, _⟩ := A2.out
      go_wp2_with fail
      (go_at_call 20; refine (HM.out _).mono ?_; rintro e w3 ⟨rfl, b3⟩)
      have A3 := Lib.hid (A2.out.below b3)
      have B3 := Lib.hid (B2.out.trans (b3.mono B2.out.size))
      clear b3 A2 B2 uz c0 c1 c2 c3 c4 c5 c6
      obtain ⟨uz, ⟨c0, c1, c2, c3, c4, c5, c6⟩, _⟩ := A3.out
      go_wp2_with fail
      (go_at_call 21; refine (HH.out _).mono ?_; rintro e w4 ⟨rfl, rfl⟩)
      go_wp2_with fail
      (go_at_call 19; refine (HI2.out _).mono ?_; rintro e w5 ⟨rfl, b5⟩)
      have A5 := Lib.hid (A3.out.below b5)
      have B5 := Lib.hid (B3.out.trans (b5.mono B3.out.size))
      clear b5 A3 B3 uz c0 c1 c2 c3 c4 c5 c6
      obtain ⟨uz, ⟨c0, c1, c2, c3, c4, c5, c6⟩, _⟩ := A5.out
      go_wp2_with fail
      go_quiet ((go_at_call 21; exact Calls.quiet_of_same (HH2.out _)))
      go_wp2_with fail
      go_ret
      exact ⟨rfl, B5.out.trans ⟨rfl, rfl, rfl, Nat.le_refl _, fun _ _ => rfl⟩⟩
    · have HS : Hid (addS kn sq d = kn) := addS_stay (by omega)
      have HI : Hid (∀ w, Calls Try.prog 19 #[.string kn, .agg #[.int .i64 sa, .int .i64 sp, .int .i64 da, .int .i64 dp, .int .i64 sq, .int .i64 ak, .string d]] w fun e w' => e = .returned (.string kn) ∧ Below w.heap.size w w') := fun w => by have := implAdd_any kn sa sp da dp sq ak d w (by omega) (by omega); rwa [HS.out] at this
      have HM : Hid (∀ w, Calls Try.prog 20 #[.string kn, .agg #[.int .i64 sa, .int .i64 sp, .int .i64 da, .int .i64 dp, .int .i64 sq, .int .i64 ak, .string d]] w fun e w' => e = .returned (.string kn) ∧ Below w.heap.size w w') := fun w => by have := specAdd_any kn sa sp da dp sq ak d w (by omega) (by omega); rwa [HS.out] at this
      have HH : Hid (∀ w, Calls Try.prog 21 #[.string kn, .string kn] w fun e w' => e = .returned (.bool true) ∧ w = w') := fun w => haStarts_pre kn kn [] w (by simp)
      have hw1 : IntKind.i64.wrap (sq + (d.size : Int)) = sq + (d.size : Int) := IntWalk.i64_in _ (by omega)
      have h3 : sq < 0 ∨ (¬ sq < 0 ∧ (kn.size : Int) < sq) ∨ (¬ sq < 0 ∧ ¬ (kn.size : Int) < sq ∧ sq + (d.size : Int) ≤ (kn.size : Int)) := by omega
      rcases h3 with h3 | ⟨h3, h4⟩ | ⟨h3, h4, h5⟩
      all_goals
        obtain ⟨uz, ⟨c0, c1, c2, c3, c4, c5, c6⟩, _⟩ := A1.out
        go_wp2_with fail
        (go_at_call 19; refine (HI.out _).mono ?_; rintro e w2 ⟨rfl, b2⟩)
        have A2 := Lib.hid (A1.out.below b2)
        have B2 := Lib.hid (B1.out.trans (b2.mono B1.out.size))
        clear b2 A1 B1 uz c0 c1 c2 c3 c4 c5 c6
        obtain ⟨uz, ⟨c0, c1, c2, c3, c4, c5, c6⟩, _⟩ := A2.out
        go_wp2_with fail
        (go_at_call 20; refine (HM.out _).mono ?_; rintro e w3 ⟨rfl, b3⟩)
        have A3 := Lib.hid (A2.out.below b3)
        have B3 := Lib.hid (B2.out.trans (b3.mono B2.out.size))
        clear b3 A2 B2 uz c0 c1 c2 c3 c4 c5 c6
        obtain ⟨uz, ⟨c0, c1, c2, c3, c4, c5, c6⟩, _⟩ := A3.out
        go_wp2_with fail
        (go_at_call 21; refine (HH.out _).mono ?_; rintro e w4 ⟨rfl, rfl⟩)
        go_wp2_with fail
        (go_at_call 19; refine (HI.out _).mono ?_; rintro e w5 ⟨rfl, b5⟩)
        have A5 := Lib.hid (A3.out.below b5)
        have B5 := Lib.hid (B3.out.trans (b5.mono B3.out.size))
        clear b5 A3 B3 uz c0 c1 c2 c3 c4 c5 c6
        obtain ⟨uz, ⟨c0, c1, c2, c3, c4, c5, c6⟩, _⟩ := A5.out
        go_wp2_with fail
        (go_at_call 17; refine (haOk_any _).mono ?_; rintro e w6 ⟨rfl, rfl⟩)
        go_wp2_with fail
        go_ret
        exact ⟨rfl, B5.out⟩

end Go.Proofs.Ythcgmkpalmcgbaa
