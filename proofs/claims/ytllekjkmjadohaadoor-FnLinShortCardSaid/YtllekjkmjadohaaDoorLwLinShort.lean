/- The law that a line that names an end is no longer than may be: at every code. Conditions: the code lies in memory; the variables that are read hold what they are laid with. -/
import Derived.Test.YtllekjkmjadohaaDoorRdSays
import Derived.Test.YtllekjkmjadohaaDoorDrawTxt
import Derived.Test.YtllekjkmjadohaaDoorSLin
import Derived.Test.YtllekjkmjadohaaDoorHaOk
namespace Go.Proofs.YtllekjkmjadohaaDoor
open Go.RowKit

theorem insB_of_not50 {a p : Int} (h : insB a p = true) : (a == 50) = false := by
  simp [insB, inB] at h; simp; omega

set_option maxRecDepth 100000 in
set_option maxHeartbeats 3200000 in
theorem lwLinShort_any (ao : Option Addr) (n cap : Nat) (w : World) (h : BytesIn w ao n) (hn : n ≤ cap) (hv : VarsOk w) :
    Calls Tryd.prog 6 #[.slice ao n cap] w fun e w' => e = .returned (.bool true) ∧ Below w.heap.size w w' := by
  have H := Lib.hid h
  have HV := Lib.hid hv
  clear h hv
  by_cases hn2 : 1048576 < n
  · go_enter Tryd.func6, Tryd.ntmps6
    go_wp2_with fail
    go_ret
    exact ⟨rfl, Below.refl _ _⟩
  · go_enter Tryd.func6, Tryd.ntmps6
    go_wp2_with fail
    (go_at_call 18; refine (drawLinPort_any ao n cap _ H.out hn).mono ?_; rintro e w1 ⟨a, p, rfl, b1⟩)
    have d0 : (w1.alloc (.cells #[.int .i64 a, .int .i64 p] 24)).cell? ⟨w1.heap.size, 0, none⟩ = some (.int .i64 a) := by simp
    have d1 : (w1.alloc (.cells #[.int .i64 a, .int .i64 p] 24)).cell? ⟨w1.heap.size, 1, none⟩ = some (.int .i64 p) := by simp
    have z1 : w1.heap.size < (w1.alloc (.cells #[.int .i64 a, .int .i64 p] 24)).heap.size := by simp
    have B1 := Lib.hid (b1.alloc b1.size (.cells #[.int .i64 a, .int .i64 p] 24))
    have V1 := Lib.hid (HV.out.below B1.out)
    clear b1
    obtain ⟨s, hs⟩ : ∃ s : ByteArray, s = ⟨(lpL a p).toArray⟩ := ⟨_, rfl⟩
    have hsl : s.data.toList = lpL a p := by rw [hs]
    have hsz : s.size ≤ 60 := by rw [← len_list, hsl]; have := lpL_len a p; omega
    have HP : Hid (∀ w, TabOk w → Calls Tryd.prog 21 #[.agg #[.int .i64 a, .int .i64 p]] w fun e w' => e = .returned (.string s) ∧ Below w.heap.size w w') := fun w ht => by rw [hs]; exact implLinPort_any a p w ht
    have HQ : Hid (∀ w, Calls Tryd.prog 22 #[.agg #[.int .i64 a, .int .i64 p]] w fun e w' => e = .returned (.string s) ∧ Below w.heap.size w w') := fun w => by rw [hs]; exact specLinPort_any a p w
    clear hs
    go_wp2_with fail
    (go_at_call 21; refine (HP.out _ V1.out.tab).mono ?_; rintro e w2 ⟨rfl, b2⟩)
    have c0 := (b2.cell (p := ⟨w1.heap.size, 0, none⟩) z1).trans d0
    have c1 := (b2.cell (p := ⟨w1.heap.size, 1, none⟩) z1).trans d1
    have z2 := Nat.lt_of_lt_of_le z1 b2.size
    have B2 := Lib.hid (B1.out.trans (b2.mono B1.out.size))
    clear b2 d0 d1 z1
    go_wp2_with fail
    (go_at_call 22; refine (HQ.out _).mono ?_; rintro e w3 ⟨rfl, b3⟩)
    have d0 := (b3.cell (p := ⟨w1.heap.size, 0, none⟩) z2).trans c0
    have d1 := (b3.cell (p := ⟨w1.heap.size, 1, none⟩) z2).trans c1
    have z3 := Nat.lt_of_lt_of_le z2 b3.size
    have B3 := Lib.hid (B2.out.trans (b3.mono B2.out.size))
    clear b3 c0 c1 z2
    go_wp2_with fail
    (go_at_call 15; refine (specOk_any _ _ _).mono ?_; rintro e w4 ⟨rfl, b4⟩)
    have c0 := (b4.cell (p := ⟨w1.heap.size, 0, none⟩) z3).trans d0
    have c1 := (b4.cell (p := ⟨w1.heap.size, 1, none⟩) z3).trans d1
    have z4 := Nat.lt_of_lt_of_le z3 b4.size
    have B4 := Lib.hid (B3.out.trans (b4.mono B3.out.size))
    have V4 := Lib.hid (HV.out.below B4.out)
    clear b4 d0 d1 z3
    by_cases he : endB a p = true
    · have HY : Hid (∀ w, VarsOk w → Calls Tryd.prog 19 #[.string s] w fun e w' => e = .returned (saysV (if insB a p = true then some (a, p) else none)) ∧ Below w.heap.size w w') := fun w hv => by
        have := implSays_any s w (by omega) hv
        rw [hsl, says_lpL he] at this; exact this
      have HX : Hid (∀ w, VarsOk w → Calls Tryd.prog 28 #[.string s] w fun e w' => e = .returned (boxV (if a = 50 then some p else none)) ∧ Below w.heap.size w w') := fun w hv => by
        have := implBox_any s w (by omega) hv
        rw [hsl, box_lpL he] at this; exact this
      have HL : Hid (∀ w, Calls Tryd.prog 23 #[.string s] w fun e w' => e = .returned (.bool true) ∧ w = w') := fun w => by
        have := implLin_all s w
        rw [hsl, lpL_lin he] at this; exact this
      have hl16 : (s.size : Int) ≤ 16 := by
        have := lin_len (lpL_lin he)
        rw [← hsl, len_list] at this; omega
      clear hsl
      by_cases hi : insB a p = true
      · have h50 := insB_of_not50 hi
        have ha : ¬ a = 50 := by simpa using h50
        have HY1 : Hid (∀ w, VarsOk w → Calls Tryd.prog 19 #[.string s] w fun e w' => e = .returned (.tuple #[.agg #[.int .i64 a, .int .i64 p], .bool true]) ∧ Below w.heap.size w w') := fun w hv => by have := HY.out w hv; rw [if_pos hi] at this; exact this
        have HX1 : Hid (∀ w, VarsOk w → Calls Tryd.prog 28 #[.string s] w fun e w' => e = .returned (.tuple #[.int .i64 0, .bool false]) ∧ Below w.heap.size w w') := fun w hv => by have := HX.out w hv; rw [if_neg ha] at this; exact this
        clear ha
        go_wp2_with fail
        (go_at_call 19; refine (HY1.out _ V4.out).mono ?_; rintro e w5 ⟨rfl, b5⟩)
        have d0 := (b5.cell (p := ⟨w1.heap.size, 0, none⟩) z4).trans c0
        have d1 := (b5.cell (p := ⟨w1.heap.size, 1, none⟩) z4).trans c1
        have z5 := Nat.lt_of_lt_of_le z4 b5.size
        have e0 : (w5.alloc (.cells #[.int .i64 a, .int .i64 p] 24)).cell? ⟨w1.heap.size, 0, none⟩ = some (.int .i64 a) := by rw [cell_alloc_lt z5]; exact d0
        have e1 : (w5.alloc (.cells #[.int .i64 a, .int .i64 p] 24)).cell? ⟨w1.heap.size, 1, none⟩ = some (.int .i64 p) := by rw [cell_alloc_lt z5]; exact d1
        have B5 := Lib.hid (B4.out.trans (b5.mono B4.out.size))
        have z6 : w1.heap.size < (w5.alloc (.cells #[.int .i64 a, .int .i64 p] 24)).heap.size := by simp; omega
        have B6 := Lib.hid (B5.out.alloc B5.out.size (.cells #[.int .i64 a, .int .i64 p] 24))
        have V6 := Lib.hid (HV.out.below B6.out)
        clear b5 c0 c1 z4 d0 d1
        go_wp2_with fail
        (go_at_call 28; refine (HX1.out _ V6.out).mono ?_; rintro e w7 ⟨rfl, b7⟩)
        have d0 := (b7.cell (p := ⟨w1.heap.size, 0, none⟩) z6).trans e0
        have d1 := (b7.cell (p := ⟨w1.heap.size, 1, none⟩) z6).trans e1
        have B7 := Lib.hid (B6.out.trans (b7.mono B6.out.size))
        clear b7 e0 e1 z6
        go_wp2_with fail
        (go_at_call 23; refine (HL.out _).mono ?_; rintro e w8 ⟨rfl, rfl⟩)
        go_wp2_with fail
        (go_at_call 26; refine (specInside_any _ _ _).mono ?_; rintro e w8 ⟨rfl, b8⟩)
        go_wp2_with fail
        go_ret
        exact ⟨rfl, B7.out.trans (b8.mono B7.out.size)⟩
      · simp only [Bool.not_eq_true] at hi
        have HY1 : Hid (∀ w, VarsOk w → Calls Tryd.prog 19 #[.string s] w fun e w' => e = .returned (.tuple #[.agg #[.int .i64 0, .int .i64 0], .bool false]) ∧ Below w.heap.size w w') := fun w hv => by have := HY.out w hv; rw [if_neg (by simp [hi])] at this; exact this
        obtain ⟨b, q, hb50, HX1⟩ : ∃ (b : Bool) (q : Int), (a == 50) = b ∧ Hid (∀ w, VarsOk w → Calls Tryd.prog 28 #[.string s] w fun e w' => e = .returned (.tuple #[.int .i64 q, .bool b]) ∧ Below w.heap.size w w') := by
          by_cases ha : a = 50
          · exact ⟨true, p, by simp [ha], fun w hv => by have := HX.out w hv; rw [if_pos ha] at this; exact this⟩
          · exact ⟨false, 0, by simp [ha], fun w hv => by have := HX.out w hv; rw [if_neg ha] at this; exact this⟩
        go_wp2_with fail
        (go_at_call 19; refine (HY1.out _ V4.out).mono ?_; rintro e w5 ⟨rfl, b5⟩)
        have d0 := (b5.cell (p := ⟨w1.heap.size, 0, none⟩) z4).trans c0
        have d1 := (b5.cell (p := ⟨w1.heap.size, 1, none⟩) z4).trans c1
        have z5 := Nat.lt_of_lt_of_le z4 b5.size
        have e0 : (w5.alloc (.cells #[.int .i64 0, .int .i64 0] 24)).cell? ⟨w1.heap.size, 0, none⟩ = some (.int .i64 a) := by rw [cell_alloc_lt z5]; exact d0
        have e1 : (w5.alloc (.cells #[.int .i64 0, .int .i64 0] 24)).cell? ⟨w1.heap.size, 1, none⟩ = some (.int .i64 p) := by rw [cell_alloc_lt z5]; exact d1
        have B5 := Lib.hid (B4.out.trans (b5.mono B4.out.size))
        have z6 : w1.heap.size < (w5.alloc (.cells #[.int .i64 0, .int .i64 0] 24)).heap.size := by simp; omega
        have B6 := Lib.hid (B5.out.alloc B5.out.size (.cells #[.int .i64 0, .int .i64 0] 24))
        have V6 := Lib.hid (HV.out.below B6.out)
        clear b5 c0 c1 z4 d0 d1
        go_wp2_with fail
        (go_at_call 28; refine (HX1.out _ V6.out).mono ?_; rintro e w7 ⟨rfl, b7⟩)
        have d0 := (b7.cell (p := ⟨w1.heap.size, 0, none⟩) z6).trans e0
        have d1 := (b7.cell (p := ⟨w1.heap.size, 1, none⟩) z6).trans e1
        have B7 := Lib.hid (B6.out.trans (b7.mono B6.out.size))
        clear b7 e0 e1 z6
        cases b <;>
        · go_wp2_with fail
          (go_at_call 23; refine (HL.out _).mono ?_; rintro e w8 ⟨rfl, rfl⟩)
          go_wp2_with fail
          (go_at_call 26; refine (specInside_any _ _ _).mono ?_; rintro e w8 ⟨rfl, b8⟩; have f0 := (b8.cell (World.block_lt_of_cell? _ _ d0)).trans d0; have f1 := (b8.cell (World.block_lt_of_cell? _ _ d1)).trans d1)
          go_wp2_with fail
          go_ret
          exact ⟨rfl, B7.out.trans (b8.mono B7.out.size)⟩
    · simp only [Bool.not_eq_true] at he
      have hse : s.toList = [] := by rw [Lib.toList_data, hsl, lpL_no he]
      clear hsl
      go_wp2_with fail
      (go_at_call 16; refine (haOk_any _).mono ?_; rintro e w6 ⟨rfl, rfl⟩)
      go_wp2_with fail
      go_ret
      exact ⟨rfl, B4.out⟩

end Go.Proofs.YtllekjkmjadohaaDoor
