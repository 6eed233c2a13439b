/- Numbers of at most four digits: what l1Num of the specification reads. No condition. -/
import Derived.Test.YtglpijjkihpeeaaGreatDoorPlain
namespace Go.Proofs.YtglpijjkihpeeaaGreatDoor
open Go.RowKit

set_option maxRecDepth 100000 in
set_option maxHeartbeats 400000 in
theorem specNum_short (s : ByteArray) (w : World) (h : s.size = 0 ∨ 4 < s.size) :
    Calls Tryz.prog 197 #[.string s] w fun e w' => e = .returned (.int .i64 (-1)) ∧ w = w' := by
  rcases h with h | h
  · have h' : ((s.size : Int) == 0) = true := by simp [h]
    clear h
    go_enter Tryz.func197, Tryz.ntmps197
    go_wp2
    go_ret
    exact ⟨rfl, rfl⟩
  · have h' : ((s.size : Int) == 0) = false := by (have : s.size ≠ 0 := by omega); simpa using this
    have h4 : decide ((4 : Int) < (s.size : Int)) = true := by simp; omega
    go_enter Tryz.func197, Tryz.ntmps197
    go_wp2
    go_ret
    exact ⟨rfl, rfl⟩

set_option maxRecDepth 100000 in
set_option maxHeartbeats 400000 in
theorem specNum_some (s : ByteArray) (w : World) (h0 : 0 < s.size) (h4 : s.size ≤ 4) :
    Calls Tryz.prog 197 #[.string s] w fun e w' => e = .returned (.int .i64 (numL s.data.toList)) ∧ Below w.heap.size w w' := by
  have h' : ((s.size : Int) == 0) = false := by (have : s.size ≠ 0 := by omega); simpa using this
  have h5 : decide ((4 : Int) < (s.size : Int)) = false := by simp; omega
  go_enter Tryz.func197, Tryz.ntmps197
  go_wp2
  go_loop [3, 4] (fun n i => ∃ k : Nat, k ≤ s.size ∧ i = .int .i64 k ∧ n = .int .i64 (valL (s.data.toList.take k)) ∧ (∀ c ∈ s.data.toList.take k, isDig c)) (fun _ i => s.size - (intOf i).toNat)
  case atStart => exact ⟨0, Nat.zero_le _, rfl, rfl, by simp⟩
  case round =>
    obtain ⟨k, hk, rfl, rfl, hd⟩ := hrel
    have hv := valL_lt _ hd
    have hl : (s.data.toList.take k).length ≤ 4 := by simp; omega
    have hv2 : valL (s.data.toList.take k) < 10000 := Nat.lt_of_lt_of_le hv (Nat.pow_le_pow_right (by omega) hl)
    clear hv hl
    have HD := Lib.hid hd
    clear hd
    by_cases hlt : k < s.size
    · have hts := take_snoc s k hlt
      have hnum : ¬ isDig s[k] → numL s.data.toList = -1 := by
        intro hn
        unfold numL
        split
        · rfl
        · rw [if_neg]
          intro h; exact hn (h _ (mem_at s k hlt))
      have HT : Hid (s.data.toList.take (k + 1) = s.data.toList.take k ++ [s[k]]) := hts
      have HN : Hid (¬ isDig s[k] → numL s.data.toList = -1) := hnum
      clear hts hnum
      go_wp2
      · go_ret
        refine ⟨ret_int (HN.out ?_).symm, Below.refl _ _⟩
        unfold isDig; omega
      · go_round
        case rel =>
          have hdig : isDig s[k] := by unfold isDig; omega
          refine ⟨k + 1, by omega, by go_num, ?_, ?_⟩
          · rw [HT.out, valL_snoc]
            unfold isDig at hdig
            congr 1; omega
          · rw [HT.out]; intro c hc
            rcases List.mem_append.1 hc with hc | hc
            · exact HD.out c hc
            · simp at hc; subst hc; exact hdig
        case measure => simp [intOf]; omega
      · go_ret
        refine ⟨ret_int (HN.out ?_).symm, Below.refl _ _⟩
        unfold isDig; omega
    · have hk' : s.data.toList.take k = s.data.toList := List.take_of_length_le (by simp; omega)
      have HK := Lib.hid hk'
      clear hk'
      go_wp2_with (go_at_call 198; refine (specPlain_any _ _ (by omega)).mono ?_; rintro e w1 ⟨rfl, b1⟩)
      · have hne : (!Lib.decDigits (valL (s.data.toList.take k)) == s.toList) = true := by assumption
        go_ret
        rw [HK.out, Lib.toList_data] at hne
        refine ⟨ret_int ?_, by assumption⟩
        have hd := HD.out
        rw [HK.out] at hd
        unfold numL
        rw [if_neg (by rw [len_list]; omega), if_pos hd, if_neg (by simpa using hne)]
      · have hne : (!Lib.decDigits (valL (s.data.toList.take k)) == s.toList) = false := by assumption
        go_ret
        rw [HK.out, Lib.toList_data] at hne
        refine ⟨ret_int ?_, by assumption⟩
        have hd := HD.out
        rw [HK.out] at hd
        unfold numL
        rw [if_neg (by rw [len_list]; omega), if_pos hd, if_pos (by simpa using hne), HK.out]

theorem specNum_any (s : ByteArray) (w : World) :
    Calls Tryz.prog 197 #[.string s] w fun e w' => e = .returned (.int .i64 (numL s.data.toList)) ∧ Below w.heap.size w w' := by
  by_cases h : s.size = 0 ∨ 4 < s.size
  · refine (specNum_short s w h).mono ?_
    rintro e w' ⟨rfl, rfl⟩
    refine ⟨ret_int ?_, Below.refl _ _⟩
    unfold numL
    rw [if_pos (by simpa using h)]
  · exact specNum_some s w (by omega) (by omega)

end Go.Proofs.YtglpijjkihpeeaaGreatDoor
