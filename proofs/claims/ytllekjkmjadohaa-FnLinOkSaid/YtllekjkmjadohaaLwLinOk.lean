/- The law that a part of a line is a line: at every code. Condition: the code lies in memory. -/
import Derived.Test.YtllekjkmjadohaaDrawLin
import Derived.Test.YtllekjkmjadohaaHaOk
import Derived.Test.YtllekjkmjadohaaSLine
import Derived.Test.YtllekjkmjadohaaLinesP
namespace Go.Proofs.Ytllekjkmjadohaa
open Go.RowKit

theorem lin_ext {s : ByteArray} (h : linB s.data.toList = true) (k : Nat) (w : World) :
    Calls Try.prog 24 #[.string (s.extract 0 k)] w fun e w' => e = .returned (.bool true) ∧ w = w' := by
  have := implLin_all (s.extract 0 k) w
  have e : (s.extract 0 k).data.toList = s.data.toList.take k := by rw [ext_list]; simp
  rw [e, lin_take h k] at this
  exact this

set_option maxRecDepth 100000 in
set_option maxHeartbeats 3200000 in
theorem lwLinOk_any (ao : Option Addr) (n cap : Nat) (w : World) (h : BytesIn w ao n) (hn : n ≤ cap) :
    Calls Try.prog 7 #[.slice ao n cap] w fun e w' => e = .returned (.bool true) ∧ Below w.heap.size w w' := by
  have H := Lib.hid h
  clear h
  by_cases hn2 : 1048576 < n
  · go_enter Try.func7, Try.ntmps7
    go_wp2_with fail
    go_ret
    exact ⟨rfl, Below.refl _ _⟩
  · go_enter Try.func7, Try.ntmps7
    go_wp2_with fail
    (go_at_call 25; refine (drawLinOk_any ao n cap _ H.out hn).mono ?_; rintro e w1 ⟨s, rfl, hs, b1⟩)
    have B1 := Lib.hid b1
    clear b1
    have HJ : Hid (∀ w, Calls Try.prog 24 #[.string (s ++ ⟨#[59]⟩)] w fun e w' => e = .returned (.bool false) ∧ w = w') := fun w => by
      have := implLin_all (s ++ ⟨#[59]⟩) w
      have e : (s ++ (⟨#[59]⟩ : ByteArray)).data.toList = s.data.toList ++ [59] := by simp
      rw [e, lin_semi] at this
      exact this
    obtain ⟨b, hb⟩ : ∃ b, b = linB s.data.toList := ⟨_, rfl⟩
    have HI : Hid (∀ w, Calls Try.prog 24 #[.string s] w fun e w' => e = .returned (.bool b) ∧ w = w') := fun w => by rw [hb]; exact implLin_all s w
    have HS : Hid (∀ w, Calls Try.prog 26 #[.string s] w fun e w' => e = .returned (.bool b) ∧ w = w') := fun w => by rw [hb]; exact specLin_any s w (by omega)
    have HB := Lib.hid hb
    have n1 : ¬ 9223372036854775807 < s.size + 1 := by omega
    clear hb
    go_wp2_with fail
    (go_at_call 24; refine (HI.out _).mono ?_; rintro e w2 ⟨rfl, rfl⟩)
    go_wp2_with fail
    (go_at_call 26; refine (HS.out _).mono ?_; rintro e w2 ⟨rfl, rfl⟩)
    cases b
    · go_wp2_with fail
      (go_at_call 24; refine (HJ.out _).mono ?_; rintro e w2 ⟨rfl, rfl⟩)
      go_wp2_with fail
      (go_at_call 16; refine (haOk_any _).mono ?_; rintro e w2 ⟨rfl, rfl⟩)
      go_wp2_with fail
      go_ret
      exact ⟨rfl, B1.out⟩
    · have HL : Hid (∀ k, ∀ w, Calls Try.prog 24 #[.string (s.extract 0 k)] w fun e w' => e = .returned (.bool true) ∧ w = w') := fun k w => lin_ext HB.out.symm k w
      have HN : Hid (∀ k (h : k < s.size), (((s[k]).toNat : Int) == 59) = false) := fun k h => by
        have h1 := lin_noSemi HB.out.symm _ (mem_at s k h)
        simp
        intro e
        apply h1
        apply UInt8.toNat_inj.1
        have : (59 : UInt8).toNat = 59 := rfl
        omega
      have hl := lin_len HB.out.symm
      rw [len_list] at hl
      have hli : (s.size : Int) ≤ 16 := by omega
      go_wp2_with fail
      (go_at_call 24; refine (HJ.out _).mono ?_; rintro e w2 ⟨rfl, rfl⟩)
      go_wp2_with fail
      go_loop [5] (fun i => ∃ k : Nat, k ≤ s.size ∧ i = .int .i64 k) (fun i => s.size - (intOf i).toNat)
      case atStart => exact ⟨0, Nat.zero_le _, rfl⟩
      case round =>
        obtain ⟨k, hk, rfl⟩ := hrel
        by_cases hlt : k < s.size
        · have hlti : (k : Int) < (s.size : Int) := by omega
          have hne := HN.out k hlt
          go_wp2_with fail
          (go_at_call 24; refine (HL.out k _).mono ?_; rintro e w2 ⟨rfl, rfl⟩)
          go_wp2_with fail
          go_round
          case rel => exact ⟨k + 1, by omega, by go_num⟩
          case measure => simp [intOf]; omega
        · have hlti : ¬ (k : Int) < (s.size : Int) := by omega
          go_wp2_with fail
          go_ret
          exact ⟨rfl, B1.out⟩

end Go.Proofs.Ytllekjkmjadohaa
