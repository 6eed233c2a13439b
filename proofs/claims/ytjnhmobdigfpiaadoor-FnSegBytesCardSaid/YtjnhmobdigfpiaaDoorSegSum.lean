/- SegSum of the specification and of the program, at all bytes that lie from a block's beginning on. Condition: at most 2^22 bytes. -/
import Derived.Test.YtjnhmobdigfpiaaDoorBytes
import Derived.Test.YtjnhmobdigfpiaaDoorSegs
import Derived.IntWalk
namespace Go.Proofs.YtjnhmobdigfpiaaDoor
open Go.RowKit

theorem sum_int (m : Nat) (c : UInt8) : ((m : Int) * 257 + (c.toNat : Int)) % 65521 = ((sumStp m c : Nat) : Int) := by unfold sumStp; omega
theorem sum_take {l : List UInt8} {k : Nat} (h : k < l.length) : sumL (l.take (k + 1)) = sumStp (sumL (l.take k)) l[k] := by
  rw [List.take_succ_eq_append_getElem h, sumL_snoc]

set_option maxRecDepth 100000 in
set_option maxHeartbeats 800000 in
theorem specSum_any (v : Value) (l : List UInt8) (w : World) (hn : l.length ≤ 4194304) (h : RdB w v l) :
    Calls Tryd.prog 13 #[v] w fun e w' => e = .returned (.int .i64 (sumL l)) ∧ w = w' := by
  obtain ⟨a, cap, rfl, hcap, hr⟩ := h
  have HR := Lib.hid hr
  clear hr
  go_enter Tryd.func13, Tryd.ntmps13
  go_wp2
  go_loop [3, 4] (fun n i => ∃ k : Nat, k ≤ l.length ∧ i = .int .i64 k ∧ n = .int .i64 (sumL (l.take k))) (fun _ i => l.length - (intOf i).toNat)
  case atStart => exact ⟨0, Nat.zero_le _, rfl, rfl⟩
  case round =>
    obtain ⟨k, hk, rfl, rfl⟩ := hrel
    have hm := sumL_lt (l.take k)
    by_cases hlt : k < l.length
    · obtain ⟨g, rfl, hrow⟩ := HR.out (by omega)
      have c1 := (hrow k (by rw [byV_len]; exact hlt)).1
      rw [byV_at] at c1
      obtain ⟨m, hme⟩ : ∃ m, m = sumL (l.take k) := ⟨_, rfl⟩
      obtain ⟨c, hce⟩ : ∃ c, c = l[k] := ⟨_, rfl⟩
      have HN : Hid (sumL (l.take (k + 1)) = sumStp m c) := by rw [hme, hce]; exact sum_take hlt
      rw [← hme] at hm ⊢
      rw [← hce] at c1
      have hc := c.toNat_lt
      have hj2 : (k : Int) ≤ (cap : Int) := by omega
      clear hrow hme hce
      go_wp2_with fail
      go_round
      case rel => exact ⟨k + 1, by omega, by go_num, by rw [HN.out, ← sum_int]⟩
      case measure => simp [intOf]; omega
    · have hke : k = l.length := by omega
      have HE : Hid (l.take k = l) := List.take_of_length_le (by omega)
      clear hke
      go_wp2
      go_ret
      exact ⟨by rw [HE.out]; rfl, rfl⟩

set_option maxRecDepth 100000 in
set_option maxHeartbeats 800000 in
theorem implSum_any (v : Value) (l : List UInt8) (w : World) (hn : l.length ≤ 4194304) (h : RdB w v l) :
    Calls Tryd.prog 12 #[v] w fun e w' => e = .returned (.int .i64 (sumL l)) ∧ w = w' := by
  obtain ⟨a, cap, rfl, hcap, hr⟩ := h
  have HR := Lib.hid hr
  clear hr
  go_enter Tryd.func12, Tryd.ntmps12
  go_wp2
  go_loop [3, 8] (fun n i => ∃ k : Nat, k ≤ l.length ∧ i = .int .i64 k ∧ n = .int .i64 (sumL (l.take k))) (fun _ i => l.length - (intOf i).toNat)
  case atStart => exact ⟨0, Nat.zero_le _, rfl, rfl⟩
  case round =>
    obtain ⟨k, hk, rfl, rfl⟩ := hrel
    have hm := sumL_lt (l.take k)
    by_cases hlt : k < l.length
    · obtain ⟨g, rfl, hrow⟩ := HR.out (by omega)
      have c1 := (hrow k (by rw [byV_len]; exact hlt)).1
      rw [byV_at] at c1
      obtain ⟨m, hme⟩ : ∃ m, m = sumL (l.take k) := ⟨_, rfl⟩
      obtain ⟨c, hce⟩ : ∃ c, c = l[k] := ⟨_, rfl⟩
      have HN : Hid (sumL (l.take (k + 1)) = sumStp m c) := by rw [hme, hce]; exact sum_take hlt
      rw [← hme] at hm ⊢
      rw [← hce] at c1
      have hc := c.toNat_lt
      have hj2 : (k : Int) ≤ (cap : Int) := by omega
      clear hrow hme hce
      go_wp2_with fail
      go_round
      case rel => exact ⟨k + 1, by omega, by go_num, by rw [HN.out, ← sum_int]⟩
      case measure => simp [intOf]; omega
    · have hke : k = l.length := by omega
      have HE : Hid (l.take k = l) := List.take_of_length_le (by omega)
      clear hke
      go_wp2
      go_ret
      exact ⟨by rw [HE.out]; rfl, rfl⟩

end Go.Proofs.YtjnhmobdigfpiaaDoor
