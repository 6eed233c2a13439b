/- Decimals: l1Plain of the specification writes a number's decimal digits. Condition: the number is at most 10^18. -/
import Derived.Test.YtgfkiljkpkfapaaGreatDoorByte
import Derived.LoopTactic
import Derived.Lib.Hide
namespace Go.Proofs.YtgfkiljkpkfapaaGreatDoor
open Go.RowKit

set_option maxRecDepth 100000 in
set_option maxHeartbeats 400000 in
theorem specPlain_any (n : Nat) (w : World) (hn : n ≤ 1000000000000000000) :
    Calls Tryz.prog 174 #[.int .i64 n] w fun e w' => e = .returned (.string ⟨(Lib.decDigits n).toArray⟩) ∧ Below w.heap.size w w' := by
  go_enter Tryz.func174, Tryz.ntmps174
  go_wp2
  go_loopw [0, 3] (fun s o wr => ∃ (k : Nat) (l : List UInt8), s = .int .i64 k ∧ o = .string ⟨l.toArray⟩ ∧ Lib.decDigits k ++ l = Lib.decDigits n ∧ l.length + k ≤ n ∧ Below w.heap.size w wr) (fun s _ _ => (intOf s).toNat)
  case atStart => exact ⟨n, [], rfl, rfl, by simp, by simp, Below.refl _ _⟩
  case round =>
    obtain ⟨k, l, rfl, rfl, hd, hl, hb⟩ := hrel
    have HD := Lib.hid hd
    clear hd
    have n1 : ¬ 9223372036854775807 < 1 + l.length := by omega
    by_cases hk : 9 < k
    · have hcv := run_one_byte wr (48 + (k : Int) % 10) (dg k) (dg_val k).symm
      go_wp2
      refine ⟨⟨k / 10, dg k :: l, by simp, by rw [byte_cat], ?_, by simp; omega, hb.alloc hb.size _⟩, by simp [intOf]; omega⟩
      rw [← HD.out, dec_step hk]; simp
    · have hcv := run_one_byte wr (48 + (k : Int)) (dg k) (by rw [dg_val]; omega)
      go_wp2
      go_ret
      refine ⟨?_, hb.alloc hb.size _⟩
      rw [byte_cat, ← HD.out, dec_last (by omega)]; rfl

end Go.Proofs.YtgfkiljkpkfapaaGreatDoor
