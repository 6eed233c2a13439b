/- Decimals: l1Plain of the specification writes a number's decimal digits. Condition: the number is at most 10^18. -/
import Derived.Test.YtfciohdebopmkaaDoorEnd
import Derived.Test.YtfciohdebopmkaaDoorNum
import Derived.LoopTactic
import Derived.Lib.Hide
namespace Go.Proofs.YtfciohdebopmkaaDoor
open Go.RowKit

/-- The text of one byte that was laid in a new block. -/
theorem run_one_byte (w : World) (x : Int) (b : UInt8) (hx : x = (b.toNat : Int)) :
    (convert 42 9 (.slice (some ⟨w.heap.size, 0, none⟩) 1 1)).run Tryd.prog (w.alloc (.cells #[.int .u8 x] 5)) = .ok (.string ⟨#[b]⟩) (w.alloc (.cells #[.int .u8 x] 5)) := by
  subst hx
  refine run_convert_bytes_back (P := Tryd.prog) _ 42 9 5 ⟨w.heap.size, 0, none⟩ 1 [b] Tryd.underlying42 Tryd.underlying5 Tryd.underlying9 (fun j hj => ?_)
  have : j = 0 := by simp at hj; omega
  subst this
  simp [go_sem]

set_option maxHeartbeats 400000 in
theorem specPlain_any (n : Nat) (w : World) (hn : n ≤ 1000000000000000000) :
    Calls Tryd.prog 12 #[.int .i64 n] w fun e w' => e = .returned (.string ⟨(Lib.decDigits n).toArray⟩) ∧ Below w.heap.size w w' := by
  go_enter Tryd.func12, Tryd.ntmps12
  go_wp2
  go_loopw [0, 3] (fun s o wr => ∃ (k : Nat) (l : List UInt8), s = .int .i64 k ∧ o = .string ⟨l.toArray⟩ ∧ Lib.decDigits k ++ l = Lib.decDigits n ∧ l.length + k ≤ n ∧ Below w.heap.size w wr) (fun s _ _ => (intOf s).toNat)
  case atStart => exact ⟨n, [], rfl, rfl, by simp, by simp, Below.refl _ _⟩
  case round =>
    obtain ⟨k, l, rfl, rfl, hd, hl, hb⟩ := hrel
    have HD := Lib.hid hd
    clear hd
    have n1 : ¬ 9223372036854775807 < 1 + l.length := by omega
    by_cases hk : 9 < k
    · have hcv := run_one_byte wr (48 + (k : Int) % 10) (dg k) (dg_val k).symm
      go_wp2
      refine ⟨⟨k / 10, dg k :: l, by simp, by rw [byte_cat], ?_, by simp; omega, hb.alloc hb.size _⟩, by simp [intOf]; omega⟩
      rw [← HD.out, dec_step hk]; simp
    · have hcv := run_one_byte wr (48 + (k : Int)) (dg k) (by rw [dg_val]; omega)
      go_wp2
      go_ret
      refine ⟨?_, hb.alloc hb.size _⟩
      rw [byte_cat, ← HD.out, dec_last (by omega)]; rfl

end Go.Proofs.YtfciohdebopmkaaDoor
