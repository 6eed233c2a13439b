/- How the laws compare two lists of segments: of lists of the same segments they say that they are the same. Condition: at most 2^22 segments. -/
import Derived.Test.YtjnhmobdigfpiaaSgMem
import Derived.Test.YtjnhmobdigfpiaaSegLaw
import Derived.BigQuiet
import Derived.LoopTactic
namespace Go.Proofs.Ytjnhmobdigfpiaa
open Go.RowKit

set_option maxRecDepth 100000 in
set_option maxHeartbeats 1600000 in
theorem haSegs_same (xs : List Sg) (v1 v2 : Value) (w : World) (hn : xs.length ≤ 4194304) (h1 : RdSg w v1 xs) (h2 : RdSg w v2 xs) :
    Calls Try.prog 7 #[v1, v2] w fun e w' => e = .returned (.bool true) ∧ Below w.heap.size w w' := by
  obtain ⟨a1, cap1, rfl, hc1, r1⟩ := h1
  obtain ⟨a2, cap2, rfl, hc2, r2⟩ := h2
  have R1 := Lib.hid r1
  have R2 := Lib.hid r2
  clear r1 r2
  go_enter Try.func7, Try.ntmps7
  go_wp2
  go_loopw [5] (fun i wr => ∃ k : Nat, k ≤ xs.length ∧ i = .int .i64 k ∧ Below w.heap.size w wr) (fun i _ => xs.length - (intOf i).toNat)
  case atStart => exact ⟨0, Nat.zero_le _, rfl, Below.refl _ _⟩
  case round =>
    obtain ⟨k, hk, rfl, hb⟩ := hrel
    by_cases hlt : k < xs.length
    · obtain ⟨g1, rfl, q1⟩ := R1.out (by omega)
      obtain ⟨g2, rfl, q2⟩ := R2.out (by omega)
      have hl : 0 < (flatC sgC xs).length := by rw [flatC_len sgC_len]; omega
      obtain ⟨⟨sa, sp, da, dp, sq, ak, d⟩, hp⟩ : ∃ p, p = xs[k] := ⟨_, rfl⟩
      obtain ⟨⟨p0, p1, p2, p3, p4, p5, p6⟩, _⟩ := (q1.below hb (q1.lt hl)).seven k hlt _ hp
      obtain ⟨⟨s0, s1, s2, s3, s4, s5, s6⟩, _⟩ := (q2.below hb (q2.lt hl)).seven k hlt _ hp
      have hk2 : (k : Int) ≤ (cap1 : Int) := by omega
      have hk3 : (k : Int) ≤ (cap2 : Int) := by omega
      have HB := Lib.hid hb
      simp only at p0 p1 p2 p3 p4 p5 p6 s0 s1 s2 s3 s4 s5 s6
      clear hp q1 q2 R1 R2 hb hl
      go_wp2_with fail
      go_quiet (fail)
      go_wp2
      go_roundw
      case rel => exact ⟨k + 1, by omega, by go_num, HB.out.trans ⟨rfl, rfl, rfl, Nat.le_refl _, fun _ _ => rfl⟩⟩
      case measure => simp [intOf]; omega
    · go_wp2
      go_ret
      exact ⟨rfl, hb⟩

end Go.Proofs.Ytjnhmobdigfpiaa
