/- How the laws compare two lists of spans: of lists of the same spans they say that they are the same. Condition: at most 2^22 spans. -/
import Derived.Test.YtoidmmedpefjfaaGreatDoorMarkSp
import Derived.BigQuiet
namespace Go.Proofs.YtoidmmedpefjfaaGreatDoor
open Go.RowKit

set_option maxRecDepth 100000 in
set_option maxHeartbeats 1600000 in
theorem haSpans_same (xs : List (Nat × Nat × Nat × Nat × Bool)) (v1 v2 : Value) (w : World) (hn : xs.length ≤ 4194304) (h1 : RdSp w v1 xs) (h2 : RdSp w v2 xs) :
    Calls Tryz.prog 33 #[v1, v2] w fun e w' => e = .returned (.bool true) ∧ Below w.heap.size w w' := by
  obtain ⟨a1, cap1, rfl, hc1, r1⟩ := h1
  obtain ⟨a2, cap2, rfl, hc2, r2⟩ := h2
  have R1 := Lib.hid r1
  have R2 := Lib.hid r2
  clear r1 r2
  go_enter Tryz.func33, Tryz.ntmps33
  go_wp2
  go_loopw [5] (fun i wr => ∃ k : Nat, k ≤ xs.length ∧ i = .int .i64 k ∧ Below w.heap.size w wr) (fun i _ => xs.length - (intOf i).toNat)
  case atStart => exact ⟨0, Nat.zero_le _, rfl, Below.refl _ _⟩
  case round =>
    obtain ⟨k, hk, rfl, hb⟩ := hrel
    by_cases hlt : k < xs.length
    · obtain ⟨g1, rfl, q1⟩ := R1.out (by omega)
      obtain ⟨g2, rfl, q2⟩ := R2.out (by omega)
      have hl : 0 < (flatC spC xs).length := by rw [flatC_len spC_len]; omega
      obtain ⟨⟨f, t, o, u, p⟩, hp⟩ : ∃ p, p = xs[k] := ⟨_, rfl⟩
      obtain ⟨⟨p0, p1, p2, p3, p4⟩, _⟩ := (q1.below hb (q1.lt hl)).five k hlt f t o u p hp
      obtain ⟨⟨s0, s1, s2, s3, s4⟩, _⟩ := (q2.below hb (q2.lt hl)).five k hlt f t o u p hp
      have hk2 : (k : Int) ≤ (cap1 : Int) := by omega
      have hk3 : (k : Int) ≤ (cap2 : Int) := by omega
      have HB := Lib.hid hb
      clear hp q1 q2 R1 R2 hb hl
      go_wp2_with fail
      go_quiet (fail)
      go_wp2
      go_roundw
      case rel => exact ⟨k + 1, by omega, by go_num, HB.out.trans ⟨rfl, rfl, rfl, Nat.le_refl _, fun _ _ => rfl⟩⟩
      case measure => simp [intOf]; omega
    · go_wp2
      go_ret
      exact ⟨rfl, hb⟩

end Go.Proofs.YtoidmmedpefjfaaGreatDoor
