/- How the laws compare two lists of ends: of lists of the same ends they say that they are the same, and of one that begins with another that it does. Condition: at most 2^22 ends. -/
import Derived.Test.YtgfkiljkpkfapaaGreatDoorTabs
import Derived.BigQuiet
namespace Go.Proofs.YtgfkiljkpkfapaaGreatDoor
open Go.RowKit

set_option maxRecDepth 100000 in
set_option maxHeartbeats 1600000 in
theorem haEnds_same (es : List (Int × Int)) (v1 v2 : Value) (w : World) (hn : es.length ≤ 4194304) (h1 : TabAt w v1 es) (h2 : TabAt w v2 es) :
    Calls Tryz.prog 40 #[v1, v2] w fun e w' => e = .returned (.bool true) ∧ Below w.heap.size w w' := by
  obtain ⟨a1, cap1, rfl, hc1, r1⟩ := h1
  obtain ⟨a2, cap2, rfl, hc2, r2⟩ := h2
  have R1 := Lib.hid r1
  have R2 := Lib.hid r2
  have hc1' := hc1.1
  have hc2' := hc2.1
  clear r1 r2 hc1 hc2
  go_enter Tryz.func40, Tryz.ntmps40
  go_wp2
  go_loopw [5] (fun i wr => ∃ k : Nat, k ≤ es.length ∧ i = .int .i64 k ∧ Below w.heap.size w wr) (fun i _ => es.length - (intOf i).toNat)
  case atStart => exact ⟨0, Nat.zero_le _, rfl, Below.refl _ _⟩
  case round =>
    obtain ⟨k, hk, rfl, hb⟩ := hrel
    by_cases hlt : k < es.length
    · obtain ⟨g1, rfl, q1⟩ := R1.out (by omega)
      obtain ⟨g2, rfl, q2⟩ := R2.out (by omega)
      obtain ⟨c0, c1⟩ := (q1.below hb (q1.lt (by omega))) k hlt
      obtain ⟨d0, d1⟩ := (q2.below hb (q2.lt (by omega))) k hlt
      obtain ⟨⟨a, p⟩, hx⟩ : ∃ x, x = es[k] := ⟨_, rfl⟩
      rw [← hx] at c0 c1 d0 d1
      simp only at c0 c1 d0 d1
      have hk2 : (k : Int) ≤ (cap1 : Int) := by omega
      have hk3 : (k : Int) ≤ (cap2 : Int) := by omega
      have HB := Lib.hid hb
      clear hx q1 q2 R1 R2 hb
      go_wp2_with fail
      go_quiet (fail)
      go_wp2
      go_roundw
      case rel => exact ⟨k + 1, by omega, by go_num, HB.out.trans ⟨rfl, rfl, rfl, Nat.le_refl _, fun _ _ => rfl⟩⟩
      case measure => simp [intOf]; omega
    · go_wp2
      go_ret
      exact ⟨rfl, hb⟩

set_option maxRecDepth 100000 in
set_option maxHeartbeats 1600000 in
theorem haFirst_pre (g3 : Option Addr) (k3 : Nat) (g1 : Option Addr) (k1 : Nat) (xs us tl : List (Int × Int)) (w : World) (hn : xs.length ≤ 4194304) (hp : xs = us ++ tl) (h1 : TabAt w (.slice g3 xs.length k3) xs) (h2 : TabAt w (.slice g1 us.length k1) us) :
    Calls Tryz.prog 56 #[.slice g3 xs.length k3, .slice g1 us.length k1] w fun e w' => e = .returned (.bool true) ∧ Below w.heap.size w w' := by
  have hl : us.length ≤ xs.length := by rw [hp, List.length_append]; omega
  have ht : TabAt w (.slice g3 us.length k3) us := by
    have := h1.take hl
    rwa [show xs.take us.length = us by rw [hp]; simp] at this
  have HH := Lib.hid (haEnds_same us _ _ w (by omega) ht h2)
  obtain ⟨_, _, e3, hc3, _⟩ := h1
  simp at e3
  obtain ⟨rfl, rfl⟩ := e3
  have hc3' := hc3.1
  have hc4 : g3 = none → k3 = 0 := hc3.2
  have hl2 : (us.length : Int) ≤ (xs.length : Int) := by omega
  have hl3 : (us.length : Int) ≤ (k3 : Int) := by omega
  clear ht h2 hp hc3
  go_enter Tryz.func56, Tryz.ntmps56
  go_wp2_with (go_at_call 40; refine HH.out.mono ?_; rintro e w1 ⟨rfl, b1⟩)
  go_ret
  exact ⟨rfl, b1⟩

end Go.Proofs.YtgfkiljkpkfapaaGreatDoor
