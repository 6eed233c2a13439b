/- How the laws compare two lists of texts: of lists of the same texts they say that they are the same. Condition: at most 2^22 texts. -/
import Derived.Test.YtllekjkmjadohaaRdV
import Derived.BigQuiet
namespace Go.Proofs.Ytllekjkmjadohaa
open Go.RowKit

set_option maxRecDepth 100000 in
set_option maxHeartbeats 800000 in
theorem haTexts_same (xs : List (List UInt8)) (v1 v2 : Value) (w : World) (hn : xs.length ≤ 4194304) (h1 : RdV w v1 (xs.map strV)) (h2 : RdV w v2 (xs.map strV)) :
    Calls Try.prog 20 #[v1, v2] w fun e w' => e = .returned (.bool true) ∧ Below w.heap.size w w' := by
  obtain ⟨a1, cap1, rfl, r1⟩ := h1
  obtain ⟨a2, cap2, rfl, r2⟩ := h2
  simp only [List.length_map] at r1 r2 ⊢
  have R1 := Lib.hid r1
  have R2 := Lib.hid r2
  clear r1 r2
  go_enter Try.func20, Try.ntmps20
  go_wp2
  go_loopw [5] (fun i wr => ∃ k : Nat, k ≤ xs.length ∧ i = .int .i64 k ∧ Below w.heap.size w wr) (fun i _ => xs.length - (intOf i).toNat)
  case atStart => exact ⟨0, Nat.zero_le _, rfl, Below.refl _ _⟩
  case round =>
    obtain ⟨k, hk, rfl, hb⟩ := hrel
    by_cases hlt : k < xs.length
    · obtain ⟨g1, rfl, q1⟩ := R1.out (by omega)
      obtain ⟨g2, rfl, q2⟩ := R2.out (by omega)
      have c1 := (hb.cell (p := ⟨g1, k, none⟩) (q1.lt (by simp; omega))).trans (eq_cell q1 (i := k) (by simpa using hlt))
      have c2 := (hb.cell (p := ⟨g2, k, none⟩) (q2.lt (by simp; omega))).trans (eq_cell q2 (i := k) (by simpa using hlt))
      obtain ⟨x, hx⟩ : ∃ x, x = xs[k] := ⟨_, rfl⟩
      simp only [List.getElem_map, ← hx, strV] at c1 c2
      clear hx q1 q2 R1 R2
      go_wp2_with fail
      go_quiet (fail)
      go_wp2
      go_roundw
      case rel => exact ⟨k + 1, by omega, by go_num, hb.trans ⟨rfl, rfl, rfl, Nat.le_refl _, fun _ _ => rfl⟩⟩
      case measure => simp [intOf]; omega
    · go_wp2
      go_ret
      exact ⟨rfl, hb⟩

end Go.Proofs.Ytllekjkmjadohaa
