/- l9Names, l9Kind and l9Nums of the specification: the words of what happens; a word's kind; the numbers that words are. Condition: at most 1000 words. -/
import Derived.Test.YtilfpefccklebaaDoorEvP
import Derived.Test.YtilfpefccklebaaDoorWords
import Derived.Deep.RegionHeld3
import Derived.Deep.DeepCutAuto
import Derived.Lib.SmallJoins
namespace Go.Proofs.YtilfpefccklebaaDoor
open Go.RowKit

def nameV (k : Nat) : Value := .string ⟨(nameL k).toArray⟩
theorem names_cell (W : World) (t : TypeId) (k : Nat) (hk : k < 9) :
    (W.alloc (.cells #[.string ⟨#[]⟩, .string ⟨#[115, 101, 110, 100]⟩, .string ⟨#[114, 101, 112, 108, 121]⟩, .string ⟨#[104, 101, 97, 114]⟩, .string ⟨#[108, 111, 115, 101]⟩, .string ⟨#[116, 119, 105, 99, 101]⟩, .string ⟨#[98, 101, 110, 100]⟩, .string ⟨#[100, 97, 116, 97]⟩, .string ⟨#[119, 111, 114, 100]⟩] t)).cell? ⟨W.heap.size, k, none⟩ = some (nameV k) := by
  rw [(cell_new W _ t k).1]
  have : k = 0 ∨ k = 1 ∨ k = 2 ∨ k = 3 ∨ k = 4 ∨ k = 5 ∨ k = 6 ∨ k = 7 ∨ k = 8 := by omega
  rcases this with rfl | rfl | rfl | rfl | rfl | rfl | rfl | rfl | rfl <;> rfl

set_option maxRecDepth 100000 in
set_option maxHeartbeats 400000 in
theorem specNames_any (w : World) :
    Calls Tryd.prog 52 #[] w fun e w' => ∃ g, e = .returned (.slice (some ⟨g, 0, none⟩) 9 9) ∧ w.heap.size ≤ g ∧ g < w'.heap.size ∧ (∀ k, k < 9 → w'.cell? ⟨g, k, none⟩ = some (nameV k)) ∧ Below w.heap.size w w' := by
  go_enter Tryd.func52, Tryd.ntmps52
  go_wp2
  go_ret
  exact ⟨_, rfl, Nat.le_refl _, by simp, fun k hk => names_cell w _ k hk, (Below.refl _ _).alloc (Nat.le_refl _) _⟩

theorem nameV_eq (k : Nat) (s : ByteArray) : (nameL k == s.toList) = decide (s.data.toList = nameL k) := by
  rw [Lib.toList_data]
  by_cases h : s.data.toList = nameL k
  · rw [h]; simp
  · have h2 : ¬ nameL k = s.data.toList := fun e => h e.symm
    simp [h, h2]

set_option maxRecDepth 100000 in
set_option maxHeartbeats 400000 in
theorem specKind_any (s : ByteArray) (w : World) :
    Calls Tryd.prog 27 #[.string s] w fun e w' => e = .returned (.int .i64 (kindL s.data.toList)) ∧ Below w.heap.size w w' := by
  have HS : Hid ((kindL s.data.toList = 0 ∧ ∀ k, 1 ≤ k → k ≤ 8 → s.data.toList ≠ nameL k) ∨ (1 ≤ kindL s.data.toList ∧ kindL s.data.toList ≤ 8 ∧ s.data.toList = nameL (kindL s.data.toList))) := kindL_spec _
  go_enter Tryd.func27, Tryd.ntmps27
  go_wp2_with (go_at_call 52; refine (specNames_any _).mono ?_; rintro e w1 ⟨g, rfl, gB, gl, row, b1⟩)
  have HR := Lib.hid row
  clear row
  go_loop [4] (fun i => ∃ k : Nat, 1 ≤ k ∧ k ≤ 9 ∧ i = .int .i64 k ∧ ∀ j, 1 ≤ j → j < k → s.data.toList ≠ nameL j) (fun i => 9 - (intOf i).toNat)
  case atStart => exact ⟨1, Nat.le_refl _, by omega, rfl, fun j h1 h2 => by omega⟩
  case round =>
    obtain ⟨k, hk1, hk9, rfl, hno⟩ := hrel
    have HN := Lib.hid hno
    clear hno
    by_cases hlt : k < 9
    · have hc := HR.out k hlt
      unfold nameV at hc
      have hk3 : (k : Int) < 9 := by omega
      have hq := nameV_eq k s
      by_cases he : s.data.toList = nameL k
      · have hq2 : (nameL k == s.toList) = true := by rw [hq]; simp [he]
        have HE := Lib.hid he
        clear hq he
        go_wp2
        go_ret
        refine ⟨ret_int ?_, b1⟩
        rw [HE.out, kindL_name hk1 (by omega)]
      · have hq2 : (nameL k == s.toList) = false := by rw [hq]; simp [he]
        have HE := Lib.hid he
        clear hq he
        go_wp2
        go_round
        case rel =>
          refine ⟨k + 1, by omega, by omega, by go_num, ?_⟩
          intro j h1 h2
          by_cases hj : j = k
          · subst hj; exact HE.out
          · exact HN.out j h1 (by omega)
        case measure => simp [intOf]; omega
    · have hk : k = 9 := by omega
      subst hk
      go_wp2
      go_ret
      refine ⟨ret_int ?_, b1⟩
      rcases HS.out with ⟨h, _⟩ | ⟨h1, h2, h3⟩
      · rw [h]; rfl
      · exact absurd h3 (HN.out _ h1 (by omega))

end Go.Proofs.YtilfpefccklebaaDoor
