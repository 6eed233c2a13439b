/- LinSays and LinBox of the specification. Condition: the text has at most 2^21 bytes. -/
import Derived.Test.YtbhpogddnpaacaaRds
import Derived.Test.YtbhpogddnpaacaaSPort
namespace Go.Proofs.Ytbhpogddnpaacaa
open Go.RowKit

/-- The end inside that a line names; the port of the box's. -/
def saysE (l : List UInt8) : Option (Int × Int) := if l.take 5 = portL then match rdE (l.drop 5) with | some (a, p) => if insB a p = true then some (a, p) else none | none => none else none
def boxE (l : List UInt8) : Option Int := if l.take 5 = portL then match rdE (l.drop 5) with | some (a, p) => if a = 50 then some p else none | none => none else none

theorem ext_drop (s : ByteArray) (i : Nat) : (s.extract i s.size).data.toList = s.data.toList.drop i := by
  rw [ext_list, List.take_of_length_le (by rw [len_list]; omega)]
theorem ext_take (s : ByteArray) (i : Nat) : (s.extract 0 i).data.toList = s.data.toList.take i := by
  rw [ext_list]; simp

/-- What LinSays and LinBox answer. -/
def saysV : Option (Int × Int) → Value
  | some (a, p) => .tuple #[.agg #[.int .i64 a, .int .i64 p], .bool true]
  | none => .tuple #[.agg #[.int .i64 0, .int .i64 0], .bool false]
def boxV : Option Int → Value
  | some p => .tuple #[.int .i64 p, .bool true]
  | none => .tuple #[.int .i64 0, .bool false]

set_option maxRecDepth 100000 in
set_option maxHeartbeats 800000 in
theorem specSays_any (s : ByteArray) (w : World) (hs : s.size ≤ 2097152) :
    Calls Try.prog 72 #[.string s] w fun e w' => e = .returned (saysV (saysE s.data.toList)) ∧ Below w.heap.size w w' := by
  have hshort : s.data.toList.take 5 = portL → 5 ≤ s.size := by
    intro h; have := congrArg List.length h; simp [portL] at this; omega
  by_cases h5 : s.size < 5
  · have HV : Hid (saysE s.data.toList = none) := by
      show saysE s.data.toList = none
      unfold saysE; rw [if_neg (fun h => by have := hshort h; omega)]
    clear hshort
    go_enter Try.func72, Try.ntmps72
    go_wp2_with fail
    refine bodyPost_ret (v := .tuple #[.agg #[.int .i64 0, .int .i64 0], .bool false]) (by simp [results, Try.results72, go_sem]) rfl ⟨by rw [HV.out]; rfl, ?_⟩
    exact (Below.refl _ _).alloc (Nat.le_refl _) _
  · by_cases ht : s.data.toList.take 5 = portL
    · have hq : (!(s.extract 0 5).toList == [112, 111, 114, 116, 32]) = false := by
        rw [Lib.toList_data, ext_take, ht]; rfl
      have HE : Hid (∀ w, Calls Try.prog 77 #[.string (s.extract 5 s.size)] w fun e w' => e = .returned (rdS (s.data.toList.drop 5)) ∧ Below w.heap.size w w') := by
        intro w; have := specRead_any (s.extract 5 s.size) w (by simp; omega); rw [ext_drop] at this; exact this
      rcases hr : rdE (s.data.toList.drop 5) with _ | ⟨a, p⟩
      · have HV : Hid (saysE s.data.toList = none) := by
          show saysE s.data.toList = none
          unfold saysE; rw [if_pos ht, hr]
        have HR := Lib.hid (rdE_none hr)
        clear hshort hr ht
        go_enter Try.func72, Try.ntmps72
        go_wp2_with (go_at_call 77; refine (HE.out _).mono ?_; rintro e w1 ⟨rfl, b1⟩; rw [HR.out]; obtain ⟨c1, f1⟩ := bcell b1; have z1 : w.heap.size < w1.heap.size := by (have hq := b1.size; simp at hq; omega))
        obtain ⟨q0, q1, q2⟩ := set_two (w := w1) (b := w.heap.size) (x := .int .i64 0) (y := .int .i64 0) (.int .i64 0) (.int .i64 0) (by rw [c1 _ _ (by simp)]; simp) (by rw [c1 _ _ (by simp)]; simp)
        refine bodyPost_ret (v := .tuple #[.agg #[.int .i64 0, .int .i64 0], .bool false]) (by simp [results, Try.results72, go_sem, cell_alloc_lt, z1, q1, q2]) rfl ⟨by rw [HV.out]; rfl, ?_⟩
        exact (((below_box b1).setCell (Nat.le_refl _) _).setCell (Nat.le_refl _) _).alloc (by simp; omega) _
      · obtain ⟨hR, hb⟩ := rdE_some hr
        have HR := Lib.hid hR
        by_cases hin : insB a p = true
        · have HV : Hid (saysE s.data.toList = some (a, p)) := by
            show saysE s.data.toList = some (a, p)
            unfold saysE; rw [if_pos ht, hr]; simp [hin]
          clear hshort hr ht hR hb
          go_enter Try.func72, Try.ntmps72
          go_wp2_with (first
            | (go_at_call 77; refine (HE.out _).mono ?_; rintro e w1 ⟨rfl, b1⟩; rw [HR.out]; obtain ⟨c1, f1⟩ := bcell b1; have z1 : w.heap.size < w1.heap.size := by (have hq := b1.size; simp at hq; omega))
            | (go_at_call 27; refine (specInside_any _ _ _).mono ?_; rintro e w3 ⟨rfl, b3⟩; obtain ⟨c3, f3⟩ := bcell b3; have z3 : w1.heap.size < w3.heap.size := by (have hq := b3.size; simp at hq; omega)))
          obtain ⟨q0, q1, q2⟩ := set_two (w := w3) (b := w.heap.size) (x := .int .i64 0) (y := .int .i64 0) (.int .i64 a) (.int .i64 p) (by rw [c3 _ _ (by simp; omega), cell_alloc_lt z1, c1 _ _ (by simp)]; simp) (by rw [c3 _ _ (by simp; omega), cell_alloc_lt z1, c1 _ _ (by simp)]; simp)
          refine bodyPost_ret (v := .tuple #[.agg #[.int .i64 a, .int .i64 p], .bool true]) (by simp [results, Try.results72, go_sem, q1, q2]) rfl ⟨by rw [HV.out]; rfl, ?_⟩
          exact ((((below_box b1).trans (((Below.refl _ w1).alloc (Nat.le_refl _) _ |>.trans (b3.mono (by simp))).mono (by omega))).setCell (Nat.le_refl _) _).setCell (Nat.le_refl _) _)
        · have HV : Hid (saysE s.data.toList = none) := by
            show saysE s.data.toList = none
            unfold saysE; rw [if_pos ht, hr]; simp [hin]
          clear hshort hr ht hR hb
          go_enter Try.func72, Try.ntmps72
          go_wp2_with (first
            | (go_at_call 77; refine (HE.out _).mono ?_; rintro e w1 ⟨rfl, b1⟩; rw [HR.out]; obtain ⟨c1, f1⟩ := bcell b1; have z1 : w.heap.size < w1.heap.size := by (have hq := b1.size; simp at hq; omega))
            | (go_at_call 27; refine (specInside_any _ _ _).mono ?_; rintro e w3 ⟨rfl, b3⟩; obtain ⟨c3, f3⟩ := bcell b3; have z3 : w1.heap.size < w3.heap.size := by (have hq := b3.size; simp at hq; omega)))
          obtain ⟨q0, q1, q2⟩ := set_two (w := w3) (b := w.heap.size) (x := .int .i64 0) (y := .int .i64 0) (.int .i64 0) (.int .i64 0) (by rw [c3 _ _ (by simp; omega), cell_alloc_lt z1, c1 _ _ (by simp)]; simp) (by rw [c3 _ _ (by simp; omega), cell_alloc_lt z1, c1 _ _ (by simp)]; simp)
          refine bodyPost_ret (v := .tuple #[.agg #[.int .i64 0, .int .i64 0], .bool false]) (by simp [results, Try.results72, go_sem, q1, q2]) rfl ⟨by rw [HV.out]; rfl, ?_⟩
          exact ((((below_box b1).trans (((Below.refl _ w1).alloc (Nat.le_refl _) _ |>.trans (b3.mono (by simp))).mono (by omega))).setCell (Nat.le_refl _) _).setCell (Nat.le_refl _) _)
    · have hq : (!(s.extract 0 5).toList == [112, 111, 114, 116, 32]) = true := by
        rw [Lib.toList_data, ext_take]; simpa [portL] using ht
      have HV : Hid (saysE s.data.toList = none) := by
        show saysE s.data.toList = none
        unfold saysE; rw [if_neg ht]
      clear hshort ht
      go_enter Try.func72, Try.ntmps72
      go_wp2_with fail
      refine bodyPost_ret (v := .tuple #[.agg #[.int .i64 0, .int .i64 0], .bool false]) (by simp [results, Try.results72, go_sem]) rfl ⟨by rw [HV.out]; rfl, ?_⟩
      exact (Below.refl _ _).alloc (Nat.le_refl _) _

end Go.Proofs.Ytbhpogddnpaacaa
