/- LinSays and LinBox of the specification. Condition: the text has at most 2^21 bytes. -/
import Derived.Test.YtoidmmedpefjfaaDoorRds
import Derived.Test.YtoidmmedpefjfaaDoorSPort
namespace Go.Proofs.YtoidmmedpefjfaaDoor
open Go.RowKit

/-- The end inside that a line names; the port of the box's. -/
def saysE (l : List UInt8) : Option (Int × Int) := if l.take 5 = portL then match rdE (l.drop 5) with | some (a, p) => if insB a p = true then some (a, p) else none | none => none else none
def boxE (l : List UInt8) : Option Int := if l.take 5 = portL then match rdE (l.drop 5) with | some (a, p) => if a = 50 then some p else none | none => none else none

theorem ext_drop (s : ByteArray) (i : Nat) : (s.extract i s.size).data.toList = s.data.toList.drop i := by
  rw [ext_list, List.take_of_length_le (by rw [len_list]; omega)]
theorem ext_take (s : ByteArray) (i : Nat) : (s.extract 0 i).data.toList = s.data.toList.take i := by
  rw [ext_list]; simp

/-- What LinSays and LinBox answer. -/
def saysV : Option (Int × Int) → Value
  | some (a, p) => .tuple #[.agg #[.int .i64 a, .int .i64 p], .bool true]
  | none => .tuple #[.agg #[.int .i64 0, .int .i64 0], .bool false]
def boxV : Option Int → Value
  | some p => .tuple #[.int .i64 p, .bool true]
  | none => .tuple #[.int .i64 0, .bool false]

set_option maxRecDepth 100000 in
set_option maxHeartbeats 800000 in
theorem specBox_any (s : ByteArray) (w : World) (hs : s.size ≤ 2097152) :
    Calls Tryd.prog 41 #[.string s] w fun e w' => e = .returned (boxV (boxE s.data.toList)) ∧ Below w.heap.size w w' := by
  have hshort : s.data.toList.take 5 = portL → 5 ≤ s.size := by
    intro h; have := congrArg List.length h; simp [portL] at this; omega
  by_cases h5 : s.size < 5
  · have HV : Hid (boxE s.data.toList = none) := by
      show boxE s.data.toList = none
      unfold boxE; rw [if_neg (fun h => by have := hshort h; omega)]
    clear hshort
    go_enter Tryd.func41, Tryd.ntmps41
    go_wp2_with fail
    go_ret2
    exact ⟨by rw [HV.out]; rfl, Below.refl _ _⟩
  · by_cases ht : s.data.toList.take 5 = portL
    · have hq : (!(s.extract 0 5).toList == [112, 111, 114, 116, 32]) = false := by
        rw [Lib.toList_data, ext_take, ht]; rfl
      have HE : Hid (∀ w, Calls Tryd.prog 54 #[.string (s.extract 5 s.size)] w fun e w' => e = .returned (rdS (s.data.toList.drop 5)) ∧ Below w.heap.size w w') := by
        intro w; have := specRead_any (s.extract 5 s.size) w (by simp; omega); rw [ext_drop] at this; exact this
      rcases hr : rdE (s.data.toList.drop 5) with _ | ⟨a, p⟩
      · have HV : Hid (boxE s.data.toList = none) := by
          show boxE s.data.toList = none
          unfold boxE; rw [if_pos ht, hr]
        have HR := Lib.hid (rdE_none hr)
        clear hshort hr ht
        go_enter Tryd.func41, Tryd.ntmps41
        go_wp2_with (go_at_call 54; refine (HE.out _).mono ?_; rintro e w1 ⟨rfl, b1⟩; rw [HR.out])
        go_ret2
        exact ⟨by rw [HV.out]; rfl, b1.alloc b1.size _⟩
      · obtain ⟨hR, hb⟩ := rdE_some hr
        have HR := Lib.hid hR
        by_cases hin : a = 50
        · have HV : Hid (boxE s.data.toList = some p) := by
            show boxE s.data.toList = some p
            unfold boxE; rw [if_pos ht, hr]; simp [hin]
          have hne : (a != 50) = false := by simp [hin]
          clear hshort hr ht hR hb hin
          go_enter Tryd.func41, Tryd.ntmps41
          go_wp2_with (go_at_call 54; refine (HE.out _).mono ?_; rintro e w1 ⟨rfl, b1⟩; rw [HR.out])
          go_ret2
          exact ⟨by rw [HV.out]; rfl, b1.alloc b1.size _⟩
        · have HV : Hid (boxE s.data.toList = none) := by
            show boxE s.data.toList = none
            unfold boxE; rw [if_pos ht, hr]; simp [hin]
          have hne : (a != 50) = true := by simp [hin]
          clear hshort hr ht hR hb hin
          go_enter Tryd.func41, Tryd.ntmps41
          go_wp2_with (go_at_call 54; refine (HE.out _).mono ?_; rintro e w1 ⟨rfl, b1⟩; rw [HR.out])
          go_ret2
          exact ⟨by rw [HV.out]; rfl, b1.alloc b1.size _⟩
    · have hq : (!(s.extract 0 5).toList == [112, 111, 114, 116, 32]) = true := by
        rw [Lib.toList_data, ext_take]; simpa [portL] using ht
      have HV : Hid (boxE s.data.toList = none) := by
        show boxE s.data.toList = none
        unfold boxE; rw [if_neg ht]
      clear hshort ht
      go_enter Tryd.func41, Tryd.ntmps41
      go_wp2_with fail
      go_ret2
      exact ⟨by rw [HV.out]; rfl, Below.refl _ _⟩

end Go.Proofs.YtoidmmedpefjfaaDoor
