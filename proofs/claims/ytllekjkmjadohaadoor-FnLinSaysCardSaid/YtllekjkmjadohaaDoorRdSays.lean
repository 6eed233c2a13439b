/- What EndRead answers, of the program and of the specification, in one form. Conditions: the text has at most 2^20 bytes; the variables that are read hold what they are laid with. -/
import Derived.Test.YtllekjkmjadohaaDoorPortP
import Derived.Test.YtllekjkmjadohaaDoorISays
namespace Go.Proofs.YtllekjkmjadohaaDoor
open Go.RowKit

theorem implRead_says (s : ByteArray) (w : World) (hs : s.size ≤ 1048576) (hv : VarsOk w) :
    Calls Tryd.prog 10 #[.string s] w fun e w' => e = .returned (saysV (rdE s.data.toList)) ∧ Below w.heap.size w w' := by
  have h := implRead_any s w (by omega) hv
  rw [rd_same] at h
  rcases hr : rdE s.data.toList with _ | ⟨a, p⟩
  · rw [rdE_none hr] at h; exact h
  · rw [(rdE_some hr).1] at h; exact h
theorem specRead_says (s : ByteArray) (w : World) (hs : s.size ≤ 1048576) :
    Calls Tryd.prog 11 #[.string s] w fun e w' => e = .returned (saysV (rdE s.data.toList)) ∧ Below w.heap.size w w' := by
  have h := specRead_any s w (by omega)
  rcases hr : rdE s.data.toList with _ | ⟨a, p⟩
  · rw [rdE_none hr] at h; exact h
  · rw [(rdE_some hr).1] at h; exact h
/-- An answer of an end and a yes, or of nothing and a no. -/
theorem says_form (o : Option (Int × Int)) : (∃ a p : Int, o = some (a, p) ∧ saysV o = .tuple #[.agg #[.int .i64 a, .int .i64 p], .bool true]) ∨ (o = none ∧ saysV o = .tuple #[.agg #[.int .i64 0, .int .i64 0], .bool false]) := by
  rcases o with _ | ⟨a, p⟩
  · exact .inr ⟨rfl, rfl⟩
  · exact .inl ⟨a, p, rfl, rfl⟩
theorem bytes_ne {s t : ByteArray} (h : s ≠ t) : ¬ s.toList = t.toList := by
  intro e
  rw [Lib.toList_data, Lib.toList_data] at e
  exact h (by rw [← Lib.mk_data s, ← Lib.mk_data t, e])

end Go.Proofs.YtllekjkmjadohaaDoor
