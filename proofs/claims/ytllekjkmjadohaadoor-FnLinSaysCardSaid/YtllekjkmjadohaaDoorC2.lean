/- An end that lies in a block. No condition. -/
import Derived.Test.YtllekjkmjadohaaDoorRdSays
import Derived.Test.YtllekjkmjadohaaDoorDrawTxt
import Derived.Test.YtllekjkmjadohaaDoorHaOk
import Derived.Lib.QuietBelow
namespace Go.Proofs.YtllekjkmjadohaaDoor
open Go.RowKit

/-- An end lies in block g. -/
def C2 (w : World) (g : Nat) (a p : Int) : Prop := g < w.heap.size ∧ w.cell? ⟨g, 0, none⟩ = some (.int .i64 a) ∧ w.cell? ⟨g, 1, none⟩ = some (.int .i64 p)
theorem C2.below {w w' : World} {g : Nat} {a p : Int} (h : C2 w g a p) (hb : Below w.heap.size w w') : C2 w' g a p :=
  ⟨Nat.lt_of_lt_of_le h.1 hb.size, (hb.cell (p := ⟨g, 0, none⟩) h.1).trans h.2.1, (hb.cell (p := ⟨g, 1, none⟩) h.1).trans h.2.2⟩
theorem C2.new (w : World) (a p : Int) : C2 (w.alloc (.cells #[.int .i64 a, .int .i64 p] 24)) w.heap.size a p := ⟨by simp, by simp, by simp⟩
theorem C2.alloc {w : World} {g : Nat} {a p : Int} (h : C2 w g a p) (o : Obj) : C2 (w.alloc o) g a p := h.below ((Below.refl _ w).alloc (Nat.le_refl _) o)

theorem implText_all (a p : Int) (w : World) (ht : TabOk w) :
    Calls Tryd.prog 12 #[.agg #[.int .i64 a, .int .i64 p]] w fun e w' => e = .returned (.string ⟨(etL a p).toArray⟩) ∧ Below w.heap.size w w' := by
  by_cases h : endB a p = true
  · obtain ⟨h1, h2, h3, h4⟩ := end_bounds h
    obtain ⟨m, rfl⟩ := Int.eq_ofNat_of_zero_le (show 0 ≤ a by omega)
    obtain ⟨n, rfl⟩ := Int.eq_ofNat_of_zero_le (show 0 ≤ p by omega)
    rw [etL_yes h]; exact implText_yes m n w h ht
  · rw [etL_no (by simpa using h)]; exact implText_no a p w (by simpa using h)

end Go.Proofs.YtllekjkmjadohaaDoor
