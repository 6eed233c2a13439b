/- An element of an array of six numbers, by value. No condition. -/
import Derived.Test.YtjnhmobdigfpiaaDoorBase
namespace Go.Proofs.YtjnhmobdigfpiaaDoor
open Go.RowKit

theorem run_idx6 (cs : Array Value) (k : Nat) (v : Value) (w : World) (hk : k < 6) (hc : cs[k]? = some v) :
    (Instr.index 47 (.agg cs) (.int .i64 (k : Int))).run Tryd.prog w = .ok v w := by
  obtain ⟨h, e⟩ := Array.getElem?_eq_some_iff.1 hc
  have h1 : (0 : Int) ≤ (k : Int) ∧ (k : Int) < 6 := by omega
  have h2 : ((k : Int)).toNat = k := by omega
  simp [Instr.index, run_underlying Tryd.underlying47, asIntOf, h1, h2, go_sem]
  rw [if_pos hk, hc]
  simp [go_sem]

end Go.Proofs.YtjnhmobdigfpiaaDoor
