/- The lines of a table, as bytes. No program. No condition. -/
import Derived.Test.YtilfpefccklebaaDoorSText
import Derived.Test.YtilfpefccklebaaDoorSMap
import Derived.Test.YtilfpefccklebaaDoorMapP
namespace Go.Proofs.YtilfpefccklebaaDoor

def tabLine (k : Nat) (e : Int × Int) : List UInt8 := [112, 111, 114, 116, 32] ++ Lib.decDigits (500 + k) ++ [32, 111, 102, 32] ++ etL e.1 e.2
def tabLs (es : List (Int × Int)) (k : Nat) : List (List UInt8) := (List.range k).map fun i => tabLine i (es.getD i (0, 0))
theorem tabLs_snoc (es : List (Int × Int)) (k : Nat) : tabLs es (k + 1) = tabLs es k ++ [tabLine k (es.getD k (0, 0))] := by
  unfold tabLs
  rw [List.range_succ, List.map_append]; rfl
theorem tabLs_len (es : List (Int × Int)) (k : Nat) : (tabLs es k).length = k := by simp [tabLs]
def dskL (es : List (Int × Int)) : List (List UInt8) := if mapB es = true then tabLs es es.length else []
theorem tabLine_cat (k : Nat) (a p : Int) : (⟨#[112, 111, 114, 116, 32]⟩ : ByteArray) ++ ⟨(Lib.decDigits (500 + k)).toArray⟩ ++ ⟨#[32, 111, 102, 32]⟩ ++ ⟨(etL a p).toArray⟩ = ⟨(tabLine k (a, p)).toArray⟩ := by
  apply ByteArray.ext; simp [tabLine]
theorem port_at {es : List (Int × Int)} (hm : mapB es = true) {k : Nat} (hk : k < es.length) : portI es es[k] = 500 + (k : Int) ∧ insB es[k].1 es[k].2 = true := by
  have hnot := mapB_take hm hk
  unfold mapB at hm
  simp only [Bool.and_eq_true, decide_eq_true_eq, List.all_eq_true, List.mem_range] at hm
  have h := hm.2 k hk
  unfold mapP at h
  simp [hk] at h
  have hf : findI es es[k] = (k : Int) := findI_hit hk rfl (fun j hj e => hnot (by
    rw [← e, List.mem_take_iff_getElem]
    exact ⟨j, by omega, rfl⟩))
  unfold portI
  rw [hf, if_neg (by omega)]
  exact ⟨rfl, h.1⟩
theorem ins_end {a p : Int} (h : insB a p = true) : endB a p = true := by unfold endB; rw [h]; rfl

end Go.Proofs.YtilfpefccklebaaDoor
