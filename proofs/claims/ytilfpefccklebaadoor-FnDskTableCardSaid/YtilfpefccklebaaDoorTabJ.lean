/- Two tables that are ok have the same lines just if they are the same. No program. No condition. -/
import Derived.Test.YtilfpefccklebaaDoorTabL
import Derived.Test.YtilfpefccklebaaDoorPortP
namespace Go.Proofs.YtilfpefccklebaaDoor

theorem endL_same {a p b q : Int} (h1 : endB a p = true) (h2 : endB b q = true) (h : endL a.toNat p.toNat = endL b.toNat q.toNat) : (a, p) = (b, q) := by
  have e1 := rdE_endL h1
  rw [h, rdE_endL h2] at e1
  exact (Option.some.inj e1).symm
theorem tabLs_at (es : List (Int × Int)) (n k : Nat) (h : k < (tabLs es n).length) : (tabLs es n)[k] = tabLine k (es.getD k (0, 0)) := by simp [tabLs]
theorem dskL_yes {es : List (Int × Int)} (h : mapB es = true) : dskL es = tabLs es es.length := if_pos h
theorem dskL_no {es : List (Int × Int)} (h : mapB es = false) : dskL es = [] := if_neg (by simp [h])
theorem dsk_inj {es fs : List (Int × Int)} (h1 : mapB es = true) (h2 : mapB fs = true) : dskL es = dskL fs ↔ es = fs := by
  constructor
  · intro h
    rw [dskL_yes h1, dskL_yes h2] at h
    have hl : es.length = fs.length := by
      have := congrArg List.length h
      rwa [tabLs_len, tabLs_len] at this
    apply List.ext_getElem hl
    intro k k1 k2
    have g1 := tabLs_at es es.length k (by rw [tabLs_len]; exact k1)
    have g2 := tabLs_at fs fs.length k (by rw [tabLs_len]; exact k2)
    have hg : (tabLs es es.length)[k]'(by rw [tabLs_len]; exact k1) = (tabLs fs fs.length)[k]'(by rw [tabLs_len]; exact k2) := by
      simp only [h]
    have d1 : es.getD k (0, 0) = es[k] := by simp [List.getD, k1]
    have d2 : fs.getD k (0, 0) = fs[k] := by simp [List.getD, k2]
    rw [g1, g2, d1, d2] at hg
    unfold tabLine at hg
    have hg2 := List.append_cancel_left hg
    have i1 := ins_end (port_at h1 k1).2
    have i2 := ins_end (port_at h2 k2).2
    rw [etL_yes i1, etL_yes i2] at hg2
    exact endL_same i1 i2 hg2
  · rintro rfl; rfl

end Go.Proofs.YtilfpefccklebaaDoor
