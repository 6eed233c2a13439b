/- l3Put, MapEnd and MapPut of the specification. Condition: the table has at most 2^22 ends. -/
import Derived.Test.YtbcleehbfmbiiaaGreatDoorSPutN
import Derived.Deep.RegionWith
namespace Go.Proofs.YtbcleehbfmbiiaaGreatDoor
open Go.RowKit Go.Sort

theorem portI_zero {es : List (Int × Int)} {e : Int × Int} (h : ¬ 0 < portI es e) : portI es e = 0 := by
  have := (findI_bounds es e).1
  unfold portI at *
  split <;> simp_all <;> omega

theorem specPut_any (B : Nat) (ad : Addr) (cap : Nat) (es : List (Int × Int)) (a p : Int) (w : World) (hn : es.length ≤ 4194304) (hB : B ≤ w.heap.size) (ho : OwnTab w B (.slice (some ad) es.length cap) es) :
    Calls Tryz.prog 57 #[.agg #[.slice (some ad) es.length cap], .agg #[.int .i64 a, .int .i64 p]] w fun e w' => ∃ g c, e = .returned (.tuple #[.agg #[.slice (some g) (putE es (a, p)).1.length c], .int .i64 (putE es (a, p)).2]) ∧ OwnTab w' B (.slice (some g) (putE es (a, p)).1.length c) (putE es (a, p)).1 ∧ Below w.heap.size w w' := by
  by_cases h : 0 < portI es (a, p)
  · rw [show putE es (a, p) = (es, portI es (a, p)) from if_pos h]
    refine (specPut_has ad cap es a p w hn ho.tab h).mono ?_
    rintro e w' ⟨rfl, hb⟩
    exact ⟨_, _, rfl, ho.below hb, hb⟩
  · have h0 := portI_zero h
    by_cases h6 : es.length = 6
    · rw [show putE es (a, p) = (es, 0) from by unfold putE; rw [if_neg h, if_pos h6]]
      refine (specPut_full ad cap es a p w hn ho.tab h0 h6).mono ?_
      rintro e w' ⟨rfl, hb⟩
      exact ⟨_, _, rfl, ho.below hb, hb⟩
    · rw [show putE es (a, p) = (es ++ [(a, p)], 500 + (es.length : Int)) from by unfold putE; rw [if_neg h, if_neg h6]]
      refine (specPut_new ad cap es a p w hn ho.tab h0 h6).mono ?_
      rintro e w' ⟨g, c, rfl, h1, hb⟩
      exact ⟨g, c, by simp, by simpa using h1.mono hB, hb⟩

end Go.Proofs.YtbcleehbfmbiiaaGreatDoor
