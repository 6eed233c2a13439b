/- l3Copy, MapPort and l3Put of the specification; l3Put where the end has a port or there is no room. Condition: the table has at most 2^22 ends. -/
import Derived.Test.YtpilmldcmpbabaaDoorOwnEnds
import Derived.Test.YtpilmldcmpbabaaDoorSMap
import Derived.Laws.AppendOwnNone
import Derived.Deep.RegionHeld3
import Derived.Deep.AppendLies
import Derived.Deep.RegionLaw
import Derived.Deep.DeepCutAuto
namespace Go.Proofs.YtpilmldcmpbabaaDoor
open Go.RowKit Go.Sort

theorem own_someform {w : World} {base : Nat} {e : TypeId} {size : Nat} {v : Value} {n : Nat} {xs : List Value} (h : w.ownsRow base e size v n xs) (hne : v ≠ .slice none 0 0) : ∃ g cap, v = .slice (some ⟨g, 0, none⟩) n cap ∧ base ≤ g := by
  rcases h.2 with ⟨h0, _⟩ | ⟨g, cap, _, hv, hb, _⟩
  · exact absurd h0 hne
  · exact ⟨g, cap, hv, hb⟩

end Go.Proofs.YtpilmldcmpbabaaDoor
