/- The law of SegRead, at all bytes. Condition: the sentinels that are read are there. -/
import Derived.Test.YtpaodaakoneglaaDoorImpR5
import Derived.Test.YtpaodaakoneglaaDoorByLaw
namespace Go.Proofs.YtpaodaakoneglaaDoor
open Go.RowKit

theorem specRead5_any (g : Nat) (l : List UInt8) (w : World) (hl : l.length ≤ 2097152) (hg : g < w.heap.size) (hr : RowAt w g (byV l)) :
    Calls Tryd.prog 17 #[.slice (some ⟨g, 0, none⟩) l.length l.length] w fun e w' => e = .returned (rdAns5 l) ∧ Below w.heap.size w w' := by
  by_cases h1 : l.length < 15 ∨ 27 < l.length
  · exact specRead5_short g l.length l.length l w rfl hl h1
  · obtain ⟨n, hn⟩ : ∃ n, n = l.length - 15 := ⟨_, rfl⟩
    by_cases h2 : (l[12]?.getD 0).toNat = n
    · by_cases h3 : numAt l (13 + n) = sumL (l.take (13 + n))
      · exact specRead5_fit g l.length l.length n l w rfl (Nat.le_refl _) (by omega) (by omega) hg hr h2 h3
      · exact specRead5_sum g l.length l.length n l w rfl (Nat.le_refl _) (by omega) (by omega) hg hr h2 h3
    · exact specRead5_size g l.length l.length n l w rfl (by omega) (by omega) hg hr h2

theorem rd_row {w : World} {g : Nat} {l : List UInt8} (h : RowAt w g (byV l)) : RdB w (.slice (some ⟨g, 0, none⟩) l.length l.length) l := ⟨_, _, rfl, Nat.le_refl _, fun _ => ⟨g, rfl, h⟩⟩

end Go.Proofs.YtpaodaakoneglaaDoor
