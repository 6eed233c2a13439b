/- The table and the stream that are drawn for the laws of spans. Condition: the code lies in memory. -/
import Derived.Test.YtoidmmedpefjfaaGreatDoorDrawRS
namespace Go.Proofs.YtoidmmedpefjfaaGreatDoor
open Go.RowKit Go.Sort

set_option maxRecDepth 100000 in
set_option maxHeartbeats 1600000 in
theorem drawPosSpans_any (ao : Option Addr) (n cap : Nat) (w : World) (h : BytesIn w ao n) (hn : n ≤ cap) :
    Calls Tryz.prog 31 #[.slice ao n cap] w fun e w' => ∃ g c us s, e = .returned (.tuple #[.agg #[.slice g (us : List (Int × Int)).length c], .string (s : ByteArray)]) ∧ OwnTab w' w.heap.size (.slice g us.length c) us ∧ (us.length ≤ 8 ∧ SmE us) ∧ s.size ≤ 200 ∧ Below w.heap.size w w' := by
  have H := Lib.hid h
  clear h
  go_enter Tryz.func31, Tryz.ntmps31
  go_wp2_with fail
  (go_at_call 26; refine (drawRwrStream_any ao n cap _ (H.out.below ((Below.refl _ _).alloc (Nat.le_refl _) _)) hn).mono ?_; rintro e w2 ⟨g, c, us, s, rfl, ho, hu, hs, b2⟩)
  have x2 : w2.cell? ⟨w.heap.size, 0, none⟩ = some (.slice none 0 0) := by rw [b2.cell (by simp)]; simp
  have f2 : w2.frozen? ⟨w.heap.size, 0, none⟩ = false := by rw [b2.frozen (by simp)]; exact (cell_new w _ _ 0).2
  have HO := Lib.hid ho
  have HU := Lib.hid hu
  have BA : Hid (Below w.heap.size w w2) := ((Below.refl _ w).alloc (Nat.le_refl _) _).trans (b2.mono (by simp))
  clear ho hu b2
  go_wp2_with fail
  exact bodyPost_ret (v := .tuple #[.agg #[.slice g us.length c], .string s]) (by simp [results, Tryz.results31, go_sem, World.cell?_setCell_same _ _ _ x2]) rfl ⟨_, _, us, s, rfl, OwnTab.mono (ownsRow_setCell_below (a := ⟨w.heap.size, 0, none⟩) HO.out (by simp) _) (by simp), HU.out, hs, BA.out.setCell (Nat.le_refl _) _⟩

end Go.Proofs.YtoidmmedpefjfaaGreatDoor
