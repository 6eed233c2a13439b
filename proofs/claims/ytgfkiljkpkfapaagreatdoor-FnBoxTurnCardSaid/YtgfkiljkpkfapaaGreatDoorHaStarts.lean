/- How the laws say that a text begins with another one. No condition. -/
import Derived.Test.YtgfkiljkpkfapaaGreatDoorGen
namespace Go.Proofs.YtgfkiljkpkfapaaGreatDoor
open Go.RowKit

set_option maxRecDepth 100000 in
set_option maxHeartbeats 800000 in
theorem haStarts_pre (s p : ByteArray) (q : List UInt8) (w : World) (h : s.data.toList = p.data.toList ++ q) :
    Calls Tryz.prog 57 #[.string s, .string p] w fun e w' => e = .returned (.bool true) ∧ w = w' := by
  have hl : p.size ≤ s.size := by
    have := congrArg List.length h
    rw [List.length_append, len_list, len_list] at this
    omega
  have hli : (p.size : Int) ≤ (s.size : Int) := by omega
  have hx : s.extract 0 p.size = p := by
    apply ByteArray.ext
    apply Array.ext'
    rw [ext_list, List.drop_zero]
    simp only
    rw [h, ← len_list p, List.take_left']
    rfl
  have hb : ((s.extract 0 p.size).toList == p.toList) = true := by rw [hx]; simp
  clear h hx
  go_enter Tryz.func57, Tryz.ntmps57
  go_wp2_with fail
  go_ret
  exact ⟨ret_bool (by simp), rfl⟩

end Go.Proofs.YtgfkiljkpkfapaaGreatDoor
