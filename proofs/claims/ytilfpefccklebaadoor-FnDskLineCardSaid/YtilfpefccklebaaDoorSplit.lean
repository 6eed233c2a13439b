/- strings.Split at a space gives the words. Condition: the text has at most 2^21 bytes; the library's variable of the longest text that is looked for at once holds a number. -/
import Derived.Test.YtilfpefccklebaaDoorShelf
import Derived.Test.YtilfpefccklebaaDoorWordS
import Derived.Test.YtilfpefccklebaaDoorWords
import Derived.Test.YtilfpefccklebaaDoorFlat
import Derived.Shelf.Strings.Split
import Derived.Below
namespace Go.Proofs.YtilfpefccklebaaDoor
open Go.RowKit

theorem splitW_any (s : ByteArray) (w : World) (hs : s.size ≤ 2097152) (hv : ∃ m : Int, w.cell? ⟨1, 0, none⟩ = some (.int .i64 m)) :
    Calls Tryd.prog 30 #[.string s, .string ⟨#[32]⟩] w fun e w' => ∃ g, e = .returned (.slice (some ⟨g, 0, none⟩) (wordsL s.data.toList).length (wordsL s.data.toList).length) ∧ g < w'.heap.size ∧ RowAt w' g ((wordsL s.data.toList).map strV) ∧ Below w.heap.size w w' := by
  obtain ⟨m, hm⟩ := hv
  have hl : (wordsL s.data.toList).length = Lib.countB s ⟨#[32]⟩ + 1 := by
    rw [← splitB_words, List.length_map]
    exact Lib.splitB_all ⟨#[32]⟩ (by decide) 0 _ s rfl
  have hc : (Lib.splitB ⟨#[32]⟩ 0 (Lib.countB s ⟨#[32]⟩) s).map Value.string = (wordsL s.data.toList).map strV := by
    rw [← splitB_words, List.map_map]
    apply List.map_congr_left
    intro b _
    rfl
  refine (Any.strings_Split Tryd.lays146 (by kernel_rfl) s ⟨#[32]⟩ m w (by omega) hm (by decide)).mono ?_
  rintro e w' ⟨rfl, rfl⟩
  refine ⟨w.heap.size, by rw [hl], by simp, fun i hi => ?_, (Below.refl _ _).alloc (Nat.le_refl _) _⟩
  rw [hc]
  obtain ⟨h1, h2⟩ := cell_new w ((wordsL s.data.toList).map strV).toArray 9 i
  exact ⟨h1.trans (by rw [List.getElem?_toArray, List.getElem?_eq_getElem hi]), h2⟩

theorem wordS_le {l x : List UInt8} (h : x ∈ wordsL l) : x.length ≤ l.length := by
  have h1 := flatW_fold l ([], [])
  have h2 : flatW (wordsF l) = l := by unfold wordsF; rw [h1]; simp [flatW]
  rw [← h2]
  unfold wordsL at h
  unfold flatW
  rcases List.mem_append.1 h with h | h
  · obtain ⟨a, b, e⟩ := List.append_of_mem h
    rw [e]; simp; omega
  · simp at h; subst h; simp

end Go.Proofs.YtilfpefccklebaaDoor
