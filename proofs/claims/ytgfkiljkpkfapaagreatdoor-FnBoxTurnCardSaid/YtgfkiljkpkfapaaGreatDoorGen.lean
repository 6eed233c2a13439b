/- Small facts on texts, lists of texts that a call owns, and structs of two cells. No condition. -/
import Derived.Test.YtgfkiljkpkfapaaGreatDoorBase
import Derived.Test.YtgfkiljkpkfapaaGreatDoorNum
import Derived.OwnWalk
import Derived.Lib.Hide
import Derived.LoopTactic
import Derived.Lib.Strings
namespace Go.Proofs.YtgfkiljkpkfapaaGreatDoor
open Go.RowKit

theorem ret_int {k : IntKind} {a b : Int} (h : a = b) : Ending.returned (.int k a) = .returned (.int k b) := by rw [h]
theorem ret_bool {a b : Bool} (h : a = b) : Ending.returned (.bool a) = .returned (.bool b) := by rw [h]
theorem mem_at (s : ByteArray) (k : Nat) (h : k < s.size) : s[k] ∈ s.data.toList := by
  show s.data.toList[k]'(by simpa using h) ∈ s.data.toList
  exact List.getElem_mem _
theorem len_list (s : ByteArray) : s.data.toList.length = s.size := by simp
theorem take_snoc (s : ByteArray) (k : Nat) (h : k < s.size) : s.data.toList.take (k + 1) = s.data.toList.take k ++ [s[k]] := by
  rw [List.take_succ_eq_append_getElem (by simpa using h)]; rfl
theorem ext_one (s : ByteArray) (k : Nat) (h : k < s.size) (x : ByteArray) : x ++ s.extract k (k + 1) = ⟨(x.data.toList ++ [s[k]]).toArray⟩ := by
  apply ByteArray.ext
  apply Array.ext'
  simp
  rw [List.drop_eq_getElem_cons (by simpa using h)]
  rfl
theorem ext_list (s : ByteArray) (i j : Nat) : s.extract i j = ⟨((s.data.toList.take j).drop i).toArray⟩ := by
  apply ByteArray.ext
  apply Array.ext'
  simp [List.drop_take]

/-- A word as a value; the type of texts in the program's table. -/
def strV (l : List UInt8) : Value := .string ⟨l.toArray⟩
theorem infoStr : (Tryz.prog.info? 9).map (fun i => (i.zero, i.size, i.bytes)) = some (some (.string ⟨#[]⟩), 1, 16) := by kernel_rfl

/-- A list of the call's own that holds n cells: its form. -/
theorem own_form {w : World} {B n : Nat} {e : TypeId} {v : Value} {xs : List Value} (h : w.ownsRow B e 1 v n xs) : ∃ a cap, v = .slice a n cap := by
  rcases h.2 with ⟨rfl, rfl⟩ | ⟨g, cap, _, rfl, _⟩
  · exact ⟨_, _, rfl⟩
  · exact ⟨_, _, rfl⟩
/-- .. and its cells, if it has one. -/
theorem own_cells {w : World} {B n : Nat} {e : TypeId} {v : Value} {xs : List Value} (h : w.ownsRow B e 1 v n xs) (hn : 0 < n) :
    ∃ g cap, v = .slice (some ⟨g, 0, none⟩) n cap ∧ B ≤ g ∧ g < w.heap.size ∧ n ≤ cap ∧ ∀ i (hi : i < xs.length), w.cell? ⟨g, i, none⟩ = some xs[i] ∧ w.frozen? ⟨g, i, none⟩ = false := by
  have hlen := h.1
  rcases h.2 with ⟨_, h0⟩ | ⟨g, cap, cur, rfl, hB, hg, h2, _, hs, ht⟩
  · omega
  · have hlt := (Array.getElem?_eq_some_iff.1 hg).1
    obtain ⟨l⟩ := cur
    refine ⟨g, cap, rfl, hB, hlt, h2, fun i hi => ⟨?_, by simp [World.frozen?, hg]⟩⟩
    subst ht
    have : l[i]? = some ((l.take (n * 1))[i]) := by simp at hi ⊢
    simp [World.cell?, hg]

/-- What the call owns stays so where older blocks, and all that there are, stay as they were. -/
theorem own_below {w w' : World} {B n : Nat} {e : TypeId} {v : Value} {xs : List Value} (h : w.ownsRow B e 1 v n xs) (hb : Below w.heap.size w w') : w'.ownsRow B e 1 v n xs := by
  refine ⟨h.1, ?_⟩
  rcases h.2 with h2 | ⟨g, cap, cur, hv, hB, hg, h2, h3, hs, ht⟩
  · exact Or.inl h2
  · exact Or.inr ⟨g, cap, cur, hv, hB, (hb.block g (Array.getElem?_eq_some_iff.1 hg).1).trans hg, h2, h3, hs, ht⟩

theorem own_base {w : World} {B B' n : Nat} {e : TypeId} {v : Value} {xs : List Value} (h : w.ownsRow B e 1 v n xs) (hB : B' ≤ B) : w.ownsRow B' e 1 v n xs := by
  refine ⟨h.1, ?_⟩
  rcases h.2 with hn | ⟨g, cap, cur, hv, hbg, rest⟩
  · exact .inl hn
  · exact .inr ⟨g, cap, cur, hv, Nat.le_trans hB hbg, rest⟩
theorem cell_alloc_lt {w : World} {o : Obj} {b i : Nat} (h : b < w.heap.size) : (w.alloc o).cell? ⟨b, i, none⟩ = w.cell? ⟨b, i, none⟩ :=
  World.cell?_alloc_old w o ⟨b, i, none⟩ (Nat.ne_of_lt h)
theorem frozen_alloc_lt {w : World} {o : Obj} {b i : Nat} (h : b < w.heap.size) : (w.alloc o).frozen? ⟨b, i, none⟩ = w.frozen? ⟨b, i, none⟩ :=
  World.frozen?_of_block (Below.heap_alloc _ _ _ h)

/-- A cell of the second new block, behind a third one. -/
theorem cell_second (w : World) (A C : Obj) (cs : Array Value) (t : TypeId) (i : Nat) : (((w.alloc A).alloc (.cells cs t)).alloc C).cell? ⟨w.heap.size + 1, i, none⟩ = cs[i]? ∧ (((w.alloc A).alloc (.cells cs t)).alloc C).frozen? ⟨w.heap.size + 1, i, none⟩ = false := by
  have h := heap_alloc_new (w.alloc A) (.cells cs t)
  have hs : (w.alloc A).heap.size = w.heap.size + 1 := by simp
  rw [hs] at h
  rw [cell_alloc_lt (by simp), frozen_alloc_lt (by simp)]
  exact ⟨by simp only [World.cell?, h]; simp, by simp only [World.frozen?, h]; simp⟩

theorem cell_new (w : World) (cs : Array Value) (t : TypeId) (i : Nat) : (w.alloc (.cells cs t)).cell? ⟨w.heap.size, i, none⟩ = cs[i]? ∧ (w.alloc (.cells cs t)).frozen? ⟨w.heap.size, i, none⟩ = false := by
  have h := heap_alloc_new w (.cells cs t)
  exact ⟨by simp only [World.cell?, h]; simp, by simp only [World.frozen?, h]; simp⟩
/-- The cells of three new blocks, and of worlds in which they stay. -/
theorem cell_three {w w1 : World} {ca cb cc : Array Value} {ta tb tc : TypeId}
    (h : Below (((w.alloc (.cells ca ta)).alloc (.cells cb tb)).alloc (.cells cc tc)).heap.size (((w.alloc (.cells ca ta)).alloc (.cells cb tb)).alloc (.cells cc tc)) w1) :
    (∀ i, w1.cell? ⟨w.heap.size, i, none⟩ = ca[i]? ∧ w1.frozen? ⟨w.heap.size, i, none⟩ = false) ∧ (∀ i, w1.cell? ⟨w.heap.size + 1, i, none⟩ = cb[i]? ∧ w1.frozen? ⟨w.heap.size + 1, i, none⟩ = false) ∧
      (∀ i, w1.cell? ⟨w.heap.size + 1 + 1, i, none⟩ = cc[i]? ∧ w1.frozen? ⟨w.heap.size + 1 + 1, i, none⟩ = false) ∧ Below w.heap.size w w1 ∧ w.heap.size + 3 ≤ w1.heap.size := by
  have hs : (((w.alloc (.cells ca ta)).alloc (.cells cb tb)).alloc (.cells cc tc)).heap.size = w.heap.size + 3 := by simp
  have h2 : ((w.alloc (.cells ca ta)).alloc (.cells cb tb)).heap.size = w.heap.size + 2 := by simp
  rw [hs] at h
  have n1 := fun i => cell_new w ca ta i
  have n2 := fun i => cell_second w (.cells ca ta) (.cells cc tc) cb tb i
  have n3 := fun i => cell_new ((w.alloc (.cells ca ta)).alloc (.cells cb tb)) cc tc i
  rw [h2] at n3
  refine ⟨fun i => ?_, fun i => ?_, fun i => ?_, ?_, by have := h.size; rw [hs] at this; exact this⟩
  · rw [h.cell (p := ⟨w.heap.size, i, none⟩) (by simp), h.frozen (p := ⟨w.heap.size, i, none⟩) (by simp), cell_alloc_lt (by simp; omega), cell_alloc_lt (by simp), frozen_alloc_lt (by simp; omega), frozen_alloc_lt (by simp)]
    exact n1 i
  · rw [h.cell (p := ⟨w.heap.size + 1, i, none⟩) (by simp), h.frozen (p := ⟨w.heap.size + 1, i, none⟩) (by simp)]
    exact n2 i
  · rw [h.cell (p := ⟨w.heap.size + 1 + 1, i, none⟩) (by simp), h.frozen (p := ⟨w.heap.size + 1 + 1, i, none⟩) (by simp)]
    exact n3 i
  · exact ((((Below.refl _ _).alloc (Nat.le_refl _) _).alloc (by simp) _).alloc (by simp; omega) _).trans (h.mono (by omega))

/-- Two stores into one block, read back. -/
theorem set_two {w : World} {b : Nat} {x y : Value} (u v : Value) (h0 : w.cell? ⟨b, 0, none⟩ = some x) (h1 : w.cell? ⟨b, 1, none⟩ = some y) :
    (w.setCell ⟨b, 0, none⟩ u).cell? ⟨b, 0, none⟩ = some u ∧ ((w.setCell ⟨b, 0, none⟩ u).setCell ⟨b, 1, none⟩ v).cell? ⟨b, 0, none⟩ = some u ∧ ((w.setCell ⟨b, 0, none⟩ u).setCell ⟨b, 1, none⟩ v).cell? ⟨b, 1, none⟩ = some v := by
  have e0 := World.cell?_setCell_same w ⟨b, 0, none⟩ u h0
  have n1 : (⟨b, 0, none⟩ : Addr) ≠ ⟨b, 1, none⟩ := by intro e; injection e with e1 e2; omega
  have e1 : (w.setCell ⟨b, 0, none⟩ u).cell? ⟨b, 1, none⟩ = some y := (World.cell?_setCell_other w _ _ u n1).trans h1
  exact ⟨e0, (World.cell?_setCell_other _ _ _ v (Ne.symm n1)).trans e0, World.cell?_setCell_same _ ⟨b, 1, none⟩ v e1⟩

end Go.Proofs.YtgfkiljkpkfapaaGreatDoor
