/- How the law compares lists of streams, marks them and finds the marks again. Condition: at most 2^22 streams. -/
import Derived.Test.YtgfkiljkpkfapaaGreatDoorCnMem
import Derived.Test.YtgfkiljkpkfapaaGreatDoorMark
import Derived.Test.YtgfkiljkpkfapaaGreatDoorEqEnd
import Derived.Deep.RegionWith
import Derived.Deep.RegionHeld3
namespace Go.Proofs.YtgfkiljkpkfapaaGreatDoor
open Go.RowKit Go.Sort

/-- A mark's text, as a value of a field. -/
def mkT (k : Nat) : ByteArray := ⟨(markL k).toArray⟩
/-- n marks of streams, from k on. -/
def marksC (k n : Nat) : List Cn := (List.range n).map fun i => ⟨(k + 7 * i : Nat), (k + 7 * i + 1 : Nat), (k + 7 * i + 2 : Nat), (k + 7 * i + 3 : Nat), mkT (k + 7 * i + 4), mkT (k + 7 * i + 5), mkT (k + 7 * i + 6)⟩
theorem marksC_len (k n : Nat) : (marksC k n).length = n := by simp [marksC]
theorem marksC_at (k n i : Nat) (h : i < (marksC k n).length) : (marksC k n)[i] = ⟨(k + 7 * i : Nat), (k + 7 * i + 1 : Nat), (k + 7 * i + 2 : Nat), (k + 7 * i + 3 : Nat), mkT (k + 7 * i + 4), mkT (k + 7 * i + 5), mkT (k + 7 * i + 6)⟩ := by simp [marksC]
theorem set_rightC {α : Type} (X Y : List α) (i : Nat) (v : α) : (X ++ Y).set (X.length + i) v = X ++ Y.set i v := by
  rw [List.set_append_right _ _ (by omega)]; congr 2; omega
theorem flat_setC (A C : List Cn) (o p : Cn) :
    ((((((((flatC cnC (A ++ o :: C)).set (A.length * 7) (.int .i64 p.ia)).set (A.length * 7 + 1) (.int .i64 p.ip)).set (A.length * 7 + 2) (.int .i64 p.oa)).set (A.length * 7 + 3) (.int .i64 p.op)).set (A.length * 7 + 4) (.string p.kn)).set (A.length * 7 + 5) (.string p.he)).set (A.length * 7 + 6) (.string p.ne)) = flatC cnC (A ++ p :: C) := by
  have hX := flatC_len cnC_len A
  rw [flatC_app, flatC_app]
  obtain ⟨X, hx⟩ : ∃ X, X = flatC cnC A := ⟨_, rfl⟩
  rw [← hx] at hX ⊢
  rw [← hX]
  have h0 := set_rightC X (flatC cnC (o :: C)) 0 (.int .i64 p.ia)
  simp only [Nat.add_zero] at h0
  rw [h0, set_rightC, set_rightC, set_rightC, set_rightC, set_rightC, set_rightC]
  rfl
theorem marksC_next {k : Nat} {xs : List Cn} {j : Nat} (h : j < xs.length) :
    (marksC k xs.length).take j ++ xs.drop j = (marksC k xs.length).take j ++ xs[j] :: xs.drop (j + 1) ∧
    (marksC k xs.length).take (j + 1) ++ xs.drop (j + 1) = (marksC k xs.length).take j ++ ⟨(k + 7 * j : Nat), (k + 7 * j + 1 : Nat), (k + 7 * j + 2 : Nat), (k + 7 * j + 3 : Nat), mkT (k + 7 * j + 4), mkT (k + 7 * j + 5), mkT (k + 7 * j + 6)⟩ :: xs.drop (j + 1) := by
  refine ⟨by rw [List.drop_eq_getElem_cons h], ?_⟩
  rw [List.take_succ_eq_append_getElem (by rw [marksC_len]; exact h), marksC_at]
  simp
/-- Stores into an element, so far. -/
def cn4 (j : Nat) (L : List Cn) (v0 v1 v2 v3 : Value) : List Value := (((((flatC cnC L).set (j * 7) v0).set (j * 7 + 1) v1).set (j * 7 + 2) v2).set (j * 7 + 3) v3)
theorem cn4_len (j : Nat) (L : List Cn) (v0 v1 v2 v3 : Value) : (cn4 j L v0 v1 v2 v3).length = L.length * 7 := by simp [cn4, flatC_len cnC_len]
theorem RowAt.cn4 {w : World} {g j : Nat} {L : List Cn} (h : RowAt w g (flatC cnC L)) (hj : j < L.length) (v0 v1 v2 v3 : Value) :
    RowAt ((((w.setCell ⟨g, j * 7, none⟩ v0).setCell ⟨g, j * 7 + 1, none⟩ v1).setCell ⟨g, j * 7 + 2, none⟩ v2).setCell ⟨g, j * 7 + 3, none⟩ v3) g (cn4 j L v0 v1 v2 v3) := by
  have hl : (flatC cnC L).length = L.length * 7 := flatC_len cnC_len L
  exact (((h.set (by omega) _).set (by simp only [List.length_set]; omega) _).set (by simp only [List.length_set]; omega) _).set (by simp only [List.length_set]; omega) _
theorem cn7_all {A C : List Cn} {o p : Cn} {j : Nat} (hj : A.length = j) : (((cn4 j (A ++ o :: C) (.int .i64 p.ia) (.int .i64 p.ip) (.int .i64 p.oa) (.int .i64 p.op)).set (j * 7 + 4) (.string p.kn)).set (j * 7 + 5) (.string p.he)).set (j * 7 + 6) (.string p.ne) = flatC cnC (A ++ p :: C) := by
  subst hj
  exact flat_setC A C o p

end Go.Proofs.YtgfkiljkpkfapaaGreatDoor
