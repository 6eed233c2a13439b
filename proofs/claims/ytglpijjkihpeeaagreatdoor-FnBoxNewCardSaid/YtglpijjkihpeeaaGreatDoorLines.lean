/- Plain facts on lists of bytes: lines, streams, and what a line names. No program. No condition. -/
import Derived.Test.YtglpijjkihpeeaaGreatDoorNum
namespace Go.Proofs.YtglpijjkihpeeaaGreatDoor

/-- A byte that may stand in a line; a line. -/
def byteB (c : UInt8) : Bool := decide (97 ≤ c.toNat ∧ c.toNat ≤ 122) || decide (48 ≤ c.toNat ∧ c.toNat ≤ 57) || decide (c.toNat = 32)
def linB (l : List UInt8) : Bool := decide (l.length ≤ 16) && l.all byteB
/-- A text's lines, each ahead of its sign, and what is behind the last sign. -/
def stl (x : List (List UInt8) × List UInt8) (c : UInt8) : List (List UInt8) × List UInt8 := if c = 59 then (x.1 ++ [x.2], []) else (x.1, x.2 ++ [c])
def linesF (l : List UInt8) : List (List UInt8) × List UInt8 := l.foldl stl ([], [])
def linesL (l : List UInt8) : List (List UInt8) := (linesF l).1
def restL (l : List UInt8) : List UInt8 := (linesF l).2
theorem linesF_snoc (l : List UInt8) (c : UInt8) : linesF (l ++ [c]) = stl (linesF l) c := by simp [linesF]
def flatL (x : List (List UInt8) × List UInt8) : List UInt8 := (x.1.map (· ++ [59])).flatten ++ x.2
theorem flatL_stl (x : List (List UInt8) × List UInt8) (c : UInt8) : flatL (stl x c) = flatL x ++ [c] := by
  unfold stl flatL
  split
  · rename_i h; subst h; simp
  · simp
theorem flatL_fold (l : List UInt8) (x : List (List UInt8) × List UInt8) : flatL (l.foldl stl x) = flatL x ++ l := by
  induction l generalizing x with
  | nil => simp
  | cons c r ih => rw [List.foldl_cons, ih, flatL_stl]; simp
theorem flatL_lines (l : List UInt8) : flatL (linesF l) = l := by
  unfold linesF; rw [flatL_fold]; simp [flatL]
theorem drop_app (p r : List UInt8) : (p ++ r).drop ((p ++ r).length - r.length) = r := by
  rw [List.length_append, Nat.add_sub_cancel]; simp
/-- What is behind the last sign is the text's end. -/
theorem rest_drop (l : List UInt8) : restL l = l.drop (l.length - (restL l).length) := by
  have h : ((linesF l).1.map (· ++ [59])).flatten ++ restL l = l := flatL_lines l
  have h2 := drop_app ((linesF l).1.map (· ++ [59])).flatten (restL l)
  rw [h] at h2; exact h2.symm
theorem rest_le (l : List UInt8) : (restL l).length ≤ l.length := by
  have h3 := congrArg List.length (flatL_lines l)
  unfold flatL at h3
  rw [List.length_append] at h3
  unfold restL; omega
theorem lines_len (l : List UInt8) : (linesL l).length + (restL l).length ≤ l.length := by
  have key : ∀ (l : List UInt8) (x : List (List UInt8) × List UInt8), (l.foldl stl x).1.length + (l.foldl stl x).2.length ≤ x.1.length + x.2.length + l.length := by
    intro l
    induction l with
    | nil => intro x; simp
    | cons c r ih =>
      intro x
      rw [List.foldl_cons]
      have := ih (stl x c)
      have h2 : (stl x c).1.length + (stl x c).2.length ≤ x.1.length + x.2.length + 1 := by unfold stl; split <;> simp; omega
      simp; omega
  have := key l ([], [])
  simpa [linesL, restL, linesF] using this
theorem line_len {l x : List UInt8} (h : x ∈ linesL l) : x.length ≤ l.length := by
  have h3 := congrArg List.length (flatL_lines l)
  unfold flatL at h3
  rw [List.length_append] at h3
  have key : ∀ (xs : List (List UInt8)), x ∈ xs → x.length ≤ (xs.map (· ++ [59])).flatten.length := by
    intro xs
    induction xs with
    | nil => intro h; cases h
    | cons a r ih =>
      intro h
      rcases List.mem_cons.1 h with rfl | h
      · simp
      · have := ih h
        simp at this ⊢; omega
  unfold linesL at h
  have := key _ h
  omega
def strB (l : List UInt8) : Bool := decide (l.length ≤ 120) && (linesL l).all linB && linB (restL l)

/-- The word ahead of an end in a line. -/
def portL : List UInt8 := [112, 111, 114, 116, 32]

end Go.Proofs.YtglpijjkihpeeaaGreatDoor
