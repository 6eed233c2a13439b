/- Plain facts on lines that say what happens: their words, their numbers, and what they say. No program. No condition. -/
import Derived.Test.YtilfpefccklebaaDoorNum
import Derived.Test.YtilfpefccklebaaDoorWordS
namespace Go.Proofs.YtilfpefccklebaaDoor

/-- What happens: its kind, who, where, how many, how it is turned. -/
structure Ev where
  k : Int
  a : Int
  b : Int
  c : Int
  d : Int
def nameL : Nat → List UInt8
  | 1 => [115, 101, 110, 100] | 2 => [114, 101, 112, 108, 121] | 3 => [104, 101, 97, 114] | 4 => [108, 111, 115, 101]
  | 5 => [116, 119, 105, 99, 101] | 6 => [98, 101, 110, 100] | 7 => [100, 97, 116, 97] | 8 => [119, 111, 114, 100] | _ => []
/-- The kind by its word; 0, if there is none. -/
def kindL (x : List UInt8) : Nat :=
  if x = nameL 1 then 1 else if x = nameL 2 then 2 else if x = nameL 3 then 3 else if x = nameL 4 then 4
  else if x = nameL 5 then 5 else if x = nameL 6 then 6 else if x = nameL 7 then 7 else if x = nameL 8 then 8 else 0
/-- How many numbers it has, and whether the first of them is who. -/
def arN (k : Nat) : Nat := if k = 1 ∨ k = 2 ∨ k = 6 then 3 else if k = 8 then 2 else 1
def whoB (k : Nat) : Bool := decide (k = 1 ∨ k = 2 ∨ k = 8)
def evOf (k : Nat) (xs : List Int) : Ev := if whoB k = true then ⟨k, xs.getD 0 0, xs.getD 1 0, xs.getD 2 0, 0⟩ else ⟨k, 0, xs.getD 0 0, xs.getD 1 0, xs.getD 2 0⟩
def allN (r : List (List UInt8)) : Bool := r.all (fun y => decide (0 ≤ numL y))
def evW : List (List UInt8) → Option Ev
  | [] => none
  | x :: r => if kindL x ≠ 0 ∧ r.length = arN (kindL x) ∧ allN r = true then some (evOf (kindL x) (r.map numL)) else none
def evT (l : List UInt8) : Option Ev := if 30 < l.length then none else evW (wordsL l)
def evQ : Option Ev → Ev × Bool
  | some e => (e, true)
  | none => (⟨0, 0, 0, 0, 0⟩, false)
/-- The text of what happens. -/
def numsE (k : Nat) (a b c d : Nat) : List Nat := if k = 1 ∨ k = 2 then [a, b, c] else if k = 6 then [b, c, d] else if k = 8 then [a, b] else [b]
def evTx (k : Nat) (xs : List Nat) : List UInt8 := nameL k ++ (xs.map fun n => 32 :: Lib.decDigits n).flatten

theorem kindL_le (x : List UInt8) : kindL x ≤ 8 := by unfold kindL; repeat' split
                                                      all_goals omega
theorem kindL_name {k : Nat} (h1 : 1 ≤ k) (h8 : k ≤ 8) : kindL (nameL k) = k := by
  have : k = 1 ∨ k = 2 ∨ k = 3 ∨ k = 4 ∨ k = 5 ∨ k = 6 ∨ k = 7 ∨ k = 8 := by omega
  rcases this with rfl | rfl | rfl | rfl | rfl | rfl | rfl | rfl <;> decide
theorem kindL_spec (x : List UInt8) : (kindL x = 0 ∧ ∀ k, 1 ≤ k → k ≤ 8 → x ≠ nameL k) ∨ (1 ≤ kindL x ∧ kindL x ≤ 8 ∧ x = nameL (kindL x)) := by
  by_cases h : ∃ k, 1 ≤ k ∧ k ≤ 8 ∧ x = nameL k
  · obtain ⟨k, h1, h8, rfl⟩ := h
    right
    rw [kindL_name h1 h8]
    exact ⟨h1, h8, rfl⟩
  · left
    have hn : ∀ k, 1 ≤ k → k ≤ 8 → x ≠ nameL k := fun k a b e => h ⟨k, a, b, e⟩
    refine ⟨?_, hn⟩
    unfold kindL
    rw [if_neg (hn 1 (by omega) (by omega)), if_neg (hn 2 (by omega) (by omega)), if_neg (hn 3 (by omega) (by omega)), if_neg (hn 4 (by omega) (by omega)), if_neg (hn 5 (by omega) (by omega)), if_neg (hn 6 (by omega) (by omega)), if_neg (hn 7 (by omega) (by omega)), if_neg (hn 8 (by omega) (by omega))]
theorem nameL_no_space (k : Nat) (h : k ≤ 8) : ∀ c ∈ nameL k, c ≠ 32 := by
  have : k = 0 ∨ k = 1 ∨ k = 2 ∨ k = 3 ∨ k = 4 ∨ k = 5 ∨ k = 6 ∨ k = 7 ∨ k = 8 := by omega
  rcases this with rfl | rfl | rfl | rfl | rfl | rfl | rfl | rfl | rfl <;> decide
/-- A text is its words, one space between. -/
theorem words_join {x : List UInt8} (hx : ∀ c ∈ x, c ≠ 32) (ys : List (List UInt8)) (hy : ∀ y ∈ ys, ∀ c ∈ y, c ≠ 32) : wordsL (x ++ (ys.map (32 :: ·)).flatten) = x :: ys := by
  induction ys generalizing x with
  | nil => simp; exact words_one hx
  | cons y r ih =>
    have e : x ++ ((y :: r).map (32 :: ·)).flatten = x ++ 32 :: (y ++ (r.map (32 :: ·)).flatten) := by simp
    rw [e, words_cons hx, ih (hy y (by simp)) (fun z hz => hy z (by simp [hz]))]
theorem flat_join (a : List (List UInt8)) (b x : List UInt8) (r : List (List UInt8)) (h : a ++ [b] = x :: r) : (a.map (· ++ [32])).flatten ++ b = x ++ (r.map (32 :: ·)).flatten := by
  induction a generalizing x r with
  | nil => simp at h; obtain ⟨rfl, rfl⟩ := h; simp
  | cons y s ih =>
    simp at h
    obtain ⟨rfl, rfl⟩ := h
    match hs : s ++ [b] with
    | [] => simp at hs
    | z :: t =>
      have := ih z t hs
      simp only [List.map_cons, List.flatten_cons, List.append_assoc]
      rw [this]; simp
theorem join_words {l x : List UInt8} {r : List (List UInt8)} (h : wordsL l = x :: r) : l = x ++ (r.map (32 :: ·)).flatten := by
  have h1 := flatW_fold l ([], [])
  have h2 := flat_join (wordsF l).1 (wordsF l).2 x r h
  rw [← h2]
  have : flatW (wordsF l) = l := by unfold wordsF; rw [h1]; simp [flatW]
  conv => lhs; rw [← this]
  rfl
theorem words_ne (l : List UInt8) : wordsL l ≠ [] := by unfold wordsL; simp
theorem words_no_space (l : List UInt8) : ∀ y ∈ wordsL l, ∀ c ∈ y, c ≠ 32 := by
  have key : ∀ (l : List UInt8) (x : List (List UInt8) × List UInt8), (∀ y ∈ x.1, ∀ c ∈ y, c ≠ 32) → (∀ c ∈ x.2, c ≠ 32) → (∀ y ∈ (l.foldl stp x).1, ∀ c ∈ y, c ≠ 32) ∧ (∀ c ∈ (l.foldl stp x).2, c ≠ 32) := by
    intro l
    induction l with
    | nil => intro x h1 h2; exact ⟨h1, h2⟩
    | cons b r ih =>
      intro x h1 h2
      rw [List.foldl_cons]
      by_cases hb : b = 32
      · have e : stp x b = (x.1 ++ [x.2], []) := by simp [stp, hb]
        rw [e]
        refine ih _ ?_ (by simp)
        intro y hy
        rcases List.mem_append.1 hy with hy | hy
        · exact h1 y hy
        · simp at hy; subst hy; exact h2
      · have e : stp x b = (x.1, x.2 ++ [b]) := by simp [stp, hb]
        rw [e]
        refine ih _ h1 ?_
        intro c hc
        rcases List.mem_append.1 hc with hc | hc
        · exact h2 c hc
        · simp at hc; subst hc; exact hb
  have := key l ([], []) (by simp) (by simp)
  intro y hy
  unfold wordsL at hy
  rcases List.mem_append.1 hy with hy | hy
  · exact this.1 y hy
  · simp at hy; subst hy; exact this.2
theorem numL_le (l : List UInt8) : numL l ≤ 9999 := by
  unfold numL
  split
  · omega
  · rename_i hlen
    split
    · rename_i hd
      split
      · have h3 := valL_lt l hd
        have h4 : 10 ^ l.length ≤ 10 ^ 4 := Nat.pow_le_pow_right (by omega) (by omega)
        omega
      · omega
    · omega
theorem allN_map {r : List (List UInt8)} (h : allN r = true) : r = (r.map fun y => Lib.decDigits (numL y).toNat) := by
  induction r with
  | nil => rfl
  | cons y s ih =>
    unfold allN at h
    simp only [List.all_cons, Bool.and_eq_true, decide_eq_true_eq] at h
    rw [List.map_cons, ← ih h.2, ← numL_inv h.1]
/-- The text of what a line's words say is the line just if it has as many numbers as its kind has. -/
theorem evTx_words (k : Nat) (hk : k ≤ 8) (xs : List Nat) : wordsL (evTx k xs) = nameL k :: xs.map Lib.decDigits := by
  have := words_join (x := nameL k) (nameL_no_space k hk) (xs.map Lib.decDigits) (by
    intro y hy
    simp at hy
    obtain ⟨n, _, rfl⟩ := hy
    exact dec_no_space n)
  rw [List.map_map] at this
  exact this
theorem evTx_line {l : List UInt8} {k : Nat} {r : List (List UInt8)} (hw : wordsL l = nameL k :: r) (h : allN r = true) : l = evTx k (r.map fun y => (numL y).toNat) := by
  have h1 := join_words hw
  conv at h1 => rhs; rw [allN_map h]
  rw [h1]
  unfold evTx
  rw [List.map_map, List.map_map]
  rfl
theorem evTx_ne {l : List UInt8} {k : Nat} (hk : k ≤ 8) {r : List (List UInt8)} (hw : wordsL l = nameL k :: r) (xs : List Nat) (h : xs.length ≠ r.length) : evTx k xs ≠ l := by
  intro e
  have := evTx_words k hk xs
  rw [e, hw] at this
  have := congrArg List.length this
  simp at this
  omega
theorem dec_len5 {n : Nat} (h : n ≤ 9999) : (32 :: Lib.decDigits n).length ≤ 5 := by have := dec_len4 h; simp; omega

end Go.Proofs.YtilfpefccklebaaDoor
