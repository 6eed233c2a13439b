/- Spans of lines side by side, as data. No condition. -/
import Derived.Test.YtoidmmedpefjfaaGreatDoorGen
import Derived.Test.YtoidmmedpefjfaaGreatDoorLines
namespace Go.Proofs.YtoidmmedpefjfaaGreatDoor
open Go.RowKit

/-- A line and what it is on the other side. -/
def insL (l : List (List UInt8 × List UInt8)) : Nat := (l.map fun p => p.1.length + 1).sum
def outsL (l : List (List UInt8 × List UInt8)) : Nat := (l.map fun p => p.2.length + 1).sum
theorem insL_app (a b : List (List UInt8 × List UInt8)) : insL (a ++ b) = insL a + insL b := by simp [insL]
theorem outsL_app (a b : List (List UInt8 × List UInt8)) : outsL (a ++ b) = outsL a + outsL b := by simp [outsL]
theorem insL_succ {l : List (List UInt8 × List UInt8)} {k : Nat} (h : k < l.length) : insL (l.take (k + 1)) = insL (l.take k) + (l[k].1.length + 1) := by
  rw [List.take_succ_eq_append_getElem h, insL_app]; simp [insL]
theorem outsL_succ {l : List (List UInt8 × List UInt8)} {k : Nat} (h : k < l.length) : outsL (l.take (k + 1)) = outsL (l.take k) + (l[k].2.length + 1) := by
  rw [List.take_succ_eq_append_getElem h, outsL_app]; simp [outsL]
theorem insL_mono (l : List (List UInt8 × List UInt8)) {a b : Nat} (h : a ≤ b) : insL (l.take a) ≤ insL (l.take b) := by
  obtain ⟨t, ht⟩ := (List.take_prefix_take_left h : l.take a <+: l.take b)
  rw [← ht, insL_app]; omega
theorem outsL_mono (l : List (List UInt8 × List UInt8)) {a b : Nat} (h : a ≤ b) : outsL (l.take a) ≤ outsL (l.take b) := by
  obtain ⟨t, ht⟩ := (List.take_prefix_take_left h : l.take a <+: l.take b)
  rw [← ht, outsL_app]; omega
theorem insL_le (l : List (List UInt8 × List UInt8)) (a : Nat) : insL (l.take a) ≤ insL l := by
  have := insL_mono l (Nat.le_max_left a l.length)
  rw [List.take_of_length_le (Nat.le_max_right a l.length)] at this
  exact this
theorem outsL_le (l : List (List UInt8 × List UInt8)) (a : Nat) : outsL (l.take a) ≤ outsL l := by
  have := outsL_mono l (Nat.le_max_left a l.length)
  rw [List.take_of_length_le (Nat.le_max_right a l.length)] at this
  exact this
theorem sum_flat (xs : List (List UInt8)) : ((xs.map (· ++ [59])).flatten).length = (xs.map fun x => x.length + 1).sum := by
  induction xs with
  | nil => rfl
  | cons x r ih => simp [ih]; omega
theorem lines_sum (s : List UInt8) : ((linesL s).map fun x => x.length + 1).sum ≤ s.length := by
  have h : (flatL (linesF s)).length = s.length := by rw [flatL_lines]
  unfold flatL at h
  rw [List.length_append, sum_flat] at h
  unfold linesL
  omega
theorem zip_ins (xs ys : List (List UInt8)) : insL (xs.zip ys) ≤ (xs.map fun x => x.length + 1).sum := by
  induction xs generalizing ys with
  | nil => simp [insL]
  | cons x r ih =>
    cases ys with
    | nil => simp [insL]
    | cons y t => have := ih t; simp [insL] at this ⊢; omega
theorem zip_outs (xs ys : List (List UInt8)) : outsL (xs.zip ys) ≤ (ys.map fun x => x.length + 1).sum := by
  induction xs generalizing ys with
  | nil => simp [outsL]
  | cons x r ih =>
    cases ys with
    | nil => simp [outsL]
    | cons y t => have := ih t; simp [outsL] at this ⊢; omega

/-- A span: from, to, out at, out to, plain. -/
def spAt (l : List (List UInt8 × List UInt8)) (k : Nat) : Nat × Nat × Nat × Nat × Bool :=
  (insL (l.take k), insL (l.take (k + 1)), outsL (l.take k), outsL (l.take (k + 1)), decide ((l[k]?.getD ([], [])).2 = (l[k]?.getD ([], [])).1))
def spansL (l : List (List UInt8 × List UInt8)) : List (Nat × Nat × Nat × Nat × Bool) := (List.range l.length).map (spAt l)
theorem spansL_len (l : List (List UInt8 × List UInt8)) : (spansL l).length = l.length := by simp [spansL]
theorem spansL_at (l : List (List UInt8 × List UInt8)) (k : Nat) (h : k < (spansL l).length) : (spansL l)[k] = spAt l k := by simp [spansL]
theorem spansL_succ {l : List (List UInt8 × List UInt8)} {k : Nat} (h : k < l.length) : (spansL l).take (k + 1) = (spansL l).take k ++ [spAt l k] := by
  rw [List.take_succ_eq_append_getElem (by rw [spansL_len]; exact h), spansL_at]
/-- The cells of a span. -/
def spC (p : Nat × Nat × Nat × Nat × Bool) : List Value := [.int .i64 p.1, .int .i64 p.2.1, .int .i64 p.2.2.1, .int .i64 p.2.2.2.1, .bool p.2.2.2.2]
theorem spC_len (p : Nat × Nat × Nat × Nat × Bool) : (spC p).length = 5 := rfl
theorem spC_one (p : Nat × Nat × Nat × Nat × Bool) : ∀ u ∈ spC p, u.oneCell' = true := by
  intro u hu
  simp [spC] at hu
  rcases hu with rfl | rfl | rfl | rfl | rfl <;> rfl
/-- A line lies here. -/
def pairsL (s far : List UInt8) : List (List UInt8 × List UInt8) := (linesL s).zip (linesL far)
theorem pairsL_ins (s far : List UInt8) : insL (pairsL s far) ≤ s.length := Nat.le_trans (zip_ins _ _) (lines_sum s)
theorem pairsL_outs (s far : List UInt8) : outsL (pairsL s far) ≤ far.length := Nat.le_trans (zip_outs _ _) (lines_sum far)
theorem insL_ge (l : List (List UInt8 × List UInt8)) : l.length ≤ insL l := by
  induction l with
  | nil => simp [insL]
  | cons x r ih => simp [insL] at ih ⊢; omega

/-- How many of n places are not yet past what is looked for. -/
theorem count_at (p : Nat → Bool) (n k : Nat) (hk : k ≤ n) (h0 : ∀ i, i < k → p i = false) (h1 : ∀ i, k ≤ i → i < n → p i = true) : (List.range n).countP (fun i => !p i) = k := by
  obtain ⟨d, rfl⟩ : ∃ d, n = k + d := ⟨n - k, by omega⟩
  rw [List.range_add, List.countP_append, List.countP_eq_length.2, List.countP_eq_zero.2]
  · simp
  · intro x hx
    simp only [List.mem_map, List.mem_range] at hx
    obtain ⟨y, hy, rfl⟩ := hx
    rw [h1 (k + y) (by omega) (by omega)]; simp
  · intro x hx
    rw [List.mem_range] at hx
    rw [h0 x hx]; rfl
/-- Which line stands at a place here, and which one at a place there. -/
def pIn (l : List (List UInt8 × List UInt8)) (a : Int) (i : Nat) : Bool := decide (a < ((insL (l.take (i + 1)) : Nat) : Int))
def pOut (l : List (List UInt8 × List UInt8)) (a : Int) (i : Nat) : Bool := decide (a < ((outsL (l.take (i + 1)) : Nat) : Int))
theorem pIn_mono (l : List (List UInt8 × List UInt8)) (a : Int) (n : Nat) : ∀ i j, i ≤ j → j < n → pIn l a i = true → pIn l a j = true := by
  intro i j h _ h1
  have := insL_mono l (show i + 1 ≤ j + 1 by omega)
  simp [pIn] at h1 ⊢; omega
theorem pOut_mono (l : List (List UInt8 × List UInt8)) (a : Int) (n : Nat) : ∀ i j, i ≤ j → j < n → pOut l a i = true → pOut l a j = true := by
  intro i j h _ h1
  have := outsL_mono l (show i + 1 ≤ j + 1 by omega)
  simp [pOut] at h1 ⊢; omega
def kIn (l : List (List UInt8 × List UInt8)) (a : Int) : Nat := (List.range l.length).countP (fun i => !pIn l a i)
def kOut (l : List (List UInt8 × List UInt8)) (a : Int) : Nat := (List.range l.length).countP (fun i => !pOut l a i)
theorem kIn_le (l : List (List UInt8 × List UInt8)) (a : Int) : kIn l a ≤ l.length := by
  have := List.countP_le_length (p := fun i => !pIn l a i) (l := List.range l.length)
  simpa [kIn] using this
theorem kOut_le (l : List (List UInt8 × List UInt8)) (a : Int) : kOut l a ≤ l.length := by
  have := List.countP_le_length (p := fun i => !pOut l a i) (l := List.range l.length)
  simpa [kOut] using this
theorem kIn_at {l : List (List UInt8 × List UInt8)} {a : Int} {k : Nat} (hk : k < l.length) (h0 : ∀ i, i < k → pIn l a i = false) (h1 : pIn l a k = true) : kIn l a = k :=
  count_at _ _ _ (by omega) h0 (fun i h h2 => pIn_mono l a l.length k i h h2 h1)
theorem kOut_at {l : List (List UInt8 × List UInt8)} {a : Int} {k : Nat} (hk : k < l.length) (h0 : ∀ i, i < k → pOut l a i = false) (h1 : pOut l a k = true) : kOut l a = k :=
  count_at _ _ _ (by omega) h0 (fun i h h2 => pOut_mono l a l.length k i h h2 h1)
theorem kIn_all {l : List (List UInt8 × List UInt8)} {a : Int} (h0 : ∀ i, i < l.length → pIn l a i = false) : kIn l a = l.length := count_at _ _ _ (Nat.le_refl _) h0 (fun i h h2 => by omega)
theorem kOut_all {l : List (List UInt8 × List UInt8)} {a : Int} (h0 : ∀ i, i < l.length → pOut l a i = false) : kOut l a = l.length := count_at _ _ _ (Nat.le_refl _) h0 (fun i h h2 => by omega)
/-- PosOut by these lines. -/
def outI (l : List (List UInt8 × List UInt8)) (a : Int) : Int := ((outsL (l.take (kIn l a)) : Nat) : Int)
/-- PosBack and PosThere by these lines. -/
def backI (l : List (List UInt8 × List UInt8)) (a : Int) : Int :=
  if kOut l a < l.length ∧ (spAt l (kOut l a)).2.2.2.2 = true ∧ ((outsL (l.take (kOut l a)) : Nat) : Int) < a then ((insL (l.take (kOut l a)) : Nat) : Int) + a - ((outsL (l.take (kOut l a)) : Nat) : Int)
  else ((insL (l.take (kOut l a)) : Nat) : Int)

end Go.Proofs.YtoidmmedpefjfaaGreatDoor
