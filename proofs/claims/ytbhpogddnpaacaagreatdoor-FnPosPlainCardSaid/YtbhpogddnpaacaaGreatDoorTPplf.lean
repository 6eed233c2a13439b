/- PosSpans of the specification, and of the program: the spans of a stream's lines as they go outside by a table. Conditions: at most 2^22 ends; the text has at most 2^21 bytes. (Several texts, joined: Flat, Spans, SpMem, SpWith, SPairs, ILines, IPairs, SSpans.) -/
import Derived.Test.YtbhpogddnpaacaaGreatDoorTPple
import Derived.Test.YtbhpogddnpaacaaGreatDoorGen
import Derived.Test.YtbhpogddnpaacaaGreatDoorLines
import Derived.Maps.AppendAt
import Derived.Deep.AppendLies
import Derived.Deep.RegionLaw
import Derived.Deep.DeepCutAuto
import Derived.Test.YtbhpogddnpaacaaGreatDoorISeq
import Derived.Deep.RegionWith
import Derived.Test.YtbhpogddnpaacaaGreatDoorTPpld

/- Lists of elements that take several cells each, in a world. No condition. -/
namespace Go.Proofs.YtbhpogddnpaacaaGreatDoor
open Go.RowKit

/-- The cells of a list of elements. -/
def flatC {α : Type} (c : α → List Value) (xs : List α) : List Value := (xs.map c).flatten
theorem flatC_app {α : Type} (c : α → List Value) (xs ys : List α) : flatC c (xs ++ ys) = flatC c xs ++ flatC c ys := by simp [flatC]
theorem flatC_len {α : Type} {c : α → List Value} {k : Nat} (hk : ∀ x, (c x).length = k) (xs : List α) : (flatC c xs).length = xs.length * k := by
  induction xs with
  | nil => simp [flatC]
  | cons x r ih => simp [flatC] at ih ⊢; rw [ih, hk, Nat.add_mul]; omega
theorem flatC_one {α : Type} {c : α → List Value} (h : ∀ x, ∀ u ∈ c x, u.oneCell' = true) (xs : List α) : ∀ u ∈ flatC c xs, u.oneCell' = true := by
  intro u hu
  simp only [flatC, List.mem_flatten, List.mem_map] at hu
  obtain ⟨l, ⟨x, _, rfl⟩, hu⟩ := hu
  exact h x u hu
theorem flatC_at {α : Type} {c : α → List Value} {k : Nat} (hk : ∀ x, (c x).length = k) (xs : List α) (i : Nat) (hi : i < xs.length) (j : Nat) (hj : j < k) : (flatC c xs)[i * k + j]? = (c xs[i])[j]? := by
  induction xs generalizing i with
  | nil => simp at hi
  | cons x r ih =>
    cases i with
    | zero =>
      simp only [flatC, List.map_cons, List.flatten_cons, Nat.zero_mul, Nat.zero_add, List.getElem_cons_zero]
      exact List.getElem?_append_left (by rw [hk]; exact hj)
    | succ i =>
      have := ih i (by simpa using hi)
      simp only [flatC, List.map_cons, List.flatten_cons, List.getElem_cons_succ] at this ⊢
      rw [List.getElem?_append_right (by rw [hk, Nat.add_mul]; omega), ← this]
      congr 1
      rw [hk, Nat.add_mul]; omega
/-- A slice reads as these elements. -/
def RdC {α : Type} (c : α → List Value) (w : World) (v : Value) (xs : List α) : Prop := ∃ a cap, v = .slice a xs.length cap ∧ xs.length ≤ cap ∧ (0 < xs.length → ∃ g, a = some ⟨g, 0, none⟩ ∧ RowAt w g (flatC c xs))
theorem RdC.below {α : Type} {c : α → List Value} {k : Nat} (hk : ∀ x, (c x).length = k) (h0 : 0 < k) {w w' : World} {v : Value} {xs : List α} (h : RdC c w v xs) (hb : Below w.heap.size w w') : RdC c w' v xs := by
  obtain ⟨a, cap, rfl, hc, hr⟩ := h
  refine ⟨a, cap, rfl, hc, fun hn => ?_⟩
  obtain ⟨g, rfl, hrow⟩ := hr hn
  exact ⟨g, rfl, hrow.below hb (hrow.lt (by rw [flatC_len hk]; exact Nat.mul_pos hn h0))⟩
theorem RowAt.of_own {w : World} {B n k : Nat} {e : TypeId} {v : Value} {xs : List Value} (h : w.ownsRow B e k v n xs) (hn : 0 < xs.length) : ∃ g cap, v = .slice (some ⟨g, 0, none⟩) n cap ∧ n ≤ cap ∧ B ≤ g ∧ g < w.heap.size ∧ RowAt w g xs := by
  rcases h.2 with ⟨rfl, h0⟩ | ⟨g, cap, cur, rfl, hB, hg, h2, h3, hs, ht⟩
  · have := h.1; rw [h0] at this; omega
  · refine ⟨g, cap, rfl, h2, hB, (Array.getElem?_eq_some_iff.1 hg).1, fun i hi => ?_⟩
    obtain ⟨l⟩ := cur
    have hlen := h.1
    have f0 : xs[i]? = some xs[i] := List.getElem?_eq_getElem hi
    obtain ⟨u, hu⟩ : ∃ u, u = xs[i] := ⟨_, rfl⟩
    rw [← hu] at f0 ⊢
    clear hu
    rw [← ht] at f0
    rw [List.getElem?_take_of_lt (by omega)] at f0
    exact ⟨by simp [World.cell?, hg]; exact f0, by simp [World.frozen?, hg]⟩
theorem RdC.of_own {α : Type} {c : α → List Value} {k : Nat} (hk : ∀ x, (c x).length = k) (h0 : 0 < k) {w : World} {B : Nat} {e : TypeId} {v : Value} {xs : List α} (h : w.ownsRow B e k v xs.length (flatC c xs)) : RdC c w v xs := by
  by_cases hn : 0 < xs.length
  · obtain ⟨g, cap, rfl, hc, _, _, hr⟩ := RowAt.of_own h (by rw [flatC_len hk]; exact Nat.mul_pos hn h0)
    exact ⟨_, cap, rfl, hc, fun _ => ⟨g, rfl, hr⟩⟩
  · rcases h.2 with ⟨rfl, h1⟩ | ⟨g, cap, cur, rfl, hB, hg, h2, _⟩
    · exact ⟨none, 0, by rw [h1], by omega, fun h => absurd h hn⟩
    · exact ⟨_, cap, rfl, h2, fun h => absurd h hn⟩
/-- The j-th cell of the i-th element. -/
theorem RowAt.elem {α : Type} {c : α → List Value} {k : Nat} (hk : ∀ x, (c x).length = k) {w : World} {g : Nat} {xs : List α} (h : RowAt w g (flatC c xs)) (i : Nat) (hi : i < xs.length) (j : Nat) (hj : j < k) (u : Value) (hu : (c xs[i])[j]? = some u) : w.cell? ⟨g, i * k + j, none⟩ = some u ∧ w.frozen? ⟨g, i * k + j, none⟩ = false := by
  have hl : i * k + j < (flatC c xs).length := by
    rw [flatC_len hk]
    have : (i + 1) * k ≤ xs.length * k := Nat.mul_le_mul_right _ hi
    rw [Nat.add_mul] at this
    omega
  obtain ⟨h1, h2⟩ := h _ hl
  refine ⟨?_, h2⟩
  rw [h1, ← hu, ← flatC_at hk xs i hi j hj, List.getElem?_eq_getElem hl]

end Go.Proofs.YtbhpogddnpaacaaGreatDoor

/- Spans of lines side by side, as data. No condition. -/
namespace Go.Proofs.YtbhpogddnpaacaaGreatDoor
open Go.RowKit

/-- A line and what it is on the other side. -/
def insL (l : List (List UInt8 × List UInt8)) : Nat := (l.map fun p => p.1.length + 1).sum
def outsL (l : List (List UInt8 × List UInt8)) : Nat := (l.map fun p => p.2.length + 1).sum
theorem insL_app (a b : List (List UInt8 × List UInt8)) : insL (a ++ b) = insL a + insL b := by simp [insL]
theorem outsL_app (a b : List (List UInt8 × List UInt8)) : outsL (a ++ b) = outsL a + outsL b := by simp [outsL]
theorem insL_succ {l : List (List UInt8 × List UInt8)} {k : Nat} (h : k < l.length) : insL (l.take (k + 1)) = insL (l.take k) + (l[k].1.length + 1) := by
  rw [List.take_succ_eq_append_getElem h, insL_app]; simp [insL]
theorem outsL_succ {l : List (List UInt8 × List UInt8)} {k : Nat} (h : k < l.length) : outsL (l.take (k + 1)) = outsL (l.take k) + (l[k].2.length + 1) := by
  rw [List.take_succ_eq_append_getElem h, outsL_app]; simp [outsL]
theorem insL_mono (l : List (List UInt8 × List UInt8)) {a b : Nat} (h : a ≤ b) : insL (l.take a) ≤ insL (l.take b) := by
  obtain ⟨t, ht⟩ := (List.take_prefix_take_left h : l.take a <+: l.take b)
  rw [← ht, insL_app]; omega
theorem outsL_mono (l : List (List UInt8 × List UInt8)) {a b : Nat} (h : a ≤ b) : outsL (l.take a) ≤ outsL (l.take b) := by
  obtain ⟨t, ht⟩ := (List.take_prefix_take_left h : l.take a <+: l.take b)
  rw [← ht, outsL_app]; omega
theorem insL_le (l : List (List UInt8 × List UInt8)) (a : Nat) : insL (l.take a) ≤ insL l := by
  have := insL_mono l (Nat.le_max_left a l.length)
  rw [List.take_of_length_le (Nat.le_max_right a l.length)] at this
  exact this
theorem outsL_le (l : List (List UInt8 × List UInt8)) (a : Nat) : outsL (l.take a) ≤ outsL l := by
  have := outsL_mono l (Nat.le_max_left a l.length)
  rw [List.take_of_length_le (Nat.le_max_right a l.length)] at this
  exact this
theorem sum_flat (xs : List (List UInt8)) : ((xs.map (· ++ [59])).flatten).length = (xs.map fun x => x.length + 1).sum := by
  induction xs with
  | nil => rfl
  | cons x r ih => simp [ih]; omega
theorem lines_sum (s : List UInt8) : ((linesL s).map fun x => x.length + 1).sum ≤ s.length := by
  have h : (flatL (linesF s)).length = s.length := by rw [flatL_lines]
  unfold flatL at h
  rw [List.length_append, sum_flat] at h
  unfold linesL
  omega
theorem zip_ins (xs ys : List (List UInt8)) : insL (xs.zip ys) ≤ (xs.map fun x => x.length + 1).sum := by
  induction xs generalizing ys with
  | nil => simp [insL]
  | cons x r ih =>
    cases ys with
    | nil => simp [insL]
    | cons y t => have := ih t; simp [insL] at this ⊢; omega
theorem zip_outs (xs ys : List (List UInt8)) : outsL (xs.zip ys) ≤ (ys.map fun x => x.length + 1).sum := by
  induction xs generalizing ys with
  | nil => simp [outsL]
  | cons x r ih =>
    cases ys with
    | nil => simp [outsL]
    | cons y t => have := ih t; simp [outsL] at this ⊢; omega

/-- A span: from, to, out at, out to, plain. -/
def spAt (l : List (List UInt8 × List UInt8)) (k : Nat) : Nat × Nat × Nat × Nat × Bool :=
  (insL (l.take k), insL (l.take (k + 1)), outsL (l.take k), outsL (l.take (k + 1)), decide ((l[k]?.getD ([], [])).2 = (l[k]?.getD ([], [])).1))
def spansL (l : List (List UInt8 × List UInt8)) : List (Nat × Nat × Nat × Nat × Bool) := (List.range l.length).map (spAt l)
theorem spansL_len (l : List (List UInt8 × List UInt8)) : (spansL l).length = l.length := by simp [spansL]
theorem spansL_at (l : List (List UInt8 × List UInt8)) (k : Nat) (h : k < (spansL l).length) : (spansL l)[k] = spAt l k := by simp [spansL]
theorem spansL_succ {l : List (List UInt8 × List UInt8)} {k : Nat} (h : k < l.length) : (spansL l).take (k + 1) = (spansL l).take k ++ [spAt l k] := by
  rw [List.take_succ_eq_append_getElem (by rw [spansL_len]; exact h), spansL_at]
/-- The cells of a span. -/
def spC (p : Nat × Nat × Nat × Nat × Bool) : List Value := [.int .i64 p.1, .int .i64 p.2.1, .int .i64 p.2.2.1, .int .i64 p.2.2.2.1, .bool p.2.2.2.2]
theorem spC_len (p : Nat × Nat × Nat × Nat × Bool) : (spC p).length = 5 := rfl
theorem spC_one (p : Nat × Nat × Nat × Nat × Bool) : ∀ u ∈ spC p, u.oneCell' = true := by
  intro u hu
  simp [spC] at hu
  rcases hu with rfl | rfl | rfl | rfl | rfl <;> rfl
/-- A line lies here. -/
def pairsL (s far : List UInt8) : List (List UInt8 × List UInt8) := (linesL s).zip (linesL far)
theorem pairsL_ins (s far : List UInt8) : insL (pairsL s far) ≤ s.length := Nat.le_trans (zip_ins _ _) (lines_sum s)
theorem pairsL_outs (s far : List UInt8) : outsL (pairsL s far) ≤ far.length := Nat.le_trans (zip_outs _ _) (lines_sum far)
theorem insL_ge (l : List (List UInt8 × List UInt8)) : l.length ≤ insL l := by
  induction l with
  | nil => simp [insL]
  | cons x r ih => simp [insL] at ih ⊢; omega

/-- How many of n places are not yet past what is looked for. -/
theorem count_at (p : Nat → Bool) (n k : Nat) (hk : k ≤ n) (h0 : ∀ i, i < k → p i = false) (h1 : ∀ i, k ≤ i → i < n → p i = true) : (List.range n).countP (fun i => !p i) = k := by
  obtain ⟨d, rfl⟩ : ∃ d, n = k + d := ⟨n - k, by omega⟩
  rw [List.range_add, List.countP_append, List.countP_eq_length.2, List.countP_eq_zero.2]
  · simp
  · intro x hx
    simp only [List.mem_map, List.mem_range] at hx
    obtain ⟨y, hy, rfl⟩ := hx
    rw [h1 (k + y) (by omega) (by omega)]; simp
  · intro x hx
    rw [List.mem_range] at hx
    rw [h0 x hx]; rfl
/-- Which line stands at a place here, and which one at a place there. -/
def pIn (l : List (List UInt8 × List UInt8)) (a : Int) (i : Nat) : Bool := decide (a < ((insL (l.take (i + 1)) : Nat) : Int))
def pOut (l : List (List UInt8 × List UInt8)) (a : Int) (i : Nat) : Bool := decide (a < ((outsL (l.take (i + 1)) : Nat) : Int))
theorem pIn_mono (l : List (List UInt8 × List UInt8)) (a : Int) (n : Nat) : ∀ i j, i ≤ j → j < n → pIn l a i = true → pIn l a j = true := by
  intro i j h _ h1
  have := insL_mono l (show i + 1 ≤ j + 1 by omega)
  simp [pIn] at h1 ⊢; omega
theorem pOut_mono (l : List (List UInt8 × List UInt8)) (a : Int) (n : Nat) : ∀ i j, i ≤ j → j < n → pOut l a i = true → pOut l a j = true := by
  intro i j h _ h1
  have := outsL_mono l (show i + 1 ≤ j + 1 by omega)
  simp [pOut] at h1 ⊢; omega
def kIn (l : List (List UInt8 × List UInt8)) (a : Int) : Nat := (List.range l.length).countP (fun i => !pIn l a i)
def kOut (l : List (List UInt8 × List UInt8)) (a : Int) : Nat := (List.range l.length).countP (fun i => !pOut l a i)
theorem kIn_le (l : List (List UInt8 × List UInt8)) (a : Int) : kIn l a ≤ l.length := by
  have := List.countP_le_length (p := fun i => !pIn l a i) (l := List.range l.length)
  simpa [kIn] using this
theorem kOut_le (l : List (List UInt8 × List UInt8)) (a : Int) : kOut l a ≤ l.length := by
  have := List.countP_le_length (p := fun i => !pOut l a i) (l := List.range l.length)
  simpa [kOut] using this
theorem kIn_at {l : List (List UInt8 × List UInt8)} {a : Int} {k : Nat} (hk : k < l.length) (h0 : ∀ i, i < k → pIn l a i = false) (h1 : pIn l a k = true) : kIn l a = k :=
  count_at _ _ _ (by omega) h0 (fun i h h2 => pIn_mono l a l.length k i h h2 h1)
theorem kOut_at {l : List (List UInt8 × List UInt8)} {a : Int} {k : Nat} (hk : k < l.length) (h0 : ∀ i, i < k → pOut l a i = false) (h1 : pOut l a k = true) : kOut l a = k :=
  count_at _ _ _ (by omega) h0 (fun i h h2 => pOut_mono l a l.length k i h h2 h1)
theorem kIn_all {l : List (List UInt8 × List UInt8)} {a : Int} (h0 : ∀ i, i < l.length → pIn l a i = false) : kIn l a = l.length := count_at _ _ _ (Nat.le_refl _) h0 (fun i h h2 => by omega)
theorem kOut_all {l : List (List UInt8 × List UInt8)} {a : Int} (h0 : ∀ i, i < l.length → pOut l a i = false) : kOut l a = l.length := count_at _ _ _ (Nat.le_refl _) h0 (fun i h h2 => by omega)
/-- PosOut by these lines. -/
def outI (l : List (List UInt8 × List UInt8)) (a : Int) : Int := ((outsL (l.take (kIn l a)) : Nat) : Int)
/-- PosBack and PosThere by these lines. -/
def backI (l : List (List UInt8 × List UInt8)) (a : Int) : Int :=
  if kOut l a < l.length ∧ (spAt l (kOut l a)).2.2.2.2 = true ∧ ((outsL (l.take (kOut l a)) : Nat) : Int) < a then ((insL (l.take (kOut l a)) : Nat) : Int) + a - ((outsL (l.take (kOut l a)) : Nat) : Int)
  else ((insL (l.take (kOut l a)) : Nat) : Int)

end Go.Proofs.YtbhpogddnpaacaaGreatDoor

/- Spans in memory: the last one of some, and one more behind them. Condition: at most 2^22 spans. -/
namespace Go.Proofs.YtbhpogddnpaacaaGreatDoor
open Go.RowKit

theorem infoSpan : (Tryz.prog.info? 76).map (fun i => (i.zero, i.size, i.bytes)) = some (some (.agg #[.int .i64 0, .int .i64 0, .int .i64 0, .int .i64 0, .bool false]), 5, 40) := by kernel_rfl
/-- A list of spans of the call's own. -/
def OwnSp (w : World) (B : Nat) (v : Value) (xs : List (Nat × Nat × Nat × Nat × Bool)) : Prop := w.ownsRow B 76 5 v xs.length (flatC spC xs)
def RdSp (w : World) (v : Value) (xs : List (Nat × Nat × Nat × Nat × Bool)) : Prop := RdC spC w v xs
theorem OwnSp.rd {w : World} {B : Nat} {v : Value} {xs : List (Nat × Nat × Nat × Nat × Bool)} (h : OwnSp w B v xs) : RdSp w v xs := RdC.of_own spC_len (by decide) h
theorem RdSp.below {w w' : World} {v : Value} {xs : List (Nat × Nat × Nat × Nat × Bool)} (h : RdSp w v xs) (hb : Below w.heap.size w w') : RdSp w' v xs := RdC.below spC_len (by decide) h hb
theorem OwnSp.below {w w' : World} {B : Nat} {v : Value} {xs : List (Nat × Nat × Nat × Nat × Bool)} (h : OwnSp w B v xs) (hb : Below w.heap.size w w') : OwnSp w' B v xs := by
  refine ⟨h.1, ?_⟩
  rcases h.2 with h2 | ⟨g, cap, cur, hv, hB, hg, h2, h3, hs, ht⟩
  · exact Or.inl h2
  · exact Or.inr ⟨g, cap, cur, hv, hB, (hb.block g (Array.getElem?_eq_some_iff.1 hg).1).trans hg, h2, h3, hs, ht⟩
theorem OwnSp.mono {w : World} {B B' : Nat} {v : Value} {xs : List (Nat × Nat × Nat × Nat × Bool)} (h : OwnSp w B v xs) (hB : B' ≤ B) : OwnSp w B' v xs := by
  refine ⟨h.1, ?_⟩
  rcases h.2 with h2 | ⟨g, cap, cur, hv, hb, r⟩
  · exact Or.inl h2
  · exact Or.inr ⟨g, cap, cur, hv, by omega, r⟩
theorem OwnSp.form {w : World} {B : Nat} {v : Value} {xs : List (Nat × Nat × Nat × Nat × Bool)} (h : OwnSp w B v xs) : ∃ a cap, v = .slice a xs.length cap := by
  obtain ⟨a, cap, e, _⟩ := h.rd
  exact ⟨a, cap, e⟩
theorem OwnSp.nil (w : World) (B : Nat) : OwnSp w B (.slice none 0 0) [] := by
  unfold OwnSp
  exact ⟨rfl, Or.inl ⟨rfl, rfl⟩⟩
/-- The last span; nothing, if there are none. -/
def lastS (xs : List (Nat × Nat × Nat × Nat × Bool)) : Nat × Nat × Nat × Nat × Bool := xs.getLast?.getD (0, 0, 0, 0, false)

set_option maxRecDepth 100000 in
set_option maxHeartbeats 1600000 in
theorem last_any (v : Value) (xs : List (Nat × Nat × Nat × Nat × Bool)) (w : World) (hn : xs.length ≤ 4194304) (h : RdSp w v xs) :
    Calls Tryz.prog 41 #[v] w fun e w' => e = .returned (.agg #[.int .i64 (lastS xs).1, .int .i64 (lastS xs).2.1, .int .i64 (lastS xs).2.2.1, .int .i64 (lastS xs).2.2.2.1, .bool (lastS xs).2.2.2.2]) ∧ Below w.heap.size w w' := by
  obtain ⟨a, cap, rfl, hcap, hr⟩ := h
  rcases Nat.eq_zero_or_pos xs.length with h0 | h0
  · have he : xs = [] := List.eq_nil_of_length_eq_zero h0
    subst he
    clear hr h0 hcap hn
    go_enter Tryz.func41, Tryz.ntmps41
    go_wp2_with fail
    refine bodyPost_ret (v := .agg #[.int .i64 0, .int .i64 0, .int .i64 0, .int .i64 0, .bool false]) (by simp [results, Tryz.results41, go_sem]) rfl ⟨rfl, ?_⟩
    exact (Below.refl _ _).alloc (Nat.le_refl _) _
  · obtain ⟨g, rfl, hrow⟩ := hr h0
    obtain ⟨k, hk⟩ : ∃ k, xs.length = k + 1 := ⟨xs.length - 1, by omega⟩
    have hlt : k < xs.length := by omega
    have hl : lastS xs = xs[k] := by
      unfold lastS
      rw [List.getLast?_eq_getElem?, show xs.length - 1 = k by omega, List.getElem?_eq_getElem hlt]; rfl
    obtain ⟨p, hp⟩ : ∃ p, p = xs[k] := ⟨_, rfl⟩
    have q0 := (hrow.elem spC_len k hlt 0 (by decide) (.int .i64 p.1) (by rw [← hp]; rfl)).1
    have q1 := (hrow.elem spC_len k hlt 1 (by decide) (.int .i64 p.2.1) (by rw [← hp]; rfl)).1
    have q2 := (hrow.elem spC_len k hlt 2 (by decide) (.int .i64 p.2.2.1) (by rw [← hp]; rfl)).1
    have q3 := (hrow.elem spC_len k hlt 3 (by decide) (.int .i64 p.2.2.2.1) (by rw [← hp]; rfl)).1
    have q4 := (hrow.elem spC_len k hlt 4 (by decide) (.bool p.2.2.2.2) (by rw [← hp]; rfl)).1
    have hg := World.block_lt_of_cell? w _ q0
    simp only [Nat.add_zero] at q0
    simp only at hg
    rw [hl, ← hp]
    obtain ⟨pf, pt, po, pu, pp⟩ := p
    simp only at q0 q1 q2 q3 q4 ⊢
    have K0 : ∀ o, (w.alloc o).cell? ⟨g, k * 5, none⟩ = some (.int .i64 pf) := fun o => by rw [cell_alloc_lt hg]; exact q0
    have K1 : ∀ o, (w.alloc o).cell? ⟨g, k * 5 + 1, none⟩ = some (.int .i64 pt) := fun o => by rw [cell_alloc_lt hg]; exact q1
    have K2 : ∀ o, (w.alloc o).cell? ⟨g, k * 5 + 2, none⟩ = some (.int .i64 po) := fun o => by rw [cell_alloc_lt hg]; exact q2
    have K3 : ∀ o, (w.alloc o).cell? ⟨g, k * 5 + 3, none⟩ = some (.int .i64 pu) := fun o => by rw [cell_alloc_lt hg]; exact q3
    have K4 : ∀ o, (w.alloc o).cell? ⟨g, k * 5 + 4, none⟩ = some (.bool pp) := fun o => by rw [cell_alloc_lt hg]; exact q4
    have hki : (xs.length : Int) - 1 = (k : Int) := by omega
    have hk0 : ((xs.length : Int) == 0) = false := by rw [beq_eq_false_iff_ne]; omega
    have hk2 : (k : Int) ≤ (cap : Int) := by omega
    have hk3 : (k : Int) < (xs.length : Int) := by omega
    clear hrow hr hp hl q0 q1 q2 q3 q4 hlt
    go_enter Tryz.func41, Tryz.ntmps41
    go_wp2_with fail
    refine bodyPost_ret (v := .agg #[.int .i64 pf, .int .i64 pt, .int .i64 po, .int .i64 pu, .bool pp]) (by simp [results, Tryz.results41, go_sem]) rfl ⟨rfl, ?_⟩
    exact (Below.refl _ _).alloc (Nat.le_refl _) _

end Go.Proofs.YtbhpogddnpaacaaGreatDoor

/- One span more behind some. Conditions: at most 2^22 spans, texts of at most 2^21 bytes, places of at most 2^22. -/
namespace Go.Proofs.YtbhpogddnpaacaaGreatDoor
open Go.RowKit

theorem str_beq (x y : List UInt8) : (((⟨x.toArray⟩ : ByteArray).toList) == ((⟨y.toArray⟩ : ByteArray).toList)) = decide (y = x) := by
  rw [Lib.toList_data, Lib.toList_data]
  by_cases h : y = x
  · subst h; simp
  · rw [decide_eq_false h]
    simp
    intro e; exact h e.symm

theorem lastS_take (l : List (List UInt8 × List UInt8)) {k : Nat} (h : k ≤ l.length) : (lastS ((spansL l).take k)).2.1 = insL (l.take k) ∧ (lastS ((spansL l).take k)).2.2.2.1 = outsL (l.take k) := by
  cases k with
  | zero => exact ⟨rfl, rfl⟩
  | succ k =>
    rw [spansL_succ (by omega)]
    unfold lastS
    simp only [List.getLast?_append, List.getLast?_singleton, Option.some_or, Option.getD_some]
    exact ⟨rfl, rfl⟩
theorem spAt_next {l : List (List UInt8 × List UInt8)} {k : Nat} (h : k < l.length) : spAt l k = (insL (l.take k), insL (l.take k) + l[k].1.length + 1, outsL (l.take k), outsL (l.take k) + l[k].2.length + 1, decide (l[k].2 = l[k].1)) := by
  unfold spAt
  rw [insL_succ h, outsL_succ h, List.getElem?_eq_getElem h]
  rfl

set_option maxRecDepth 100000 in
set_option maxHeartbeats 3200000 in
theorem with_any (B : Nat) (v : Value) (xs : List (Nat × Nat × Nat × Nat × Bool)) (x y : ByteArray) (w : World) (hn : xs.length ≤ 4194303) (hB : B ≤ w.heap.size) (ho : OwnSp w B v xs) (hx : x.size ≤ 2097152) (hy : y.size ≤ 2097152) (h1 : (lastS xs).2.1 ≤ 4194304) (h2 : (lastS xs).2.2.2.1 ≤ 4194304) :
    Calls Tryz.prog 65 #[v, .string x, .string y] w fun e w' => ∃ v', e = .returned v' ∧ OwnSp w' B v' (xs ++ [((lastS xs).2.1, (lastS xs).2.1 + x.size + 1, (lastS xs).2.2.2.1, (lastS xs).2.2.2.1 + y.size + 1, (x.toList == y.toList))]) ∧ Below B w w' := by
  obtain ⟨i0, hi, hz0, hz1, hz2⟩ := info_parts infoSpan
  have HL := Lib.hid (last_any v xs w (by omega) ho.rd)
  obtain ⟨a, cap, rfl⟩ := ho.form
  have HO := Lib.hid ho
  obtain ⟨⟨pf, pt, po, pu, pp⟩, hp⟩ : ∃ p, p = lastS xs := ⟨_, rfl⟩
  rw [← hp] at HL h1 h2 ⊢
  simp only at h1 h2 HL ⊢
  obtain ⟨q, hq⟩ : ∃ q, q = (x.toList == y.toList) := ⟨_, rfl⟩
  rw [← hq]
  have HQ := Lib.hid hq
  clear hp ho hq
  go_enter Tryz.func65, Tryz.ntmps65
  go_wp2_with fail
  (go_at_call 41; refine HL.out.mono ?_; rintro e w1 ⟨rfl, b1⟩; have B1 := Lib.hid b1; have O1 := Lib.hid (HO.out.below b1); have z1 := b1.size; clear b1 HL HO)
  go_wp2_with (at_builtin; refine wpList_append_own _ rfl (.tmp 10) (.tmp 31) 43 rfl B 76 i0 (.agg #[.int .i64 0, .int .i64 0, .int .i64 0, .int .i64 0, .bool false]) 5 40 Tryz.underlying43 hi hz0 hz1 hz2 rfl (by decide) _ _ _ rfl ((O1.out.alloc _).alloc _) ⟨w1.heap.size + 1, 0, none⟩ 1 1 [.int .i64 pt, .int .i64 ((pt : Int) + x.size + 1), .int .i64 pu, .int .i64 ((pu : Int) + y.size + 1), .bool (x.toList == y.toList)] rfl rfl ?c1 ?c2 ?c3 ?c4 ?c5 ?_)
  case c1 => exact World.news_of_block (cs := #[.int .i64 pt, .int .i64 ((pt : Int) + x.size + 1), .int .i64 pu, .int .i64 ((pu : Int) + y.size + 1), .bool (x.toList == y.toList)]) (t := 76) (by have := heap_alloc_new (w1.alloc (.cells #[.int .i64 pf, .int .i64 pt, .int .i64 po, .int .i64 pu, .bool pp] 76)) (.cells #[.int .i64 pt, .int .i64 ((pt : Int) + x.size + 1), .int .i64 pu, .int .i64 ((pu : Int) + y.size + 1), .bool (x.toList == y.toList)] 76); simpa using this)
  case c2 => intro u hu; simp at hu; rcases hu with rfl | rfl | rfl | rfl | rfl <;> rfl
  case c3 => unfold maxLen; omega
  case c4 => omega
  case c5 => simp; omega
  · intro v' w2 hown hgrow _
    have HW := Lib.hid hown
    have HB : Hid (Below B w w2) := (((B1.out.mono hB).alloc (by omega) _).alloc (by simp; omega) _).grown hgrow (by simp; omega) (fun k hk => by obtain ⟨h1, _⟩ := (O1.out.lt k hk); exact h1)
    clear hown hgrow
    go_wp2_with fail
    go_ret
    refine ⟨_, rfl, ?_, HB.out⟩
    have := HW.out
    rw [HQ.out]
    unfold OwnSp
    rw [flatC_app, List.length_append]
    exact this

end Go.Proofs.YtbhpogddnpaacaaGreatDoor

/- PosPairs of the specification: the spans of two texts' lines, in memory of the call's own. Condition: each text has at most 2^21 bytes. -/
namespace Go.Proofs.YtbhpogddnpaacaaGreatDoor
open Go.RowKit

theorem heap_lastP (w : World) (o : Obj) : (w.alloc o).heap[w.heap.size]? = some o := by
  show (w.heap.push o)[w.heap.size]? = _
  simp

set_option maxRecDepth 100000 in
set_option maxHeartbeats 3200000 in
theorem specPairs4_any (l : List (List UInt8 × List UInt8)) (v1 v2 : Value) (xs ys : List (List UInt8)) (w : World) (hl : l = xs.zip ys) (hxl : xs.length ≤ 2097152) (hyl : ys.length ≤ 2097152) (hlx : ∀ x ∈ xs, x.length ≤ 2097152) (hly : ∀ x ∈ ys, x.length ≤ 2097152) (hi0 : insL l ≤ 2097152) (ho0 : outsL l ≤ 2097152) (r1 : RdV w v1 (xs.map strV)) (r2 : RdV w v2 (ys.map strV)) :
    Calls Tryz.prog 84 #[v1, v2] w fun e w' => ∃ v, e = .returned v ∧ OwnSp w' w.heap.size v (spansL l) ∧ Below w.heap.size w w' := by
  have hn : l.length = min xs.length ys.length := by rw [hl, List.length_zip]
  have hnx : l.length ≤ xs.length := by omega
  have hny : l.length ≤ ys.length := by omega
  obtain ⟨i0, hi, hz0, hz1, hz2⟩ := info_parts infoSpan
  obtain ⟨a1, c1, rfl, hr1⟩ := r1
  obtain ⟨a2, c2, rfl, hr2⟩ := r2
  rw [List.length_map] at hr1 hr2
  simp only [List.length_map]
  have HLX := Lib.hid hlx
  have HLY := Lib.hid hly
  have HL := Lib.hid hl
  have HN := Lib.hid hn
  have R1 := Lib.hid hr1
  have R2 := Lib.hid hr2
  have HO0 : Hid (∀ wx : World, OwnSp (wx.alloc (.cells #[] 76)) wx.heap.size (.slice (some ⟨wx.heap.size, 0, none⟩) 0 0) []) := fun wx => by
    have := World.ownsRow_made (base := wx.heap.size) (e := 76) (size := 5) wx #[] 0 (Nat.le_refl _) (Nat.zero_le _) rfl
    simpa [OwnSp, flatC] using this
  clear hlx hly hl hr1 hr2 hn
  go_enter Tryz.func84, Tryz.ntmps84
  go_wp2_with fail
  go_loopw [5, 6, 7, 8] (fun sp ia io i wr => ∃ (k : Nat) (a : Nat) (b : Nat) (g : Nat) (c : Nat), k ≤ l.length ∧ i = .int .i64 k ∧ sp = .slice (some ⟨g, 0, none⟩) k c ∧ ia = .int .i64 a ∧ io = .int .i64 b ∧ insL (l.take k) = a ∧ outsL (l.take k) = b ∧ OwnSp wr w.heap.size (.slice (some ⟨g, 0, none⟩) k c) ((spansL l).take k) ∧ Below w.heap.size w wr) (fun _ _ _ i _ => l.length - (intOf i).toNat)
  case atStart => exact ⟨0, 0, 0, _, 0, Nat.zero_le _, rfl, rfl, rfl, rfl, rfl, rfl, HO0.out w, (Below.refl _ _).alloc (Nat.le_refl _) _⟩
  case round =>
    obtain ⟨k, a, b, g, c, hk, rfl, rfl, rfl, rfl, hab, hbb, own, hb⟩ := hrel
    have HA := Lib.hid hab
    have HBB := Lib.hid hbb
    have OW := Lib.hid own
    have hsz := hb.size
    have HB := Lib.hid hb
    clear hab hbb own hb
    have ha : a ≤ 2097152 := by have := insL_le l k; have := HA.out; omega
    have hbo : b ≤ 2097152 := by have := outsL_le l k; have := HBB.out; omega
    by_cases hlt : k < l.length
    · obtain ⟨gx, rfl, rowx⟩ := R1.out (by omega)
      obtain ⟨gy, rfl, rowy⟩ := R2.out (by omega)
      have hkx : k < xs.length := by omega
      have hky : k < ys.length := by omega
      obtain ⟨x, hx⟩ : ∃ x, x = xs[k] := ⟨_, rfl⟩
      obtain ⟨y, hy⟩ : ∃ y, y = ys[k] := ⟨_, rfl⟩
      have hlk : l[k] = (x, y) := by rw [hx, hy]; simp only [HL.out, List.getElem_zip]
      have hgx : gx < w.heap.size := rowx.lt (by simp; omega)
      have hgy : gy < w.heap.size := rowy.lt (by simp; omega)
      have cX : wr.cell? ⟨gx, k, none⟩ = some (.string ⟨x.toArray⟩) := by
        rw [HB.out.cell (p := ⟨gx, k, none⟩) hgx, (rowx k (by simpa using hkx)).1]; simp [hx, strV]
      have cY : wr.cell? ⟨gy, k, none⟩ = some (.string ⟨y.toArray⟩) := by
        rw [HB.out.cell (p := ⟨gy, k, none⟩) hgy, (rowy k (by simpa using hky)).1]; simp [hy, strV]
      have hxn0 : x.length ≤ 2097152 := HLX.out x (by rw [hx]; exact List.getElem_mem _)
      have hyn0 : y.length ≤ 2097152 := HLY.out y (by rw [hy]; exact List.getElem_mem _)
      have HNX : Hid ((spansL l).take (k + 1) = (spansL l).take k ++ [(a, a + x.length + 1, b, b + y.length + 1, decide (y = x))]) := by
        show _ = _
        rw [spansL_succ hlt, spAt_next hlt, hlk, HA.out, HBB.out]
      have HIN : Hid (insL (l.take (k + 1)) = a + x.length + 1 ∧ outsL (l.take (k + 1)) = b + y.length + 1) := by
        rw [insL_succ hlt, outsL_succ hlt, hlk, HA.out, HBB.out]; exact ⟨by simp; omega, by simp; omega⟩
      obtain ⟨X, hX⟩ : ∃ X : ByteArray, X = ⟨x.toArray⟩ := ⟨_, rfl⟩
      obtain ⟨Y, hY⟩ : ∃ Y : ByteArray, Y = ⟨y.toArray⟩ := ⟨_, rfl⟩
      have hXs : X.size = x.length := by rw [hX]; simp [ByteArray.size]
      have hYs : Y.size = y.length := by rw [hY]; simp [ByteArray.size]
      have HE : Hid ((Y.toList == X.toList) = decide (y = x)) := by
        show _ = _
        rw [hX, hY, str_beq]
        exact decide_eq_decide.2 ⟨Eq.symm, Eq.symm⟩
      rw [← hX] at cX
      rw [← hY] at cY
      have HXS := Lib.hid hXs
      have HYS := Lib.hid hYs
      have hxn : X.size ≤ 2097152 := by omega
      have hyn : Y.size ≤ 2097152 := by omega
      have hkl : ((spansL l).take k).length = k := by rw [List.length_take, spansL_len]; omega
      have own3 : Hid (∀ o, (wr.alloc o).ownsRow w.heap.size 76 5 (.slice (some ⟨g, 0, none⟩) k c) k (flatC spC ((spansL l).take k))) := fun o => by
        have := OW.out.below ((Below.refl _ wr).alloc (Nat.le_refl _) o)
        unfold OwnSp at this
        rwa [hkl] at this
      have own2 : Hid (∀ o, (wr.alloc o).drew.ownsRow w.heap.size 76 5 (.slice (some ⟨g, 0, none⟩) k c) k (flatC spC ((spansL l).take k))) := fun o => (own3.out o).drew
      have own1 : Hid (∀ o, (wr.drew.alloc o).ownsRow w.heap.size 76 5 (.slice (some ⟨g, 0, none⟩) k c) k (flatC spC ((spansL l).take k))) := fun o => by
        have := OW.out.below (((Below.refl _ wr).drew).alloc (Nat.le_refl _) o)
        unfold OwnSp at this
        rwa [hkl] at this
      have hk2 : (k : Int) ≤ (c1 : Int) ∨ True := .inr trivial
      have hgB : w.heap.size ≤ g := by
        have := ((OW.out.lt g (by rfl))).1
        exact this
      clear rowx rowy hx hy hlk hX hY hXs hYs hkl hxn0 hyn0
      go_upto_region 8 with fail
      have hs1 : ∀ o, (wr.alloc o).heap[wr.heap.size]? = some o := fun o => heap_lastP wr o
      have H1 := Lib.hid hs1
      have HWA : Hid (IntKind.i64.wrap (IntKind.i64.wrap ((a : Int) + X.size) + 1) = ((a + X.size + 1 : Nat) : Int)) := by
        show _ = _
        rw [IntWalk.i64_in ((a : Int) + X.size) (by omega), IntWalk.i64_in ((a : Int) + X.size + 1) (by omega)]; omega
      have HWB : Hid (IntKind.i64.wrap (IntKind.i64.wrap ((b : Int) + Y.size) + 1) = ((b + Y.size + 1 : Nat) : Int)) := by
        show _ = _
        rw [IntWalk.i64_in ((b : Int) + Y.size) (by omega), IntWalk.i64_in ((b : Int) + Y.size + 1) (by omega)]; omega
      clear hs1
      go_cut [5] (fun s wx => ∃ g' c', s = .slice (some ⟨g', 0, none⟩) (k + 1) c' ∧ OwnSp wx w.heap.size (.slice (some ⟨g', 0, none⟩) (k + 1) c') ((spansL l).take (k + 1)) ∧ Below w.heap.size w wx)
      case first =>
        go_region_law (first
          | (refine step_append_lies _ rfl (.tmp 27) (.tmp 50) 42 rfl w.heap.size 76 i0 (.agg #[.int .i64 0, .int .i64 0, .int .i64 0, .int .i64 0, .bool false]) 5 40 Tryz.underlying42 hi hz0 hz1 hz2 rfl (by decide) (.slice (some ⟨g, 0, none⟩) k c) k (flatC spC ((spansL l).take k)) (by rfl) (by first | exact own3.out _ | exact own2.out _ | exact own1.out _) ⟨wr.heap.size, 0, none⟩ 1 1 [.int .i64 a, .int .i64 (IntKind.i64.wrap (IntKind.i64.wrap ((a : Int) + X.size) + 1)), .int .i64 b, .int .i64 (IntKind.i64.wrap (IntKind.i64.wrap ((b : Int) + Y.size) + 1)), .bool (Y.toList == X.toList)] (by rfl) (by rfl) (World.news_of_block (cs := #[.int .i64 a, .int .i64 (IntKind.i64.wrap (IntKind.i64.wrap ((a : Int) + X.size) + 1)), .int .i64 b, .int .i64 (IntKind.i64.wrap (IntKind.i64.wrap ((b : Int) + Y.size) + 1)), .bool (Y.toList == X.toList)]) (t := 76) (by exact H1.out _)) (by intro u hu; simp at hu; rcases hu with rfl | rfl | rfl | rfl | rfl <;> rfl) (by decide) (by unfold maxLen; omega) (by omega) (by simp; omega) _ rfl ?_
             intro g1 c1' w1 hown1 hgrow1 _ _
             have O1 := Lib.hid hown1
             have HB1 : Hid (Below w.heap.size w w1) := by
               first
                 | exact (HB.out.alloc hsz _).grown hgrow1 (by simp; omega) (fun k hk => by simp [Value.ownBlock] at hk; omega)
                 | exact ((HB.out.alloc hsz _).drew).grown hgrow1 (by simp; omega) (fun k hk => by simp [Value.ownBlock] at hk; omega)
                 | exact ((HB.out.drew).alloc hsz _).grown hgrow1 (by simp; omega) (fun k hk => by simp [Value.ownBlock] at hk; omega)
             clear hown1 hgrow1))
        all_goals
          go_wp2_with fail
          go_meet
          refine ⟨g1, c1', rfl, ?_, HB1.out⟩
          have := O1.out
          rw [HWA.out, HWB.out] at this
          rw [HNX.out]
          unfold OwnSp
          rw [flatC_app, List.length_append, List.length_take, spansL_len, Nat.min_eq_left hk, ← HE.out, ← HXS.out, ← HYS.out]
          exact this
      case rest =>
        obtain ⟨g', c', rfl, o', b'⟩ := hcut
        have OW' := Lib.hid o'
        have HB' := Lib.hid b'
        have cX' : wc.cell? ⟨gx, k, none⟩ = some (.string X) := by
          rw [HB'.out.cell (p := ⟨gx, k, none⟩) hgx, ← HB.out.cell (p := ⟨gx, k, none⟩) hgx]; exact cX
        clear o' b' own1 own2 own3 H1 OW HO0 HNX
        go_wp2_with fail
        go_roundw
        case rel => exact ⟨k + 1, a + X.size + 1, b + Y.size + 1, g', c', by omega, by go_num, rfl, by go_num, by go_num, by rw [HIN.out.1, HXS.out], by rw [HIN.out.2, HYS.out], OW'.out, HB'.out⟩
        case measure => simp [intOf]; omega
    · have hke : k = l.length := by omega
      have HF : Hid (OwnSp wr w.heap.size (.slice (some ⟨g, 0, none⟩) k c) (spansL l)) := by
        have := OW.out
        rw [List.take_of_length_le (by rw [spansL_len]; omega)] at this
        exact this
      subst hke
      clear OW HO0
      by_cases hlt1 : l.length < xs.length
      · have hge : ¬ ((l.length : Int) < (ys.length : Int)) := by have := HN.out; omega
        have hlt2 : (l.length : Int) < (xs.length : Int) := by omega
        go_wp2_with fail
        go_ret
        exact ⟨_, rfl, HF.out, HB.out⟩
      · have hge : ¬ ((l.length : Int) < (xs.length : Int)) := by omega
        go_wp2_with fail
        go_ret
        exact ⟨_, rfl, HF.out, HB.out⟩

set_option maxRecDepth 100000 in
set_option maxHeartbeats 1600000 in
theorem specBoth_any (s far : ByteArray) (w : World) (hs : s.size ≤ 2097152) (hf : far.size ≤ 2097152) :
    Calls Tryz.prog 67 #[.string s, .string far] w fun e w' => ∃ v, e = .returned v ∧ OwnSp w' w.heap.size v (spansL (pairsL s.data.toList far.data.toList)) ∧ Below w.heap.size w w' := by
  have hi0 := pairsL_ins s.data.toList far.data.toList
  have ho0 := pairsL_outs s.data.toList far.data.toList
  rw [len_list] at hi0 ho0
  have HI : Hid (∀ w, Calls Tryz.prog 20 #[.string s] w fun e w' => ∃ v, e = .returned (.tuple #[v, .string ⟨(restL s.data.toList).toArray⟩]) ∧ w'.ownsRow w.heap.size 9 1 v (linesL s.data.toList).length ((linesL s.data.toList).map strV) ∧ Below w.heap.size w w') := fun w => specLines_any s w hs
  have HF : Hid (∀ w, Calls Tryz.prog 20 #[.string far] w fun e w' => ∃ v, e = .returned (.tuple #[v, .string ⟨(restL far.data.toList).toArray⟩]) ∧ w'.ownsRow w.heap.size 9 1 v (linesL far.data.toList).length ((linesL far.data.toList).map strV) ∧ Below w.heap.size w w') := fun w => specLines_any far w hf
  have hlx : ∀ x ∈ linesL s.data.toList, x.length ≤ 2097152 := fun x hx => by have := line_len hx; rw [len_list] at this; omega
  have hly : ∀ x ∈ linesL far.data.toList, x.length ≤ 2097152 := fun x hx => by have := line_len hx; rw [len_list] at this; omega
  have hl1 := lines_len s.data.toList
  have hl2 := lines_len far.data.toList
  rw [len_list] at hl1 hl2
  have HP : Hid (∀ v1 v2 w, RdV w v1 ((linesL s.data.toList).map strV) → RdV w v2 ((linesL far.data.toList).map strV) → Calls Tryz.prog 84 #[v1, v2] w fun e w' => ∃ v, e = .returned v ∧ OwnSp w' w.heap.size v (spansL (pairsL s.data.toList far.data.toList)) ∧ Below w.heap.size w w') :=
    fun v1 v2 w h1 h2 => specPairs4_any _ v1 v2 _ _ w rfl (by omega) (by omega) hlx hly (by omega) (by omega) h1 h2
  obtain ⟨rs, hrs⟩ : ∃ rs, rs = (restL s.data.toList).toArray := ⟨_, rfl⟩
  obtain ⟨rf, hrf⟩ : ∃ rf, rf = (restL far.data.toList).toArray := ⟨_, rfl⟩
  obtain ⟨sp, hsp⟩ : ∃ sp, sp = spansL (pairsL s.data.toList far.data.toList) := ⟨_, rfl⟩
  obtain ⟨xs, hxs⟩ : ∃ xs, xs = linesL s.data.toList := ⟨_, rfl⟩
  obtain ⟨ys, hys⟩ : ∃ ys, ys = linesL far.data.toList := ⟨_, rfl⟩
  rw [← hsp] at HP ⊢
  rw [← hxs] at HI HP
  rw [← hys] at HF HP
  rw [← hrs] at HI
  rw [← hrf] at HF
  clear hlx hly hxs hys hrs hrf hl1 hl2 hsp hi0 ho0
  go_enter Tryz.func67, Tryz.ntmps67
  go_wp2_with fail
  (go_at_call 20; refine (HI.out _).mono ?_; rintro e w1 ⟨v1, rfl, own1, b1⟩; have B1 := Lib.hid b1; have R1 := Lib.hid (RdV.of_own own1).1; have z1 := b1.size; clear own1 b1)
  go_wp2_with fail
  (go_at_call 20; refine (HF.out _).mono ?_; rintro e w2 ⟨v2, rfl, own2, b2⟩; have B2 : Hid (Below w.heap.size w w2) := B1.out.trans (b2.mono z1); have R2 := Lib.hid (R1.out.below b2); have S2 := Lib.hid (RdV.of_own own2).1; have z2 := b2.size; clear own2 b2 R1 B1 HI HF)
  go_wp2_with fail
  (go_at_call 84; refine (HP.out _ _ _ R2.out S2.out).mono ?_; rintro e w3 ⟨v3, rfl, own3, b3⟩; have B3 : Hid (Below w.heap.size w w3) := B2.out.trans (b3.mono (by omega)); have O3 := Lib.hid (own3.mono (show w.heap.size ≤ w2.heap.size by omega)); clear own3 b3)
  go_wp2_with fail
  go_ret
  exact ⟨_, rfl, O3.out, B3.out⟩

end Go.Proofs.YtbhpogddnpaacaaGreatDoor

/- StrLines of the program: the lines of a text as a list of its own, and what is behind the last sign. Condition: the text has at most 2^21 bytes. -/
namespace Go.Proofs.YtbhpogddnpaacaaGreatDoor
open Go.RowKit Go.Shelf

set_option maxRecDepth 100000 in
set_option maxHeartbeats 2000000 in
theorem append_in (n : Nat) (hn : 3 ≤ n) (s : ByteArray) (hs : s.size ≤ 2097152) (Bn : Nat) (w : World) (hBn : Bn < w.heap.size) (hc : w.cell? ⟨Bn, 0, none⟩ = some (.string s)) :
    CallsIn Fence.wide n Tryz.prog 46 #[.slice none 0 0, .func (.func 47) #[] #[.pointer (some ⟨Bn, 0, none⟩)]] w fun e w' => ∃ v, e = .returned v ∧ w'.ownsRow w.heap.size 9 1 v (linesL s.data.toList).length ((linesL s.data.toList).map strV) ∧ Below w.heap.size w w' := by
  have h1 : 1 ≤ n := by omega
  have hll := lines_len s.data.toList
  rw [len_list] at hll
  obtain ⟨i0, hi, hz0, hz1, hz2⟩ := info_parts infoStr
  refine callsIn_of_wp_marks Tryz.func46 rfl trivial ?_ rfl
  simp only [Tryz.ntmps46, List.size_toArray, List.length_cons, List.length_nil, Nat.reduceAdd, Nat.reduceSub, Array.replicate_succ, Array.replicate_zero, List.push_toArray, List.append_toArray, List.nil_append, List.cons_append]
  gi_wp2
  have bO := Boxed.new w 32 (.slice none 0 0)
  have hB0 : Below w.heap.size w (w.alloc (.cells #[.slice none 0 0] 32)) := (Below.refl _ w).alloc (Nat.le_refl _) _
  refine wpIn_rangeFunc_ownG rfl h1 (gf := 47) (lb := #[.pointer (some ⟨Bn, 0, none⟩)]) rfl trivial (enters_of Tryz.func47 (by kernel_rfl) rfl)
    (tell_stops (n - 1) (by omega) Bn s hs (w.alloc (.cells #[.slice none 0 0] 32)) (by simp; omega) ((hB0.cell (p := ⟨Bn, 0, none⟩) hBn).trans hc)) (fun _ _ => trivial) (fun _ _ _ _ _ _ _ _ => trivial) (Below.refl _ _) (fun _ => rfl)
    (fun pre W => (∃ v, Boxed W w.heap.size 32 v ∧ W.ownsRow w.heap.size 9 1 v pre.length (pre.map strV) ∧ True) ∧ Below w.heap.size w W)
    (fun _ _ _ => False)
    (OwnFrom.and (Own.from (holdsRow_own w.heap.size w.heap.size 32 9 1 (fun pre : List (List UInt8) => pre.length) (fun pre => pre.map strV) (fun _ _ => True)) _) (ownFrom_below (Nat.le_refl _) (by simp)))
    (fun _ _ _ _ _ hs _ _ => hs)
    ⟨⟨_, bO, World.ownsRow_nil _ _ _ _, trivial⟩, hB0⟩
    (fun x => { tmps := #[.slice none 0 0, .func (.func 47) #[] #[.pointer (some ⟨Bn, 0, none⟩)], .pointer (some ⟨w.heap.size, 0, none⟩), undef, .slice none 0 0, .string ⟨x.toArray⟩, .func (.func 47) #[] #[.pointer (some ⟨Bn, 0, none⟩)], .string ⟨x.toArray⟩, undef, undef, undef, undef, undef], defers := [] }) ?assign ?body ?done ?stop
  case assign =>
    intro l x W K hK
    gi_wp2_with (rw [Oper.semAt_eq _ _ _ (fun c h => by cases h)]; go_simp; try go_bits)
    exact hK
  case body =>
    rintro l pre x W ⟨⟨v, hv, hrow, _⟩, hB⟩ hlt
    have hc := hv.cell
    have hpl : (pre.map strV).length = pre.length := List.length_map _
    gi_wp2_with (first
      | (gi_at_builtin; refine wpListIn_append_own _ rfl _ _ 32 rfl w.heap.size 9 i0 (.string ⟨#[]⟩) 1 16 Tryz.underlying32 hi hz0 hz1 hz2 rfl (by decide) _ _ _ rfl (hrow.alloc _) ⟨W.heap.size, 0, none⟩ 1 1 [.string ⟨x.toArray⟩] rfl rfl (cell_one_new _ _ _) (by simp [Value.oneCell']) (by unfold maxLen; omega) (by omega) (by have := hB.size; simp; omega) ?_; intro v' w1 hown' hgrow _; obtain ⟨g', cap', rfl⟩ := ownsRow_succ hown'; obtain ⟨hv1, hv2, hr2, hk2, hb2⟩ := hv.appended (by decide) hrow hB.size (Nat.le_refl _) hown' hgrow; have hc1 := hv1.cell; have hf1 := hv1.frozen)
      | (rw [Oper.semAt_eq _ _ _ (fun c h => by cases h)]; go_simp; try go_bits))
    exact ⟨hk2.from _, trivial, ⟨_, hv2, by simpa [strV] using hr2, trivial⟩, hB.trans hb2⟩
  case done =>
    rintro D ys W hD rfl ⟨⟨v, hv, hrow, _⟩, hB⟩ hK
    have hc := hv.cell
    gi_wp2
    refine ⟨by simp, .inl ⟨_, _, rfl, run_takeDeferred hK, ?_⟩⟩
    exact ⟨_, results_tmp rfl _ _ _, v, rfl, ownsRow_putObj hrow _ hK rfl, hB.trans (belowK_b (w := w) (Nat.le_refl _) W D _ _ (by simp at hD; omega) hK rfl rfl)⟩
  case stop =>
    rintro D c pre W _ _ h _
    exact h.elim

set_option maxRecDepth 100000 in
set_option maxHeartbeats 800000 in
theorem collect_any (s : ByteArray) (hs : s.size ≤ 2097152) (Bn : Nat) (w : World) (hBn : Bn < w.heap.size) (hc : w.cell? ⟨Bn, 0, none⟩ = some (.string s)) :
    Calls Tryz.prog 23 #[.func (.func 47) #[] #[.pointer (some ⟨Bn, 0, none⟩)]] w fun e w' => ∃ v, e = .returned v ∧ w'.ownsRow w.heap.size 9 1 v (linesL s.data.toList).length ((linesL s.data.toList).map strV) ∧ Below w.heap.size w w' := by
  have HA := Lib.hid (callsIn_wide.1 (append_in 3 (by omega) s hs Bn w hBn hc))
  clear hc
  go_enter Tryz.func23, Tryz.ntmps23
  go_wp2_with (go_at_call 46; refine HA.out.mono ?_; rintro e w' ⟨v, rfl, ho, hb⟩)
  obtain ⟨a1, cap1, rfl⟩ := own_form ho
  go_ret
  exact ⟨_, rfl, ho, hb⟩

set_option maxRecDepth 100000 in
set_option maxHeartbeats 800000 in
theorem implLines_any (s : ByteArray) (w : World) (hs : s.size ≤ 2097152) :
    Calls Tryz.prog 10 #[.string s] w fun e w' => ∃ v, e = .returned (.tuple #[v, .string ⟨(restL s.data.toList).toArray⟩]) ∧ w'.ownsRow w.heap.size 9 1 v (linesL s.data.toList).length ((linesL s.data.toList).map strV) ∧ Below w.heap.size w w' := by
  go_enter Tryz.func10, Tryz.ntmps10
  go_wp2_with (first
    | (go_at_call 24; refine (linesOf_any _ _).mono ?_; rintro e w' ⟨rfl, rfl⟩)
    | (go_at_call 23; refine (collect_any s hs w.heap.size _ (by simp) (by simp)).mono ?_; rintro e w1 ⟨v, rfl, ho, hb⟩; obtain ⟨a1, cap1, rfl⟩ := own_form ho)
    | (go_at_call 25; refine (rest_any _ _ (by omega)).mono ?_; rintro e w2 ⟨rfl, rfl⟩))
  go_ret2
  exact ⟨_, rfl, own_base ho (by simp), below_box hb⟩

end Go.Proofs.YtbhpogddnpaacaaGreatDoor

/- PosPairs of the program: the spans of two texts' lines, in memory of the call's own. Condition: each text has at most 2^21 bytes. -/
namespace Go.Proofs.YtbhpogddnpaacaaGreatDoor
open Go.RowKit

set_option maxRecDepth 100000 in
set_option maxHeartbeats 3200000 in
theorem implPairs_any (s far : ByteArray) (w : World) (hs : s.size ≤ 2097152) (hf : far.size ≤ 2097152) :
    Calls Tryz.prog 38 #[.string s, .string far] w fun e w' => ∃ v, e = .returned v ∧ OwnSp w' w.heap.size v (spansL (pairsL s.data.toList far.data.toList)) ∧ Below w.heap.size w w' := by
  have hi0 := pairsL_ins s.data.toList far.data.toList
  have ho0 := pairsL_outs s.data.toList far.data.toList
  rw [len_list] at hi0 ho0
  have HI : Hid (∀ w, Calls Tryz.prog 10 #[.string s] w fun e w' => ∃ v, e = .returned (.tuple #[v, .string ⟨(restL s.data.toList).toArray⟩]) ∧ w'.ownsRow w.heap.size 9 1 v (linesL s.data.toList).length ((linesL s.data.toList).map strV) ∧ Below w.heap.size w w') := fun w => implLines_any s w hs
  have HF : Hid (∀ w, Calls Tryz.prog 10 #[.string far] w fun e w' => ∃ v, e = .returned (.tuple #[v, .string ⟨(restL far.data.toList).toArray⟩]) ∧ w'.ownsRow w.heap.size 9 1 v (linesL far.data.toList).length ((linesL far.data.toList).map strV) ∧ Below w.heap.size w w') := fun w => implLines_any far w hf
  have hlx : ∀ x ∈ linesL s.data.toList, x.length ≤ 2097152 := fun x hx => by have := line_len hx; rw [len_list] at this; omega
  have hly : ∀ x ∈ linesL far.data.toList, x.length ≤ 2097152 := fun x hx => by have := line_len hx; rw [len_list] at this; omega
  have hl1 := lines_len s.data.toList
  have hl2 := lines_len far.data.toList
  rw [len_list] at hl1 hl2
  obtain ⟨rs, hrs⟩ : ∃ rs, rs = (restL s.data.toList).toArray := ⟨_, rfl⟩
  obtain ⟨rf, hrf⟩ : ∃ rf, rf = (restL far.data.toList).toArray := ⟨_, rfl⟩
  obtain ⟨l, hl⟩ : ∃ l, l = pairsL s.data.toList far.data.toList := ⟨_, rfl⟩
  rw [← hl] at hi0 ho0 ⊢
  unfold pairsL at hl
  obtain ⟨xs, hxs⟩ : ∃ xs, xs = linesL s.data.toList := ⟨_, rfl⟩
  obtain ⟨ys, hys⟩ : ∃ ys, ys = linesL far.data.toList := ⟨_, rfl⟩
  rw [← hxs] at HI hlx hl1 hl
  rw [← hys] at HF hly hl2 hl
  rw [← hrs] at HI
  rw [← hrf] at HF
  have hxl : xs.length ≤ 2097152 := by omega
  have hyl : ys.length ≤ 2097152 := by omega
  have hn : l.length = min xs.length ys.length := by rw [hl, List.length_zip]
  have HLX := Lib.hid hlx
  have HLY := Lib.hid hly
  have HL := Lib.hid hl
  clear hlx hly hl hxs hys hrs hrf hl1 hl2
  go_enter Tryz.func38, Tryz.ntmps38
  go_wp2_with fail
  (go_at_call 10; refine (HI.out _).mono ?_; rintro e w1 ⟨v1, rfl, own1, b1⟩; obtain ⟨a1, c1, rfl⟩ := own_form own1; have B1 := Lib.hid b1; have OX1 := Lib.hid own1; have z1 := b1.size; clear own1 b1)
  go_wp2_with fail
  (go_at_call 10; refine (HF.out _).mono ?_; rintro e w2 ⟨v2, rfl, own2, b2⟩; obtain ⟨a2, c2, rfl⟩ := own_form own2; have B2 : Hid (Below w.heap.size w w2) := B1.out.trans (b2.mono z1); have OX := Lib.hid (own_below OX1.out b2); have OY := Lib.hid own2; have z2 := b2.size; clear own2 b2 OX1 B1 HI HF)
  go_wp2_with fail
  rw [show min (xs.length : Int) (ys.length : Int) = (l.length : Int) by omega]
  have hnx : l.length ≤ xs.length := by omega
  have hny : l.length ≤ ys.length := by omega
  clear hn
  go_loopw [9, 26] (fun sp i wr => ∃ (k : Nat) (v : Value), k ≤ l.length ∧ i = .int .i64 k ∧ v = sp ∧ OwnSp wr w2.heap.size v ((spansL l).take k) ∧ Below w2.heap.size w2 wr) (fun _ i _ => l.length - (intOf i).toNat)
  case atStart => exact ⟨0, _, Nat.zero_le _, rfl, rfl, OwnSp.nil _ _, Below.refl _ _⟩
  case round =>
    obtain ⟨k, v, hk, rfl, rfl, own, hb⟩ := hrel
    have hsz := hb.size
    have hkl : ((spansL l).take k).length = k := by rw [List.length_take, spansL_len]; omega
    by_cases hlt : k < l.length
    · obtain ⟨gx, cx, ex, _, hgx, hcx, cellx⟩ := own_cells OX.out (by omega)
      obtain ⟨gy, cy, ey, _, hgy, hcy, celly⟩ := own_cells OY.out (by omega)
      simp at ex ey
      obtain ⟨rfl, rfl⟩ := ex
      obtain ⟨rfl, rfl⟩ := ey
      have hkx : k < xs.length := by omega
      have hky : k < ys.length := by omega
      obtain ⟨x, hx⟩ : ∃ x, x = xs[k] := ⟨_, rfl⟩
      obtain ⟨y, hy⟩ : ∃ y, y = ys[k] := ⟨_, rfl⟩
      have hlk : l[k] = (x, y) := by rw [hx, hy]; simp only [HL.out, List.getElem_zip]
      have cX : wr.cell? ⟨gx, k, none⟩ = some (.string ⟨x.toArray⟩) := by
        rw [hb.cell (p := ⟨gx, k, none⟩) hgx, (cellx k (by simpa using hkx)).1]; simp [hx, strV]
      have cY : wr.cell? ⟨gy, k, none⟩ = some (.string ⟨y.toArray⟩) := by
        rw [hb.cell (p := ⟨gy, k, none⟩) hgy, (celly k (by simpa using hky)).1]; simp [hy, strV]
      have hxn : x.length ≤ 2097152 := HLX.out x (by rw [hx]; exact List.getElem_mem _)
      have hyn : y.length ≤ 2097152 := HLY.out y (by rw [hy]; exact List.getElem_mem _)
      obtain ⟨e1, e2⟩ := lastS_take l hk
      have hi1 := insL_le l k
      have ho1 := outsL_le l k
      have HN : Hid ((spansL l).take (k + 1) = (spansL l).take k ++ [(insL (l.take k), insL (l.take k) + x.length + 1, outsL (l.take k), outsL (l.take k) + y.length + 1, decide (y = x))]) := by
        show _ = _
        rw [spansL_succ hlt, spAt_next hlt, hlk]
      have HW : Hid (∀ wx, Below wr.heap.size wr wx → Calls Tryz.prog 65 #[v, .string ⟨x.toArray⟩, .string ⟨y.toArray⟩] wx fun e w' => ∃ v', e = .returned v' ∧ OwnSp w' w2.heap.size v' ((spansL l).take (k + 1)) ∧ Below w2.heap.size w2 w') := fun wx hbx => by
        refine (with_any w2.heap.size v ((spansL l).take k) ⟨x.toArray⟩ ⟨y.toArray⟩ wx (by omega) (Nat.le_trans hsz hbx.size) (own.below hbx) (by simpa [ByteArray.size] using hxn) (by simpa [ByteArray.size] using hyn) (by rw [e1]; omega) (by rw [e2]; omega)).mono ?_
        rintro e w' ⟨v', rfl, h1, h2⟩
        refine ⟨v', rfl, ?_, (hb.trans (hbx.mono hsz)).trans h2⟩
        rw [HN.out, ← str_beq]
        rw [e1, e2] at h1
        simpa [ByteArray.size] using h1
      have hk2 : (k : Int) ≤ (c1 : Int) := by omega
      have hk3 : (k : Int) ≤ (c2 : Int) := by omega
      clear cellx celly hx hy hlk own e1 e2 HN hkl hi1 ho1
      go_wp2_with fail
      go_region_with (go_at_call 65; refine (HW.out _ (by first | exact Below.refl _ _ | exact (Below.refl _ _).drew)).mono ?_; rintro e w' ⟨v', rfl, h1, h2⟩; have H1 := Lib.hid h1; have H2 := Lib.hid h2; clear h1 h2)
      all_goals
        go_wp2_with fail
        go_roundw
        case rel => exact ⟨k + 1, _, by omega, by go_num, rfl, H1.out, H2.out⟩
        case measure => simp [intOf]; omega
    · have hke : k = l.length := by omega
      subst hke
      have HO : Hid (OwnSp wr w2.heap.size v (spansL l)) := by
        rw [List.take_of_length_le (by rw [spansL_len]; omega)] at own
        exact own
      clear own hlt
      go_wp2_with fail
      go_ret
      exact ⟨_, rfl, HO.out.mono (by omega), B2.out.trans (hb.mono (by omega))⟩

end Go.Proofs.YtbhpogddnpaacaaGreatDoor

/- PosSpans of the specification, and of the program: the spans of a stream's lines as they go outside by a table. Conditions: at most 2^22 ends; the text has at most 2^21 bytes. -/
namespace Go.Proofs.YtbhpogddnpaacaaGreatDoor
open Go.RowKit Go.Sort

/-- The lines of a stream, and what they are outside. -/
def posL (es : List (Int × Int)) (s : List UInt8) : List (List UInt8 × List UInt8) := pairsL s (strA es s).2
theorem posL_not {es : List (Int × Int)} {s : List UInt8} (h : (mapB es && strB s) = false) : posL es s = [] := by
  have : strA es s = ([], []) := by
    unfold strA
    rw [if_neg (fun hh => by rw [hh.1, hh.2] at h; cases h)]
  unfold posL pairsL
  rw [this]
  show (linesL s).zip (linesL []) = []
  have : linesL [] = [] := rfl
  rw [this, List.zip_nil_right]
theorem posL_ok {es : List (Int × Int)} {s : List UInt8} (h1 : mapB es = true) (h2 : strB s = true) : posL es s = pairsL s (streamE es (linesL s)).2 := by
  unfold posL strA
  rw [if_pos ⟨h1, h2⟩]

set_option maxRecDepth 100000 in
set_option maxHeartbeats 1600000 in
theorem implSpans_any (v : Value) (es : List (Int × Int)) (s : ByteArray) (w : World) (hn : es.length ≤ 4194304) (hs : s.size ≤ 2097152) (hwf : wfE es) (ht : TabAt w v es) (hv : VarsOk w) :
    Calls Tryz.prog 14 #[.agg #[v], .string s] w fun e w' => ∃ v, e = .returned v ∧ OwnSp w' w.heap.size v (spansL (posL es s.data.toList)) ∧ Below w.heap.size w w' := by
  have hlen := strA_len es s.data.toList
  have HT := Lib.hid ht
  obtain ⟨ad, cap, rfl, _, _⟩ := ht
  obtain ⟨us, hus⟩ : ∃ us, us = (strA es s.data.toList).1 := ⟨_, rfl⟩
  obtain ⟨far, hfar⟩ : ∃ far : ByteArray, far = ⟨(strA es s.data.toList).2.toArray⟩ := ⟨_, rfl⟩
  have HI : Hid (∀ w, TabAt w (.slice ad es.length cap) es → VarsOk w → Calls Tryz.prog 12 #[.agg #[.slice ad es.length cap], .string s] w fun e w' => ∃ g c, e = .returned (.tuple #[.agg #[.slice g us.length c], .string far]) ∧ FreshTab w' w.heap.size (.slice g us.length c) us ∧ Below w.heap.size w w') := fun w ht hv => by rw [hus, hfar]; exact implStrA _ es s w hn hs hwf ht hv
  have hfl : far.data.toList = (strA es s.data.toList).2 := by rw [hfar]
  have hfs : far.size ≤ 2097152 := by rw [← len_list, hfl]; exact hlen
  have HP : Hid (∀ w, Calls Tryz.prog 38 #[.string s, .string far] w fun e w' => ∃ v, e = .returned v ∧ OwnSp w' w.heap.size v (spansL (posL es s.data.toList)) ∧ Below w.heap.size w w') := fun w => by
    have := implPairs_any s far w hs hfs
    rw [hfl] at this
    exact this
  obtain ⟨sp, hsp⟩ : ∃ sp, sp = spansL (posL es s.data.toList) := ⟨_, rfl⟩
  rw [← hsp] at HP ⊢
  have HV : Hid (∀ w', Below w.heap.size w w' → VarsOk w') := fun w' h => hv.below h
  clear hsp hus hfar hfl hfs hlen hwf hv
  go_enter Tryz.func14, Tryz.ntmps14
  go_wp2_with fail
  (go_at_call 12; refine (HI.out _ (HT.out.below ((Below.refl _ _).alloc (Nat.le_refl _) _)) (HV.out _ ((Below.refl _ _).alloc (Nat.le_refl _) _))).mono ?_; rintro e w1 ⟨g, c, rfl, _, b1⟩; have B1 : Hid (Below w.heap.size w w1) := ((Below.refl _ _).alloc (Nat.le_refl _) _).trans (b1.mono (by simp)); have z1 : w.heap.size + 1 ≤ w1.heap.size := (by have := b1.size; simpa using this); clear b1)
  go_wp2_with fail
  (go_at_call 38; refine (HP.out _).mono ?_; rintro e w2 ⟨v2, rfl, o2, b2⟩; have B2 : Hid (Below w.heap.size w w2) := (B1.out.alloc (by omega) _).trans (b2.mono (by simp; omega)); have O2 : Hid (OwnSp w2 w.heap.size v2 sp) := o2.mono (by simp; omega); clear o2 b2)
  go_wp2_with fail
  go_ret
  exact ⟨_, rfl, O2.out, B2.out⟩

set_option maxRecDepth 100000 in
set_option maxHeartbeats 1600000 in
theorem spec4Spans_any (B : Nat) (ad : Addr) (cap : Nat) (es : List (Int × Int)) (s : ByteArray) (w : World) (hm : mapB es = true) (hst : strB s.data.toList = true) (hs : s.size ≤ 2097152) (hB : B ≤ w.heap.size) (ho : OwnTab w B (.slice (some ad) es.length cap) es) :
    Calls Tryz.prog 42 #[.agg #[.slice (some ad) es.length cap], .string s] w fun e w' => ∃ v, e = .returned v ∧ OwnSp w' w.heap.size v (spansL (posL es s.data.toList)) ∧ Below w.heap.size w w' := by
  have hlen := strA_len es s.data.toList
  have hstr : strA es s.data.toList = streamE es (linesL s.data.toList) := by unfold strA; rw [if_pos ⟨hm, hst⟩]
  rw [hstr] at hlen
  have HO := Lib.hid ho
  obtain ⟨us, hus⟩ : ∃ us, us = (streamE es (linesL s.data.toList)).1 := ⟨_, rfl⟩
  obtain ⟨far, hfar⟩ : ∃ far : ByteArray, far = ⟨(streamE es (linesL s.data.toList)).2.toArray⟩ := ⟨_, rfl⟩
  have HI : Hid (∀ w, B ≤ w.heap.size → OwnTab w B (.slice (some ad) es.length cap) es → Calls Tryz.prog 66 #[.agg #[.slice (some ad) es.length cap], .string s] w fun e w' => ∃ g c, e = .returned (.tuple #[.agg #[.slice (some g) us.length c], .string far]) ∧ OwnTab w' B (.slice (some g) us.length c) us ∧ Below w.heap.size w w') := fun w h1 h2 => by rw [hus, hfar]; exact specStream_any B ad cap es s w hm hs h1 h2
  have hfl : far.data.toList = (streamE es (linesL s.data.toList)).2 := by rw [hfar]
  have hfs : far.size ≤ 2097152 := by rw [← len_list, hfl]; exact hlen
  have HP : Hid (∀ w, Calls Tryz.prog 67 #[.string s, .string far] w fun e w' => ∃ v, e = .returned v ∧ OwnSp w' w.heap.size v (spansL (posL es s.data.toList)) ∧ Below w.heap.size w w') := fun w => by
    have := specBoth_any s far w hs hfs
    rw [hfl, ← posL_ok hm hst] at this
    exact this
  obtain ⟨sp, hsp⟩ : ∃ sp, sp = spansL (posL es s.data.toList) := ⟨_, rfl⟩
  rw [← hsp] at HP ⊢
  clear hsp hus hfar hfl hfs hlen hstr hm hst ho
  go_enter Tryz.func42, Tryz.ntmps42
  go_wp2_with fail
  (go_at_call 66; refine (HI.out _ (by simp; omega) (HO.out.below ((Below.refl _ _).alloc (Nat.le_refl _) _))).mono ?_; rintro e w1 ⟨g, c, rfl, _, b1⟩; have B1 : Hid (Below w.heap.size w w1) := ((Below.refl _ _).alloc (Nat.le_refl _) _).trans (b1.mono (by simp)); have z1 : w.heap.size + 1 ≤ w1.heap.size := (by have := b1.size; simpa using this); clear b1)
  go_wp2_with fail
  (go_at_call 67; refine (HP.out _).mono ?_; rintro e w2 ⟨v2, rfl, o2, b2⟩; have B2 : Hid (Below w.heap.size w w2) := (B1.out.alloc (by omega) _).trans (b2.mono (by simp; omega)); have O2 : Hid (OwnSp w2 w.heap.size v2 sp) := o2.mono (by simp; omega); clear o2 b2)
  go_wp2_with fail
  go_ret
  exact ⟨_, rfl, O2.out, B2.out⟩

set_option maxRecDepth 100000 in
set_option maxHeartbeats 1600000 in
theorem specSpans_any (B : Nat) (ad : Addr) (cap : Nat) (es : List (Int × Int)) (s : ByteArray) (w : World) (hn : es.length ≤ 4194304) (hs : s.size ≤ 2097152) (hB : B ≤ w.heap.size) (ho : OwnTab w B (.slice (some ad) es.length cap) es) :
    Calls Tryz.prog 17 #[.agg #[.slice (some ad) es.length cap], .string s] w fun e w' => ∃ v, e = .returned v ∧ OwnSp w' w.heap.size v (spansL (posL es s.data.toList)) ∧ Below w.heap.size w w' := by
  have HO := Lib.hid ho
  have hM : Hid (∀ w, OwnTab w B (.slice (some ad) es.length cap) es → Calls Tryz.prog 7 #[.agg #[.slice (some ad) es.length cap]] w fun e w' => e = .returned (.bool (mapB es)) ∧ Below w.heap.size w w') := fun w h => specMapOk_any _ es w hn h.tab
  have hL : Hid (∀ w, Calls Tryz.prog 8 #[.string s] w fun e w' => e = .returned (.bool (strB s.data.toList)) ∧ Below w.heap.size w w') := fun w => specStr_any s w hs
  have HZ : Hid (∀ wx : World, w.heap.size ≤ wx.heap.size → OwnSp (wx.alloc (.cells #[] 76)) w.heap.size (.slice (some ⟨wx.heap.size, 0, none⟩) 0 0) []) := fun wx h => by
    have := World.ownsRow_made (base := w.heap.size) (e := 76) (size := 5) wx #[] 0 h (Nat.zero_le _) rfl
    simpa [OwnSp, flatC] using this
  by_cases hm : mapB es = true
  · by_cases hi : strB s.data.toList = true
    · have HX : Hid (∀ w, B ≤ w.heap.size → OwnTab w B (.slice (some ad) es.length cap) es → Calls Tryz.prog 42 #[.agg #[.slice (some ad) es.length cap], .string s] w fun e w' => ∃ v, e = .returned v ∧ OwnSp w' w.heap.size v (spansL (posL es s.data.toList)) ∧ Below w.heap.size w w') := fun w h1 h2 => spec4Spans_any B ad cap es s w hm hi hs h1 h2
      obtain ⟨sp, hsp⟩ : ∃ sp, sp = spansL (posL es s.data.toList) := ⟨_, rfl⟩
      rw [← hsp] at HX ⊢
      rw [hm] at hM
      rw [hi] at hL
      clear hm hi hsp ho HZ
      go_enter Tryz.func17, Tryz.ntmps17
      go_wp2_with fail
      (go_at_call 7; refine (hM.out _ (HO.out.below ((Below.refl _ _).alloc (Nat.le_refl _) _))).mono ?_; rintro e w1 ⟨rfl, b1⟩; have t0 : w1.cell? ⟨w.heap.size, 0, none⟩ = some (.slice (some ad) es.length cap) := (by rw [b1.cell (by simp)]; simp); have B1 : Hid (Below w.heap.size w w1) := ((Below.refl _ _).alloc (Nat.le_refl _) _).trans (b1.mono (by simp)); have z1 : w.heap.size + 1 ≤ w1.heap.size := (by have := b1.size; simpa using this); clear b1)
      go_wp2_with fail
      (go_at_call 8; refine (hL.out _).mono ?_; rintro e w2 ⟨rfl, b2⟩; have t2 := box_below t0 b2; have B2 : Hid (Below w.heap.size w w2) := B1.out.trans (b2.mono (by omega)); have z2 : w.heap.size + 1 ≤ w2.heap.size := (by have := b2.size; omega); clear b2)
      go_wp2_with fail
      (go_at_call 42; refine (HX.out _ (by omega) (HO.out.below B2.out)).mono ?_; rintro e w3 ⟨v3, rfl, o3, b3⟩; have O3 : Hid (OwnSp w3 w.heap.size v3 sp) := o3.mono (by omega); have B3 : Hid (Below w.heap.size w w3) := B2.out.trans (b3.mono (by omega)); clear o3 b3)
      go_wp2_with fail
      go_ret
      exact ⟨_, rfl, O3.out, B3.out⟩
    · have hi' : strB s.data.toList = false := by simpa using hi
      have hp : posL es s.data.toList = [] := posL_not (by rw [hi', Bool.and_false])
      rw [hp]
      show Calls _ _ _ _ fun e w' => ∃ v, e = .returned v ∧ OwnSp w' w.heap.size v [] ∧ Below w.heap.size w w'
      rw [hm] at hM
      rw [hi'] at hL
      clear hm hi hi' hp ho
      go_enter Tryz.func17, Tryz.ntmps17
      go_wp2_with fail
      (go_at_call 7; refine (hM.out _ (HO.out.below ((Below.refl _ _).alloc (Nat.le_refl _) _))).mono ?_; rintro e w1 ⟨rfl, b1⟩; have B1 : Hid (Below w.heap.size w w1) := ((Below.refl _ _).alloc (Nat.le_refl _) _).trans (b1.mono (by simp)); have z1 : w.heap.size + 1 ≤ w1.heap.size := (by have := b1.size; simpa using this); clear b1)
      go_wp2_with fail
      (go_at_call 8; refine (hL.out _).mono ?_; rintro e w2 ⟨rfl, b2⟩; have B2 : Hid (Below w.heap.size w w2) := B1.out.trans (b2.mono (by omega)); have z2 : w.heap.size + 1 ≤ w2.heap.size := (by have := b2.size; omega); clear b2)
      go_wp2_with fail
      go_ret
      exact ⟨_, rfl, HZ.out w2 (by omega), B2.out.alloc (by omega) _⟩
  · have hm' : mapB es = false := by simpa using hm
    have hp : posL es s.data.toList = [] := posL_not (by rw [hm', Bool.false_and])
    rw [hp]
    show Calls _ _ _ _ fun e w' => ∃ v, e = .returned v ∧ OwnSp w' w.heap.size v [] ∧ Below w.heap.size w w'
    rw [hm'] at hM
    clear hm hm' hp ho
    go_enter Tryz.func17, Tryz.ntmps17
    go_wp2_with fail
    (go_at_call 7; refine (hM.out _ (HO.out.below ((Below.refl _ _).alloc (Nat.le_refl _) _))).mono ?_; rintro e w1 ⟨rfl, b1⟩; have B1 : Hid (Below w.heap.size w w1) := ((Below.refl _ _).alloc (Nat.le_refl _) _).trans (b1.mono (by simp)); have z1 : w.heap.size + 1 ≤ w1.heap.size := (by have := b1.size; simpa using this); clear b1)
    go_wp2_with fail
    go_ret
    exact ⟨_, rfl, HZ.out w1 (by omega), B1.out.alloc (by omega) _⟩

end Go.Proofs.YtbhpogddnpaacaaGreatDoor
