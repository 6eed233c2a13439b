/- A rule, and rules, as the law has them become the program's; what the law says of their size; two of the same rule, and of the same rules, are found the same. Condition: at most 2^22 rules. -/
import Derived.Test.YtgfkiljkpkfapaaGreatDoorRul
import Derived.Deep.RegionWith
namespace Go.Proofs.YtgfkiljkpkfapaaGreatDoor
open Go.RowKit

theorem infoRl : (Tryz.prog.info? 115).map (fun i => (i.zero, i.size, i.bytes)) = some (some (.agg #[.bool false, .int .i64 0, .int .i64 0, .int .i64 0, .int .i64 0, .int .i64 0, .int .i64 0]), 7, 56) := by kernel_rfl

/-- A block whose cells are these. -/
def Blk (w : World) (g : Nat) (t : TypeId) (l : List Value) : Prop := w.heap[g]? = some (.cells ⟨l⟩ t)
theorem Blk.lt {w : World} {g : Nat} {t : TypeId} {l : List Value} (h : Blk w g t l) : g < w.heap.size := (Array.getElem?_eq_some_iff.1 h).1
theorem Blk.below {w w' : World} {g : Nat} {t : TypeId} {l : List Value} (h : Blk w g t l) (hb : Below w.heap.size w w') : Blk w' g t l := (hb.block g h.lt).trans h
theorem Blk.set {w : World} {g : Nat} {t : TypeId} {l : List Value} (h : Blk w g t l) (j : Nat) (u : Value) : Blk (w.setCell ⟨g, j, none⟩ u) g t (l.set j u) := by
  unfold Blk at h ⊢
  show (w.heap.modify g _)[g]? = _
  rw [Array.getElem?_modify]
  simp [h]
theorem Blk.cell {w : World} {g : Nat} {t : TypeId} {l : List Value} (h : Blk w g t l) (j : Nat) (u : Value) (hu : l[j]? = some u) : w.cell? ⟨g, j, none⟩ = some u ∧ w.frozen? ⟨g, j, none⟩ = false := by
  unfold Blk at h
  exact ⟨by simp [World.cell?, h]; exact hu, by simp [World.frozen?, h]⟩
theorem Blk.own {w : World} {B g n : Nat} {t : TypeId} {l : List Value} (h : Blk w g t l) (hB : B ≤ g) (hl : l.length = n * 7) (hn : n ≤ maxLen) : w.ownsRow B t 7 (.slice (some ⟨g, 0, none⟩) n n) n l := by
  refine ⟨hl, Or.inr ⟨g, n, ⟨l⟩, rfl, hB, h, Nat.le_refl _, hn, by simpa using hl, ?_⟩⟩
  exact List.take_of_length_le (by show l.length ≤ _; omega)
theorem own_blk {w : World} {B g n k : Nat} {t : TypeId} {xs : List Value} (h : w.ownsRow B t k (.slice (some ⟨g, 0, none⟩) n n) n xs) : ∃ l, Blk w g t l ∧ l.length = n * k ∧ B ≤ g := by
  rcases h.2 with ⟨h0, _⟩ | ⟨g', cap', cur, hv, hB, hg, h2, _, hs, ht⟩
  · cases h0
  · simp at hv
    obtain ⟨rfl, rfl⟩ := hv
    obtain ⟨l⟩ := cur
    exact ⟨l, hg, by simpa using hs, hB⟩
theorem set7 (A r : List Value) (y0 y1 y2 y3 y4 y5 y6 u0 u1 u2 u3 u4 u5 u6 : Value) (m : Nat) (hm : A.length = m) :
    (((((((A ++ y0 :: y1 :: y2 :: y3 :: y4 :: y5 :: y6 :: r).set m u0).set (m + 1) u1).set (m + 2) u2).set (m + 3) u3).set (m + 4) u4).set (m + 5) u5).set (m + 6) u6 = A ++ [u0, u1, u2, u3, u4, u5, u6] ++ r := by
  subst hm
  have hs : ∀ (j : Nat) (x : List Value) (u : Value), (A ++ x).set (A.length + j) u = A ++ x.set j u := fun j x u => by rw [List.set_append_right _ _ (by omega)]; simp
  have h0 := hs 0
  simp only [Nat.add_zero] at h0
  rw [h0, hs, hs, hs, hs, hs, hs]
  simp
theorem seven_of {l : List Value} {n : Nat} (h : l.length = n + 7) : ∃ y0 y1 y2 y3 y4 y5 y6 r, l = y0 :: y1 :: y2 :: y3 :: y4 :: y5 :: y6 :: r ∧ r.length = n := by
  match l, h with
  | y0 :: y1 :: y2 :: y3 :: y4 :: y5 :: y6 :: r, h => exact ⟨y0, y1, y2, y3, y4, y5, y6, r, rfl, by simpa using h⟩

/-- A slice of rules lies in the world, at any address. -/
def ArgRl (w : World) (v : Value) (l : List Rl) : Prop := ∃ a cap, v = .slice a l.length cap ∧ (l.length ≤ cap ∧ (a = none → cap = 0)) ∧ (0 < l.length → ∃ x : Addr, a = some x ∧ x.block < w.heap.size ∧ ∀ i (hi : i < l.length) j u, (rlC l[i])[j]? = some u → w.cell? (x.add (i * 7 + j)) = some u)
theorem add_blk (a : Addr) (i : Nat) : (a.add i).block = a.block := by unfold Addr.add; split <;> rfl
theorem add_lit (x : Addr) (i k : Nat) (hk : k ≠ 0) : x.add (i + k) = ⟨(x.add i).block, (x.add i).off + k, none⟩ := by
  unfold Addr.add
  split <;> split <;> simp_all <;> omega
theorem ArgRl.below {w w' : World} {v : Value} {l : List Rl} (h : ArgRl w v l) (hb : Below w.heap.size w w') : ArgRl w' v l := by
  obtain ⟨a, cap, rfl, hc, hr⟩ := h
  refine ⟨a, cap, rfl, hc, fun h => ?_⟩
  obtain ⟨x, rfl, hx, hrow⟩ := hr h
  exact ⟨x, rfl, Nat.lt_of_lt_of_le hx hb.size, fun i hi j u hu => by
    rw [hb.cell (p := x.add (i * 7 + j)) (by rw [add_blk]; exact hx)]; exact hrow i hi j u hu⟩
/-- Rules in a list of the call's own. -/
def OwnRl (w : World) (B : Nat) (v : Value) (l : List Rl) : Prop := w.ownsRow B 115 7 v l.length (flatC rlC l)
/-- A slice reads as these rules. -/
def RdRl (w : World) (v : Value) (l : List Rl) : Prop := ∃ a cap, v = .slice a l.length cap ∧ l.length ≤ cap ∧ (0 < l.length → ∃ g off, a = some ⟨g, off, none⟩ ∧ g < w.heap.size ∧ ∀ i (hi : i < l.length) j u, (rlC l[i])[j]? = some u → w.cell? ⟨g, off + (i * 7 + j), none⟩ = some u)
theorem RdRl.below {w w' : World} {v : Value} {l : List Rl} (h : RdRl w v l) (hb : Below w.heap.size w w') : RdRl w' v l := by
  obtain ⟨a, cap, rfl, hc, hr⟩ := h
  refine ⟨a, cap, rfl, hc, fun h => ?_⟩
  obtain ⟨g, off, rfl, hx, hrow⟩ := hr h
  exact ⟨g, off, rfl, Nat.lt_of_lt_of_le hx hb.size, fun i hi j u hu => by
    rw [hb.cell (p := ⟨g, off + (i * 7 + j), none⟩) hx]; exact hrow i hi j u hu⟩
theorem OwnRl.rd {w : World} {B : Nat} {v : Value} {l : List Rl} (h : OwnRl w B v l) : RdRl w v l := by
  obtain ⟨a, cap, rfl, hc, hr⟩ := RdC.of_own rlC_len (by decide) h
  refine ⟨a, cap, rfl, hc, fun hn => ?_⟩
  obtain ⟨g, rfl, hrow⟩ := hr hn
  refine ⟨g, 0, rfl, hrow.lt (by rw [flatC_len rlC_len]; omega), fun i hi j u hu => ?_⟩
  have hj : j < 7 := by
    have := (List.getElem?_eq_some_iff.1 hu).1
    rwa [rlC_len] at this
  rw [Nat.zero_add]
  exact (hrow.elem rlC_len i hi j hj u hu).1

/-- The seven cells of a rule that is read. -/
theorem rl_seven {w : World} {g off : Nat} {l : List Rl} (h : ∀ i (hi : i < l.length) j u, (rlC l[i])[j]? = some u → w.cell? ⟨g, off + (i * 7 + j), none⟩ = some u) (i : Nat) (hi : i < l.length) (al : Bool) (a b c d e f : Int) (hr : (⟨al, a, b, c, d, e, f⟩ : Rl) = l[i]) :
    w.cell? ⟨g, off + i * 7, none⟩ = some (.bool al) ∧ w.cell? ⟨g, off + i * 7 + 1, none⟩ = some (.int .i64 a) ∧ w.cell? ⟨g, off + i * 7 + 2, none⟩ = some (.int .i64 b) ∧ w.cell? ⟨g, off + i * 7 + 3, none⟩ = some (.int .i64 c) ∧ w.cell? ⟨g, off + i * 7 + 4, none⟩ = some (.int .i64 d) ∧ w.cell? ⟨g, off + i * 7 + 5, none⟩ = some (.int .i64 e) ∧ w.cell? ⟨g, off + i * 7 + 6, none⟩ = some (.int .i64 f) := by
  have hh := h i hi
  rw [← hr] at hh
  exact ⟨hh 0 _ rfl, hh 1 _ rfl, hh 2 _ rfl, hh 3 _ rfl, hh 4 _ rfl, hh 5 _ rfl, hh 6 _ rfl⟩

end Go.Proofs.YtgfkiljkpkfapaaGreatDoor
