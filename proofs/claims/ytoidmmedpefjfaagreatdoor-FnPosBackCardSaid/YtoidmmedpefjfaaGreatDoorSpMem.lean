/- Spans in memory: the last one of some, and one more behind them. Condition: at most 2^22 spans. -/
import Derived.Test.YtoidmmedpefjfaaGreatDoorFlat
import Derived.Test.YtoidmmedpefjfaaGreatDoorSpans
import Derived.Maps.AppendAt
import Derived.Deep.AppendLies
namespace Go.Proofs.YtoidmmedpefjfaaGreatDoor
open Go.RowKit

theorem infoSpan : (Tryz.prog.info? 47).map (fun i => (i.zero, i.size, i.bytes)) = some (some (.agg #[.int .i64 0, .int .i64 0, .int .i64 0, .int .i64 0, .bool false]), 5, 40) := by kernel_rfl
/-- A list of spans of the call's own. -/
def OwnSp (w : World) (B : Nat) (v : Value) (xs : List (Nat × Nat × Nat × Nat × Bool)) : Prop := w.ownsRow B 47 5 v xs.length (flatC spC xs)
def RdSp (w : World) (v : Value) (xs : List (Nat × Nat × Nat × Nat × Bool)) : Prop := RdC spC w v xs
theorem OwnSp.rd {w : World} {B : Nat} {v : Value} {xs : List (Nat × Nat × Nat × Nat × Bool)} (h : OwnSp w B v xs) : RdSp w v xs := RdC.of_own spC_len (by decide) h
theorem RdSp.below {w w' : World} {v : Value} {xs : List (Nat × Nat × Nat × Nat × Bool)} (h : RdSp w v xs) (hb : Below w.heap.size w w') : RdSp w' v xs := RdC.below spC_len (by decide) h hb
theorem OwnSp.below {w w' : World} {B : Nat} {v : Value} {xs : List (Nat × Nat × Nat × Nat × Bool)} (h : OwnSp w B v xs) (hb : Below w.heap.size w w') : OwnSp w' B v xs := by
  refine ⟨h.1, ?_⟩
  rcases h.2 with h2 | ⟨g, cap, cur, hv, hB, hg, h2, h3, hs, ht⟩
  · exact Or.inl h2
  · exact Or.inr ⟨g, cap, cur, hv, hB, (hb.block g (Array.getElem?_eq_some_iff.1 hg).1).trans hg, h2, h3, hs, ht⟩
theorem OwnSp.mono {w : World} {B B' : Nat} {v : Value} {xs : List (Nat × Nat × Nat × Nat × Bool)} (h : OwnSp w B v xs) (hB : B' ≤ B) : OwnSp w B' v xs := by
  refine ⟨h.1, ?_⟩
  rcases h.2 with h2 | ⟨g, cap, cur, hv, hb, r⟩
  · exact Or.inl h2
  · exact Or.inr ⟨g, cap, cur, hv, by omega, r⟩
theorem OwnSp.form {w : World} {B : Nat} {v : Value} {xs : List (Nat × Nat × Nat × Nat × Bool)} (h : OwnSp w B v xs) : ∃ a cap, v = .slice a xs.length cap := by
  obtain ⟨a, cap, e, _⟩ := h.rd
  exact ⟨a, cap, e⟩
theorem OwnSp.nil (w : World) (B : Nat) : OwnSp w B (.slice none 0 0) [] := by
  unfold OwnSp
  exact ⟨rfl, Or.inl ⟨rfl, rfl⟩⟩
/-- The last span; nothing, if there are none. -/
def lastS (xs : List (Nat × Nat × Nat × Nat × Bool)) : Nat × Nat × Nat × Nat × Bool := xs.getLast?.getD (0, 0, 0, 0, false)

set_option maxRecDepth 100000 in
set_option maxHeartbeats 1600000 in
theorem last_any (v : Value) (xs : List (Nat × Nat × Nat × Nat × Bool)) (w : World) (hn : xs.length ≤ 4194304) (h : RdSp w v xs) :
    Calls Tryz.prog 115 #[v] w fun e w' => e = .returned (.agg #[.int .i64 (lastS xs).1, .int .i64 (lastS xs).2.1, .int .i64 (lastS xs).2.2.1, .int .i64 (lastS xs).2.2.2.1, .bool (lastS xs).2.2.2.2]) ∧ Below w.heap.size w w' := by
  obtain ⟨a, cap, rfl, hcap, hr⟩ := h
  rcases Nat.eq_zero_or_pos xs.length with h0 | h0
  · have he : xs = [] := List.eq_nil_of_length_eq_zero h0
    subst he
    clear hr h0 hcap hn
    go_enter Tryz.func115, Tryz.ntmps115
    go_wp2_with fail
    refine bodyPost_ret (v := .agg #[.int .i64 0, .int .i64 0, .int .i64 0, .int .i64 0, .bool false]) (by simp [results, Tryz.results115, go_sem]) rfl ⟨rfl, ?_⟩
    exact (Below.refl _ _).alloc (Nat.le_refl _) _
  · obtain ⟨g, rfl, hrow⟩ := hr h0
    obtain ⟨k, hk⟩ : ∃ k, xs.length = k + 1 := ⟨xs.length - 1, by omega⟩
    have hlt : k < xs.length := by omega
    have hl : lastS xs = xs[k] := by
      unfold lastS
      rw [List.getLast?_eq_getElem?, show xs.length - 1 = k by omega, List.getElem?_eq_getElem hlt]; rfl
    obtain ⟨p, hp⟩ : ∃ p, p = xs[k] := ⟨_, rfl⟩
    have q0 := (hrow.elem spC_len k hlt 0 (by decide) (.int .i64 p.1) (by rw [← hp]; rfl)).1
    have q1 := (hrow.elem spC_len k hlt 1 (by decide) (.int .i64 p.2.1) (by rw [← hp]; rfl)).1
    have q2 := (hrow.elem spC_len k hlt 2 (by decide) (.int .i64 p.2.2.1) (by rw [← hp]; rfl)).1
    have q3 := (hrow.elem spC_len k hlt 3 (by decide) (.int .i64 p.2.2.2.1) (by rw [← hp]; rfl)).1
    have q4 := (hrow.elem spC_len k hlt 4 (by decide) (.bool p.2.2.2.2) (by rw [← hp]; rfl)).1
    have hg := World.block_lt_of_cell? w _ q0
    simp only [Nat.add_zero] at q0
    simp only at hg
    rw [hl, ← hp]
    obtain ⟨pf, pt, po, pu, pp⟩ := p
    simp only at q0 q1 q2 q3 q4 ⊢
    have K0 : ∀ o, (w.alloc o).cell? ⟨g, k * 5, none⟩ = some (.int .i64 pf) := fun o => by rw [cell_alloc_lt hg]; exact q0
    have K1 : ∀ o, (w.alloc o).cell? ⟨g, k * 5 + 1, none⟩ = some (.int .i64 pt) := fun o => by rw [cell_alloc_lt hg]; exact q1
    have K2 : ∀ o, (w.alloc o).cell? ⟨g, k * 5 + 2, none⟩ = some (.int .i64 po) := fun o => by rw [cell_alloc_lt hg]; exact q2
    have K3 : ∀ o, (w.alloc o).cell? ⟨g, k * 5 + 3, none⟩ = some (.int .i64 pu) := fun o => by rw [cell_alloc_lt hg]; exact q3
    have K4 : ∀ o, (w.alloc o).cell? ⟨g, k * 5 + 4, none⟩ = some (.bool pp) := fun o => by rw [cell_alloc_lt hg]; exact q4
    have hki : (xs.length : Int) - 1 = (k : Int) := by omega
    have hk0 : ((xs.length : Int) == 0) = false := by rw [beq_eq_false_iff_ne]; omega
    have hk2 : (k : Int) ≤ (cap : Int) := by omega
    have hk3 : (k : Int) < (xs.length : Int) := by omega
    clear hrow hr hp hl q0 q1 q2 q3 q4 hlt
    go_enter Tryz.func115, Tryz.ntmps115
    go_wp2_with fail
    refine bodyPost_ret (v := .agg #[.int .i64 pf, .int .i64 pt, .int .i64 po, .int .i64 pu, .bool pp]) (by simp [results, Tryz.results115, go_sem]) rfl ⟨rfl, ?_⟩
    exact (Below.refl _ _).alloc (Nat.le_refl _) _

end Go.Proofs.YtoidmmedpefjfaaGreatDoor
