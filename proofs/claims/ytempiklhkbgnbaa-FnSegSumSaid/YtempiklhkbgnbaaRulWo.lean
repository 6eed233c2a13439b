/- Rules without one of them: as data. No condition. -/
import Derived.Test.YtempiklhkbgnbaaRulApp
namespace Go.Proofs.Ytempiklhkbgnbaa
open Go.RowKit

theorem mayL_skip {a b : List Rl} {ia oa op : Int} (h : ∀ r ∈ a, aboutB r ia oa op = false) : mayL (a ++ b) ia oa op = mayL b ia oa op := by
  induction a with
  | nil => rfl
  | cons r rs ih =>
    show (if aboutB r ia oa op = true then _ else _) = _
    rw [h r (by simp), if_neg (by simp)]
    exact ih fun x hx => h x (by simp [hx])
theorem split_at {l : List Rl} {k : Nat} (hk : k < l.length) : l = l.take k ++ l[k] :: l.drop (k + 1) := by
  rw [← List.drop_eq_getElem_cons hk, List.take_append_drop]
theorem mayL_cons (r : Rl) (rs : List Rl) (ia oa op : Int) : mayL (r :: rs) ia oa op = if aboutB r ia oa op = true then r.al else mayL rs ia oa op := rfl
/-- One that is not about two ends makes no difference. -/
theorem may_wo {l : List Rl} {k : Nat} {ia oa op : Int} (hk : k < l.length) (h : ∀ r ∈ l.take k, aboutB r ia oa op = false) (ha : aboutB l[k] ia oa op = false) : mayL (l.take k ++ l.drop (k + 1)) ia oa op = mayL l ia oa op := by
  have e : mayL l ia oa op = mayL (l.take k ++ l[k] :: l.drop (k + 1)) ia oa op := congrArg (fun x => mayL x ia oa op) (split_at hk)
  rw [e, mayL_skip h, mayL_skip h, mayL_cons, ha, if_neg (by simp)]
/-- The first one that is about them says. -/
theorem may_hit {l : List Rl} {k : Nat} {ia oa op : Int} (hk : k < l.length) (h : ∀ r ∈ l.take k, aboutB r ia oa op = false) (ha : aboutB l[k] ia oa op = true) : mayL l ia oa op = l[k].al ∧ mayL (l.take (k + 1)) ia oa op = l[k].al := by
  refine ⟨?_, ?_⟩
  · have e : mayL l ia oa op = mayL (l.take k ++ l[k] :: l.drop (k + 1)) ia oa op := congrArg (fun x => mayL x ia oa op) (split_at hk)
    rw [e, mayL_skip h, mayL_cons, ha, if_pos rfl]
  · rw [List.take_succ_eq_append_getElem hk, mayL_skip h, mayL_cons, ha, if_pos rfl]
theorem may_none {l : List Rl} {ia oa op : Int} (h : ∀ r ∈ l, aboutB r ia oa op = false) : mayL l ia oa op = true := by
  have := mayL_skip (b := []) h
  rw [List.append_nil] at this
  exact this
theorem rules_sub {l m : List Rl} (h : rulesB l = true) (hl : m.length ≤ l.length) (hm : ∀ x ∈ m, x ∈ l) : rulesB m = true := by
  unfold rulesB at h ⊢
  simp only [Bool.and_eq_true, decide_eq_true_eq] at h ⊢
  exact ⟨by omega, List.all_eq_true.2 fun x hx => List.all_eq_true.1 h.2 x (hm x hx)⟩
theorem wo_mem {l : List Rl} {k : Nat} : ∀ x ∈ l.take k ++ l.drop (k + 1), x ∈ l := fun _ hx => (List.mem_append.1 hx).elim (List.mem_of_mem_take ·) (List.mem_of_mem_drop ·)
theorem wo_len {l : List Rl} {k : Nat} (hk : k < l.length) : (l.take k ++ l.drop (k + 1)).length = l.length - 1 := by
  rw [List.length_append, List.length_take, List.length_drop]; omega
/-- The beginning, and the rest, of rules that are read. -/
theorem RdRl.take {w : World} {a : Option Addr} {n cap k : Nat} {l : List Rl} (h : RdRl w (.slice a n cap) l) (hk : k ≤ l.length) : RdRl w (.slice a k cap) (l.take k) := by
  obtain ⟨a', cap', e, hc, hr⟩ := h
  simp at e
  obtain ⟨rfl, rfl, rfl⟩ := e
  refine ⟨a, cap, by rw [List.length_take, Nat.min_eq_left hk], by rw [List.length_take]; omega, fun hn => ?_⟩
  rw [List.length_take] at hn
  obtain ⟨g, off, rfl, hg, hrow⟩ := hr (by omega)
  refine ⟨g, off, rfl, hg, fun i hi j u hu => ?_⟩
  rw [List.length_take] at hi
  rw [List.getElem_take] at hu
  exact hrow i (by omega) j u hu
theorem own_ge {w : World} {B : Nat} {t : TypeId} {k : Nat} {v : Value} {n : Nat} {xs : List Value} (h : w.ownsRow B t k v n xs) : ∀ b, v.ownBlock = some b → B ≤ b := fun b e => by
  rcases h.2 with ⟨rfl, _⟩ | ⟨g, cap, cur, rfl, hB, _⟩
  · simp [Value.ownBlock] at e
  · simp [Value.ownBlock] at e
    omega
theorem own_two {w W : World} {v : Value} {l m : List Rl} {k j n : Nat} (h : w.ownsRow W.heap.size 44 7 v (k + j) (flatC rlC l ++ flatC rlC m)) (hs : k + j = n) (hl : (l ++ m).length = n) (hb : Below W.heap.size W w) :
    ∃ gl cl, v = .slice gl n cl ∧ Hid (OwnRl w W.heap.size (.slice gl n cl) (l ++ m)) ∧ Below W.heap.size W w := by
  rw [hs, ← flatC_app] at h
  obtain ⟨a, c, rfl⟩ : ∃ a c, v = .slice a n c := by
    rcases h.2 with ⟨rfl, h0⟩ | ⟨g, cap, cur, hv, _⟩
    · exact ⟨none, 0, by rw [h0]⟩
    · exact ⟨_, _, hv⟩
  refine ⟨a, c, rfl, ?_, hb⟩
  show World.ownsRow _ _ _ _ _ _ _
  rw [hl]
  exact h
theorem add_addR (a : Addr) (i j : Nat) : (a.add i).add j = a.add (i + j) := by
  unfold Addr.add; split <;> split <;> simp_all <;> omega
theorem flat_cut (l : List Rl) (k : Nat) : flatC rlC l = flatC rlC (l.take k) ++ flatC rlC (l.drop k) := by rw [← flatC_app, List.take_append_drop]
theorem news_take {w : World} {g : Addr} {l : List Rl} (k : Nat) (h : ∀ j u, (flatC rlC l)[j]? = some u → w.cell? (g.add j) = some u) : ∀ j u, (flatC rlC (l.take k))[j]? = some u → w.cell? (g.add j) = some u := fun j u hj => by
  refine h j u ?_
  rw [flat_cut l k, List.getElem?_append_left (List.getElem?_eq_some_iff.1 hj).1]
  exact hj
theorem news_drop {w : World} {g : Addr} {l : List Rl} {k : Nat} (hk : k ≤ l.length) (h : ∀ j u, (flatC rlC l)[j]? = some u → w.cell? (g.add j) = some u) : ∀ j u, (flatC rlC (l.drop k))[j]? = some u → w.cell? ((g.add (k * 7)).add j) = some u := fun j u hj => by
  have hl : (flatC rlC (l.take k)).length = k * 7 := by rw [flatC_len rlC_len, List.length_take, Nat.min_eq_left hk]
  rw [add_addR]
  refine h (k * 7 + j) u ?_
  rw [flat_cut l k, List.getElem?_append_right (by rw [hl]; omega), hl, Nat.add_sub_cancel_left]
  exact hj

end Go.Proofs.Ytempiklhkbgnbaa
