/- Lists of rules made by append, and what they say: pieces for the laws of chapter 6. No condition. -/
import Derived.Test.YtempiklhkbgnbaaDrawRulMay
import Derived.Test.YtempiklhkbgnbaaLawRulMay
namespace Go.Proofs.Ytempiklhkbgnbaa
open Go.RowKit

/-- The rule of just two ends. -/
def oneR (al : Bool) (ia oa op : Int) : Rl := ⟨al, ia, ia, oa, oa, op, op⟩
theorem one_ok {al : Bool} {ia ip oa op : Int} (h1 : insB ia ip = true) (h2 : outB oa op = true) : ruleB (oneR al ia oa op) = true := by
  simp only [insB, outB, inB, Bool.and_eq_true, decide_eq_true_eq] at h1 h2
  show ruleB ⟨al, ia, ia, oa, oa, op, op⟩ = true
  simp only [ruleB, rangeB, inB, Bool.and_eq_true, decide_eq_true_eq]
  omega
theorem one_about (al : Bool) (ia oa op : Int) : aboutB (oneR al ia oa op) ia oa op = true := by
  show aboutB ⟨al, ia, ia, oa, oa, op, op⟩ ia oa op = true
  simp only [aboutB, inB, Bool.and_eq_true, decide_eq_true_eq]
  omega
theorem rules_cons {r : Rl} {l : List Rl} (h5 : l.length < 5) (h : ∀ x ∈ l, ruleB x = true) (hr : ruleB r = true) : rulesB (r :: l) = true :=
  rulesB_yes (by simp; omega) (by
    intro x hx
    rcases List.mem_cons.1 hx with rfl | hx
    · exact hr
    · exact h x hx)
theorem rules_snoc {r : Rl} {l : List Rl} (h5 : l.length < 5) (h : ∀ x ∈ l, ruleB x = true) (hr : ruleB r = true) : rulesB (l ++ [r]) = true :=
  rulesB_yes (by simp; omega) (by
    intro x hx
    simp at hx
    rcases hx with hx | rfl
    · exact h x hx
    · exact hr)
/-- A rule ahead of the others decides. -/
theorem may_front {al : Bool} {l : List Rl} {ia ip oa op : Int} (h1 : insB ia ip = true) (h2 : outB oa op = true) (h5 : l.length < 5) (h : ∀ x ∈ l, ruleB x = true) : mayB (oneR al ia oa op :: l) ia ip oa op = al := by
  unfold mayB
  rw [rules_cons h5 h (one_ok h1 h2), h1, h2]
  simp only [mayL, one_about, if_true]
  simp [oneR]
theorem mayL_snoc {r : Rl} (hr : r.al = true) (l : List Rl) (ia oa op : Int) : mayL (l ++ [r]) ia oa op = mayL l ia oa op := by
  induction l with
  | nil => simp [mayL, hr]
  | cons x l ih => simp [mayL, ih]
/-- A rule that allows, behind the others, changes nothing. -/
theorem may_back {l : List Rl} {ia ip oa op : Int} (h1 : insB ia ip = true) (h2 : outB oa op = true) (h5 : l.length < 5) (h : ∀ x ∈ l, ruleB x = true) : mayB (l ++ [oneR true ia oa op]) ia ip oa op = mayB l ia ip oa op := by
  unfold mayB
  rw [rules_snoc h5 h (one_ok h1 h2), rulesB_yes (by omega) h, mayL_snoc rfl]

/-- append onto a slice of the call's own, something or other, at a step of a region that draws its order; the step is wanted. -/
theorem step_append_w {P : Program} (w : World) {ops : Array Oper} {o : Oper} {a : Act} {K : Act → World → Prop} {Q : Exit → Act → World → Prop} {E : Prop} (hw : Region.wanted o (yielded ops a.tmps) = true) (s x : Operand) (t : TypeId)
    (ho : o.op = .call { callee := .builtin .append, args := #[s, x], argTypes := #[t, t] })
    (base : Nat) (e : TypeId) (i : TypeInfo) (z : Value) (size bytes : Nat) (ht : P.underlying t = some (.slice e)) (hi : P.info? e = some i) (hz : i.zero = some z)
    (hsize : i.size = size) (hby : i.bytes = bytes) (hzs : z.cells.size = size) (hsz : 0 < size)
    (v : Value) (n : Nat) (xs : List Value) (hs : a.eval s = v) (hown : w.ownsRow base e size v n xs)
    (ad : Addr) (m c : Nat) (news : List Value) (hx : a.eval x = .slice (some ad) m c) (hl : news.length = m * size) (hnews : ∀ j u, news[j]? = some u → w.cell? (ad.add j) = some u) (h1 : ∀ u ∈ news, u.oneCell' = true)
    (h63 : n + m ≤ maxLen) (hbytes : (n + m) * bytes ≤ 140737488355328) (hbase : base ≤ w.heap.size)
    (h : ∀ v' w', w'.ownsRow base e size v' (n + m) (xs ++ news) → w.grownBy w' v.ownBlock → K (a.put o.dst v') w') :
    if Region.wanted o (yielded ops a.tmps) = true then Oper.wp P o a w K Q else E := by
  rw [if_pos hw]
  obtain ⟨v', w', hr, h2, h3, _, _⟩ := run_append_own_at (P := P) w base t o.type e i z size bytes ht hi hz hsize hby hzs hsz v n xs hown ad m c news hl hnews h1 h63 hbytes hbase
  unfold Oper.wp execOp
  simp only [ho, resolve, invoke, builtin, Sem.run_bind, Sem.run_pure, Result.andThen_ok, List.map_toArray, List.map_cons, List.map_nil, hs, hx, hr]
  exact h v' w' h2 h3

/-- A row of one rule that was just laid; of none. -/
theorem own_lit (w : World) (B : Nat) (hB : B ≤ w.heap.size) (r : Rl) : (w.alloc (.cells #[.bool r.al, .int .i64 r.i, .int .i64 r.it, .int .i64 r.o, .int .i64 r.ot, .int .i64 r.p, .int .i64 r.pt] 44)).ownsRow B 44 7 (.slice (some ⟨w.heap.size, 0, none⟩) 1 1) 1 (rlC r) :=
  Blk.own (n := 1) (l := rlC r) (heap_lastR w _) hB rfl (by decide)
theorem own_none (w : World) (B : Nat) (hB : B ≤ w.heap.size) : (w.alloc (.cells #[] 44)).ownsRow B 44 7 (.slice (some ⟨w.heap.size, 0, none⟩) 0 0) 0 [] :=
  Blk.own (n := 0) (l := []) (heap_lastR w _) hB rfl (by decide)
theorem lit_news (w : World) (r : Rl) (t : TypeId) : ∀ j u, (rlC r)[j]? = some u → (w.alloc (.cells #[.bool r.al, .int .i64 r.i, .int .i64 r.it, .int .i64 r.o, .int .i64 r.ot, .int .i64 r.p, .int .i64 r.pt] t)).cell? ((⟨w.heap.size, 0, none⟩ : Addr).add j) = some u := by
  intro j u hu
  have he : (⟨w.heap.size, 0, none⟩ : Addr).add j = ⟨w.heap.size, j, none⟩ := by unfold Addr.add; split <;> simp_all
  rw [he, (cell_new w _ t j).1]
  simpa [rlC] using hu
theorem own_noneE (w : World) (B : Nat) (hB : B ≤ w.heap.size) {b : Nat} (hb : b = w.heap.size) : (w.alloc (.cells #[] 44)).ownsRow B 44 7 (.slice (some ⟨b, 0, none⟩) 0 0) 0 [] := by
  subst hb
  exact own_none w B hB
theorem lit_newsE (w : World) (r : Rl) (t : TypeId) {b : Nat} (hb : b = w.heap.size) : ∀ j u, (rlC r)[j]? = some u → (w.alloc (.cells #[.bool r.al, .int .i64 r.i, .int .i64 r.it, .int .i64 r.o, .int .i64 r.ot, .int .i64 r.p, .int .i64 r.pt] t)).cell? ((⟨b, 0, none⟩ : Addr).add j) = some u := by
  subst hb
  exact lit_news w r t
theorem add_blkZ (b j : Nat) : (⟨b, 0, none⟩ : Addr).add j = ⟨b, j, none⟩ := by unfold Addr.add; split <;> simp_all
/-- The cells of a rule stay while another row grows; while something is laid. -/
theorem kept_news {W w' : World} {blk b : Nat} {r : Rl} (hg : W.grownBy w' (some blk)) (hne : b ≠ blk) (h : ∀ j u, (rlC r)[j]? = some u → W.cell? ((⟨b, 0, none⟩ : Addr).add j) = some u) : ∀ j u, (rlC r)[j]? = some u → w'.cell? ((⟨b, 0, none⟩ : Addr).add j) = some u := by
  intro j u hu
  have hc := h j u hu
  rw [add_blkZ] at hc ⊢
  rw [(gcell hg (World.block_lt_of_cell? W _ hc) hne j).1]
  exact hc
theorem later_news {W : World} {b : Nat} {r : Rl} (ob : Obj) (h : ∀ j u, (rlC r)[j]? = some u → W.cell? ((⟨b, 0, none⟩ : Addr).add j) = some u) : ∀ j u, (rlC r)[j]? = some u → (W.alloc ob).cell? ((⟨b, 0, none⟩ : Addr).add j) = some u := by
  intro j u hu
  have hc := h j u hu
  rw [add_blkZ] at hc ⊢
  rw [((Below.refl _ W).alloc (Nat.le_refl _) ob).cell (World.block_lt_of_cell? W _ hc)]
  exact hc
theorem OwnRl.belowB {w w' : World} {B : Nat} {v : Value} {l : List Rl} (h : OwnRl w B v l) (hb : Below w.heap.size w w') : OwnRl w' B v l := by
  refine World.ownsRow.kept h (w' := w') (row := none) ⟨hb.os, hb.tape, hb.output, hb.size, fun k hk _ => hb.block k hk⟩ ?_
  cases hv : v.ownBlock
  · exact .inl rfl
  · exact .inr (by simp)
/-- The cells of rules of one's own, one after another. -/
theorem own_news {w w' : World} {B : Nat} {g : Addr} {c : Nat} {l : List Rl} (h : OwnRl w B (.slice (some g) l.length c) l) (hb : Below w.heap.size w w') : ∀ j u, (flatC rlC l)[j]? = some u → w'.cell? (g.add j) = some u := by
  intro j u hu
  have hj := (List.getElem?_eq_some_iff.1 hu).1
  obtain ⟨b, cap, hv, _, _, hlt, hr⟩ := RowAt.of_own h (by omega)
  simp only [Value.slice.injEq, Option.some.injEq] at hv
  obtain ⟨rfl, _, _⟩ := hv
  have he : (⟨b, 0, none⟩ : Addr).add j = ⟨b, j, none⟩ := by unfold Addr.add; split <;> simp_all
  rw [he, hb.cell (p := ⟨b, j, none⟩) hlt, (hr j hj).1]
  exact hu ▸ (List.getElem?_eq_getElem hj).symm
/-- Rules of one's own behind one rule; one behind them. -/
theorem own_front {w : World} {B : Nat} {v : Value} {r : Rl} {l : List Rl} (h : w.ownsRow B 44 7 v (1 + l.length) (rlC r ++ flatC rlC l)) : OwnRl w B v (r :: l) := by
  show w.ownsRow _ _ _ _ _ _
  rw [show (r :: l).length = 1 + l.length by simp [Nat.add_comm]]
  simpa [flatC] using h
theorem own_back {w : World} {B : Nat} {v : Value} {r : Rl} {l : List Rl} (h : w.ownsRow B 44 7 v (l.length + 1) (flatC rlC l ++ rlC r)) : OwnRl w B v (l ++ [r]) := by
  show w.ownsRow _ _ _ _ _ _
  rw [flatC_app, List.length_append]
  simpa [flatC] using h
theorem flat_oneR (l : List Rl) : ∀ u ∈ flatC rlC l, u.oneCell' = true := by
  intro u hu
  simp only [flatC, List.mem_flatten, List.mem_map] at hu
  obtain ⟨_, ⟨r, _, rfl⟩, hr⟩ := hu
  exact rlC_one r u hr

end Go.Proofs.Ytempiklhkbgnbaa
