/- What BoxTurn answers, of both sides in one form. Conditions: at most 2^20 rules, ends and streams each; a segment of at most 2^21 bytes; all numbers are ints. (Several texts, joined: DrawTab, DrawBO, DrawSegW, DrawBTurn, TurnK, STurnY, TurnBth.) -/
import Derived.Test.YtgfkiljkpkfapaaGreatDoorTPlj
import Derived.Test.YtgfkiljkpkfapaaGreatDoorTPla
import Derived.Test.YtgfkiljkpkfapaaGreatDoorTPlr
import Derived.Test.YtgfkiljkpkfapaaGreatDoorTPls
import Derived.Test.YtgfkiljkpkfapaaGreatDoorTPlk
import Derived.Test.YtgfkiljkpkfapaaGreatDoorTPlp
import Derived.Test.YtgfkiljkpkfapaaGreatDoorTPlh
import Derived.Test.YtgfkiljkpkfapaaGreatDoorTPle

/- The table that is drawn: some table, or what is none, of few ends, in memory of the call's own. Conditions: the reader is there; its place is small. -/
namespace Go.Proofs.YtgfkiljkpkfapaaGreatDoor
open Go.RowKit

theorem mapB_six {es : List (Int × Int)} (h : mapB es = true) : es.length ≤ 6 := by
  unfold mapB at h
  simp at h
  exact h.1

theorem putE_six {es : List (Int × Int)} {e : Int × Int} (h : es.length ≤ 6) : (putE es e).1.length ≤ 6 := by
  unfold putE
  split
  · exact h
  · split
    · exact h
    · simp; omega

theorem putE_mem {es : List (Int × Int)} {e x : Int × Int} (h : x ∈ (putE es e).1) : x ∈ es ∨ x = e := by
  unfold putE at h
  split at h
  · exact .inl h
  · split at h
    · exact .inl h
    · simpa using h

/-- MapPut at whatever: some table of at most six ends, each of the old ones or the new one. -/
theorem put_drawn (v : Value) (es : List (Int × Int)) (a p : Int) (w : World) (hn : es.length ≤ 4194304) (ht : TabAt w v es) :
    Calls Tryz.prog 115 #[.agg #[v], .agg #[.int .i64 a, .int .i64 p]] w fun e w' => ∃ g c us q, e = .returned (.tuple #[.agg #[.slice g (us : List (Int × Int)).length c], .int .i64 q]) ∧ OwnTab w' w.heap.size (.slice g us.length c) us ∧ (us.length ≤ 6 ∧ ∀ x ∈ us, x ∈ es ∨ x = (a, p)) ∧ Below w.heap.size w w' := by
  by_cases h : (mapB es && insB a p) = true
  · have h' := h
    simp at h'
    refine (specMapPut_ok v es a p w hn ht h'.1 h'.2).mono ?_
    rintro e w' ⟨g, c, rfl, ho, hb⟩
    exact ⟨some g, c, _, _, rfl, ho, ⟨putE_six (mapB_six h'.1), fun x hx => putE_mem hx⟩, hb⟩
  · refine (specMapPut_not v es a p w hn ht (by simpa using h)).mono ?_
    rintro e w' ⟨rfl, hb⟩
    exact ⟨none, 0, [], _, rfl, World.ownsRow_nil _ _ _ _, ⟨by simp, fun x hx => by cases hx⟩, hb⟩

theorem OwnTab.grown {w w' : World} {B R : Nat} {v : Value} {es : List (Int × Int)} (h : OwnTab w B v es) (hg : w.grownBy w' (some R)) (hR : R < B) : OwnTab w' B v es := by
  refine World.ownsRow.kept h hg ?_
  obtain ⟨_, h1 | ⟨g, cap, cur, rfl, hb, _⟩⟩ := h
  · rw [h1.1]; exact .inl rfl
  · exact .inr (by simp [Value.ownBlock]; omega)

theorem grownB {w w' : World} {row : Option Nat} (h : Below w.heap.size w w') : w.grownBy w' row :=
  ⟨h.os, h.tape, h.output, h.size, fun k hk _ => h.block k hk⟩
theorem gbox {w w' : World} {b i R : Nat} {v : Value} (h : w.cell? ⟨b, i, none⟩ = some v) (hg : w.grownBy w' (some R)) (hne : b ≠ R) : w'.cell? ⟨b, i, none⟩ = some v := by
  rw [(gcell hg (World.block_lt_of_cell? w _ h) hne i).1]; exact h
theorem gboxf {w w' : World} {b i R : Nat} {v : Value} (h : w.cell? ⟨b, i, none⟩ = some v) (hf : w.frozen? ⟨b, i, none⟩ = false) (hg : w.grownBy w' (some R)) (hne : b ≠ R) : w'.frozen? ⟨b, i, none⟩ = false := by
  rw [(gcell hg (World.block_lt_of_cell? w _ h) hne i).2]; exact hf
/-- A box of one cell that a drawer finds new. -/
theorem freshG {W w : World} {x : Value} {t : TypeId} {R : Nat} (h : (W.alloc (.cells #[x] t)).grownBy w (some R)) (hR : W.heap.size ≠ R) : w.cell? ⟨W.heap.size, 0, none⟩ = some x ∧ w.frozen? ⟨W.heap.size, 0, none⟩ = false :=
  ⟨gbox (by simp) h hR, gboxf (v := x) (by simp) (cell_new W _ _ 0).2 h hR⟩
theorem freshGd {W w : World} {x : Value} {t : TypeId} {R : Nat} (h : (W.alloc (.cells #[x] t)).drew.grownBy w (some R)) (hR : W.heap.size ≠ R) : w.cell? ⟨W.heap.size, 0, none⟩ = some x ∧ w.frozen? ⟨W.heap.size, 0, none⟩ = false :=
  freshG ((grownB (Below.refl _ _).drew).trans h) hR
/-- A box of one cell that a call finds new. -/
theorem freshB {W w : World} {x : Value} {t : TypeId} (h : Below (W.alloc (.cells #[x] t)).heap.size (W.alloc (.cells #[x] t)) w) : w.cell? ⟨W.heap.size, 0, none⟩ = some x ∧ w.frozen? ⟨W.heap.size, 0, none⟩ = false :=
  ⟨by rw [h.cell (by simp)]; simp, by rw [h.frozen (by simp)]; exact (cell_new W _ _ 0).2⟩
theorem boxDB {w w' : World} {b i : Nat} {v : Value} (h : w.cell? ⟨b, i, none⟩ = some v) (hf : w.frozen? ⟨b, i, none⟩ = false) (hb : Below w.heap.size w w') : w'.cell? ⟨b, i, none⟩ = some v ∧ w'.frozen? ⟨b, i, none⟩ = false :=
  ⟨by rw [hb.cell (p := ⟨b, i, none⟩) (World.block_lt_of_cell? w _ h)]; exact h, by rw [hb.frozen (p := ⟨b, i, none⟩) (World.block_lt_of_cell? w _ h)]; exact hf⟩

/-- Ends with small numbers. -/
def SmE (us : List (Int × Int)) : Prop := ∀ x ∈ us, Sm x.1 x.2

/-- How things stand while a table is drawn: the result's box at b, the table's behind it, its row behind both. -/
def TabI (b B R L : Nat) (w0 w : World) (g : Option Addr) (c : Nat) (us : List (Int × Int)) : Prop :=
  (w.cell? ⟨b, 0, none⟩ = some (.slice none 0 0) ∧ w.frozen? ⟨b, 0, none⟩ = false) ∧ (w.cell? ⟨b + 1, 0, none⟩ = some (.slice g us.length c) ∧ w.frozen? ⟨b + 1, 0, none⟩ = false) ∧ OwnTab w (b + 2) (.slice g us.length c) us ∧ (∀ x ∈ us, Sm x.1 x.2) ∧ w0.grownBy w (some R) ∧ Rd B R L w

theorem TabI.set {b B R L L' : Nat} {w0 w wc : World} {g g' : Option Addr} {c c' : Nat} {us vs : List (Int × Int)} (h : TabI b B R L w0 w g c us) (hg : w.grownBy wc (some R)) (hR : R < b) (hB : B ≤ R) (h0 : w0.heap.size ≤ b) (ho : OwnTab wc (b + 2) (.slice g' vs.length c') vs) (hv : ∀ x ∈ vs, Sm x.1 x.2) (hr : Rd B R L' wc) :
    TabI b B R L' w0 (wc.setCell ⟨b + 1, 0, none⟩ (.slice g' vs.length c')) g' c' vs := by
  obtain ⟨⟨r0, rf⟩, ⟨t0, tf⟩, _, _, hgr, _⟩ := h
  have t1 := gbox t0 hg (by omega)
  refine ⟨⟨?_, ?_⟩, ⟨World.cell?_setCell_same _ _ _ t1, ?_⟩, ownsRow_setCell_below (a := ⟨b + 1, 0, none⟩) ho (by simp) _, hv, grown_new (hgr.trans hg) _ _ (by omega), rd_put hr _ (by omega) (by omega)⟩
  · rw [World.cell?_setCell_other _ _ _ _ (by simp)]; exact gbox r0 hg (by omega)
  · rw [World.frozen?_setCell]; exact gboxf r0 rf hg (by omega)
  · rw [World.frozen?_setCell]; exact gboxf t0 tf hg (by omega)

theorem TabI.later {b B R L L' : Nat} {w0 w w' : World} {g : Option Addr} {c : Nat} {us : List (Int × Int)} (h : TabI b B R L w0 w g c us) (hg : w.grownBy w' (some R)) (hR : R < b) (hr : Rd B R L' w') : TabI b B R L' w0 w' g c us := by
  obtain ⟨⟨r0, rf⟩, ⟨t0, tf⟩, ho, hs, hgr, _⟩ := h
  exact ⟨⟨gbox r0 hg (by omega), gboxf r0 rf hg (by omega)⟩, ⟨gbox t0 hg (by omega), gboxf t0 tf hg (by omega)⟩, ho.grown hg (by omega), hs, hgr.trans hg, hr⟩
/-- What is left behind, once the table is stored as the result. -/
theorem TabI.fin {B R L M : Nat} {w0 w : World} {g : Option Addr} {c : Nat} {us : List (Int × Int)} (h : TabI w0.heap.size B R L w0 w g c us) (hR : R < w0.heap.size) (hB : B ≤ R) (h8 : us.length ≤ 8) (hL : L ≤ M) :
    OwnTab (w.setCell ⟨w0.heap.size, 0, none⟩ (.slice g us.length c)) w0.heap.size (.slice g us.length c) us ∧ (us.length ≤ 8 ∧ SmE us) ∧ w0.grownBy (w.setCell ⟨w0.heap.size, 0, none⟩ (.slice g us.length c)) (some R) ∧ Rd B R M (w.setCell ⟨w0.heap.size, 0, none⟩ (.slice g us.length c)) := by
  obtain ⟨_, _, ho, hs, hgr, hr⟩ := h
  exact ⟨OwnTab.mono (B := w0.heap.size + 2) (ownsRow_setCell_below (a := ⟨w0.heap.size, 0, none⟩) ho (by simp) _) (by omega), ⟨h8, hs⟩, grown_new hgr _ _ (Nat.le_refl _), rd_put (hr.mono hL) _ (by omega) (by omega)⟩

/-- The boxes alone: the table's holds v. -/
def BoxI (b B R L : Nat) (w0 w : World) (v : Value) : Prop :=
  (w.cell? ⟨b, 0, none⟩ = some (.slice none 0 0) ∧ w.frozen? ⟨b, 0, none⟩ = false) ∧ (w.cell? ⟨b + 1, 0, none⟩ = some v ∧ w.frozen? ⟨b + 1, 0, none⟩ = false) ∧ w0.grownBy w (some R) ∧ Rd B R L w
theorem TabI.box {b B R L : Nat} {w0 w : World} {g : Option Addr} {c : Nat} {us : List (Int × Int)} (h : TabI b B R L w0 w g c us) : BoxI b B R L w0 w (.slice g us.length c) := ⟨h.1, h.2.1, h.2.2.2.2.1, h.2.2.2.2.2⟩
theorem gcellN {w w' : World} {row : Option Nat} (hg : w.grownBy w' row) {b i : Nat} {v : Value} (h : w.cell? ⟨b, i, none⟩ = some v) (hf : w.frozen? ⟨b, i, none⟩ = false) (hne : row ≠ some b) : w'.cell? ⟨b, i, none⟩ = some v ∧ w'.frozen? ⟨b, i, none⟩ = false := by
  have hk := hg.block b (World.block_lt_of_cell? w _ h) (Ne.symm hne)
  exact ⟨(World.cell?_of_block (a := ⟨b, i, none⟩) hk).trans h, (World.frozen?_of_block (a := ⟨b, i, none⟩) hk).trans hf⟩
theorem BoxI.app {b B R L : Nat} {w0 w w' : World} {v : Value} {row : Option Nat} (h : BoxI b B R L w0 w v) (hg : w.grownBy w' row) (hrow : ∀ k, row = some k → b + 2 ≤ k) (hR : R < b) (hB : B ≤ R) (h0 : w0.heap.size ≤ b) : BoxI b B R L w0 w' v := by
  obtain ⟨⟨r0, rf⟩, ⟨t0, tf⟩, hgr, hr⟩ := h
  have n0 : row ≠ some b := fun e => by have := hrow _ e; omega
  have n1 : row ≠ some (b + 1) := fun e => by have := hrow _ e; omega
  exact ⟨gcellN hg r0 rf n0, gcellN hg t0 tf n1, hgr.andThen hg (fun j e => .inl (by have := hrow _ e; omega)), rd_kept hr hg (fun j e => by have := hrow _ e; exact ⟨by omega, by omega⟩)⟩
theorem BoxI.close {b B R L : Nat} {w0 w : World} {v : Value} {g : Option Addr} {c : Nat} {us : List (Int × Int)} (h : BoxI b B R L w0 w v) (hR : R < b) (hB : B ≤ R) (h0 : w0.heap.size ≤ b) (ho : OwnTab w (b + 2) (.slice g us.length c) us) (hs : ∀ x ∈ us, Sm x.1 x.2) :
    TabI b B R L w0 (w.setCell ⟨b + 1, 0, none⟩ (.slice g us.length c)) g c us := by
  obtain ⟨⟨r0, rf⟩, ⟨t0, tf⟩, hgr, hr⟩ := h
  refine ⟨⟨?_, ?_⟩, ⟨World.cell?_setCell_same _ _ _ t0, ?_⟩, ownsRow_setCell_below (a := ⟨b + 1, 0, none⟩) ho (by simp) _, hs, grown_new hgr _ _ (by omega), rd_put hr _ (by omega) (by omega)⟩
  · rw [World.cell?_setCell_other _ _ _ _ (by simp)]; exact r0
  · rw [World.frozen?_setCell]; exact rf
  · rw [World.frozen?_setCell]; exact tf
theorem own_snoc {w : World} {B : Nat} {v : Value} {us : List (Int × Int)} {a p : Int} (h : w.ownsRow B 31 2 v (us.length + 1) (flatE us ++ [.int .i64 a, .int .i64 p])) :
    ∃ g c vs, v = .slice g (vs : List (Int × Int)).length c ∧ OwnTab w B (.slice g vs.length c) vs ∧ vs.length = us.length + 1 ∧ vs = us ++ [(a, p)] := by
  have ho : OwnTab w B v (us ++ [(a, p)]) := by
    show w.ownsRow _ _ _ _ _ _
    rw [flatE_app, List.length_append]
    simpa [flatE] using h
  obtain ⟨g, c, e⟩ := ho.form
  exact ⟨g, c, _, e, e ▸ ho, by simp, rfl⟩
theorem OwnTab.ge {w : World} {B : Nat} {v : Value} {es : List (Int × Int)} (h : OwnTab w B v es) : ∀ k, v.ownBlock = some k → B ≤ k := by
  intro k hk
  obtain ⟨_, h1 | ⟨g, cap, cur, rfl, hb, _⟩⟩ := h
  · rw [h1.1] at hk; cases hk
  · simp [Value.ownBlock] at hk; omega
theorem sm_snoc {us vs : List (Int × Int)} {a p : Int} (h : ∀ x ∈ us, Sm x.1 x.2) (e : vs = us ++ [(a, p)]) (hs : Sm a p) : ∀ x ∈ vs, Sm x.1 x.2 := by
  subst e
  intro x hx
  simp at hx
  rcases hx with hx | rfl
  · exact h x hx
  · exact hs
/-- How long the slice in a box is. -/
def lenAt (b : Nat) (w : World) : Nat := match w.cell? ⟨b, 0, none⟩ with | some (.slice _ n _) => n | _ => 0
theorem lenAt_of {b : Nat} {w : World} {g : Option Addr} {n c : Nat} (h : w.cell? ⟨b, 0, none⟩ = some (.slice g n c)) : lenAt b w = n := by unfold lenAt; rw [h]

/-- append onto a slice of the call's own, something or other, at a step of a region that draws its order. -/
theorem step_append_more {P : Program} (w : World) {ops : Array Oper} {o : Oper} {a : Act} {K : Act → World → Prop} {Q : Exit → Act → World → Prop} {E : Prop} (hgd : o.guard = none) (s x : Operand) (t : TypeId)
    (ho : o.op = .call { callee := .builtin .append, args := #[s, x], argTypes := #[t, t] })
    (base : Nat) (e : TypeId) (i : TypeInfo) (z : Value) (size bytes : Nat) (ht : P.underlying t = some (.slice e)) (hi : P.info? e = some i) (hz : i.zero = some z)
    (hsize : i.size = size) (hby : i.bytes = bytes) (hzs : z.cells.size = size) (hsz : 0 < size)
    (v : Value) (n : Nat) (xs : List Value) (hs : a.eval s = v) (hown : w.ownsRow base e size v n xs)
    (ad : Addr) (m c : Nat) (news : List Value) (hx : a.eval x = .slice (some ad) m c) (hl : news.length = m * size) (hnews : ∀ j u, news[j]? = some u → w.cell? (ad.add j) = some u) (h1 : ∀ u ∈ news, u.oneCell' = true)
    (h63 : n + m ≤ maxLen) (hbytes : (n + m) * bytes ≤ 140737488355328) (hbase : base ≤ w.heap.size)
    (h : ∀ v' w', w'.ownsRow base e size v' (n + m) (xs ++ news) → w.grownBy w' v.ownBlock → K (a.put o.dst v') w') :
    if Region.wanted o (yielded ops a.tmps) = true then Oper.wp P o a w K Q else E := by
  have hw : Region.wanted o (yielded ops a.tmps) = true := by simp [Region.wanted, hgd]
  rw [if_pos hw]
  obtain ⟨v', w', hr, h2, h3, _, _⟩ := run_append_own_at (P := P) w base t o.type e i z size bytes ht hi hz hsize hby hzs hsz v n xs hown ad m c news hl hnews h1 h63 hbytes hbase
  unfold Oper.wp execOp
  simp only [ho, resolve, invoke, builtin, Sem.run_bind, Sem.run_pure, Result.andThen_ok, List.map_toArray, List.map_cons, List.map_nil, hs, hx, hr]
  exact h v' w' h2 h3

set_option maxRecDepth 100000 in
set_option maxHeartbeats 3200000 in
theorem table_any (m : Int) (B R L : Nat) (w : World) (h : Rd B R L w) (hL : L ≤ 990000) (hm : 0 ≤ m) (hm2 : m ≤ 1000000) :
    Calls Tryz.prog 66 #[.pointer (some ⟨R, 0, none⟩), .int .i64 m] w fun e w' => ∃ g c us, e = .returned (.agg #[.slice g (us : List (Int × Int)).length c]) ∧ OwnTab w' w.heap.size (.slice g us.length c) us ∧ (us.length ≤ 8 ∧ SmE us) ∧ w.grownBy w' (some R) ∧ Rd B R (L + 90) w' := by
  have hR := h.lt
  have hBR := h.base
  have H := Lib.hid h
  clear h
  go_enter Tryz.func66, Tryz.ntmps66
  go_wp2_with fail
  (go_at_call 27; refine (pick_any 8 B R L _ (by first | exact rd_alloc (rd_alloc H.out _) _ | exact rd_put (rd_alloc (rd_alloc H.out _) _) _ (by simp; omega) (by simp; omega)) (by omega)).mono ?_; rintro e w1 ⟨k, rfl, hk, g1, r1⟩)
  have hI : TabI w.heap.size B R (L + 1) w w1 none 0 [] := by
    refine ⟨⟨gbox (by simp) g1 (by omega), gboxf (v := .slice none 0 0) (by simp) (by simp) g1 (by omega)⟩, ⟨gbox (by simp) g1 (by omega), gboxf (v := .slice none 0 0) (by simp) (by simp) g1 (by omega)⟩, World.ownsRow_nil _ _ _ _, fun x hx => (by cases hx), ?_, r1⟩
    exact ((World.grownBy_alloc w _ _).trans (World.grownBy_alloc _ _ _)).trans g1
  have HI := Lib.hid hI
  clear hI g1 r1
  go_wp2_with fail
  go_loopw [6] (fun i wr => ∃ k : Nat, k ≤ 7 ∧ i = .int .i64 k ∧ ∃ g c us, (us : List (Int × Int)).length ≤ 6 ∧ Hid (TabI w.heap.size B R (L + 22 - 3 * k) w wr g c us)) (fun i _ => (intOf i).toNat)
  case atStart => exact ⟨k, by omega, rfl, none, 0, [], by simp, ⟨(HI.out.1), HI.out.2.1, HI.out.2.2.1, HI.out.2.2.2.1, HI.out.2.2.2.2.1, HI.out.2.2.2.2.2.mono (by omega)⟩⟩
  case round =>
    obtain ⟨n, hn, rfl, g, c, us, hus, HJ⟩ := hrel
    have z := HJ.out.2.2.2.2.1.size
    by_cases hn0 : 0 < n
    · have hn0i : (0 : Int) < (n : Int) := by omega
      have t0 := HJ.out.2.1.1
      have tl := World.block_lt_of_cell? _ _ t0
      simp only at tl
      obtain ⟨LL, hLL⟩ : ∃ LL, LL = L + 22 - 3 * n := ⟨_, rfl⟩
      rw [← hLL] at HJ
      have R0 : Hid (Rd B R LL wr) := HJ.out.2.2.2.2.2
      have mk : Hid (∀ w', wr.grownBy w' (some R) → w'.cell? ⟨w.heap.size + 1, 0, none⟩ = some (.slice g us.length c) ∧ wr.grownBy w' (some R)) := fun w' hg => ⟨gbox HJ.out.2.1.1 hg (by omega), hg⟩
      have HTb : Hid (∀ w', wr.grownBy w' (some R) → TabAt w' (.slice g us.length c) us) := fun w' hg => (HJ.out.2.2.1.grown hg (by omega)).tab
      clear t0
      go_upto_region 5 with fail
      go_cut [7] (fun s7 wx => ∃ b g c vs, s7 = .pointer (some ⟨b, 0, none⟩) ∧ wx.cell? ⟨b, 0, none⟩ = some (.slice g (vs : List (Int × Int)).length c) ∧ OwnTab wx wr.heap.size (.slice g vs.length c) vs ∧ (vs.length ≤ 6 ∧ ∀ x ∈ vs, Sm x.1 x.2) ∧ wr.grownBy wx (some R) ∧ Rd B R (LL + 3) wx ∧ wr.heap.size ≤ b)
      case first =>
        go_region_held3 (fun w' => w'.cell? ⟨w.heap.size + 1, 0, none⟩ = some (.slice g us.length c) ∧ wr.grownBy w' (some R))
          (first
            | exact mk.out _ (grownB (Below.refl _ _).drew)
            | exact mk.out _ cc
            | exact mk.out _ (cc.trans (World.grownBy_alloc _ _ _))
            | exact mk.out _ (grown_new cc _ _ (by first | omega | (simp; done) | (simp; omega)))
            | exact mk.out _ (grownB (((Below.refl _ _).drew).alloc (Nat.le_refl _) _))
            | exact mk.out _ ((‹_ ∧ wr.grownBy _ (some R)›.2).trans (World.grownBy_alloc _ _ _))
            | exact mk.out _ (grown_new (‹_ ∧ wr.grownBy _ (some R)›.2) _ _ (by first | omega | exact (‹_ ∧ wr.grownBy _ (some R)›.2).size | (simp; done) | (simp; omega)))
            | (trace_state; fail))
          (first
            | (go_at_call 70; have hS := (by assumption : _ ∧ wr.grownBy _ (some R)); refine (in_sm B R LL _ (by first | exact rd_drew R0.out | exact rd_alloc (rd_drew R0.out) _ | exact rd_drew (rd_alloc R0.out _)) (by omega)).mono ?_; rintro e wN ⟨a, p, rfl, gN, rN, QN⟩; have cc : wr.grownBy wN (some R) := hS.2.trans gN; have RN := Lib.hid rN; have QQ := Lib.hid QN; have zc := cc.size; (first | (have hk := freshG gN (by simp; omega); obtain ⟨k0, kf⟩ := hk) | (have hk := freshGd gN (by omega); obtain ⟨k0, kf⟩ := hk) | skip); clear rN QN)
            | (go_at_call 115; (try have kb := World.block_lt_of_cell? _ _ k0); have hS := (by assumption : _ ∧ wr.grownBy _ (some R)); refine (put_drawn _ us a p _ (by omega) (HTb.out _ hS.2)).mono ?_; rintro e wN ⟨g', c', vs, q, rfl, ho, hv, bN⟩; have FR := Lib.hid ho; have HV := Lib.hid hv; have cc : wr.grownBy wN (some R) := hS.2.trans (grownB bN); have RM : Hid (Rd B R (LL + 3) wN) := (by first | exact rd_below RN.out bN (Nat.le_refl _) | exact rd_below (rd_alloc RN.out _) bN (Nat.le_refl _)); have zc := cc.size; have zh := hS.2.size; (first | (have hk := freshB bN; obtain ⟨k0, kf⟩ := hk) | (have hk := boxDB k0 kf bN; obtain ⟨k0, kf⟩ := hk) | skip); clear ho hv))
        all_goals (go_wp2_with fail; go_meet)
        all_goals (first
          | exact ⟨_, _, _, _, rfl, by simp, OwnTab.mono (FR.out.below ((Below.refl _ _).alloc (Nat.le_refl _) _)) (by first | omega | (simp; omega)), ⟨HV.out.1, fun x hx => (HV.out.2 x hx).elim (fun h => HJ.out.2.2.2.1 x h) (fun h => by rw [h]; exact QQ.out)⟩, cc.trans (World.grownBy_alloc _ _ _), rd_alloc RM.out _, by first | omega | (simp; omega)⟩
          | exact ⟨_, _, _, _, rfl, World.cell?_setCell_same _ _ _ k0, OwnTab.mono (ownsRow_setCell_below FR.out (by first | exact kb | (simp; done) | omega | (simp; omega)) _) (by first | omega | (simp; omega)), ⟨HV.out.1, fun x hx => (HV.out.2 x hx).elim (fun h => HJ.out.2.2.2.1 x h) (fun h => by rw [h]; exact QQ.out)⟩, grown_new cc _ _ (by first | omega | (simp; done) | (simp; omega)), rd_put RM.out _ (by first | omega | (simp; omega)) (by first | omega | (simp; omega)), by first | omega | (simp; done) | (simp; omega)⟩
          | (trace_state; fail))
      case rest =>
        obtain ⟨bx, gx, cx, vs, rfl, kx, ox, ⟨hv6, hvS⟩, gX, rx, lx⟩ := hcut
        have HK : Hid (TabI w.heap.size B R (LL + 3) w (wc.setCell ⟨w.heap.size + 1, 0, none⟩ (.slice gx vs.length cx)) gx cx vs) := HJ.out.set gX (by omega) hBR (Nat.le_refl _) (ox.mono (by omega)) hvS rx
        have t1 := gbox HJ.out.2.1.1 gX (by omega)
        have tf := gboxf HJ.out.2.1.1 HJ.out.2.1.2 gX (by omega)
        clear ox hvS gX rx
        go_wp2_with fail
        go_roundw
        case rel => exact ⟨n - 1, by omega, by go_num, gx, cx, vs, hv6, ⟨HK.out.1, HK.out.2.1, HK.out.2.2.1, HK.out.2.2.2.1, HK.out.2.2.2.2.1, HK.out.2.2.2.2.2.mono (by omega)⟩⟩
        case measure => simp [intOf]; omega
    · obtain rfl : n = 0 := by omega
      have R0 := HJ.out.2.2.2.2.2
      have hn0i : ¬ (0 : Int) < ((0 : Nat) : Int) := by omega
      go_wp2_with fail
      (go_at_call 28; refine (odd_any m B R (L + 22) _ R0 (by omega) hm hm2).mono ?_; rintro e w2 ⟨b, rfl, g2, r2⟩)
      have HJ2 : Hid (TabI w.heap.size B R (L + 23) w w2 g c us) := HJ.out.later g2 (by omega) (r2.mono (by omega))
      have z2 := HJ2.out.2.2.2.2.1.size
      clear HJ R0 g2 r2 HI
      have hul : us.length ≤ 6 := hus
      cases b
      · obtain ⟨gx, cx, xs, HX, hx8⟩ : ∃ gx cx xs, Hid (TabI w.heap.size B R (L + 23) w w2 gx cx xs) ∧ (xs : List (Int × Int)).length ≤ 8 := ⟨g, c, us, HJ2, by omega⟩
        clear HJ2
        have r0 := HX.out.1.1
        have t0 := HX.out.2.1.1
        have rf := HX.out.1.2
        have F := Lib.hid (HX.out.fin (M := L + 90) hR hBR hx8 (by omega))
        go_wp2_with fail
        exact bodyPost_ret (v := .agg #[.slice gx xs.length cx]) (by simp [results, Tryz.results66, go_sem, World.cell?_setCell_same _ _ _ r0]) rfl ⟨gx, cx, xs, rfl, F.out⟩
      · go_wp2_with fail
        (go_at_call 27; refine (pick_any 3 B R (L + 23) _ HJ2.out.2.2.2.2.2 (by omega)).mono ?_; rintro e w3 ⟨k3, rfl, hk3, g3, r3⟩)
        have HJ3 : Hid (TabI w.heap.size B R (L + 24) w w3 g c us) := HJ2.out.later g3 (by omega) (r3.mono (by omega))
        have z3 := HJ3.out.2.2.2.2.1.size
        have t3 := HJ3.out.2.1.1
        have tf3 := HJ3.out.2.1.2
        have tl3 := World.block_lt_of_cell? _ _ t3
        simp only at tl3
        clear HJ2 g3 r3
        obtain ⟨i0, hi, hz0, hz1, hz2⟩ := info_parts infoEnd
        rcases (show k3 = 0 ∨ k3 = 1 ∨ k3 = 2 by omega) with rfl | rfl | rfl
        · have RR : Hid (Rd B R (L + 24) w3.drew) := rd_drew HJ3.out.2.2.2.2.2
          have mk : Hid (∀ w', w3.grownBy w' (some R) → Rd B R (L + 26) w' → TabI w.heap.size B R (L + 26) w w' g c us) := fun w' hg hr => HJ3.out.later hg (by omega) hr
          go_upto_region 12 with fail
          go_region_law (first
            | (refine step_append_more _ rfl (.tmp 46) (.tmp 49) 24 rfl (w.heap.size + 2) 31 i0 (.agg #[.int .i64 0, .int .i64 0]) 2 16 Tryz.underlying24 hi hz0 hz1 hz2 rfl (by decide) (.slice g us.length c) us.length (flatE us) (by rfl) (HO4.out _) ⟨w4.heap.size, 0, none⟩ 1 1 [.int .i64 a, .int .i64 p] (by rfl) (by rfl) (World.news_of_block (cs := #[.int .i64 a, .int .i64 p]) (t := 31) (heap_last _ _)) (by intro u hu; simp at hu; rcases hu with rfl | rfl <;> rfl) (by unfold maxLen; omega) (by omega) (by simp; omega) ?_
               intro v5 w5 hown5 hgrow5
               have HB5 : Hid (BoxI w.heap.size B R (L + 26) w w5 (.slice g us.length c)) := HJ4.out.box.app ((World.grownBy_alloc _ _ _).trans hgrow5) (fun k e => (HJ4.out.2.2.1.ge k e)) hR hBR (Nat.le_refl _)
               obtain ⟨gx, cx, xs, rfl, o5, l5, e5⟩ := own_snoc hown5
               have HX := Lib.hid (HB5.out.close hR hBR (Nat.le_refl _) o5 (sm_snoc HJ4.out.2.2.2.1 e5 QQ.out))
               have t5 := HB5.out.2.1.1
               have tf5 := HB5.out.2.1.2
               have hx8 : xs.length ≤ 8 := by omega
               clear hown5 hgrow5 o5 l5 e5 t4 tf4)
            | (go_simp; go_at_call 71; refine (out_sm B R (L + 24) _ RR.out (by omega)).mono ?_; rintro e w4 ⟨a, p, rfl, g4, r4, Q4⟩; have HJ4 : Hid (TabI w.heap.size B R (L + 26) w w4 g c us) := mk.out _ ((grownB (Below.refl _ _).drew).trans g4) r4; have QQ := Lib.hid Q4; have HO4 : Hid (∀ x, OwnTab (w4.alloc x) (w.heap.size + 2) (.slice g us.length c) us) := (fun x => HJ4.out.2.2.1.below ((Below.refl _ _).alloc (Nat.le_refl _) _)); have t4 := HJ4.out.2.1.1; have tf4 := HJ4.out.2.1.2; have z4 := HJ4.out.2.2.2.2.1.size; have tl4 := World.block_lt_of_cell? _ _ t4; simp only at tl4; clear g4 r4 Q4))
          all_goals
            have r0 := HX.out.1.1
            have t0 := HX.out.2.1.1
            have rf := HX.out.1.2
            have F := Lib.hid (HX.out.fin (M := L + 90) hR hBR hx8 (by omega))
            go_wp2_with fail
            exact bodyPost_ret (v := .agg #[.slice gx xs.length cx]) (by simp [results, Tryz.results66, go_sem, World.cell?_setCell_same _ _ _ r0]) rfl ⟨gx, cx, xs, rfl, F.out⟩
        · have HO3 : Hid (∀ x, OwnTab (w3.alloc x) (w.heap.size + 2) (.slice g us.length c) us) := fun x => HJ3.out.2.2.1.below ((Below.refl _ _).alloc (Nat.le_refl _) _)
          have HB3 := Lib.hid HJ3.out.box
          go_wp2_with (at_builtin; refine wpList_append_own _ rfl (.tmp 55) (.tmp 57) 24 rfl (w.heap.size + 2) 31 i0 (.agg #[.int .i64 0, .int .i64 0]) 2 16 Tryz.underlying24 hi hz0 hz1 hz2 rfl (by decide) _ _ _ rfl (HO3.out _) ⟨w3.heap.size, 0, none⟩ 1 1 [.int .i64 9, .int .i64 9] rfl rfl ?c1 ?c2 ?c3 ?c4 ?c5 ?_)
          case c1 =>
            intro j u hj
            match j, hj with
            | 0, hj => simp at hj; subst hj; simp [Addr.add]
            | 1, hj => simp at hj; subst hj; simp [Addr.add]
          case c2 => intro u hu; simp at hu; rcases hu with rfl | rfl <;> rfl
          case c3 => unfold maxLen; omega
          case c4 => omega
          case c5 => simp; omega
          intro v4 w4 hown4 hgrow4 _
          have HB4 : Hid (BoxI w.heap.size B R (L + 24) w w4 (.slice g us.length c)) := HB3.out.app ((World.grownBy_alloc _ _ _).trans hgrow4) (fun k e => (HJ3.out.2.2.1.ge k e)) hR hBR (Nat.le_refl _)
          obtain ⟨g4, c4, us4, rfl, o4, l4, e4⟩ := own_snoc hown4
          have hs4 := Lib.hid (sm_snoc HJ3.out.2.2.2.1 e4 (by unfold Sm; decide))
          have O4 := Lib.hid o4
          have L4 := Lib.hid l4
          have l4b : us4.length ≤ 7 := by omega
          clear e4 l4
          have HO4 : Hid (∀ x, OwnTab (w4.alloc x) (w.heap.size + 2) (.slice g4 us4.length c4) us4) := fun x => o4.below ((Below.refl _ _).alloc (Nat.le_refl _) _)
          have z4 := HB4.out.2.2.1.size
          have t4 := HB4.out.2.1.1
          have tl4 := World.block_lt_of_cell? _ _ t4
          simp only at tl4
          clear hown4 hgrow4 HB3 HO3 HJ3 t3 tf3
          go_wp2_with (at_builtin; refine wpList_append_own _ rfl (.tmp 58) (.tmp 60) 24 rfl (w.heap.size + 2) 31 i0 (.agg #[.int .i64 0, .int .i64 0]) 2 16 Tryz.underlying24 hi hz0 hz1 hz2 rfl (by decide) _ _ _ rfl (HO4.out _) ⟨w4.heap.size, 0, none⟩ 1 1 [.int .i64 9, .int .i64 9] rfl rfl ?c1 ?c2 ?c3 ?c4 ?c5 ?_)
          case c1 =>
            intro j u hj
            match j, hj with
            | 0, hj => simp at hj; subst hj; simp [Addr.add]
            | 1, hj => simp at hj; subst hj; simp [Addr.add]
          case c2 => intro u hu; simp at hu; rcases hu with rfl | rfl <;> rfl
          case c3 => unfold maxLen; omega
          case c4 => omega
          case c5 => simp; omega
          intro v5 w5 hown5 hgrow5 _
          have HB5 : Hid (BoxI w.heap.size B R (L + 24) w w5 (.slice g us.length c)) := HB4.out.app ((World.grownBy_alloc _ _ _).trans hgrow5) (fun k e => (O4.out.ge k e)) hR hBR (Nat.le_refl _)
          obtain ⟨gx, cx, xs, rfl, o5, l5, e5⟩ := own_snoc hown5
          have HX := Lib.hid (HB5.out.close hR hBR (Nat.le_refl _) o5 (sm_snoc hs4.out e5 (by unfold Sm; decide)))
          have t5 := HB5.out.2.1.1
          have tf5 := HB5.out.2.1.2
          have hx8 : xs.length ≤ 8 := by have := L4.out; omega
          clear hown5 hgrow5 o4 O4 o5 l5 e5 HB4 HB5 HO4 t4 L4
          have r0 := HX.out.1.1
          have t0 := HX.out.2.1.1
          have rf := HX.out.1.2
          have F := Lib.hid (HX.out.fin (M := L + 90) hR hBR hx8 (by omega))
          go_wp2_with fail
          exact bodyPost_ret (v := .agg #[.slice gx xs.length cx]) (by simp [results, Tryz.results66, go_sem, World.cell?_setCell_same _ _ _ r0]) rfl ⟨gx, cx, xs, rfl, F.out⟩
        · have hx6 : us.length ≤ 7 := by omega
          go_wp2_with fail
          go_loopw [] (fun wr => ∃ g c us, (us : List (Int × Int)).length ≤ 7 ∧ Hid (TabI w.heap.size B R (L + 24) w wr g c us)) (fun wr => 8 - lenAt (w.heap.size + 1) wr)
          case atStart => exact ⟨g, c, us, hx6, HJ3⟩
          case round =>
            obtain ⟨g, c, us, hx7, HJ⟩ := hrel
            have zr := HJ.out.2.2.2.2.1.size
            have tr := HJ.out.2.1.1
            have tfr := HJ.out.2.1.2
            have tlr := World.block_lt_of_cell? _ _ tr
            simp only at tlr
            have HLn := Lib.hid (lenAt_of tr)
            by_cases hle : us.length ≤ 6
            · have hlei : (us.length : Int) ≤ 6 := by omega
              have HOr : Hid (∀ x, OwnTab (wr.alloc x) (w.heap.size + 2) (.slice g us.length c) us) := fun x => HJ.out.2.2.1.below ((Below.refl _ _).alloc (Nat.le_refl _) _)
              have hsm : Hid (Sm 8 (1 + (us.length : Int))) := by show Sm _ _; unfold Sm; omega
              go_wp2_with (at_builtin; refine wpList_append_own _ rfl (.tmp 34) (.tmp 40) 24 rfl (w.heap.size + 2) 31 i0 (.agg #[.int .i64 0, .int .i64 0]) 2 16 Tryz.underlying24 hi hz0 hz1 hz2 rfl (by decide) _ _ _ rfl (HOr.out _) ⟨wr.heap.size, 0, none⟩ 1 1 [.int .i64 8, .int .i64 (1 + (us.length : Int))] rfl rfl ?c1 ?c2 ?c3 ?c4 ?c5 ?_)
              case c1 =>
                intro j u hj
                match j, hj with
                | 0, hj => simp at hj; subst hj; simp [Addr.add]
                | 1, hj => simp at hj; subst hj; simp [Addr.add]
              case c2 => intro u hu; simp at hu; rcases hu with rfl | rfl <;> rfl
              case c3 => unfold maxLen; omega
              case c4 => omega
              case c5 => simp; omega
              intro v5 w5 hown5 hgrow5 _
              have HB5 : Hid (BoxI w.heap.size B R (L + 24) w w5 (.slice g us.length c)) := HJ.out.box.app ((World.grownBy_alloc _ _ _).trans hgrow5) (fun k e => (HJ.out.2.2.1.ge k e)) hR hBR (Nat.le_refl _)
              obtain ⟨gx, cx, xs, rfl, o5, l5, e5⟩ := own_snoc hown5
              have HX := Lib.hid (HB5.out.close hR hBR (Nat.le_refl _) o5 (sm_snoc HJ.out.2.2.2.1 e5 hsm.out))
              have t5 := HB5.out.2.1.1
              have tf5 := HB5.out.2.1.2
              have L5 := Lib.hid l5
              clear hown5 hgrow5 o5 l5 e5 HB5 tr tfr
              go_wp2_with fail
              go_roundw
              case rel => exact ⟨gx, cx, xs, by have := L5.out; omega, HX⟩
              case measure => have h1 := HLn.out; have h2 := lenAt_of HX.out.2.1.1; have := L5.out; rw [h1, h2]; omega
            · have hlei : ¬ (us.length : Int) ≤ 6 := by omega
              obtain ⟨gx, cx, xs, HX, hx8, hxl⟩ : ∃ gx cx xs, Hid (TabI w.heap.size B R (L + 24) w wr gx cx xs) ∧ (xs : List (Int × Int)).length ≤ 8 ∧ ¬ (xs.length : Int) ≤ 6 := ⟨g, c, us, HJ, by omega, hlei⟩
              clear HJ tr tfr HLn hlei
              have r0 := HX.out.1.1
              have t0 := HX.out.2.1.1
              have rf := HX.out.1.2
              have F := Lib.hid (HX.out.fin (M := L + 90) hR hBR hx8 (by omega))
              go_wp2_with fail
              exact bodyPost_ret (v := .agg #[.slice gx xs.length cx]) (by simp [results, Tryz.results66, go_sem, World.cell?_setCell_same _ _ _ r0]) rfl ⟨gx, cx, xs, rfl, F.out⟩

end Go.Proofs.YtgfkiljkpkfapaaGreatDoor

/- l20BoxOr of the specification: some box, in the call's own memory, not large. Conditions: the reader is there, its place is small. -/
namespace Go.Proofs.YtgfkiljkpkfapaaGreatDoor
open Go.RowKit Go.Sort

theorem OwH.set3B {w : World} {B g : Nat} {l : List Value} {v u0 u1 u2 : Value} {b : Bx} (h : OwH w B v b) (hb : Blk w g 29 l) : OwH (((w.setCell ⟨g, 0, none⟩ u0).setCell ⟨g, 1, none⟩ u1).setCell ⟨g, 2, none⟩ u2) B v b :=
  ((h.setB hb 0 u0).setB (hb.set 0 u0) 1 u1).setB ((hb.set 0 u0).set 1 u1) 2 u2

set_option maxRecDepth 100000 in
set_option maxHeartbeats 12800000 in
theorem boxOr_any (m : Int) (B R L : Nat) (w : World) (h : Rd B R L w) (hL : L ≤ 960000) (hm : 0 ≤ m) (hm2 : m ≤ 1000000) :
    Calls Tryz.prog 25 #[.pointer (some ⟨R, 0, none⟩), .int .i64 m] w fun e w' => ∃ x1 x2 x3 b, e = .returned (.agg #[x1, x2, x3]) ∧ OwH w' w.heap.size (.agg #[x1, x2, x3]) b ∧ (bxSz b ∧ wfE b.es ∧ cnWf b.cs) ∧ w.grownBy w' (some R) ∧ Rd B R (L + 1800) w' := by
  obtain ⟨i0, hi, hz0, hz1, hz2⟩ := info_parts infoCn
  have hRs := h.lt
  have hBR := h.base
  have H := Lib.hid h
  clear h
  go_enter Tryz.func25, Tryz.ntmps25
  go_wp2_with fail
  (go_at_call 65; refine (box_any B R L _ (rd_alloc H.out _) (by omega)).mono ?_; rintro e w1 ⟨x1, x2, x3, b, rfl, oh, hz, g1, r1⟩)
  obtain ⟨a1, c1, a2, c2, a3, c3, rfl, rfl, rfl⟩ := oh.form
  have z1 : w.heap.size + 1 ≤ w1.heap.size := by have := g1.size; simpa using this
  obtain ⟨s, hs⟩ : ∃ s, s = w.heap.size := ⟨_, rfl⟩
  obtain ⟨b3, hb3⟩ : ∃ b3, b3 = w1.heap.size := ⟨_, rfl⟩
  have S2 : Hid (BS B R s b3 (L + 1400) w (w1.alloc (.cells #[.slice a1 b.rs.length c1, .slice a2 b.es.length c2, .slice a3 b.cs.length c3] 29)) [.slice none 0 0, .slice none 0 0, .slice none 0 0] (.slice a1 b.rs.length c1) (.slice a2 b.es.length c2) (.slice a3 b.cs.length c3) b) := by
    rw [hs, hb3]
    have hA : Blk w1 w.heap.size 29 [.slice none 0 0, .slice none 0 0, .slice none 0 0] := (blk_newD w [.slice none 0 0, .slice none 0 0, .slice none 0 0] 29).grown g1 (by omega)
    refine ⟨hA.alloc _, blk_newD _ _ _, ?_, hz, ?_, rd_alloc r1 _⟩
    · have h1 := oh.later ((Below.refl _ w1).alloc (Nat.le_refl _) (.cells #[.slice a1 b.rs.length c1, .slice a2 b.es.length c2, .slice a3 b.cs.length c3] 29))
      exact h1.mono (by simp)
    · exact grown_alloc ((World.grownBy_alloc w _ _).trans g1) _
  go_upto_region 2 with fail
  obtain ⟨n1, hn1⟩ : ∃ n, n = b.rs.length := ⟨_, rfl⟩
  obtain ⟨n2, hn2⟩ : ∃ n, n = b.es.length := ⟨_, rfl⟩
  obtain ⟨n3, hn3⟩ : ∃ n, n = b.cs.length := ⟨_, rfl⟩
  rw [← hn1, ← hn2, ← hn3] at S2 ⊢
  have HN3 := Lib.hid hn3
  obtain ⟨W2, hW2⟩ : ∃ W2, W2 = w1.alloc (.cells #[.slice a1 n1 c1, .slice a2 n2 c2, .slice a3 n3 c3] 29) := ⟨_, rfl⟩
  rw [← hW2] at S2 ⊢
  rw [← hs] at z1 hRs ⊢
  rw [← hb3] at z1 ⊢
  have hsb : s < b3 := by omega
  have hbs : b3 ≠ s := by omega
  have hsb2 : s ≠ b3 := by omega
  have h0s : w.heap.size ≤ s := Nat.le_of_eq hs.symm
  have hn3k : n3 ≤ 1048576 := by rw [hn3]; exact hz.1.2.2.1
  clear hW2 hs hb3 z1 oh g1 r1 H hn1 hn2 hn3 hz
  go_upto_if 11 with (go_at_call 28; refine (odd_any m B R (L + 1400) _ S2.out.2.2.2.2.2 (by omega) hm hm2).mono ?_; rintro e w3 ⟨bo, rfl, g3, r3⟩)
  have S3 := Lib.hid (BS.grown S2.out g3 r3 hRs hsb)
  clear g3 r3 S2
  cases bo
  · obtain ⟨⟨p0, p1, p2⟩, u0, u1, u2⟩ := three_all (S3.out).2.1; obtain ⟨⟨t0, t1, t2⟩, f0, f1, f2⟩ := three_all (S3.out).1
    go_wp2_with fail
    obtain ⟨⟨z0, z1, z2⟩, -⟩ := three_all (three_set (S3.out.fin).1 (.slice a1 n1 c1) (.slice a2 n2 c2) (.slice a3 n3 c3))
    refine bodyPost_ret (v := .agg #[.slice a1 n1 c1, .slice a2 n2 c2, .slice a3 n3 c3]) (by simp [results, Tryz.results25, go_sem, z0, z1, z2]) rfl ⟨_, _, _, _, rfl, ?_, (S3.out.fin).2.2.2.1, ?_, ?_⟩
    · exact OwH.mono (OwH.set3B (S3.out.fin).2.2.1 (S3.out.fin).1) (by omega)
    · exact grown_putR (grown_putR (grown_putR (S3.out.fin).2.2.2.2.1 h0s 0 _) h0s 1 _) h0s 2 _
    · exact (rd_put (rd_put (rd_put (S3.out.fin).2.2.2.2.2 _ (by omega) (by omega)) _ (by omega) (by omega)) _ (by omega) (by omega)).mono (by omega)
  · obtain ⟨⟨p0, p1, p2⟩, u0, u1, u2⟩ := three_all (S3.out).2.1; obtain ⟨⟨t0, t1, t2⟩, f0, f1, f2⟩ := three_all (S3.out).1
    go_wp2_with fail
    (go_at_call 27; refine (pick_any 8 B R (L + 1401) _ S3.out.2.2.2.2.2 (by omega)).mono ?_; rintro e w4 ⟨k, rfl, hk, g4, r4⟩)
    have S4 := Lib.hid (BS.grown S3.out g4 r4 hRs hsb)
    have hk8 : k < 8 := by omega
    clear g4 r4 S3 hk
    clear p0 p1 p2 u0 u1 u2 t0 t1 t2 f0 f1 f2
    obtain ⟨⟨p0, p1, p2⟩, u0, u1, u2⟩ := three_all (S4.out).2.1; obtain ⟨⟨t0, t1, t2⟩, f0, f1, f2⟩ := three_all (S4.out).1
    obtain rfl | rfl | rfl | rfl | rfl | rfl | rfl | rfl : k = 0 ∨ k = 1 ∨ k = 2 ∨ k = 3 ∨ k = 4 ∨ k = 5 ∨ k = 6 ∨ k = 7 := by omega
    · go_wp2_with fail
      (go_at_call 66; refine (table_any 1 B R (L + 1402) _ S4.out.2.2.2.2.2 (by omega) (by omega) (by omega)).mono ?_; rintro e w5 ⟨g, c, us, rfl, ot, ⟨hu, hsu⟩, g5, r5⟩)
      have s5 := BS.grown S4.out g5 r5 hRs hsb
      have ot2 : OwnTab w5 (s + 1) (.slice g us.length c) us := own_monoG ot S4.out.1.lt
      clear p0 p1 p2 u0 u1 u2 t0 t1 t2 f0 f1 f2
      obtain ⟨⟨p0, p1, p2⟩, u0, u1, u2⟩ := three_all (s5).2.1; obtain ⟨⟨t0, t1, t2⟩, f0, f1, f2⟩ := three_all (s5).1
      go_wp2_with fail
      have S6 := BS.tab s5 hRs hBR hsb h0s ot2 hu (fun y hy => (hsu y hy).wf)
      obtain ⟨⟨z0, z1, z2⟩, -⟩ := three_all (three_set (S6).1 (.slice a1 n1 c1) (.slice g us.length c) (.slice a3 n3 c3))
      refine bodyPost_ret (v := .agg #[.slice a1 n1 c1, .slice g us.length c, .slice a3 n3 c3]) (by simp [results, Tryz.results25, go_sem, z0, z1, z2]) rfl ⟨_, _, _, _, rfl, ?_, (S6).2.2.2.1, ?_, ?_⟩
      · exact OwH.mono (OwH.set3B (S6).2.2.1 (S6).1) (by omega)
      · exact grown_putR (grown_putR (grown_putR (S6).2.2.2.2.1 h0s 0 _) h0s 1 _) h0s 2 _
      · exact (rd_put (rd_put (rd_put (S6).2.2.2.2.2 _ (by omega) (by omega)) _ (by omega) (by omega)) _ (by omega) (by omega)).mono (by omega)
    · by_cases h0 : n3 = 0
      · subst h0
        go_wp2_with fail
        obtain ⟨⟨z0, z1, z2⟩, -⟩ := three_all (three_set (S4.out.fin).1 (.slice a1 n1 c1) (.slice a2 n2 c2) (.slice a3 0 c3))
        refine bodyPost_ret (v := .agg #[.slice a1 n1 c1, .slice a2 n2 c2, .slice a3 0 c3]) (by simp [results, Tryz.results25, go_sem, z0, z1, z2]) rfl ⟨_, _, _, _, rfl, ?_, (S4.out.fin).2.2.2.1, ?_, ?_⟩
        · exact OwH.mono (OwH.set3B (S4.out.fin).2.2.1 (S4.out.fin).1) (by omega)
        · exact grown_putR (grown_putR (grown_putR (S4.out.fin).2.2.2.2.1 h0s 0 _) h0s 1 _) h0s 2 _
        · exact (rd_put (rd_put (rd_put (S4.out.fin).2.2.2.2.2 _ (by omega) (by omega)) _ (by omega) (by omega)) _ (by omega) (by omega)).mono (by omega)
      · have h0i : (0 : Int) < (n3 : Int) := by omega
        have h0n : 0 < n3 := by omega
        clear h0
        have hcx := S4.out.2.2.2.1.2
        go_upto_region 11 with fail
        obtain ⟨e1, e2, e3, o1, o2, o3⟩ := S4.out.2.2.1.parts; obtain ⟨x, cr, hcs⟩ : ∃ x cr, b.cs = x :: cr := (by cases hh : b.cs with | nil => rw [hh] at e3; simp at e3; omega | cons x cr => exact ⟨x, cr, rfl⟩); obtain ⟨g, eg, hgB, hgl, hcp, -, ⟨k0, k1, k2, k3, k4, k5, k6⟩, v0, v1, v2, v3, v4, v5, v6⟩ := own_conn o3 h0n x (by rw [hcs]; rfl); simp only [Nat.zero_mul, Nat.zero_add] at k0 k1 k2 k3 k4 k5 k6 v0 v1 v2 v3 v4 v5 v6; have hgs : g ≠ s := (by omega); have hsg : s ≠ g := (by omega); have HCS := Lib.hid hcs; clear e1 e2 e3 o1 o2 o3 hcs
        subst eg
        have hx6 : (x.kn.size : Int) ≤ 1048576 ∧ (x.he.size : Int) ≤ 1048576 ∧ (x.ne.size : Int) ≤ 1048576 := by
          have h1 := hcx.1
          rw [HCS.out] at h1
          have h2 := h1 x (List.mem_cons_self ..)
          exact ⟨by omega, by omega, by omega⟩
        have hxw : Hid (cnWf1 x) := hcx.2.2.1 x (by rw [HCS.out]; exact List.mem_cons_self ..)
        clear hcx
        have p0y := (fun o => (three_all (S4.out.alloc o).2.1).1.1); have p1y := (fun o => (three_all (S4.out.alloc o).2.1).1.2.1); have p2y := (fun o => (three_all (S4.out.alloc o).2.1).1.2.2)
        have hsw4 : s + 1 ≤ w4.heap.size := S4.out.1.lt
        go_region_law (first
          | (refine step_append_w _ (by rfl) (.tmp 34) (.tmp 39) 27 rfl (s + 1) 49 i0 (.agg #[.int .i64 0, .int .i64 0, .int .i64 0, .int .i64 0, .string ⟨#[]⟩, .string ⟨#[]⟩, .string ⟨#[]⟩]) 7 80 Tryz.underlying27 hi hz0 hz1 hz2 rfl (by decide) (.slice (some ⟨g, 0, none⟩) n3 c3) n3 (flatC cnC b.cs) (by rfl) (by first | exact (BS.own S4.out _).drew | exact BS.own S4.out.drew _) ⟨w4.heap.size, 0, none⟩ 1 1 (cnC x) (by rfl) (by rfl) (World.news_of_block (cs := #[.int .i64 x.ia, .int .i64 x.ip, .int .i64 x.oa, .int .i64 x.op, .string x.kn, .string x.he, .string x.ne]) (t := 49) (heap_last3 _ _)) (by intro u hu; simp [cnC] at hu; rcases hu with rfl | rfl | rfl | rfl | rfl | rfl | rfl <;> rfl) (by unfold maxLen; omega) (by omega) (by simp; omega) ?_; intro v5 w5 hown5 hgrow5; obtain ⟨a5, c5, rfl, m1, m2, m3⟩ := BS.app (x' := x) S4.out hRs hBR hsb h0s (grown_fromD hgrow5) hown5 hx6 hxw.out; clear hown5 hgrow5 p0y p1y p2y; clear p0 p1 p2 u0 u1 u2 t0 t1 t2 f0 f1 f2 k0 k1 k2 k3 k4 k5 k6 v0 v1 v2 v3 v4 v5 v6; obtain ⟨⟨p0, p1, p2⟩, u0, u1, u2⟩ := three_all m2; obtain ⟨⟨t0, t1, t2⟩, f0, f1, f2⟩ := three_all m1))
        all_goals go_wp2_with fail
        all_goals
          obtain ⟨⟨z0, z1, z2⟩, -⟩ := three_all (three_set (m3).1 (.slice a1 n1 c1) (.slice a2 n2 c2) (.slice a5 (n3 + 1) c5))
          refine bodyPost_ret (v := .agg #[.slice a1 n1 c1, .slice a2 n2 c2, .slice a5 (n3 + 1) c5]) (by simp [results, Tryz.results25, go_sem, z0, z1, z2]) rfl ⟨_, _, _, _, rfl, ?_, (m3).2.2.2.1, ?_, ?_⟩
          · exact OwH.mono (OwH.set3B (m3).2.2.1 (m3).1) (by omega)
          · exact grown_putR (grown_putR (grown_putR (m3).2.2.2.2.1 h0s 0 _) h0s 1 _) h0s 2 _
          · exact (rd_put (rd_put (rd_put (m3).2.2.2.2.2 _ (by omega) (by omega)) _ (by omega) (by omega)) _ (by omega) (by omega)).mono (by omega)
    · by_cases h0 : n3 = 0
      · subst h0
        go_wp2_with fail
        obtain ⟨⟨z0, z1, z2⟩, -⟩ := three_all (three_set (S4.out.fin).1 (.slice a1 n1 c1) (.slice a2 n2 c2) (.slice a3 0 c3))
        refine bodyPost_ret (v := .agg #[.slice a1 n1 c1, .slice a2 n2 c2, .slice a3 0 c3]) (by simp [results, Tryz.results25, go_sem, z0, z1, z2]) rfl ⟨_, _, _, _, rfl, ?_, (S4.out.fin).2.2.2.1, ?_, ?_⟩
        · exact OwH.mono (OwH.set3B (S4.out.fin).2.2.1 (S4.out.fin).1) (by omega)
        · exact grown_putR (grown_putR (grown_putR (S4.out.fin).2.2.2.2.1 h0s 0 _) h0s 1 _) h0s 2 _
        · exact (rd_put (rd_put (rd_put (S4.out.fin).2.2.2.2.2 _ (by omega) (by omega)) _ (by omega) (by omega)) _ (by omega) (by omega)).mono (by omega)
      · have h0i : (0 : Int) < (n3 : Int) := by omega
        have h0n : 0 < n3 := by omega
        clear h0
        go_upto_region 14 with fail
        obtain ⟨e1, e2, e3, o1, o2, o3⟩ := S4.out.2.2.1.parts; obtain ⟨x, cr, hcs⟩ : ∃ x cr, b.cs = x :: cr := (by cases hh : b.cs with | nil => rw [hh] at e3; simp at e3; omega | cons x cr => exact ⟨x, cr, rfl⟩); obtain ⟨g, eg, hgB, hgl, hcp, -, ⟨k0, k1, k2, k3, k4, k5, k6⟩, v0, v1, v2, v3, v4, v5, v6⟩ := own_conn o3 h0n x (by rw [hcs]; rfl); simp only [Nat.zero_mul, Nat.zero_add] at k0 k1 k2 k3 k4 k5 k6 v0 v1 v2 v3 v4 v5 v6; have hgs : g ≠ s := (by omega); have hsg : s ≠ g := (by omega); have HCS := Lib.hid hcs; clear e1 e2 e3 o1 o2 o3 hcs
        subst eg
        go_region_with (go_at_call 67; refine (streamOr_any 2 (by omega) (by omega) B R (L + 1402) _ (by first | exact S4.out.2.2.2.2.2 | exact rd_drewD S4.out.2.2.2.2.2) (by omega)).mono ?_; rintro e w5 ⟨sv, rfl, hsv, g5, r5⟩; have s5 := BS.grown S4.out (by first | exact g5 | exact grown_fromD g5) r5 hRs hsb; clear p0 p1 p2 u0 u1 u2 t0 t1 t2 f0 f1 f2 k0 k1 k2 k3 k4 k5 k6 v0 v1 v2 v3 v4 v5 v6; obtain ⟨⟨p0, p1, p2⟩, u0, u1, u2⟩ := three_all (s5).2.1; obtain ⟨⟨t0, t1, t2⟩, f0, f1, f2⟩ := three_all (s5).1; obtain ⟨g', eg, -, -, -, -, ⟨k0, k1, k2, k3, k4, k5, k6⟩, v0, v1, v2, v3, v4, v5, v6⟩ := own_conn s5.2.2.1.parts.2.2.2.2.2 h0n x (by rw [HCS.out]; rfl); injection eg with eg; injection eg with eg; subst eg; simp only [Nat.zero_mul, Nat.zero_add] at k0 k1 k2 k3 k4 k5 k6 v0 v1 v2 v3 v4 v5 v6)
        all_goals go_wp2_with fail
        all_goals
          have S6 := BS.put1 (cs' := ⟨x.ia, x.ip, x.oa, x.op, sv, x.he, x.ne⟩ :: cr) s5 hRs hBR h0s 4 (.string sv) (by rw [HCS.out]; rfl) (by rw [HCS.out]; rfl) (by have h1 := s5.2.2.2.1.2.1; rw [HCS.out] at h1; have h2 := h1 x (List.mem_cons_self ..); exact cnIn_tail h1 (by first | (show (sv.size : Int) ≤ _; omega) | (have := h2.1; show (x.kn.size : Int) ≤ _; omega)) (by first | (show (sv.size : Int) ≤ _; omega) | (have := h2.2.1; show (x.he.size : Int) ≤ _; omega)) (by have := h2.2.2; show (x.ne.size : Int) ≤ _; omega)) (by have h1 := s5.2.2.2.1.2.2.2.1; rw [HCS.out] at h1; exact cnWf_tail h1 (h1 x (List.mem_cons_self ..)))
          obtain ⟨⟨z0, z1, z2⟩, -⟩ := three_all (three_set (S6).1 (.slice a1 n1 c1) (.slice a2 n2 c2) (.slice (some ⟨g, 0, none⟩) n3 c3))
          refine bodyPost_ret (v := .agg #[.slice a1 n1 c1, .slice a2 n2 c2, .slice (some ⟨g, 0, none⟩) n3 c3]) (by simp [results, Tryz.results25, go_sem, z0, z1, z2]) rfl ⟨_, _, _, _, rfl, ?_, (S6).2.2.2.1, ?_, ?_⟩
          · exact OwH.mono (OwH.set3B (S6).2.2.1 (S6).1) (by omega)
          · exact grown_putR (grown_putR (grown_putR (S6).2.2.2.2.1 h0s 0 _) h0s 1 _) h0s 2 _
          · exact (rd_put (rd_put (rd_put (S6).2.2.2.2.2 _ (by omega) (by omega)) _ (by omega) (by omega)) _ (by omega) (by omega)).mono (by omega)
    · have hsw4 : s + 1 ≤ w4.heap.size := S4.out.1.lt
      go_upto_region 16 with fail
      go_region_law (first
        | (go_simp; go_at_call 68; refine (end_sm 3 B R (L + 1410) _ (by first | exact s5.2.2.2.2.2 | exact rd_drewD s5.2.2.2.2.2) (by omega) (by decide) (by decide)).mono ?_; rintro e w6 ⟨ea2, ep2, rfl, g6, r6, sm6⟩; have s6 := BS.grown s5 (by first | exact g6 | exact grown_fromD g6) r6 hRs hsb; have hsw6 : s + 1 ≤ w6.heap.size := s6.1.lt; have hwf6 := Lib.hid (show cnWf1 ⟨ea1, ep1, ea2, ep2, ⟨#[]⟩, ⟨#[]⟩, ⟨#[]⟩⟩ from ⟨hwf5.out, sm6.wf⟩); clear g6 r6 sm6; clear p0 p1 p2 u0 u1 u2 t0 t1 t2 f0 f1 f2; obtain ⟨⟨p0, p1, p2⟩, u0, u1, u2⟩ := three_all (s6).2.1; obtain ⟨⟨t0, t1, t2⟩, f0, f1, f2⟩ := three_all (s6).1; have p0y := (fun o => (three_all (s6.alloc o).2.1).1.1); have p1y := (fun o => (three_all (s6.alloc o).2.1).1.2.1); have p2y := (fun o => (three_all (s6.alloc o).2.1).1.2.2))
        | (go_simp; go_at_call 68; refine (end_sm 3 B R (L + 1402) _ (by first | exact S4.out.2.2.2.2.2 | exact rd_drewD S4.out.2.2.2.2.2) (by omega) (by decide) (by decide)).mono ?_; rintro e w5 ⟨ea1, ep1, rfl, g5, r5, sm5⟩; have s5 := BS.grown S4.out (by first | exact g5 | exact grown_fromD g5) r5 hRs hsb; have hwf5 := Lib.hid sm5.wf; clear g5 r5 sm5; clear p0 p1 p2 u0 u1 u2 t0 t1 t2 f0 f1 f2; obtain ⟨⟨p0, p1, p2⟩, u0, u1, u2⟩ := three_all (s5).2.1; obtain ⟨⟨t0, t1, t2⟩, f0, f1, f2⟩ := three_all (s5).1)
        | (refine step_append_w _ (by rfl) (.tmp 55) (.tmp 61) 27 rfl (s + 1) 49 i0 (.agg #[.int .i64 0, .int .i64 0, .int .i64 0, .int .i64 0, .string ⟨#[]⟩, .string ⟨#[]⟩, .string ⟨#[]⟩]) 7 80 Tryz.underlying27 hi hz0 hz1 hz2 rfl (by decide) (.slice a3 n3 c3) n3 (flatC cnC b.cs) (by rfl) (by first | exact BS.own s6 _ | exact (BS.own s6 _).drew) ⟨w6.heap.size, 0, none⟩ 1 1 (cnC ⟨ea1, ep1, ea2, ep2, ⟨#[]⟩, ⟨#[]⟩, ⟨#[]⟩⟩) (by rfl) (by rfl) (World.news_of_block (cs := #[.int .i64 ea1, .int .i64 ep1, .int .i64 ea2, .int .i64 ep2, .string ⟨#[]⟩, .string ⟨#[]⟩, .string ⟨#[]⟩]) (t := 49) (heap_last3 _ _)) (by intro u hu; simp [cnC] at hu; rcases hu with rfl | rfl | rfl | rfl | rfl <;> rfl) (by unfold maxLen; omega) (by omega) (by simp; omega) ?_; intro v7 w7 hown7 hgrow7; obtain ⟨a5, c5, rfl, m1, m2, m3⟩ := BS.app (x' := ⟨ea1, ep1, ea2, ep2, ⟨#[]⟩, ⟨#[]⟩, ⟨#[]⟩⟩) s6 hRs hBR hsb h0s (by first | exact hgrow7 | exact grown_fromD hgrow7) hown7 ⟨(show ((⟨#[]⟩ : ByteArray).size : Int) ≤ 1048576 by decide), (show ((⟨#[]⟩ : ByteArray).size : Int) ≤ 1048576 by decide), (show ((⟨#[]⟩ : ByteArray).size : Int) ≤ 1048576 by decide)⟩ hwf6.out; clear hown7 hgrow7 p0y p1y p2y; clear p0 p1 p2 u0 u1 u2 t0 t1 t2 f0 f1 f2; obtain ⟨⟨p0, p1, p2⟩, u0, u1, u2⟩ := three_all m2; obtain ⟨⟨t0, t1, t2⟩, f0, f1, f2⟩ := three_all m1))
      all_goals go_wp2_with fail
      all_goals
        obtain ⟨⟨z0, z1, z2⟩, -⟩ := three_all (three_set (m3).1 (.slice a1 n1 c1) (.slice a2 n2 c2) (.slice a5 (n3 + 1) c5))
        refine bodyPost_ret (v := .agg #[.slice a1 n1 c1, .slice a2 n2 c2, .slice a5 (n3 + 1) c5]) (by simp [results, Tryz.results25, go_sem, z0, z1, z2]) rfl ⟨_, _, _, _, rfl, ?_, (m3).2.2.2.1, ?_, ?_⟩
        · exact OwH.mono (OwH.set3B (m3).2.2.1 (m3).1) (by omega)
        · exact grown_putR (grown_putR (grown_putR (m3).2.2.2.2.1 h0s 0 _) h0s 1 _) h0s 2 _
        · exact (rd_put (rd_put (rd_put (m3).2.2.2.2.2 _ (by omega) (by omega)) _ (by omega) (by omega)) _ (by omega) (by omega)).mono (by omega)
    · go_wp2_with (go_at_call 69; refine (rules_any 1 B R (L + 1402) _ S4.out.2.2.2.2.2 (by omega) (by omega) (by omega)).mono ?_; rintro e w5 ⟨g, c, l, rfl, ol, hl, g5, r5⟩; have s5 := BS.grown S4.out g5 r5 hRs hsb; have ol := own_monoG ol S4.out.1.lt; clear p0 p1 p2 u0 u1 u2 t0 t1 t2 f0 f1 f2; obtain ⟨⟨p0, p1, p2⟩, u0, u1, u2⟩ := three_all (s5).2.1; obtain ⟨⟨t0, t1, t2⟩, f0, f1, f2⟩ := three_all (s5).1)
      have S6 := BS.rul s5 hRs hBR hsb h0s ol hl
      obtain ⟨⟨z0, z1, z2⟩, -⟩ := three_all (three_set (S6).1 (.slice (some g) l.length c) (.slice a2 n2 c2) (.slice a3 n3 c3))
      refine bodyPost_ret (v := .agg #[.slice (some g) l.length c, .slice a2 n2 c2, .slice a3 n3 c3]) (by simp [results, Tryz.results25, go_sem, z0, z1, z2]) rfl ⟨_, _, _, _, rfl, ?_, (S6).2.2.2.1, ?_, ?_⟩
      · exact OwH.mono (OwH.set3B (S6).2.2.1 (S6).1) (by omega)
      · exact grown_putR (grown_putR (grown_putR (S6).2.2.2.2.1 h0s 0 _) h0s 1 _) h0s 2 _
      · exact (rd_put (rd_put (rd_put (S6).2.2.2.2.2 _ (by omega) (by omega)) _ (by omega) (by omega)) _ (by omega) (by omega)).mono (by omega)
    · by_cases h0 : n3 = 0
      · subst h0
        go_wp2_with fail
        obtain ⟨⟨z0, z1, z2⟩, -⟩ := three_all (three_set (S4.out.fin).1 (.slice a1 n1 c1) (.slice a2 n2 c2) (.slice a3 0 c3))
        refine bodyPost_ret (v := .agg #[.slice a1 n1 c1, .slice a2 n2 c2, .slice a3 0 c3]) (by simp [results, Tryz.results25, go_sem, z0, z1, z2]) rfl ⟨_, _, _, _, rfl, ?_, (S4.out.fin).2.2.2.1, ?_, ?_⟩
        · exact OwH.mono (OwH.set3B (S4.out.fin).2.2.1 (S4.out.fin).1) (by omega)
        · exact grown_putR (grown_putR (grown_putR (S4.out.fin).2.2.2.2.1 h0s 0 _) h0s 1 _) h0s 2 _
        · exact (rd_put (rd_put (rd_put (S4.out.fin).2.2.2.2.2 _ (by omega) (by omega)) _ (by omega) (by omega)) _ (by omega) (by omega)).mono (by omega)
      · have h0i : (0 : Int) < (n3 : Int) := by omega
        have h0n : 0 < n3 := by omega
        clear h0
        go_upto_region 21 with fail
        obtain ⟨e1, e2, e3, o1, o2, o3⟩ := S4.out.2.2.1.parts; obtain ⟨x, cr, hcs⟩ : ∃ x cr, b.cs = x :: cr := (by cases hh : b.cs with | nil => rw [hh] at e3; simp at e3; omega | cons x cr => exact ⟨x, cr, rfl⟩); obtain ⟨g, eg, hgB, hgl, hcp, -, ⟨k0, k1, k2, k3, k4, k5, k6⟩, v0, v1, v2, v3, v4, v5, v6⟩ := own_conn o3 h0n x (by rw [hcs]; rfl); simp only [Nat.zero_mul, Nat.zero_add] at k0 k1 k2 k3 k4 k5 k6 v0 v1 v2 v3 v4 v5 v6; have hgs : g ≠ s := (by omega); have hsg : s ≠ g := (by omega); have HCS := Lib.hid hcs; clear e1 e2 e3 o1 o2 o3 hcs
        subst eg
        go_region_with (go_at_call 67; refine (streamOr_any 2 (by omega) (by omega) B R (L + 1402) _ (by first | exact S4.out.2.2.2.2.2 | exact rd_drewD S4.out.2.2.2.2.2) (by omega)).mono ?_; rintro e w5 ⟨sv, rfl, hsv, g5, r5⟩; have s5 := BS.grown S4.out (by first | exact g5 | exact grown_fromD g5) r5 hRs hsb; clear p0 p1 p2 u0 u1 u2 t0 t1 t2 f0 f1 f2 k0 k1 k2 k3 k4 k5 k6 v0 v1 v2 v3 v4 v5 v6; obtain ⟨⟨p0, p1, p2⟩, u0, u1, u2⟩ := three_all (s5).2.1; obtain ⟨⟨t0, t1, t2⟩, f0, f1, f2⟩ := three_all (s5).1; obtain ⟨g', eg, -, -, -, -, ⟨k0, k1, k2, k3, k4, k5, k6⟩, v0, v1, v2, v3, v4, v5, v6⟩ := own_conn s5.2.2.1.parts.2.2.2.2.2 h0n x (by rw [HCS.out]; rfl); injection eg with eg; injection eg with eg; subst eg; simp only [Nat.zero_mul, Nat.zero_add] at k0 k1 k2 k3 k4 k5 k6 v0 v1 v2 v3 v4 v5 v6)
        all_goals go_wp2_with fail
        all_goals
          have S6 := BS.put1 (cs' := ⟨x.ia, x.ip, x.oa, x.op, x.kn, sv, x.ne⟩ :: cr) s5 hRs hBR h0s 5 (.string sv) (by rw [HCS.out]; rfl) (by rw [HCS.out]; rfl) (by have h1 := s5.2.2.2.1.2.1; rw [HCS.out] at h1; have h2 := h1 x (List.mem_cons_self ..); exact cnIn_tail h1 (by first | (show (sv.size : Int) ≤ _; omega) | (have := h2.1; show (x.kn.size : Int) ≤ _; omega)) (by first | (show (sv.size : Int) ≤ _; omega) | (have := h2.2.1; show (x.he.size : Int) ≤ _; omega)) (by have := h2.2.2; show (x.ne.size : Int) ≤ _; omega)) (by have h1 := s5.2.2.2.1.2.2.2.1; rw [HCS.out] at h1; exact cnWf_tail h1 (h1 x (List.mem_cons_self ..)))
          obtain ⟨⟨z0, z1, z2⟩, -⟩ := three_all (three_set (S6).1 (.slice a1 n1 c1) (.slice a2 n2 c2) (.slice (some ⟨g, 0, none⟩) n3 c3))
          refine bodyPost_ret (v := .agg #[.slice a1 n1 c1, .slice a2 n2 c2, .slice (some ⟨g, 0, none⟩) n3 c3]) (by simp [results, Tryz.results25, go_sem, z0, z1, z2]) rfl ⟨_, _, _, _, rfl, ?_, (S6).2.2.2.1, ?_, ?_⟩
          · exact OwH.mono (OwH.set3B (S6).2.2.1 (S6).1) (by omega)
          · exact grown_putR (grown_putR (grown_putR (S6).2.2.2.2.1 h0s 0 _) h0s 1 _) h0s 2 _
          · exact (rd_put (rd_put (rd_put (S6).2.2.2.2.2 _ (by omega) (by omega)) _ (by omega) (by omega)) _ (by omega) (by omega)).mono (by omega)
    · by_cases h0 : n3 = 0
      · subst h0
        go_wp2_with fail
        obtain ⟨⟨z0, z1, z2⟩, -⟩ := three_all (three_set (S4.out.fin).1 (.slice a1 n1 c1) (.slice a2 n2 c2) (.slice a3 0 c3))
        refine bodyPost_ret (v := .agg #[.slice a1 n1 c1, .slice a2 n2 c2, .slice a3 0 c3]) (by simp [results, Tryz.results25, go_sem, z0, z1, z2]) rfl ⟨_, _, _, _, rfl, ?_, (S4.out.fin).2.2.2.1, ?_, ?_⟩
        · exact OwH.mono (OwH.set3B (S4.out.fin).2.2.1 (S4.out.fin).1) (by omega)
        · exact grown_putR (grown_putR (grown_putR (S4.out.fin).2.2.2.2.1 h0s 0 _) h0s 1 _) h0s 2 _
        · exact (rd_put (rd_put (rd_put (S4.out.fin).2.2.2.2.2 _ (by omega) (by omega)) _ (by omega) (by omega)) _ (by omega) (by omega)).mono (by omega)
      · have h0i : (0 : Int) < (n3 : Int) := by omega
        have h0n : 0 < n3 := by omega
        clear h0
        go_upto_region 24 with fail
        obtain ⟨e1, e2, e3, o1, o2, o3⟩ := S4.out.2.2.1.parts; obtain ⟨x, cr, hcs⟩ : ∃ x cr, b.cs = x :: cr := (by cases hh : b.cs with | nil => rw [hh] at e3; simp at e3; omega | cons x cr => exact ⟨x, cr, rfl⟩); obtain ⟨g, eg, hgB, hgl, hcp, -, ⟨k0, k1, k2, k3, k4, k5, k6⟩, v0, v1, v2, v3, v4, v5, v6⟩ := own_conn o3 h0n x (by rw [hcs]; rfl); simp only [Nat.zero_mul, Nat.zero_add] at k0 k1 k2 k3 k4 k5 k6 v0 v1 v2 v3 v4 v5 v6; have hgs : g ≠ s := (by omega); have hsg : s ≠ g := (by omega); have HCS := Lib.hid hcs; clear e1 e2 e3 o1 o2 o3 hcs
        subst eg
        have hne6 : ¬ 9223372036854775807 < x.ne.size + 2 := by have h1 := S4.out.2.2.2.1.2.1; rw [HCS.out] at h1; have h2 := (h1 x (List.mem_cons_self ..)).2.2; omega
        go_region
        all_goals go_wp2_with fail
        all_goals
          have S6 := BS.put1 (cs' := ⟨x.ia, x.ip, x.oa, x.op, x.kn, x.he, x.ne ++ ⟨#[97, 59]⟩⟩ :: cr) S4.out hRs hBR h0s 6 (.string (x.ne ++ ⟨#[97, 59]⟩)) (by rw [HCS.out]; rfl) (by rw [HCS.out]; rfl) (by have h1 := S4.out.2.2.2.1.2.1; rw [HCS.out] at h1; have h2 := h1 x (List.mem_cons_self ..); exact cnIn_tail h1 (by have := h2.1; show (x.kn.size : Int) ≤ _; omega) (by have := h2.2.1; show (x.he.size : Int) ≤ _; omega) (by have := h2.2.2; show ((x.ne ++ ⟨#[97, 59]⟩ : ByteArray).size : Int) ≤ _; rw [ByteArray.size_append]; show ((x.ne.size + 2 : Nat) : Int) ≤ _; omega)) (by have h1 := S4.out.2.2.2.1.2.2.2.1; rw [HCS.out] at h1; exact cnWf_tail h1 (h1 x (List.mem_cons_self ..)))
          obtain ⟨⟨z0, z1, z2⟩, -⟩ := three_all (three_set (S6).1 (.slice a1 n1 c1) (.slice a2 n2 c2) (.slice (some ⟨g, 0, none⟩) n3 c3))
          refine bodyPost_ret (v := .agg #[.slice a1 n1 c1, .slice a2 n2 c2, .slice (some ⟨g, 0, none⟩) n3 c3]) (by simp [results, Tryz.results25, go_sem, z0, z1, z2]) rfl ⟨_, _, _, _, rfl, ?_, (S6).2.2.2.1, ?_, ?_⟩
          · exact (OwH.mono (OwH.set3B (S6).2.2.1 (S6).1) (by omega)).later (Below.refl _ _).drew
          · exact grown_drewG (grown_putR (grown_putR (grown_putR (S6).2.2.2.2.1 h0s 0 _) h0s 1 _) h0s 2 _)
          · exact rd_drewD ((rd_put (rd_put (rd_put (S6).2.2.2.2.2 _ (by omega) (by omega)) _ (by omega) (by omega)) _ (by omega) (by omega)).mono (by omega))
    · by_cases h0 : n3 = 0
      · subst h0
        go_wp2_with fail
        obtain ⟨⟨z0, z1, z2⟩, -⟩ := three_all (three_set (S4.out.fin).1 (.slice a1 n1 c1) (.slice a2 n2 c2) (.slice a3 0 c3))
        refine bodyPost_ret (v := .agg #[.slice a1 n1 c1, .slice a2 n2 c2, .slice a3 0 c3]) (by simp [results, Tryz.results25, go_sem, z0, z1, z2]) rfl ⟨_, _, _, _, rfl, ?_, (S4.out.fin).2.2.2.1, ?_, ?_⟩
        · exact OwH.mono (OwH.set3B (S4.out.fin).2.2.1 (S4.out.fin).1) (by omega)
        · exact grown_putR (grown_putR (grown_putR (S4.out.fin).2.2.2.2.1 h0s 0 _) h0s 1 _) h0s 2 _
        · exact (rd_put (rd_put (rd_put (S4.out.fin).2.2.2.2.2 _ (by omega) (by omega)) _ (by omega) (by omega)) _ (by omega) (by omega)).mono (by omega)
      · have h0i : (0 : Int) < (n3 : Int) := by omega
        have h0n : 0 < n3 := by omega
        clear h0
        obtain ⟨e1, e2, e3, o1, o2, o3⟩ := S4.out.2.2.1.parts; obtain ⟨x, cr, hcs⟩ : ∃ x cr, b.cs = x :: cr := (by cases hh : b.cs with | nil => rw [hh] at e3; simp at e3; omega | cons x cr => exact ⟨x, cr, rfl⟩); obtain ⟨g, eg, hgB, hgl, hcp, -, ⟨k0, k1, k2, k3, k4, k5, k6⟩, v0, v1, v2, v3, v4, v5, v6⟩ := own_conn o3 h0n x (by rw [hcs]; rfl); simp only [Nat.zero_mul, Nat.zero_add] at k0 k1 k2 k3 k4 k5 k6 v0 v1 v2 v3 v4 v5 v6; have hgs : g ≠ s := (by omega); have hsg : s ≠ g := (by omega); have HCS := Lib.hid hcs; clear e1 e2 e3 o1 o2 o3 hcs
        subst eg
        go_wp2_with fail
        have S6 := BS.put1 (cs' := ⟨x.ia, x.ip, x.oa, 80, x.kn, x.he, x.ne⟩ :: cr) S4.out hRs hBR h0s 3 (.int .i64 80) (by rw [HCS.out]; rfl) (by rw [HCS.out]; rfl) (by have h1 := S4.out.2.2.2.1.2.1; rw [HCS.out] at h1; have h2 := h1 x (List.mem_cons_self ..); exact cnIn_tail h1 (by have := h2.1; show (x.kn.size : Int) ≤ _; omega) (by have := h2.2.1; show (x.he.size : Int) ≤ _; omega) (by have := h2.2.2; show (x.ne.size : Int) ≤ _; omega)) (by have h1 := S4.out.2.2.2.1.2.2.2.1; rw [HCS.out] at h1; exact cnWf_tail h1 ⟨(h1 x (List.mem_cons_self ..)).1, (h1 x (List.mem_cons_self ..)).2.1, show (Lit.int .i64 80).wf = true by decide⟩)
        obtain ⟨⟨z0, z1, z2⟩, -⟩ := three_all (three_set (S6).1 (.slice a1 n1 c1) (.slice a2 n2 c2) (.slice (some ⟨g, 0, none⟩) n3 c3))
        refine bodyPost_ret (v := .agg #[.slice a1 n1 c1, .slice a2 n2 c2, .slice (some ⟨g, 0, none⟩) n3 c3]) (by simp [results, Tryz.results25, go_sem, z0, z1, z2]) rfl ⟨_, _, _, _, rfl, ?_, (S6).2.2.2.1, ?_, ?_⟩
        · exact OwH.mono (OwH.set3B (S6).2.2.1 (S6).1) (by omega)
        · exact grown_putR (grown_putR (grown_putR (S6).2.2.2.2.1 h0s 0 _) h0s 1 _) h0s 2 _
        · exact (rd_put (rd_put (rd_put (S6).2.2.2.2.2 _ (by omega) (by omega)) _ (by omega) (by omega)) _ (by omega) (by omega)).mono (by omega)

end Go.Proofs.YtgfkiljkpkfapaaGreatDoor

/- A segment that is drawn; the port of who is to hear is an int64. Conditions: the reader is there; its place is small. -/
namespace Go.Proofs.YtgfkiljkpkfapaaGreatDoor
open Go.RowKit Go.Sort

set_option maxRecDepth 100000 in
set_option maxHeartbeats 1600000 in
theorem segW_any (m : Int) (B R L : Nat) (w : World) (h : Rd B R L w) (hL : L ≤ 990000) (hm : 0 ≤ m) (hm2 : m ≤ 1000000) :
    Calls Tryz.prog 29 #[.pointer (some ⟨R, 0, none⟩), .int .i64 m] w fun e w' => ∃ (sa sp da dp sq ak : Int) (d : ByteArray), e = .returned (.agg #[.int .i64 sa, .int .i64 sp, .int .i64 da, .int .i64 dp, .int .i64 sq, .int .i64 ak, .string d]) ∧ (SegD sq d ∧ (Lit.int .i64 dp).wf = true) ∧ w.grownBy w' (some R) ∧ Rd B R (L + 90) w' := by
  have hR := h.lt
  have hBR := h.base
  have H := Lib.hid h
  clear h
  go_enter Tryz.func29, Tryz.ntmps29
  go_wp2_with fail
  (go_at_call 68; refine (end_any 40 B R L _ (rd_alloc H.out _) (by omega) (by decide) (by decide)).mono ?_; rintro e w1 ⟨sa, sp, rfl, g1, r1⟩)
  have R1 := Lib.hid r1
  have G1 := Lib.hid g1
  have s1 := g1.size
  simp only [World.size_alloc] at s1
  clear r1 g1
  go_wp2_with fail
  (go_at_call 68; refine (end_sm 40 B R (L + 8) _ R1.out (by omega) (by decide) (by decide)).mono ?_; rintro e w2 ⟨da, dp, rfl, g2, r2, sm2⟩)
  have HWD := Lib.hid sm2.wf.2
  clear sm2
  have R2 := Lib.hid r2
  have G2 := Lib.hid (G1.out.trans g2)
  clear r2 g2 G1 R1
  go_wp2_with fail
  (go_at_call 27; refine (pick_any 60 B R (L + 16) _ R2.out (by omega)).mono ?_; rintro e w3 ⟨q, rfl, hq, g3, r3⟩)
  have hq2 : q ≤ 60 := by omega
  have R3 := Lib.hid r3
  have G3 := Lib.hid (G2.out.trans g3)
  clear r3 g3 G2 R2 hq
  go_wp2_with fail
  (go_at_call 27; refine (pick_any 60 B R (L + 17) _ R3.out (by omega)).mono ?_; rintro e w4 ⟨k, rfl, hk, g4, r4⟩)
  have R4 := Lib.hid r4
  have G4 := Lib.hid (G3.out.trans g4)
  clear r4 g4 G3 R3 hk
  go_wp2_with fail
  (go_at_call 72; refine (data_any B R (L + 18) _ R4.out (by omega)).mono ?_; rintro e w5 ⟨d, rfl, hd, g5, r5⟩)
  have R5 := Lib.hid r5
  have G5 := Lib.hid (G4.out.trans g5)
  clear r5 g5 G4 R4
  have z5 : w.heap.size + 1 ≤ w5.heap.size := by have := G5.out.size; simpa using this
  have A5 : Hid (At7 w5 w.heap.size (.int .i64 0) (.int .i64 0) (.int .i64 0) (.int .i64 0) (.int .i64 0) (.int .i64 0) (.string ⟨#[]⟩)) := (at7_new w _ _ _ _ _ _ _ _).grown G5.out (by omega)
  have hB1 : B ≤ w.heap.size := by omega
  have hne1 : w.heap.size ≠ R := by omega
  obtain ⟨b2, hb2⟩ : ∃ b2, b2 = w5.heap.size := ⟨_, rfl⟩
  have hne2 : b2 ≠ R := by omega
  have hne3 : w.heap.size ≠ b2 := by omega
  have hne4 : b2 ≠ w.heap.size := by omega
  have hBb : B ≤ b2 := by omega
  have hwb : w.heap.size ≤ b2 := by omega
  have hwb1 : w.heap.size + 1 ≤ b2 := by omega
  have G7 := Lib.hid (grown_alloc G5.out (.cells #[.int .i64 sa, .int .i64 sp, .int .i64 da, .int .i64 dp, .int .i64 (q : Int), .int .i64 (k : Int), .string d] 33))
  have R7 := Lib.hid (rd_alloc R5.out (.cells #[.int .i64 sa, .int .i64 sp, .int .i64 da, .int .i64 dp, .int .i64 (q : Int), .int .i64 (k : Int), .string d] 33))
  have A7 : Hid (At7 (w5.alloc (.cells #[.int .i64 sa, .int .i64 sp, .int .i64 da, .int .i64 dp, .int .i64 (q : Int), .int .i64 (k : Int), .string d] 33)) w.heap.size (.int .i64 0) (.int .i64 0) (.int .i64 0) (.int .i64 0) (.int .i64 0) (.int .i64 0) (.string ⟨#[]⟩)) := A5.out.grown (World.grownBy_alloc w5 _ (some R)) hne1
  have D7 : Hid (At7 (w5.alloc (.cells #[.int .i64 sa, .int .i64 sp, .int .i64 da, .int .i64 dp, .int .i64 (q : Int), .int .i64 (k : Int), .string d] 33)) b2 (.int .i64 sa) (.int .i64 sp) (.int .i64 da) (.int .i64 dp) (.int .i64 (q : Int)) (.int .i64 (k : Int)) (.string d)) := by rw [hb2]; exact at7_new w5 _ _ _ _ _ _ _ _
  clear A5 R5 G5
  go_wp2_with fail
  rw [← hb2]
  clear hb2
  (go_at_call 28; refine (odd_any m B R (L + 69) _ R7.out (by omega) hm hm2).mono ?_; rintro e w6 ⟨bo, rfl, g6, r6⟩)
  have R8 := Lib.hid (r6.mono (show L + 69 + 1 ≤ L + 72 by omega))
  have A8 := Lib.hid (A7.out.grown g6 hne1)
  have D8 := Lib.hid (D7.out.grown g6 hne2)
  have G8 := Lib.hid (((World.grownBy_alloc w (.cells #[.int .i64 0, .int .i64 0, .int .i64 0, .int .i64 0, .int .i64 0, .int .i64 0, .string ⟨#[]⟩] 33) (some R)).trans G7.out).trans g6)
  clear G7 R7 A7 D7 g6 r6
  cases bo
  · obtain ⟨uz, ⟨uc0, uc1, uc2, uc3, uc4, uc5, uc6⟩, uf0, uf1, uf2, uf3, uf4, uf5, uf6⟩ := A8.out
    obtain ⟨vz, ⟨vc0, vc1, vc2, vc3, vc4, vc5, vc6⟩, vf0, vf1, vf2, vf3, vf4, vf5, vf6⟩ := D8.out
    go_wp2_with fail
    obtain ⟨_, ⟨q0, q1, q2, q3, q4, q5, q6⟩, _⟩ := A8.out.all (.int .i64 sa) (.int .i64 sp) (.int .i64 da) (.int .i64 dp) (.int .i64 (q : Int)) (.int .i64 (k : Int)) (.string d)
    refine bodyPost_ret (v := .agg #[.int .i64 sa, .int .i64 sp, .int .i64 da, .int .i64 dp, .int .i64 (q : Int), .int .i64 (k : Int), .string d]) (by simp [results, Tryz.results29, go_sem, q0, q1, q2, q3, q4, q5, q6]) rfl ⟨_, _, _, _, _, _, _, rfl, ⟨⟨by omega, by omega, hd⟩, HWD.out⟩, ?_, ?_⟩
    · exact grown_puts G8.out (.int .i64 sa) (.int .i64 sp) (.int .i64 da) (.int .i64 dp) (.int .i64 (q : Int)) (.int .i64 (k : Int)) (.string d) (Nat.le_refl _)
    · exact (rd_puts R8.out (.int .i64 sa) (.int .i64 sp) (.int .i64 da) (.int .i64 dp) (.int .i64 (q : Int)) (.int .i64 (k : Int)) (.string d) hB1 hne1).mono (by omega)
  · go_wp2_with fail
    (go_at_call 27; refine (pick_any 4 B R (L + 72) _ R8.out (by omega)).mono ?_; rintro e w7 ⟨c, rfl, hc, g7, r7⟩)
    have R9 := Lib.hid r7
    have A9 := Lib.hid (A8.out.grown g7 hne1)
    have D9 := Lib.hid (D8.out.grown g7 hne2)
    have G9 := Lib.hid (G8.out.trans g7)
    clear r7 g7 A8 D8 G8 R8 hc
    by_cases c0 : c = 0
    · have e0 : ((c : Int) == 0) = true := by simp [c0]
      clear c0
      go_wp2_with fail
      (go_at_call 68; refine (end_any 1 B R (L + 73) _ R9.out (by omega) (by decide) (by decide)).mono ?_; rintro e w8 ⟨xa, xp, rfl, g8, r8⟩)
      have A10 := Lib.hid (((A9.out.grown g8 hne1).put (i := 0) (.int .i64 xa) hne3).put (i := 1) (.int .i64 xp) hne3)
      have D10 := Lib.hid (D9.out.grown g8 hne2)
      have D11 := Lib.hid ((D10.out.set0 (.int .i64 xa)).set1 (.int .i64 xp))
      have G10 := Lib.hid (grown_new (grown_new (G9.out.trans g8) 0 (.int .i64 xa) hwb) 1 (.int .i64 xp) hwb)
      have R10 := Lib.hid (rd_put (rd_put (i := 0) r8 (.int .i64 xa) hBb hne2) (i := 1) (.int .i64 xp) hBb hne2)
      clear r8 g8 R9 A9 D9 G9
      obtain ⟨tz, ⟨tc0, tc1, tc2, tc3, tc4, tc5, tc6⟩, tf0, tf1, tf2, tf3, tf4, tf5, tf6⟩ := D10.out
      obtain ⟨uz, ⟨uc0, uc1, uc2, uc3, uc4, uc5, uc6⟩, uf0, uf1, uf2, uf3, uf4, uf5, uf6⟩ := A10.out
      obtain ⟨vz, ⟨vc0, vc1, vc2, vc3, vc4, vc5, vc6⟩, vf0, vf1, vf2, vf3, vf4, vf5, vf6⟩ := D11.out
      go_wp2_with fail
      obtain ⟨_, ⟨q0, q1, q2, q3, q4, q5, q6⟩, _⟩ := A10.out.all (.int .i64 xa) (.int .i64 xp) (.int .i64 da) (.int .i64 dp) (.int .i64 (q : Int)) (.int .i64 (k : Int)) (.string d)
      refine bodyPost_ret (v := .agg #[.int .i64 xa, .int .i64 xp, .int .i64 da, .int .i64 dp, .int .i64 (q : Int), .int .i64 (k : Int), .string d]) (by simp [results, Tryz.results29, go_sem, q0, q1, q2, q3, q4, q5, q6]) rfl ⟨_, _, _, _, _, _, _, rfl, ⟨⟨by omega, by omega, hd⟩, HWD.out⟩, ?_, ?_⟩
      · exact grown_puts G10.out (.int .i64 xa) (.int .i64 xp) (.int .i64 da) (.int .i64 dp) (.int .i64 (q : Int)) (.int .i64 (k : Int)) (.string d) (Nat.le_refl _)
      · exact (rd_puts R10.out (.int .i64 xa) (.int .i64 xp) (.int .i64 da) (.int .i64 dp) (.int .i64 (q : Int)) (.int .i64 (k : Int)) (.string d) hB1 hne1).mono (by omega)
    · have e0 : ((c : Int) == 0) = false := by simp [c0]
      clear c0
      by_cases c1 : c = 1
      · have e1 : ((c : Int) == 1) = true := by simp [c1]
        clear c1
        go_wp2_with fail
        (go_at_call 27; refine (pick_any 3 B R (L + 73) _ (rd_alloc R9.out (.cells #[.int .i64 (-1), .int .i64 241, .int .i64 240] 3)) (by omega)).mono ?_; rintro e w8 ⟨r, rfl, hr, g8, r8⟩)
        have hr3 : r < 3 := by omega
        have lt7 := R9.out.lt
        have hS : w7.heap.size ≠ R := by omega
        have k0 : w8.cell? ⟨w7.heap.size, 0, none⟩ = some (.int .i64 (-1)) := (gcell g8 (b := w7.heap.size) (by simp) hS 0).1.trans (cell_new w7 _ 3 0).1
        have k1 : w8.cell? ⟨w7.heap.size, 1, none⟩ = some (.int .i64 241) := (gcell g8 (b := w7.heap.size) (by simp) hS 1).1.trans (cell_new w7 _ 3 1).1
        have k2 : w8.cell? ⟨w7.heap.size, 2, none⟩ = some (.int .i64 240) := (gcell g8 (b := w7.heap.size) (by simp) hS 2).1.trans (cell_new w7 _ 3 2).1
        have A10 := Lib.hid ((A9.out.grown (World.grownBy_alloc w7 (.cells #[.int .i64 (-1), .int .i64 241, .int .i64 240] 3) (some R)) hne1).grown g8 hne1)
        have D10 := Lib.hid ((D9.out.grown (World.grownBy_alloc w7 (.cells #[.int .i64 (-1), .int .i64 241, .int .i64 240] 3) (some R)) hne2).grown g8 hne2)
        have G10 := Lib.hid ((grown_alloc G9.out (.cells #[.int .i64 (-1), .int .i64 241, .int .i64 240] 3)).trans g8)
        have R10 := Lib.hid r8
        clear r8 g8 R9 A9 D9 G9 hr lt7 hS
        obtain ⟨tz, ⟨tc0, tc1, tc2, tc3, tc4, tc5, tc6⟩, tf0, tf1, tf2, tf3, tf4, tf5, tf6⟩ := D10.out
        obtain rfl | rfl | rfl : r = 0 ∨ r = 1 ∨ r = 2 := by omega
        · have A11 := Lib.hid (A10.out.put (i := 4) (.int .i64 (-1)) hne3)
          have D11 := Lib.hid (D10.out.set4 (.int .i64 (-1)))
          have G11 := Lib.hid (grown_new G10.out 4 (.int .i64 (-1)) hwb)
          have R11 := Lib.hid (rd_put R10.out (i := 4) (.int .i64 (-1)) hBb hne2)
          obtain ⟨uz, ⟨uc0, uc1, uc2, uc3, uc4, uc5, uc6⟩, uf0, uf1, uf2, uf3, uf4, uf5, uf6⟩ := A11.out
          obtain ⟨vz, ⟨vc0, vc1, vc2, vc3, vc4, vc5, vc6⟩, vf0, vf1, vf2, vf3, vf4, vf5, vf6⟩ := D11.out
          go_wp2_with fail
          obtain ⟨_, ⟨q0, q1, q2, q3, q4, q5, q6⟩, _⟩ := A11.out.all (.int .i64 sa) (.int .i64 sp) (.int .i64 da) (.int .i64 dp) (.int .i64 (-1)) (.int .i64 (k : Int)) (.string d)
          refine bodyPost_ret (v := .agg #[.int .i64 sa, .int .i64 sp, .int .i64 da, .int .i64 dp, .int .i64 (-1), .int .i64 (k : Int), .string d]) (by simp [results, Tryz.results29, go_sem, q0, q1, q2, q3, q4, q5, q6]) rfl ⟨_, _, _, _, _, _, _, rfl, ⟨⟨by decide, by decide, hd⟩, HWD.out⟩, ?_, ?_⟩
          · exact grown_puts G11.out (.int .i64 sa) (.int .i64 sp) (.int .i64 da) (.int .i64 dp) (.int .i64 (-1)) (.int .i64 (k : Int)) (.string d) (Nat.le_refl _)
          · exact (rd_puts R11.out (.int .i64 sa) (.int .i64 sp) (.int .i64 da) (.int .i64 dp) (.int .i64 (-1)) (.int .i64 (k : Int)) (.string d) hB1 hne1).mono (by omega)
        · have A11 := Lib.hid (A10.out.put (i := 4) (.int .i64 241) hne3)
          have D11 := Lib.hid (D10.out.set4 (.int .i64 241))
          have G11 := Lib.hid (grown_new G10.out 4 (.int .i64 241) hwb)
          have R11 := Lib.hid (rd_put R10.out (i := 4) (.int .i64 241) hBb hne2)
          obtain ⟨uz, ⟨uc0, uc1, uc2, uc3, uc4, uc5, uc6⟩, uf0, uf1, uf2, uf3, uf4, uf5, uf6⟩ := A11.out
          obtain ⟨vz, ⟨vc0, vc1, vc2, vc3, vc4, vc5, vc6⟩, vf0, vf1, vf2, vf3, vf4, vf5, vf6⟩ := D11.out
          go_wp2_with fail
          obtain ⟨_, ⟨q0, q1, q2, q3, q4, q5, q6⟩, _⟩ := A11.out.all (.int .i64 sa) (.int .i64 sp) (.int .i64 da) (.int .i64 dp) (.int .i64 241) (.int .i64 (k : Int)) (.string d)
          refine bodyPost_ret (v := .agg #[.int .i64 sa, .int .i64 sp, .int .i64 da, .int .i64 dp, .int .i64 241, .int .i64 (k : Int), .string d]) (by simp [results, Tryz.results29, go_sem, q0, q1, q2, q3, q4, q5, q6]) rfl ⟨_, _, _, _, _, _, _, rfl, ⟨⟨by decide, by decide, hd⟩, HWD.out⟩, ?_, ?_⟩
          · exact grown_puts G11.out (.int .i64 sa) (.int .i64 sp) (.int .i64 da) (.int .i64 dp) (.int .i64 241) (.int .i64 (k : Int)) (.string d) (Nat.le_refl _)
          · exact (rd_puts R11.out (.int .i64 sa) (.int .i64 sp) (.int .i64 da) (.int .i64 dp) (.int .i64 241) (.int .i64 (k : Int)) (.string d) hB1 hne1).mono (by omega)
        · have A11 := Lib.hid (A10.out.put (i := 4) (.int .i64 240) hne3)
          have D11 := Lib.hid (D10.out.set4 (.int .i64 240))
          have G11 := Lib.hid (grown_new G10.out 4 (.int .i64 240) hwb)
          have R11 := Lib.hid (rd_put R10.out (i := 4) (.int .i64 240) hBb hne2)
          obtain ⟨uz, ⟨uc0, uc1, uc2, uc3, uc4, uc5, uc6⟩, uf0, uf1, uf2, uf3, uf4, uf5, uf6⟩ := A11.out
          obtain ⟨vz, ⟨vc0, vc1, vc2, vc3, vc4, vc5, vc6⟩, vf0, vf1, vf2, vf3, vf4, vf5, vf6⟩ := D11.out
          go_wp2_with fail
          obtain ⟨_, ⟨q0, q1, q2, q3, q4, q5, q6⟩, _⟩ := A11.out.all (.int .i64 sa) (.int .i64 sp) (.int .i64 da) (.int .i64 dp) (.int .i64 240) (.int .i64 (k : Int)) (.string d)
          refine bodyPost_ret (v := .agg #[.int .i64 sa, .int .i64 sp, .int .i64 da, .int .i64 dp, .int .i64 240, .int .i64 (k : Int), .string d]) (by simp [results, Tryz.results29, go_sem, q0, q1, q2, q3, q4, q5, q6]) rfl ⟨_, _, _, _, _, _, _, rfl, ⟨⟨by decide, by decide, hd⟩, HWD.out⟩, ?_, ?_⟩
          · exact grown_puts G11.out (.int .i64 sa) (.int .i64 sp) (.int .i64 da) (.int .i64 dp) (.int .i64 240) (.int .i64 (k : Int)) (.string d) (Nat.le_refl _)
          · exact (rd_puts R11.out (.int .i64 sa) (.int .i64 sp) (.int .i64 da) (.int .i64 dp) (.int .i64 240) (.int .i64 (k : Int)) (.string d) hB1 hne1).mono (by omega)
      · have e1 : ((c : Int) == 1) = false := by rw [beq_eq_false_iff_ne]; omega
        clear c1
        by_cases c2 : c = 2
        · have e2 : ((c : Int) == 2) = true := by simp [c2]
          clear c2
          go_wp2_with fail
          (go_at_call 27; refine (pick_any 2 B R (L + 73) _ (rd_alloc R9.out (.cells #[.int .i64 (-1), .int .i64 241] 3)) (by omega)).mono ?_; rintro e w8 ⟨r, rfl, hr, g8, r8⟩)
          have hr3 : r < 2 := by omega
          have lt7 := R9.out.lt
          have hS : w7.heap.size ≠ R := by omega
          have k0 : w8.cell? ⟨w7.heap.size, 0, none⟩ = some (.int .i64 (-1)) := (gcell g8 (b := w7.heap.size) (by simp) hS 0).1.trans (cell_new w7 _ 3 0).1
          have k1 : w8.cell? ⟨w7.heap.size, 1, none⟩ = some (.int .i64 241) := (gcell g8 (b := w7.heap.size) (by simp) hS 1).1.trans (cell_new w7 _ 3 1).1
          have A10 := Lib.hid ((A9.out.grown (World.grownBy_alloc w7 (.cells #[.int .i64 (-1), .int .i64 241] 3) (some R)) hne1).grown g8 hne1)
          have D10 := Lib.hid ((D9.out.grown (World.grownBy_alloc w7 (.cells #[.int .i64 (-1), .int .i64 241] 3) (some R)) hne2).grown g8 hne2)
          have G10 := Lib.hid ((grown_alloc G9.out (.cells #[.int .i64 (-1), .int .i64 241] 3)).trans g8)
          have R10 := Lib.hid r8
          clear r8 g8 R9 A9 D9 G9 hr lt7 hS
          obtain ⟨tz, ⟨tc0, tc1, tc2, tc3, tc4, tc5, tc6⟩, tf0, tf1, tf2, tf3, tf4, tf5, tf6⟩ := D10.out
          obtain rfl | rfl : r = 0 ∨ r = 1 := by omega
          · have A11 := Lib.hid (A10.out.put (i := 5) (.int .i64 (-1)) hne3)
            have D11 := Lib.hid (D10.out.set5 (.int .i64 (-1)))
            have G11 := Lib.hid (grown_new G10.out 5 (.int .i64 (-1)) hwb)
            have R11 := Lib.hid (rd_put R10.out (i := 5) (.int .i64 (-1)) hBb hne2)
            obtain ⟨uz, ⟨uc0, uc1, uc2, uc3, uc4, uc5, uc6⟩, uf0, uf1, uf2, uf3, uf4, uf5, uf6⟩ := A11.out
            obtain ⟨vz, ⟨vc0, vc1, vc2, vc3, vc4, vc5, vc6⟩, vf0, vf1, vf2, vf3, vf4, vf5, vf6⟩ := D11.out
            go_wp2_with fail
            obtain ⟨_, ⟨q0, q1, q2, q3, q4, q5, q6⟩, _⟩ := A11.out.all (.int .i64 sa) (.int .i64 sp) (.int .i64 da) (.int .i64 dp) (.int .i64 (q : Int)) (.int .i64 (-1)) (.string d)
            refine bodyPost_ret (v := .agg #[.int .i64 sa, .int .i64 sp, .int .i64 da, .int .i64 dp, .int .i64 (q : Int), .int .i64 (-1), .string d]) (by simp [results, Tryz.results29, go_sem, q0, q1, q2, q3, q4, q5, q6]) rfl ⟨_, _, _, _, _, _, _, rfl, ⟨⟨by omega, by omega, hd⟩, HWD.out⟩, ?_, ?_⟩
            · exact grown_puts G11.out (.int .i64 sa) (.int .i64 sp) (.int .i64 da) (.int .i64 dp) (.int .i64 (q : Int)) (.int .i64 (-1)) (.string d) (Nat.le_refl _)
            · exact (rd_puts R11.out (.int .i64 sa) (.int .i64 sp) (.int .i64 da) (.int .i64 dp) (.int .i64 (q : Int)) (.int .i64 (-1)) (.string d) hB1 hne1).mono (by omega)
          · have A11 := Lib.hid (A10.out.put (i := 5) (.int .i64 241) hne3)
            have D11 := Lib.hid (D10.out.set5 (.int .i64 241))
            have G11 := Lib.hid (grown_new G10.out 5 (.int .i64 241) hwb)
            have R11 := Lib.hid (rd_put R10.out (i := 5) (.int .i64 241) hBb hne2)
            obtain ⟨uz, ⟨uc0, uc1, uc2, uc3, uc4, uc5, uc6⟩, uf0, uf1, uf2, uf3, uf4, uf5, uf6⟩ := A11.out
            obtain ⟨vz, ⟨vc0, vc1, vc2, vc3, vc4, vc5, vc6⟩, vf0, vf1, vf2, vf3, vf4, vf5, vf6⟩ := D11.out
            go_wp2_with fail
            obtain ⟨_, ⟨q0, q1, q2, q3, q4, q5, q6⟩, _⟩ := A11.out.all (.int .i64 sa) (.int .i64 sp) (.int .i64 da) (.int .i64 dp) (.int .i64 (q : Int)) (.int .i64 241) (.string d)
            refine bodyPost_ret (v := .agg #[.int .i64 sa, .int .i64 sp, .int .i64 da, .int .i64 dp, .int .i64 (q : Int), .int .i64 241, .string d]) (by simp [results, Tryz.results29, go_sem, q0, q1, q2, q3, q4, q5, q6]) rfl ⟨_, _, _, _, _, _, _, rfl, ⟨⟨by omega, by omega, hd⟩, HWD.out⟩, ?_, ?_⟩
            · exact grown_puts G11.out (.int .i64 sa) (.int .i64 sp) (.int .i64 da) (.int .i64 dp) (.int .i64 (q : Int)) (.int .i64 241) (.string d) (Nat.le_refl _)
            · exact (rd_puts R11.out (.int .i64 sa) (.int .i64 sp) (.int .i64 da) (.int .i64 dp) (.int .i64 (q : Int)) (.int .i64 241) (.string d) hB1 hne1).mono (by omega)
        · have e2 : ((c : Int) == 2) = false := by rw [beq_eq_false_iff_ne]; omega
          clear c2
          go_wp2_with fail
          (go_at_call 27; refine (pick_any 3 B R (L + 73) _ (rd_alloc R9.out (.cells #[.string ⟨#[116, 104, 105, 114, 116, 101, 101, 110, 32, 98, 121, 116, 101]⟩, .string ⟨#[65]⟩, .string ⟨#[10]⟩] 9)) (by omega)).mono ?_; rintro e w8 ⟨r, rfl, hr, g8, r8⟩)
          have hr3 : r < 3 := by omega
          have lt7 := R9.out.lt
          have hS : w7.heap.size ≠ R := by omega
          have k0 : w8.cell? ⟨w7.heap.size, 0, none⟩ = some (.string ⟨#[116, 104, 105, 114, 116, 101, 101, 110, 32, 98, 121, 116, 101]⟩) := (gcell g8 (b := w7.heap.size) (by simp) hS 0).1.trans (cell_new w7 _ 9 0).1
          have k1 : w8.cell? ⟨w7.heap.size, 1, none⟩ = some (.string ⟨#[65]⟩) := (gcell g8 (b := w7.heap.size) (by simp) hS 1).1.trans (cell_new w7 _ 9 1).1
          have k2 : w8.cell? ⟨w7.heap.size, 2, none⟩ = some (.string ⟨#[10]⟩) := (gcell g8 (b := w7.heap.size) (by simp) hS 2).1.trans (cell_new w7 _ 9 2).1
          have A10 := Lib.hid ((A9.out.grown (World.grownBy_alloc w7 (.cells #[.string ⟨#[116, 104, 105, 114, 116, 101, 101, 110, 32, 98, 121, 116, 101]⟩, .string ⟨#[65]⟩, .string ⟨#[10]⟩] 9) (some R)) hne1).grown g8 hne1)
          have D10 := Lib.hid ((D9.out.grown (World.grownBy_alloc w7 (.cells #[.string ⟨#[116, 104, 105, 114, 116, 101, 101, 110, 32, 98, 121, 116, 101]⟩, .string ⟨#[65]⟩, .string ⟨#[10]⟩] 9) (some R)) hne2).grown g8 hne2)
          have G10 := Lib.hid ((grown_alloc G9.out (.cells #[.string ⟨#[116, 104, 105, 114, 116, 101, 101, 110, 32, 98, 121, 116, 101]⟩, .string ⟨#[65]⟩, .string ⟨#[10]⟩] 9)).trans g8)
          have R10 := Lib.hid r8
          clear r8 g8 R9 A9 D9 G9 hr lt7 hS
          obtain ⟨tz, ⟨tc0, tc1, tc2, tc3, tc4, tc5, tc6⟩, tf0, tf1, tf2, tf3, tf4, tf5, tf6⟩ := D10.out
          obtain rfl | rfl | rfl : r = 0 ∨ r = 1 ∨ r = 2 := by omega
          · have A11 := Lib.hid (A10.out.put (i := 6) (.string ⟨#[116, 104, 105, 114, 116, 101, 101, 110, 32, 98, 121, 116, 101]⟩) hne3)
            have D11 := Lib.hid (D10.out.set6 (.string ⟨#[116, 104, 105, 114, 116, 101, 101, 110, 32, 98, 121, 116, 101]⟩))
            have G11 := Lib.hid (grown_new G10.out 6 (.string ⟨#[116, 104, 105, 114, 116, 101, 101, 110, 32, 98, 121, 116, 101]⟩) hwb)
            have R11 := Lib.hid (rd_put R10.out (i := 6) (.string ⟨#[116, 104, 105, 114, 116, 101, 101, 110, 32, 98, 121, 116, 101]⟩) hBb hne2)
            obtain ⟨uz, ⟨uc0, uc1, uc2, uc3, uc4, uc5, uc6⟩, uf0, uf1, uf2, uf3, uf4, uf5, uf6⟩ := A11.out
            obtain ⟨vz, ⟨vc0, vc1, vc2, vc3, vc4, vc5, vc6⟩, vf0, vf1, vf2, vf3, vf4, vf5, vf6⟩ := D11.out
            go_wp2_with fail
            obtain ⟨_, ⟨q0, q1, q2, q3, q4, q5, q6⟩, _⟩ := A11.out.all (.int .i64 sa) (.int .i64 sp) (.int .i64 da) (.int .i64 dp) (.int .i64 (q : Int)) (.int .i64 (k : Int)) (.string ⟨#[116, 104, 105, 114, 116, 101, 101, 110, 32, 98, 121, 116, 101]⟩)
            refine bodyPost_ret (v := .agg #[.int .i64 sa, .int .i64 sp, .int .i64 da, .int .i64 dp, .int .i64 (q : Int), .int .i64 (k : Int), .string ⟨#[116, 104, 105, 114, 116, 101, 101, 110, 32, 98, 121, 116, 101]⟩]) (by simp [results, Tryz.results29, go_sem, q0, q1, q2, q3, q4, q5, q6]) rfl ⟨_, _, _, _, _, _, _, rfl, ⟨⟨by omega, by omega, by decide⟩, HWD.out⟩, ?_, ?_⟩
            · exact grown_puts G11.out (.int .i64 sa) (.int .i64 sp) (.int .i64 da) (.int .i64 dp) (.int .i64 (q : Int)) (.int .i64 (k : Int)) (.string ⟨#[116, 104, 105, 114, 116, 101, 101, 110, 32, 98, 121, 116, 101]⟩) (Nat.le_refl _)
            · exact (rd_puts R11.out (.int .i64 sa) (.int .i64 sp) (.int .i64 da) (.int .i64 dp) (.int .i64 (q : Int)) (.int .i64 (k : Int)) (.string ⟨#[116, 104, 105, 114, 116, 101, 101, 110, 32, 98, 121, 116, 101]⟩) hB1 hne1).mono (by omega)
          · have A11 := Lib.hid (A10.out.put (i := 6) (.string ⟨#[65]⟩) hne3)
            have D11 := Lib.hid (D10.out.set6 (.string ⟨#[65]⟩))
            have G11 := Lib.hid (grown_new G10.out 6 (.string ⟨#[65]⟩) hwb)
            have R11 := Lib.hid (rd_put R10.out (i := 6) (.string ⟨#[65]⟩) hBb hne2)
            obtain ⟨uz, ⟨uc0, uc1, uc2, uc3, uc4, uc5, uc6⟩, uf0, uf1, uf2, uf3, uf4, uf5, uf6⟩ := A11.out
            obtain ⟨vz, ⟨vc0, vc1, vc2, vc3, vc4, vc5, vc6⟩, vf0, vf1, vf2, vf3, vf4, vf5, vf6⟩ := D11.out
            go_wp2_with fail
            obtain ⟨_, ⟨q0, q1, q2, q3, q4, q5, q6⟩, _⟩ := A11.out.all (.int .i64 sa) (.int .i64 sp) (.int .i64 da) (.int .i64 dp) (.int .i64 (q : Int)) (.int .i64 (k : Int)) (.string ⟨#[65]⟩)
            refine bodyPost_ret (v := .agg #[.int .i64 sa, .int .i64 sp, .int .i64 da, .int .i64 dp, .int .i64 (q : Int), .int .i64 (k : Int), .string ⟨#[65]⟩]) (by simp [results, Tryz.results29, go_sem, q0, q1, q2, q3, q4, q5, q6]) rfl ⟨_, _, _, _, _, _, _, rfl, ⟨⟨by omega, by omega, by decide⟩, HWD.out⟩, ?_, ?_⟩
            · exact grown_puts G11.out (.int .i64 sa) (.int .i64 sp) (.int .i64 da) (.int .i64 dp) (.int .i64 (q : Int)) (.int .i64 (k : Int)) (.string ⟨#[65]⟩) (Nat.le_refl _)
            · exact (rd_puts R11.out (.int .i64 sa) (.int .i64 sp) (.int .i64 da) (.int .i64 dp) (.int .i64 (q : Int)) (.int .i64 (k : Int)) (.string ⟨#[65]⟩) hB1 hne1).mono (by omega)
          · have A11 := Lib.hid (A10.out.put (i := 6) (.string ⟨#[10]⟩) hne3)
            have D11 := Lib.hid (D10.out.set6 (.string ⟨#[10]⟩))
            have G11 := Lib.hid (grown_new G10.out 6 (.string ⟨#[10]⟩) hwb)
            have R11 := Lib.hid (rd_put R10.out (i := 6) (.string ⟨#[10]⟩) hBb hne2)
            obtain ⟨uz, ⟨uc0, uc1, uc2, uc3, uc4, uc5, uc6⟩, uf0, uf1, uf2, uf3, uf4, uf5, uf6⟩ := A11.out
            obtain ⟨vz, ⟨vc0, vc1, vc2, vc3, vc4, vc5, vc6⟩, vf0, vf1, vf2, vf3, vf4, vf5, vf6⟩ := D11.out
            go_wp2_with fail
            obtain ⟨_, ⟨q0, q1, q2, q3, q4, q5, q6⟩, _⟩ := A11.out.all (.int .i64 sa) (.int .i64 sp) (.int .i64 da) (.int .i64 dp) (.int .i64 (q : Int)) (.int .i64 (k : Int)) (.string ⟨#[10]⟩)
            refine bodyPost_ret (v := .agg #[.int .i64 sa, .int .i64 sp, .int .i64 da, .int .i64 dp, .int .i64 (q : Int), .int .i64 (k : Int), .string ⟨#[10]⟩]) (by simp [results, Tryz.results29, go_sem, q0, q1, q2, q3, q4, q5, q6]) rfl ⟨_, _, _, _, _, _, _, rfl, ⟨⟨by omega, by omega, by decide⟩, HWD.out⟩, ?_, ?_⟩
            · exact grown_puts G11.out (.int .i64 sa) (.int .i64 sp) (.int .i64 da) (.int .i64 dp) (.int .i64 (q : Int)) (.int .i64 (k : Int)) (.string ⟨#[10]⟩) (Nat.le_refl _)
            · exact (rd_puts R11.out (.int .i64 sa) (.int .i64 sp) (.int .i64 da) (.int .i64 dp) (.int .i64 (q : Int)) (.int .i64 (k : Int)) (.string ⟨#[10]⟩) hB1 hne1).mono (by omega)

end Go.Proofs.YtgfkiljkpkfapaaGreatDoor

/- The box and the segment that are drawn for the law of BoxTurn. Condition: the code lies in memory. -/
namespace Go.Proofs.YtgfkiljkpkfapaaGreatDoor
open Go.RowKit Go.Sort

theorem OwH.setS {w : World} {B g : Nat} {l : List Value} {v : Value} {b : Bx} (h : OwH w B v b) (hb : Blk w g 33 l) (i : Nat) (u : Value) : OwH (w.setCell ⟨g, i, none⟩ u) B v b := by
  obtain ⟨a1, c1, a2, c2, a3, c3, rfl, h1, h2, h3⟩ := h
  exact ⟨a1, c1, a2, c2, a3, c3, rfl, h1.elim Or.inl (fun h => Or.inr (own_setR h hb (by decide) i u)), own_setR h2 hb (by decide) i u, own_setR h3 hb (by decide) i u⟩
/-- How things stand while a box and a segment are drawn: the boxes of the answer, those of the box and of the segment, the box, and the reader. -/
def DT (B R s b3 g Bo L : Nat) (w0 w : World) (t1 t2 tb tg : List Value) (v : Value) (b : Bx) : Prop :=
  Blk w s 29 t1 ∧ Blk w (s + 1) 33 t2 ∧ Blk w b3 29 tb ∧ Blk w g 33 tg ∧ OwH w Bo v b ∧ Below s w0 w ∧ Rd B R L w
section
variable {B R s b3 g Bo L L' : Nat} {w0 w w' : World} {t1 t2 tb tg : List Value} {v : Value} {b : Bx}
theorem DT.grown (h : DT B R s b3 g Bo L w0 w t1 t2 tb tg v b) (hg : w.grownBy w' (some R)) (hr : Rd B R L' w') (h1 : s + 1 < R) (h2 : R < b3) (h3 : R < g) (h4 : R < Bo) : DT B R s b3 g Bo L' w0 w' t1 t2 tb tg v b :=
  ⟨h.1.grown hg (by omega), h.2.1.grown hg (by omega), h.2.2.1.grown hg (by omega), h.2.2.2.1.grown hg (by omega), h.2.2.2.2.1.grown hg h4, h.2.2.2.2.2.1.grown hg (by have := h.1.lt; omega) (fun k e => by cases e; omega), hr⟩
theorem DT.setG (h : DT B R s b3 g Bo L w0 w t1 t2 tb tg v b) (h1 : s + 1 < R) (h2 : R < b3) (h3 : b3 < g) (hBR : B ≤ R) (i : Nat) (u : Value) : DT B R s b3 g Bo L w0 (w.setCell ⟨g, i, none⟩ u) t1 t2 tb (tg.set i u) v b :=
  ⟨h.1.setO (by omega) i u, h.2.1.setO (by omega) i u, h.2.2.1.setO (by omega) i u, h.2.2.2.1.set i u, h.2.2.2.2.1.setS h.2.2.2.1 i u, h.2.2.2.2.2.1.setCell (by show s ≤ g; omega) u, rd_put h.2.2.2.2.2.2 u (by omega) (by omega)⟩
theorem DT.drew (h : DT B R s b3 g Bo L w0 w t1 t2 tb tg v b) : DT B R s b3 g Bo L w0 w.drew t1 t2 tb tg v b :=
  ⟨h.1, h.2.1, h.2.2.1, h.2.2.2.1, h.2.2.2.2.1.later (Below.refl _ _).drew, h.2.2.2.2.2.1.drew, rd_drewD h.2.2.2.2.2.2⟩
/-- The answer written. -/
theorem DT.fin {x0 x1 x2 z0 z1 z2 z3 z4 z5 z6 : Value} (h : DT B R s b3 g Bo L w0 w [x0, x1, x2] [z0, z1, z2, z3, z4, z5, z6] tb tg v b) (hw : w0.heap.size = s) (hB : s ≤ Bo) (y0 y1 y2 u0 u1 u2 u3 u4 u5 u6 : Value) :
    ∀ W, W = (((((((((w.setCell ⟨s, 0, none⟩ y0).setCell ⟨s, 1, none⟩ y1).setCell ⟨s, 2, none⟩ y2).setCell ⟨s + 1, 0, none⟩ u0).setCell ⟨s + 1, 1, none⟩ u1).setCell ⟨s + 1, 2, none⟩ u2).setCell ⟨s + 1, 3, none⟩ u3).setCell ⟨s + 1, 4, none⟩ u4).setCell ⟨s + 1, 5, none⟩ u5).setCell ⟨s + 1, 6, none⟩ u6 →
    Blk W s 29 [y0, y1, y2] ∧ Blk W (s + 1) 33 [u0, u1, u2, u3, u4, u5, u6] ∧ OwH W w0.heap.size v b ∧ Below w0.heap.size w0 W := by
  intro W hW
  subst hW
  have k1 := three_set h.1 y0 y1 y2
  have k2 : Blk (((w.setCell ⟨s, 0, none⟩ y0).setCell ⟨s, 1, none⟩ y1).setCell ⟨s, 2, none⟩ y2) (s + 1) 33 [z0, z1, z2, z3, z4, z5, z6] := ((h.2.1.setO (by omega) 0 y0).setO (by omega) 1 y1).setO (by omega) 2 y2
  have o1 : OwH (((w.setCell ⟨s, 0, none⟩ y0).setCell ⟨s, 1, none⟩ y1).setCell ⟨s, 2, none⟩ y2) Bo v b := OwH.set3B h.2.2.2.2.1 h.1
  have e1 : Below s w0 (((w.setCell ⟨s, 0, none⟩ y0).setCell ⟨s, 1, none⟩ y1).setCell ⟨s, 2, none⟩ y2) := ((h.2.2.2.2.2.1.setCell (Nat.le_refl s) y0).setCell (Nat.le_refl s) y1).setCell (Nat.le_refl s) y2
  rw [hw]
  refine ⟨?_, k2.put7 u0 u1 u2 u3 u4 u5 u6, ?_, ?_⟩
  · exact ((((((k1.setO (by omega) 0 u0).setO (by omega) 1 u1).setO (by omega) 2 u2).setO (by omega) 3 u3).setO (by omega) 4 u4).setO (by omega) 5 u5).setO (by omega) 6 u6
  · exact ((((((((o1.setS k2 0 u0).setS (k2.set 0 u0) 1 u1).setS ((k2.set 0 u0).set 1 u1) 2 u2).setS (((k2.set 0 u0).set 1 u1).set 2 u2) 3 u3).setS ((((k2.set 0 u0).set 1 u1).set 2 u2).set 3 u3) 4 u4).setS (((((k2.set 0 u0).set 1 u1).set 2 u2).set 3 u3).set 4 u4) 5 u5).setS ((((((k2.set 0 u0).set 1 u1).set 2 u2).set 3 u3).set 4 u4).set 5 u5) 6 u6)).mono hB
  · exact (((((((e1.setCell (by show s ≤ s + 1; omega) u0).setCell (by show s ≤ s + 1; omega) u1).setCell (by show s ≤ s + 1; omega) u2).setCell (by show s ≤ s + 1; omega) u3).setCell (by show s ≤ s + 1; omega) u4).setCell (by show s ≤ s + 1; omega) u5).setCell (by show s ≤ s + 1; omega) u6)
end

set_option maxRecDepth 100000 in
set_option maxHeartbeats 3200000 in
theorem drawBoxTurn_any (ao : Option Addr) (n cap : Nat) (w : World) (h : BytesIn w ao n) (hn : n ≤ cap) :
    Calls Tryz.prog 6 #[.slice ao n cap] w fun e w' => ∃ (x1 x2 x3 : Value) (b : Bx) (sa sp da dp sq ak : Int) (d : ByteArray), e = .returned (.tuple #[.agg #[x1, x2, x3], .agg #[.int .i64 sa, .int .i64 sp, .int .i64 da, .int .i64 dp, .int .i64 sq, .int .i64 ak, .string d]]) ∧ OwH w' w.heap.size (.agg #[x1, x2, x3]) b ∧ (bxSz b ∧ wfE b.es ∧ cnWf b.cs) ∧ (Lit.int .i64 dp).wf = true ∧ d.size ≤ 120 ∧ Below w.heap.size w w' := by
  have H := Lib.hid h
  clear h
  go_enter Tryz.func6, Tryz.ntmps6
  go_wp2_with fail
  (go_at_call 24; refine (open_any ao n cap _ (H.out.below (((Below.refl _ _).alloc (Nat.le_refl _) _).alloc (by simp) _)) hn).mono ?_; rintro e w1 ⟨R, rfl, hR, b1, r1⟩)
  have s1 := b1.size
  simp only [World.size_alloc] at s1 hR r1
  have hR1 : R < w1.heap.size := r1.lt
  have B1 : Hid (Below w.heap.size w w1) := (((Below.refl _ w).alloc (Nat.le_refl _) _).alloc (by simp) _).trans (b1.mono (by simp; omega))
  have P1 : Hid (Blk w1 w.heap.size 29 [.slice none 0 0, .slice none 0 0, .slice none 0 0] ∧ Blk w1 (w.heap.size + 1) 33 [.int .i64 0, .int .i64 0, .int .i64 0, .int .i64 0, .int .i64 0, .int .i64 0, .string ⟨#[]⟩]) := by
    refine ⟨Blk.below ((three_new w _ _ _ _).alloc _) b1, Blk.below (t := 33) (l := [.int .i64 0, .int .i64 0, .int .i64 0, .int .i64 0, .int .i64 0, .int .i64 0, .string ⟨#[]⟩]) (heap_at _ _ _ (by simp)) b1⟩
  have R1 := Lib.hid r1
  clear r1 b1
  obtain ⟨s, hs⟩ : ∃ s, s = w.heap.size := ⟨_, rfl⟩
  obtain ⟨B0, hB0⟩ : ∃ B0, B0 = w.heap.size + 1 + 1 := ⟨_, rfl⟩
  have HS := Lib.hid hs.symm
  rw [← hB0] at R1 hR s1
  rw [← hs] at P1 hB0 ⊢
  clear hs
  go_wp2_with fail
  (go_at_call 25; refine (boxOr_any 16 B0 R 0 _ R1.out (by omega) (by omega) (by omega)).mono ?_; rintro e w2 ⟨x1, x2, x3, b, rfl, oh, hz, g2, r2⟩)
  obtain ⟨a1, c1, a2, c2, a3, c3, rfl, rfl, rfl⟩ := oh.form
  have R2 := Lib.hid r2
  have OH2 := Lib.hid oh
  have z2 := g2.size
  have B2 : Hid (Below w.heap.size w w2) := B1.out.grown g2 B1.out.size (fun k e => by cases e; have := HS.out; omega)
  have P2 : Hid (Blk w2 s 29 [.slice none 0 0, .slice none 0 0, .slice none 0 0] ∧ Blk w2 (s + 1) 33 [.int .i64 0, .int .i64 0, .int .i64 0, .int .i64 0, .int .i64 0, .int .i64 0, .string ⟨#[]⟩]) := ⟨P1.out.1.grown g2 (by omega), P1.out.2.grown g2 (by omega)⟩
  obtain ⟨Bo, hBo⟩ : ∃ Bo, Bo = w1.heap.size := ⟨_, rfl⟩
  rw [← hBo] at OH2 hR1 z2 s1
  clear oh g2 r2 R1 B1 P1 hBo
  go_upto_region 3 with fail
  have q3 : Below w2.heap.size w2 (w2.alloc (.cells #[.slice a1 b.rs.length c1, .slice a2 b.es.length c2, .slice a3 b.cs.length c3] 29)) := (Below.refl _ _).alloc (Nat.le_refl _) _
  have R3 : Hid (Rd B0 R (0 + 1800) (w2.alloc (.cells #[.slice a1 b.rs.length c1, .slice a2 b.es.length c2, .slice a3 b.cs.length c3] 29))) := rd_alloc R2.out _
  have OH3 := Lib.hid (OH2.out.later q3)
  have B3 : Hid (Below w.heap.size w (w2.alloc (.cells #[.slice a1 b.rs.length c1, .slice a2 b.es.length c2, .slice a3 b.cs.length c3] 29))) := B2.out.trans (q3.mono B2.out.size)
  have P3 := Lib.hid (show Blk _ s _ _ ∧ Blk _ (s + 1) _ _ ∧ Blk _ _ _ _ from ⟨P2.out.1.below q3, P2.out.2.below q3, three_new w2 (.slice a1 b.rs.length c1) (.slice a2 b.es.length c2) (.slice a3 b.cs.length c3) 29⟩)
  obtain ⟨W3, hW3⟩ : ∃ W, W = w2.alloc (.cells #[.slice a1 b.rs.length c1, .slice a2 b.es.length c2, .slice a3 b.cs.length c3] 29) := ⟨_, rfl⟩
  rw [← hW3] at R3 OH3 B3 P3 ⊢
  have z3 : w2.heap.size < W3.heap.size := by rw [hW3]; simp
  obtain ⟨b3, hb3⟩ : ∃ b3, b3 = w2.heap.size := ⟨_, rfl⟩
  rw [← hb3] at P3 z2 z3 ⊢
  clear hW3 hb3 q3 R2 OH2 B2 P2
  obtain ⟨⟨p0, p1, p2⟩, -⟩ := three_all P3.out.2.2
  obtain ⟨-, -, -, -, -, o3⟩ := OH3.out.parts
  go_wp2_with fail
  (go_at_call 26; refine (from7_any B0 R (0 + 1800) Bo a1 a2 a3 b.rs.length c1 b.es.length c2 c3 b.cs _ R3.out (by omega) hR1 hz.1.2.2.1 hz.1.2.2.2 o3).mono ?_; rintro e w4 ⟨sa, sp, da, dp, sq, ak, d, rfl, hak, hd, g4, r4⟩)
  clear p0 p1 p2 o3
  have z4 := g4.size
  have S4 : Hid (DT B0 R s b3 w4.heap.size Bo (0 + 1800 + 70) w (w4.alloc (.cells #[.int .i64 sa, .int .i64 sp, .int .i64 da, .int .i64 dp, .int .i64 sq, .int .i64 ak, .string d] 33)) [.slice none 0 0, .slice none 0 0, .slice none 0 0] [.int .i64 0, .int .i64 0, .int .i64 0, .int .i64 0, .int .i64 0, .int .i64 0, .string ⟨#[]⟩] [.slice a1 b.rs.length c1, .slice a2 b.es.length c2, .slice a3 b.cs.length c3] [.int .i64 sa, .int .i64 sp, .int .i64 da, .int .i64 dp, .int .i64 sq, .int .i64 ak, .string d] (.agg #[.slice a1 b.rs.length c1, .slice a2 b.es.length c2, .slice a3 b.cs.length c3]) b) := by
    have q : Below w4.heap.size w4 (w4.alloc (.cells #[.int .i64 sa, .int .i64 sp, .int .i64 da, .int .i64 dp, .int .i64 sq, .int .i64 ak, .string d] 33)) := (Below.refl _ _).alloc (Nat.le_refl _) _
    have b4 : Below s w w4 := by
      have h1 := B3.out
      rw [HS.out] at h1
      exact h1.grown g4 (by have := h1.size; have := P3.out.1.lt; omega) (fun k e => by cases e; omega)
    exact ⟨(P3.out.1.grown g4 (by omega)).below q, (P3.out.2.1.grown g4 (by omega)).below q, (P3.out.2.2.grown g4 (by omega)).below q, heap_at _ _ _ rfl, (OH3.out.grown g4 hR1).later q, b4.trans (q.mono (by have := P3.out.1.lt; omega)), rd_alloc r4 _⟩
  go_upto_region 4 with fail
  obtain ⟨W4, hW4⟩ : ∃ W, W = w4.alloc (.cells #[.int .i64 sa, .int .i64 sp, .int .i64 da, .int .i64 dp, .int .i64 sq, .int .i64 ak, .string d] 33) := ⟨_, rfl⟩
  rw [← hW4] at S4 ⊢
  obtain ⟨g, hgg⟩ : ∃ g, g = w4.heap.size := ⟨_, rfl⟩
  rw [← hgg] at S4 z4 ⊢
  clear hW4 hgg g4 r4 R3 OH3 B3 P3
  go_wp2_with fail
  (go_at_call 27; refine (pick_any 7 B0 R (0 + 1800 + 70) _ S4.out.2.2.2.2.2.2 (by omega)).mono ?_; rintro e w5 ⟨k, rfl, hk, g5, r5⟩)
  have hk7 : k < 7 := by omega
  have S5 := Lib.hid (S4.out.grown g5 r5 (by omega) (by omega) (by omega) hR1)
  have hBR : B0 ≤ R := r5.base
  clear g5 r5 S4 hk
  obtain ⟨⟨e0, e1, e2, e3, e4, e5, e6⟩, f0, f1, f2, f3, f4, f5, f6⟩ := seven_partsG S5.out.2.2.2.1
  have hw5 := IntWalk.i64_in (500 + (k : Int)) (by omega)
  go_upto_region 5 with fail
  have S6 := Lib.hid ((S5.out.setG (by omega) (by omega) (by omega) hBR 2 (.int .i64 50)).setG (by omega) (by omega) (by omega) hBR 3 (.int .i64 (500 + (k : Int))))
  obtain ⟨W6, hW6⟩ : ∃ W, W = (w5.setCell ⟨g, 2, none⟩ (.int .i64 50)).setCell ⟨g, 3, none⟩ (.int .i64 (500 + (k : Int))) := ⟨_, rfl⟩
  rw [← hW6] at S6 ⊢
  have S7 : Hid (DT B0 R s b3 g Bo (0 + 1800 + 70 + 1) w W6 [.slice none 0 0, .slice none 0 0, .slice none 0 0] [.int .i64 0, .int .i64 0, .int .i64 0, .int .i64 0, .int .i64 0, .int .i64 0, .string ⟨#[]⟩] [.slice a1 b.rs.length c1, .slice a2 b.es.length c2, .slice a3 b.cs.length c3] [.int .i64 sa, .int .i64 sp, .int .i64 50, .int .i64 (500 + (k : Int)), .int .i64 sq, .int .i64 ak, .string d] (.agg #[.slice a1 b.rs.length c1, .slice a2 b.es.length c2, .slice a3 b.cs.length c3]) b) := S6.out
  clear hW6 S5 S6 e0 e1 e2 e3 e4 e5 e6 f0 f1 f2 f3 f4 f5 f6 hw5
  go_wp2_with fail
  (go_at_call 28; refine (odd_any 9 B0 R (0 + 1800 + 70 + 1) _ S7.out.2.2.2.2.2.2 (by omega) (by omega) (by omega)).mono ?_; rintro e w7 ⟨bo, rfl, g7, r7⟩)
  have S8 := Lib.hid (S7.out.grown g7 r7 (by omega) (by omega) (by omega) hR1)
  clear g7 r7 S7
  obtain ⟨n1, hn1⟩ : ∃ n, n = b.rs.length := ⟨_, rfl⟩
  obtain ⟨n2, hn2⟩ : ∃ n, n = b.es.length := ⟨_, rfl⟩
  obtain ⟨n3, hn3⟩ : ∃ n, n = b.cs.length := ⟨_, rfl⟩
  rw [← hn1, ← hn2, ← hn3] at S8 ⊢
  clear hn1 hn2 hn3
  obtain ⟨⟨p0, p1, p2⟩, -⟩ := three_all S8.out.2.2.1
  obtain ⟨⟨t0, t1, t2⟩, u0, u1, u2⟩ := three_all S8.out.1
  obtain ⟨⟨e0, e1, e2, e3, e4, e5, e6⟩, -⟩ := seven_partsG S8.out.2.2.2.1
  obtain ⟨⟨q0, q1, q2, q3, q4, q5, q6⟩, v0, v1, v2, v3, v4, v5, v6⟩ := seven_partsG S8.out.2.1
  have hne1 : s ≠ s + 1 := by omega
  cases bo
  · go_upto_region 7 with fail
    go_region
    all_goals go_wp2_with fail
    all_goals
      have F := DT.fin S8.out HS.out (by omega) (.slice a1 n1 c1) (.slice a2 n2 c2) (.slice a3 n3 c3) (.int .i64 sa) (.int .i64 sp) (.int .i64 50) (.int .i64 (500 + (k : Int))) (.int .i64 sq) (.int .i64 ak) (.string d) _ rfl
      obtain ⟨⟨z0, z1, z2⟩, -⟩ := three_all F.1
      obtain ⟨⟨y0, y1, y2, y3, y4, y5, y6⟩, -⟩ := seven_partsG F.2.1
      refine bodyPost_ret (v := .tuple #[.agg #[.slice a1 n1 c1, .slice a2 n2 c2, .slice a3 n3 c3], .agg #[.int .i64 sa, .int .i64 sp, .int .i64 50, .int .i64 (500 + (k : Int)), .int .i64 sq, .int .i64 ak, .string d]]) (by simp [results, Tryz.results6, go_sem, z0, z1, z2, y0, y1, y2, y3, y4, y5, y6]) rfl ⟨_, _, _, b, _, _, _, _, _, _, _, rfl, ?_, hz, ?_, hd, ?_⟩
      · first | with_reducible exact F.2.2.1 | with_reducible exact F.2.2.1.later (Below.refl _ _).drew | (trace_state; fail)
      · exact WalkArith.wf_i64 (by omega)
      · first | with_reducible exact F.2.2.2 | with_reducible exact F.2.2.2.drew
  · go_upto_region 6 with fail
    go_region_with (go_at_call 29; refine (segW_any 3 B0 R (0 + 1800 + 70 + 1 + 1) _ (by first | exact S8.out.2.2.2.2.2.2 | exact rd_drewD S8.out.2.2.2.2.2.2) (by omega) (by omega) (by omega)).mono ?_; rintro e w9 ⟨ya, yp, xa, xp, yq, yk, yd, rfl, ⟨hsd, hwd⟩, g9, r9⟩; have s9 := DT.grown S8.out (by first | exact g9 | exact grown_fromD g9) r9 (by omega) (by omega) (by omega) hR1; clear p0 p1 p2 t0 t1 t2 u0 u1 u2 e0 e1 e2 e3 e4 e5 e6 q0 q1 q2 q3 q4 q5 q6 v0 v1 v2 v3 v4 v5 v6; obtain ⟨⟨p0, p1, p2⟩, -⟩ := three_all s9.2.2.1; obtain ⟨⟨t0, t1, t2⟩, u0, u1, u2⟩ := three_all s9.1; obtain ⟨⟨q0, q1, q2, q3, q4, q5, q6⟩, v0, v1, v2, v3, v4, v5, v6⟩ := seven_partsG s9.2.1)
    all_goals go_wp2_with fail
    all_goals
      have F := DT.fin s9 HS.out (by omega) (.slice a1 n1 c1) (.slice a2 n2 c2) (.slice a3 n3 c3) (.int .i64 ya) (.int .i64 yp) (.int .i64 xa) (.int .i64 xp) (.int .i64 yq) (.int .i64 yk) (.string yd) _ rfl
      obtain ⟨⟨z0, z1, z2⟩, -⟩ := three_all F.1
      obtain ⟨⟨y0, y1, y2, y3, y4, y5, y6⟩, -⟩ := seven_partsG F.2.1
      refine bodyPost_ret (v := .tuple #[.agg #[.slice a1 n1 c1, .slice a2 n2 c2, .slice a3 n3 c3], .agg #[.int .i64 ya, .int .i64 yp, .int .i64 xa, .int .i64 xp, .int .i64 yq, .int .i64 yk, .string yd]]) (by simp [results, Tryz.results6, go_sem, z0, z1, z2, y0, y1, y2, y3, y4, y5, y6]) rfl ⟨_, _, _, b, _, _, _, _, _, _, _, rfl, ?_, hz, hwd, hsd.2.2, ?_⟩
      · first | with_reducible exact F.2.2.1 | with_reducible exact F.2.2.1.later (Below.refl _ _).drew | (trace_state; fail)
      · first | with_reducible exact F.2.2.2 | with_reducible exact F.2.2.2.drew

end Go.Proofs.YtgfkiljkpkfapaaGreatDoor

/- BoxTurn of the program at a segment that goes, if its sender gets a port. Conditions: as XTurnJ. -/
namespace Go.Proofs.YtgfkiljkpkfapaaGreatDoor
open Go.RowKit Go.Sort

theorem putE_pos (es : List (Int × Int)) (e : Int × Int) : 0 < (putE es e).1.length := by
  cases es with
  | nil => simp [putE, portI, findI]
  | cons x t =>
    unfold putE
    split
    · simp
    · split <;> simp

/-- The box's variable and the segment's variable hold these. -/
def Rs (n : Nat) (a0 a1 a2 c0 c1 c2 c3 c4 c5 c6 : Value) (w' : World) : Prop := w'.cell? ⟨n, 0, none⟩ = some a0 ∧ w'.cell? ⟨n, 1, none⟩ = some a1 ∧ w'.cell? ⟨n, 2, none⟩ = some a2 ∧ w'.cell? ⟨n + 1, 0, none⟩ = some c0 ∧ w'.cell? ⟨n + 1, 1, none⟩ = some c1 ∧ w'.cell? ⟨n + 1, 2, none⟩ = some c2 ∧ w'.cell? ⟨n + 1, 3, none⟩ = some c3 ∧ w'.cell? ⟨n + 1, 4, none⟩ = some c4 ∧ w'.cell? ⟨n + 1, 5, none⟩ = some c5 ∧ w'.cell? ⟨n + 1, 6, none⟩ = some c6
theorem Rs.drew {n : Nat} {a0 a1 a2 c0 c1 c2 c3 c4 c5 c6 : Value} {w' : World} (h : Rs n a0 a1 a2 c0 c1 c2 c3 c4 c5 c6 w') : Rs n a0 a1 a2 c0 c1 c2 c3 c4 c5 c6 w'.drew := h
theorem Rs.set {n : Nat} {a0 a1 a2 c0 c1 c2 c3 c4 c5 c6 : Value} {w' : World} (h : Rs n a0 a1 a2 c0 c1 c2 c3 c4 c5 c6 w') {b : Nat} (hb : n + 1 < b) (o : Nat) (u : Value) : Rs n a0 a1 a2 c0 c1 c2 c3 c4 c5 c6 (w'.setCell ⟨b, o, none⟩ u) := by
  have m : ∀ (k j : Nat), k ≤ n + 1 → (w'.setCell ⟨b, o, none⟩ u).cell? ⟨k, j, none⟩ = w'.cell? ⟨k, j, none⟩ := fun k j hk => World.cell?_setCell_far _ _ _ _ (by simp; omega)
  obtain ⟨y0, y1, y2, z0, z1, z2, z3, z4, z5, z6⟩ := h
  exact ⟨(m _ _ (by omega)).trans y0, (m _ _ (by omega)).trans y1, (m _ _ (by omega)).trans y2, (m _ _ (by omega)).trans z0, (m _ _ (by omega)).trans z1, (m _ _ (by omega)).trans z2, (m _ _ (by omega)).trans z3, (m _ _ (by omega)).trans z4, (m _ _ (by omega)).trans z5, (m _ _ (by omega)).trans z6⟩
theorem Rs.of {n : Nat} {a0 a1 a2 c0 c1 c2 c3 c4 c5 c6 : Value} {w' : World} {t1 t2 : TypeId} (h1 : Blk w' n t1 [a0, a1, a2]) (h2 : Blk w' (n + 1) t2 [c0, c1, c2, c3, c4, c5, c6]) : Rs n a0 a1 a2 c0 c1 c2 c3 c4 c5 c6 w' :=
  ⟨(h1.cell 0 _ rfl).1, (h1.cell 1 _ rfl).1, (h1.cell 2 _ rfl).1, (h2.cell 0 _ rfl).1, (h2.cell 1 _ rfl).1, (h2.cell 2 _ rfl).1, (h2.cell 3 _ rfl).1, (h2.cell 4 _ rfl).1, (h2.cell 5 _ rfl).1, (h2.cell 6 _ rfl).1⟩

/-- The segment's variable takes two other ends. -/
theorem Q4.seg {w w' : World} {x0 x1 x2 x3 x4 x5 x6 : Value} {lb lr lq : List Value} (h : Q4 w lb [x0, x1, x2, x3, x4, x5, x6] lr lq w') (u0 u1 u2 u3 : Value) :
    Q4 w lb [u0, u1, u2, u3, x4, x5, x6] lr lq ((((w'.setCell ⟨w.heap.size + 1, 0, none⟩ u0).setCell ⟨w.heap.size + 1, 1, none⟩ u1).setCell ⟨w.heap.size + 1, 2, none⟩ u2).setCell ⟨w.heap.size + 1, 3, none⟩ u3) := by
  obtain ⟨h0, h1, h2, h3, h4⟩ := h
  have hb : w.heap.size ≤ w.heap.size + 1 := by omega
  have n1 : ∀ o, (⟨w.heap.size + 1, o, none⟩ : Addr).block ≠ w.heap.size := fun o => by simp
  have n2 : ∀ o, (⟨w.heap.size + 1, o, none⟩ : Addr).block ≠ w.heap.size + 1 + 1 := fun o => by simp
  have n3 : ∀ o, (⟨w.heap.size + 1, o, none⟩ : Addr).block ≠ w.heap.size + 1 + 1 + 1 := fun o => by simp
  exact ⟨(((h0.setCell hb _).setCell hb _).setCell hb _).setCell hb _, (((h1.far (n1 0) _).far (n1 1) _).far (n1 2) _).far (n1 3) _, (((h2.set 0 u0).set 1 u1).set 2 u2).set 3 u3, (((h3.far (n2 0) _).far (n2 1) _).far (n2 2) _).far (n2 3) _, (((h4.far (n3 0) _).far (n3 1) _).far (n3 2) _).far (n3 3) _⟩

/-- The box's variable takes another table. -/
theorem Q4.table {w w' : World} {x0 x1 x2 : Value} {ls lr lq : List Value} (h : Q4 w [x0, x1, x2] ls lr lq w') (u : Value) : Q4 w [x0, u, x2] ls lr lq (w'.setCell ⟨w.heap.size, 1, none⟩ u) := by
  obtain ⟨h0, h1, h2, h3, h4⟩ := h
  exact ⟨h0.setCell (Nat.le_refl _) _, h1.set 1 u, h2.far (by simp) _, h3.far (by simp; omega) _, h4.far (by simp; omega) _⟩

end Go.Proofs.YtgfkiljkpkfapaaGreatDoor

/- BoxTurn of the specification at a segment that is meant for it. Conditions: as XSTurnB. -/
namespace Go.Proofs.YtgfkiljkpkfapaaGreatDoor
open Go.RowKit Go.Sort

theorem putE_zeroY {es : List (Int × Int)} {e : Int × Int} (h : (putE es e).2 = 0) : (putE es e).1 = es := by
  unfold putE at h ⊢
  split at h
  · rename_i h1
    simp only at h
    omega
  · split at h
    · rename_i h1 h2
      rw [if_neg h1, if_pos h2]
    · simp only at h
      omega

/-- An own row outlives a store into a block of another type. -/
theorem own_setT {w : World} {B k n R : Nat} {t tR : TypeId} {v : Value} {xs l : List Value} (h : w.ownsRow B t k v n xs) (hR : Blk w R tR l) (hne : tR ≠ t) (o : Nat) (u : Value) : (w.setCell ⟨R, o, none⟩ u).ownsRow B t k v n xs := by
  refine ⟨h.1, ?_⟩
  rcases h.2 with h2 | ⟨g, cap, cur, hv, hB, hgg, r⟩
  · exact .inl h2
  · refine .inr ⟨g, cap, cur, hv, hB, ?_, r⟩
    rw [Below.heap_setCell _ _ _ _ fun e => ?_]
    · exact hgg
    · have e : g = R := e
      subst e
      rw [hR] at hgg
      injection hgg with h1
      injection h1 with _ h2 _
      exact hne h2
theorem Q4.far {w w' : World} {lb ls lr lq : List Value} (h : Q4 w lb ls lr lq w') {a : Addr} (ha : w.heap.size + 1 + 1 + 1 < a.block) (u : Value) : Q4 w lb ls lr lq (w'.setCell a u) := by
  obtain ⟨h0, h1, h2, h3, h4⟩ := h
  exact ⟨h0.setCell (by omega) _, h1.far (by omega) _, h2.far (by omega) _, h3.far (by omega) _, h4.far (by omega) _⟩
/-- A variable of three cells and one of seven hold these. -/
def Rz (m n : Nat) (a0 a1 a2 c0 c1 c2 c3 c4 c5 c6 : Value) (w' : World) : Prop := w'.cell? ⟨m, 0, none⟩ = some a0 ∧ w'.cell? ⟨m, 1, none⟩ = some a1 ∧ w'.cell? ⟨m, 2, none⟩ = some a2 ∧ w'.cell? ⟨n, 0, none⟩ = some c0 ∧ w'.cell? ⟨n, 1, none⟩ = some c1 ∧ w'.cell? ⟨n, 2, none⟩ = some c2 ∧ w'.cell? ⟨n, 3, none⟩ = some c3 ∧ w'.cell? ⟨n, 4, none⟩ = some c4 ∧ w'.cell? ⟨n, 5, none⟩ = some c5 ∧ w'.cell? ⟨n, 6, none⟩ = some c6
theorem Rz.drew {m n : Nat} {a0 a1 a2 c0 c1 c2 c3 c4 c5 c6 : Value} {w' : World} (h : Rz m n a0 a1 a2 c0 c1 c2 c3 c4 c5 c6 w') : Rz m n a0 a1 a2 c0 c1 c2 c3 c4 c5 c6 w'.drew := h
theorem Rz.set {m n : Nat} {a0 a1 a2 c0 c1 c2 c3 c4 c5 c6 : Value} {w' : World} (h : Rz m n a0 a1 a2 c0 c1 c2 c3 c4 c5 c6 w') {b : Nat} (h1 : b ≠ m) (h2 : b ≠ n) (o : Nat) (u : Value) : Rz m n a0 a1 a2 c0 c1 c2 c3 c4 c5 c6 (w'.setCell ⟨b, o, none⟩ u) := by
  have m1 : ∀ (j : Nat), (w'.setCell ⟨b, o, none⟩ u).cell? ⟨m, j, none⟩ = w'.cell? ⟨m, j, none⟩ := fun j => World.cell?_setCell_far _ _ _ _ (by simp; omega)
  have m2 : ∀ (j : Nat), (w'.setCell ⟨b, o, none⟩ u).cell? ⟨n, j, none⟩ = w'.cell? ⟨n, j, none⟩ := fun j => World.cell?_setCell_far _ _ _ _ (by simp; omega)
  obtain ⟨y0, y1, y2, z0, z1, z2, z3, z4, z5, z6⟩ := h
  exact ⟨(m1 _).trans y0, (m1 _).trans y1, (m1 _).trans y2, (m2 _).trans z0, (m2 _).trans z1, (m2 _).trans z2, (m2 _).trans z3, (m2 _).trans z4, (m2 _).trans z5, (m2 _).trans z6⟩
theorem Rz.of {m n : Nat} {a0 a1 a2 c0 c1 c2 c3 c4 c5 c6 : Value} {w' : World} {t1 t2 : TypeId} (h1 : Blk w' m t1 [a0, a1, a2]) (h2 : Blk w' n t2 [c0, c1, c2, c3, c4, c5, c6]) : Rz m n a0 a1 a2 c0 c1 c2 c3 c4 c5 c6 w' :=
  ⟨(h1.cell 0 _ rfl).1, (h1.cell 1 _ rfl).1, (h1.cell 2 _ rfl).1, (h2.cell 0 _ rfl).1, (h2.cell 1 _ rfl).1, (h2.cell 2 _ rfl).1, (h2.cell 3 _ rfl).1, (h2.cell 4 _ rfl).1, (h2.cell 5 _ rfl).1, (h2.cell 6 _ rfl).1⟩

end Go.Proofs.YtgfkiljkpkfapaaGreatDoor

/- What BoxTurn answers, of both sides in one form. Conditions: at most 2^20 rules, ends and streams each; a segment of at most 2^21 bytes; all numbers are ints. -/
namespace Go.Proofs.YtgfkiljkpkfapaaGreatDoor
open Go.RowKit Go.Sort

theorem seg_box {sa sp da dp sq ak : Int} {d : List UInt8} (h : segOkB ⟨sa, sp, da, dp, sq, ak, d⟩ = true) (hd : da = 50) : boxB da dp = true := by
  subst hd
  unfold segOkB at h
  simp only [Bool.and_eq_true] at h
  have h1 := h.1.1.1.2
  unfold endB at h1
  have e1 : insB 50 dp = false := by simp [insB, inB]
  have e2 : outB 50 dp = false := by simp [outB, inB]
  rw [e1, e2] at h1
  simpa using h1
theorem box_fifty {da dp : Int} (h : boxB da dp = true) : da = 50 := by
  unfold boxB at h
  simp only [Bool.and_eq_true, decide_eq_true_eq] at h
  exact h.1
theorem FrBx.zero (w : World) (B : Nat) : FrBx w B (.agg #[.slice none 0 0, .slice none 0 0, .slice none 0 0]) ⟨[], [], []⟩ :=
  ⟨_, _, _, rfl, FrL.nil _ _ _ _ (fun _ => rfl), FrL.nil _ _ _ _ (fun _ => rfl), FrL.nil _ _ _ _ (fun _ => rfl)⟩
theorem putE_len (es : List (Int × Int)) (e : Int × Int) : (putE es e).1.length ≤ es.length + 1 := by
  unfold putE
  split
  · simp
  · split <;> simp

/-- The three parts of an answer: a box, a segment, and whether one goes. -/
def TurnR (w : World) (ub : Bx) (a0 a1 a2 a3 a4 a5 : Int) (s : ByteArray) (bb : Bool) (e : Ending) (w' : World) : Prop :=
  ∃ u, e = .returned (.tuple #[u, .agg #[.int .i64 a0, .int .i64 a1, .int .i64 a2, .int .i64 a3, .int .i64 a4, .int .i64 a5, .string s], .bool bb]) ∧ FrBx w' w.heap.size u ub ∧ Below w.heap.size w w'

end Go.Proofs.YtgfkiljkpkfapaaGreatDoor
