/- The table that is drawn: some table, or what is none, of few ends, in memory of the call's own. Conditions: the reader is there; its place is small. -/
import Derived.Test.YtbhpogddnpaacaaDrawSm
import Derived.Test.YtbhpogddnpaacaaSPuts
namespace Go.Proofs.Ytbhpogddnpaacaa
open Go.RowKit

theorem mapB_six {es : List (Int × Int)} (h : mapB es = true) : es.length ≤ 6 := by
  unfold mapB at h
  simp at h
  exact h.1

theorem putE_six {es : List (Int × Int)} {e : Int × Int} (h : es.length ≤ 6) : (putE es e).1.length ≤ 6 := by
  unfold putE
  split
  · exact h
  · split
    · exact h
    · simp; omega

theorem putE_mem {es : List (Int × Int)} {e x : Int × Int} (h : x ∈ (putE es e).1) : x ∈ es ∨ x = e := by
  unfold putE at h
  split at h
  · exact .inl h
  · split at h
    · exact .inl h
    · simpa using h

/-- MapPut at whatever: some table of at most six ends, each of the old ones or the new one. -/
theorem put_drawn (v : Value) (es : List (Int × Int)) (a p : Int) (w : World) (hn : es.length ≤ 4194304) (ht : TabAt w v es) :
    Calls Try.prog 42 #[.agg #[v], .agg #[.int .i64 a, .int .i64 p]] w fun e w' => ∃ g c us q, e = .returned (.tuple #[.agg #[.slice g (us : List (Int × Int)).length c], .int .i64 q]) ∧ OwnTab w' w.heap.size (.slice g us.length c) us ∧ (us.length ≤ 6 ∧ ∀ x ∈ us, x ∈ es ∨ x = (a, p)) ∧ Below w.heap.size w w' := by
  by_cases h : (mapB es && insB a p) = true
  · have h' := h
    simp at h'
    refine (specMapPut_ok v es a p w hn ht h'.1 h'.2).mono ?_
    rintro e w' ⟨g, c, rfl, ho, hb⟩
    exact ⟨some g, c, _, _, rfl, ho, ⟨putE_six (mapB_six h'.1), fun x hx => putE_mem hx⟩, hb⟩
  · refine (specMapPut_not v es a p w hn ht (by simpa using h)).mono ?_
    rintro e w' ⟨rfl, hb⟩
    exact ⟨none, 0, [], _, rfl, World.ownsRow_nil _ _ _ _, ⟨by simp, fun x hx => by cases hx⟩, hb⟩

theorem OwnTab.grown {w w' : World} {B R : Nat} {v : Value} {es : List (Int × Int)} (h : OwnTab w B v es) (hg : w.grownBy w' (some R)) (hR : R < B) : OwnTab w' B v es := by
  refine World.ownsRow.kept h hg ?_
  obtain ⟨_, h1 | ⟨g, cap, cur, rfl, hb, _⟩⟩ := h
  · rw [h1.1]; exact .inl rfl
  · exact .inr (by simp [Value.ownBlock]; omega)

theorem grownB {w w' : World} {row : Option Nat} (h : Below w.heap.size w w') : w.grownBy w' row :=
  ⟨h.os, h.tape, h.output, h.size, fun k hk _ => h.block k hk⟩
theorem gbox {w w' : World} {b i R : Nat} {v : Value} (h : w.cell? ⟨b, i, none⟩ = some v) (hg : w.grownBy w' (some R)) (hne : b ≠ R) : w'.cell? ⟨b, i, none⟩ = some v := by
  rw [(gcell hg (World.block_lt_of_cell? w _ h) hne i).1]; exact h
theorem gboxf {w w' : World} {b i R : Nat} {v : Value} (h : w.cell? ⟨b, i, none⟩ = some v) (hf : w.frozen? ⟨b, i, none⟩ = false) (hg : w.grownBy w' (some R)) (hne : b ≠ R) : w'.frozen? ⟨b, i, none⟩ = false := by
  rw [(gcell hg (World.block_lt_of_cell? w _ h) hne i).2]; exact hf
/-- A box of one cell that a drawer finds new. -/
theorem freshG {W w : World} {x : Value} {t : TypeId} {R : Nat} (h : (W.alloc (.cells #[x] t)).grownBy w (some R)) (hR : W.heap.size ≠ R) : w.cell? ⟨W.heap.size, 0, none⟩ = some x ∧ w.frozen? ⟨W.heap.size, 0, none⟩ = false :=
  ⟨gbox (by simp) h hR, gboxf (v := x) (by simp) (cell_new W _ _ 0).2 h hR⟩
theorem freshGd {W w : World} {x : Value} {t : TypeId} {R : Nat} (h : (W.alloc (.cells #[x] t)).drew.grownBy w (some R)) (hR : W.heap.size ≠ R) : w.cell? ⟨W.heap.size, 0, none⟩ = some x ∧ w.frozen? ⟨W.heap.size, 0, none⟩ = false :=
  freshG ((grownB (Below.refl _ _).drew).trans h) hR
/-- A box of one cell that a call finds new. -/
theorem freshB {W w : World} {x : Value} {t : TypeId} (h : Below (W.alloc (.cells #[x] t)).heap.size (W.alloc (.cells #[x] t)) w) : w.cell? ⟨W.heap.size, 0, none⟩ = some x ∧ w.frozen? ⟨W.heap.size, 0, none⟩ = false :=
  ⟨by rw [h.cell (by simp)]; simp, by rw [h.frozen (by simp)]; exact (cell_new W _ _ 0).2⟩
theorem boxDB {w w' : World} {b i : Nat} {v : Value} (h : w.cell? ⟨b, i, none⟩ = some v) (hf : w.frozen? ⟨b, i, none⟩ = false) (hb : Below w.heap.size w w') : w'.cell? ⟨b, i, none⟩ = some v ∧ w'.frozen? ⟨b, i, none⟩ = false :=
  ⟨by rw [hb.cell (p := ⟨b, i, none⟩) (World.block_lt_of_cell? w _ h)]; exact h, by rw [hb.frozen (p := ⟨b, i, none⟩) (World.block_lt_of_cell? w _ h)]; exact hf⟩

/-- Ends with small numbers. -/
def SmE (us : List (Int × Int)) : Prop := ∀ x ∈ us, Sm x.1 x.2

/-- How things stand while a table is drawn: the result's box at b, the table's behind it, its row behind both. -/
def TabI (b B R L : Nat) (w0 w : World) (g : Option Addr) (c : Nat) (us : List (Int × Int)) : Prop :=
  (w.cell? ⟨b, 0, none⟩ = some (.slice none 0 0) ∧ w.frozen? ⟨b, 0, none⟩ = false) ∧ (w.cell? ⟨b + 1, 0, none⟩ = some (.slice g us.length c) ∧ w.frozen? ⟨b + 1, 0, none⟩ = false) ∧ OwnTab w (b + 2) (.slice g us.length c) us ∧ (∀ x ∈ us, Sm x.1 x.2) ∧ w0.grownBy w (some R) ∧ Rd B R L w

theorem TabI.set {b B R L L' : Nat} {w0 w wc : World} {g g' : Option Addr} {c c' : Nat} {us vs : List (Int × Int)} (h : TabI b B R L w0 w g c us) (hg : w.grownBy wc (some R)) (hR : R < b) (hB : B ≤ R) (h0 : w0.heap.size ≤ b) (ho : OwnTab wc (b + 2) (.slice g' vs.length c') vs) (hv : ∀ x ∈ vs, Sm x.1 x.2) (hr : Rd B R L' wc) :
    TabI b B R L' w0 (wc.setCell ⟨b + 1, 0, none⟩ (.slice g' vs.length c')) g' c' vs := by
  obtain ⟨⟨r0, rf⟩, ⟨t0, tf⟩, _, _, hgr, _⟩ := h
  have t1 := gbox t0 hg (by omega)
  refine ⟨⟨?_, ?_⟩, ⟨World.cell?_setCell_same _ _ _ t1, ?_⟩, ownsRow_setCell_below (a := ⟨b + 1, 0, none⟩) ho (by simp) _, hv, grown_new (hgr.trans hg) _ _ (by omega), rd_put hr _ (by omega) (by omega)⟩
  · rw [World.cell?_setCell_other _ _ _ _ (by simp)]; exact gbox r0 hg (by omega)
  · rw [World.frozen?_setCell]; exact gboxf r0 rf hg (by omega)
  · rw [World.frozen?_setCell]; exact gboxf t0 tf hg (by omega)

theorem TabI.later {b B R L L' : Nat} {w0 w w' : World} {g : Option Addr} {c : Nat} {us : List (Int × Int)} (h : TabI b B R L w0 w g c us) (hg : w.grownBy w' (some R)) (hR : R < b) (hr : Rd B R L' w') : TabI b B R L' w0 w' g c us := by
  obtain ⟨⟨r0, rf⟩, ⟨t0, tf⟩, ho, hs, hgr, _⟩ := h
  exact ⟨⟨gbox r0 hg (by omega), gboxf r0 rf hg (by omega)⟩, ⟨gbox t0 hg (by omega), gboxf t0 tf hg (by omega)⟩, ho.grown hg (by omega), hs, hgr.trans hg, hr⟩
/-- What is left behind, once the table is stored as the result. -/
theorem TabI.fin {B R L M : Nat} {w0 w : World} {g : Option Addr} {c : Nat} {us : List (Int × Int)} (h : TabI w0.heap.size B R L w0 w g c us) (hR : R < w0.heap.size) (hB : B ≤ R) (h8 : us.length ≤ 8) (hL : L ≤ M) :
    OwnTab (w.setCell ⟨w0.heap.size, 0, none⟩ (.slice g us.length c)) w0.heap.size (.slice g us.length c) us ∧ (us.length ≤ 8 ∧ SmE us) ∧ w0.grownBy (w.setCell ⟨w0.heap.size, 0, none⟩ (.slice g us.length c)) (some R) ∧ Rd B R M (w.setCell ⟨w0.heap.size, 0, none⟩ (.slice g us.length c)) := by
  obtain ⟨_, _, ho, hs, hgr, hr⟩ := h
  exact ⟨OwnTab.mono (B := w0.heap.size + 2) (ownsRow_setCell_below (a := ⟨w0.heap.size, 0, none⟩) ho (by simp) _) (by omega), ⟨h8, hs⟩, grown_new hgr _ _ (Nat.le_refl _), rd_put (hr.mono hL) _ (by omega) (by omega)⟩

/-- The boxes alone: the table's holds v. -/
def BoxI (b B R L : Nat) (w0 w : World) (v : Value) : Prop :=
  (w.cell? ⟨b, 0, none⟩ = some (.slice none 0 0) ∧ w.frozen? ⟨b, 0, none⟩ = false) ∧ (w.cell? ⟨b + 1, 0, none⟩ = some v ∧ w.frozen? ⟨b + 1, 0, none⟩ = false) ∧ w0.grownBy w (some R) ∧ Rd B R L w
theorem TabI.box {b B R L : Nat} {w0 w : World} {g : Option Addr} {c : Nat} {us : List (Int × Int)} (h : TabI b B R L w0 w g c us) : BoxI b B R L w0 w (.slice g us.length c) := ⟨h.1, h.2.1, h.2.2.2.2.1, h.2.2.2.2.2⟩
theorem gcellN {w w' : World} {row : Option Nat} (hg : w.grownBy w' row) {b i : Nat} {v : Value} (h : w.cell? ⟨b, i, none⟩ = some v) (hf : w.frozen? ⟨b, i, none⟩ = false) (hne : row ≠ some b) : w'.cell? ⟨b, i, none⟩ = some v ∧ w'.frozen? ⟨b, i, none⟩ = false := by
  have hk := hg.block b (World.block_lt_of_cell? w _ h) (Ne.symm hne)
  exact ⟨(World.cell?_of_block (a := ⟨b, i, none⟩) hk).trans h, (World.frozen?_of_block (a := ⟨b, i, none⟩) hk).trans hf⟩
theorem BoxI.app {b B R L : Nat} {w0 w w' : World} {v : Value} {row : Option Nat} (h : BoxI b B R L w0 w v) (hg : w.grownBy w' row) (hrow : ∀ k, row = some k → b + 2 ≤ k) (hR : R < b) (hB : B ≤ R) (h0 : w0.heap.size ≤ b) : BoxI b B R L w0 w' v := by
  obtain ⟨⟨r0, rf⟩, ⟨t0, tf⟩, hgr, hr⟩ := h
  have n0 : row ≠ some b := fun e => by have := hrow _ e; omega
  have n1 : row ≠ some (b + 1) := fun e => by have := hrow _ e; omega
  exact ⟨gcellN hg r0 rf n0, gcellN hg t0 tf n1, hgr.andThen hg (fun j e => .inl (by have := hrow _ e; omega)), rd_kept hr hg (fun j e => by have := hrow _ e; exact ⟨by omega, by omega⟩)⟩
theorem BoxI.close {b B R L : Nat} {w0 w : World} {v : Value} {g : Option Addr} {c : Nat} {us : List (Int × Int)} (h : BoxI b B R L w0 w v) (hR : R < b) (hB : B ≤ R) (h0 : w0.heap.size ≤ b) (ho : OwnTab w (b + 2) (.slice g us.length c) us) (hs : ∀ x ∈ us, Sm x.1 x.2) :
    TabI b B R L w0 (w.setCell ⟨b + 1, 0, none⟩ (.slice g us.length c)) g c us := by
  obtain ⟨⟨r0, rf⟩, ⟨t0, tf⟩, hgr, hr⟩ := h
  refine ⟨⟨?_, ?_⟩, ⟨World.cell?_setCell_same _ _ _ t0, ?_⟩, ownsRow_setCell_below (a := ⟨b + 1, 0, none⟩) ho (by simp) _, hs, grown_new hgr _ _ (by omega), rd_put hr _ (by omega) (by omega)⟩
  · rw [World.cell?_setCell_other _ _ _ _ (by simp)]; exact r0
  · rw [World.frozen?_setCell]; exact rf
  · rw [World.frozen?_setCell]; exact tf
theorem own_snoc {w : World} {B : Nat} {v : Value} {us : List (Int × Int)} {a p : Int} (h : w.ownsRow B 39 2 v (us.length + 1) (flatE us ++ [.int .i64 a, .int .i64 p])) :
    ∃ g c vs, v = .slice g (vs : List (Int × Int)).length c ∧ OwnTab w B (.slice g vs.length c) vs ∧ vs.length = us.length + 1 ∧ vs = us ++ [(a, p)] := by
  have ho : OwnTab w B v (us ++ [(a, p)]) := by
    show w.ownsRow _ _ _ _ _ _
    rw [flatE_app, List.length_append]
    simpa [flatE] using h
  obtain ⟨g, c, e⟩ := ho.form
  exact ⟨g, c, _, e, e ▸ ho, by simp, rfl⟩
theorem OwnTab.ge {w : World} {B : Nat} {v : Value} {es : List (Int × Int)} (h : OwnTab w B v es) : ∀ k, v.ownBlock = some k → B ≤ k := by
  intro k hk
  obtain ⟨_, h1 | ⟨g, cap, cur, rfl, hb, _⟩⟩ := h
  · rw [h1.1] at hk; cases hk
  · simp [Value.ownBlock] at hk; omega
theorem sm_snoc {us vs : List (Int × Int)} {a p : Int} (h : ∀ x ∈ us, Sm x.1 x.2) (e : vs = us ++ [(a, p)]) (hs : Sm a p) : ∀ x ∈ vs, Sm x.1 x.2 := by
  subst e
  intro x hx
  simp at hx
  rcases hx with hx | rfl
  · exact h x hx
  · exact hs
/-- How long the slice in a box is. -/
def lenAt (b : Nat) (w : World) : Nat := match w.cell? ⟨b, 0, none⟩ with | some (.slice _ n _) => n | _ => 0
theorem lenAt_of {b : Nat} {w : World} {g : Option Addr} {n c : Nat} (h : w.cell? ⟨b, 0, none⟩ = some (.slice g n c)) : lenAt b w = n := by unfold lenAt; rw [h]

/-- append onto a slice of the call's own, something or other, at a step of a region that draws its order. -/
theorem step_append_more {P : Program} (w : World) {ops : Array Oper} {o : Oper} {a : Act} {K : Act → World → Prop} {Q : Exit → Act → World → Prop} {E : Prop} (hgd : o.guard = none) (s x : Operand) (t : TypeId)
    (ho : o.op = .call { callee := .builtin .append, args := #[s, x], argTypes := #[t, t] })
    (base : Nat) (e : TypeId) (i : TypeInfo) (z : Value) (size bytes : Nat) (ht : P.underlying t = some (.slice e)) (hi : P.info? e = some i) (hz : i.zero = some z)
    (hsize : i.size = size) (hby : i.bytes = bytes) (hzs : z.cells.size = size) (hsz : 0 < size)
    (v : Value) (n : Nat) (xs : List Value) (hs : a.eval s = v) (hown : w.ownsRow base e size v n xs)
    (ad : Addr) (m c : Nat) (news : List Value) (hx : a.eval x = .slice (some ad) m c) (hl : news.length = m * size) (hnews : ∀ j u, news[j]? = some u → w.cell? (ad.add j) = some u) (h1 : ∀ u ∈ news, u.oneCell' = true)
    (h63 : n + m ≤ maxLen) (hbytes : (n + m) * bytes ≤ 140737488355328) (hbase : base ≤ w.heap.size)
    (h : ∀ v' w', w'.ownsRow base e size v' (n + m) (xs ++ news) → w.grownBy w' v.ownBlock → K (a.put o.dst v') w') :
    if Region.wanted o (yielded ops a.tmps) = true then Oper.wp P o a w K Q else E := by
  have hw : Region.wanted o (yielded ops a.tmps) = true := by simp [Region.wanted, hgd]
  rw [if_pos hw]
  obtain ⟨v', w', hr, h2, h3, _, _⟩ := run_append_own_at (P := P) w base t o.type e i z size bytes ht hi hz hsize hby hzs hsz v n xs hown ad m c news hl hnews h1 h63 hbytes hbase
  unfold Oper.wp execOp
  simp only [ho, resolve, invoke, builtin, Sem.run_bind, Sem.run_pure, Result.andThen_ok, List.map_toArray, List.map_cons, List.map_nil, hs, hx, hr]
  exact h v' w' h2 h3

set_option maxRecDepth 100000 in
set_option maxHeartbeats 3200000 in
theorem table_any (m : Int) (B R L : Nat) (w : World) (h : Rd B R L w) (hL : L ≤ 990000) (hm : 0 ≤ m) (hm2 : m ≤ 1000000) :
    Calls Try.prog 23 #[.pointer (some ⟨R, 0, none⟩), .int .i64 m] w fun e w' => ∃ g c us, e = .returned (.agg #[.slice g (us : List (Int × Int)).length c]) ∧ OwnTab w' w.heap.size (.slice g us.length c) us ∧ (us.length ≤ 8 ∧ SmE us) ∧ w.grownBy w' (some R) ∧ Rd B R (L + 90) w' := by
  have hR := h.lt
  have hBR := h.base
  have H := Lib.hid h
  clear h
  go_enter Try.func23, Try.ntmps23
  go_wp2_with fail
  (go_at_call 16; refine (pick_any 8 B R L _ (by first | exact rd_alloc (rd_alloc H.out _) _ | exact rd_put (rd_alloc (rd_alloc H.out _) _) _ (by simp; omega) (by simp; omega)) (by omega)).mono ?_; rintro e w1 ⟨k, rfl, hk, g1, r1⟩)
  have hI : TabI w.heap.size B R (L + 1) w w1 none 0 [] := by
    refine ⟨⟨gbox (by simp) g1 (by omega), gboxf (v := .slice none 0 0) (by simp) (by simp) g1 (by omega)⟩, ⟨gbox (by simp) g1 (by omega), gboxf (v := .slice none 0 0) (by simp) (by simp) g1 (by omega)⟩, World.ownsRow_nil _ _ _ _, fun x hx => (by cases hx), ?_, r1⟩
    exact ((World.grownBy_alloc w _ _).trans (World.grownBy_alloc _ _ _)).trans g1
  have HI := Lib.hid hI
  clear hI g1 r1
  go_wp2_with fail
  go_loopw [6] (fun i wr => ∃ k : Nat, k ≤ 7 ∧ i = .int .i64 k ∧ ∃ g c us, (us : List (Int × Int)).length ≤ 6 ∧ Hid (TabI w.heap.size B R (L + 22 - 3 * k) w wr g c us)) (fun i _ => (intOf i).toNat)
  case atStart => exact ⟨k, by omega, rfl, none, 0, [], by simp, ⟨(HI.out.1), HI.out.2.1, HI.out.2.2.1, HI.out.2.2.2.1, HI.out.2.2.2.2.1, HI.out.2.2.2.2.2.mono (by omega)⟩⟩
  case round =>
    obtain ⟨n, hn, rfl, g, c, us, hus, HJ⟩ := hrel
    have z := HJ.out.2.2.2.2.1.size
    by_cases hn0 : 0 < n
    · have hn0i : (0 : Int) < (n : Int) := by omega
      have t0 := HJ.out.2.1.1
      have tl := World.block_lt_of_cell? _ _ t0
      simp only at tl
      obtain ⟨LL, hLL⟩ : ∃ LL, LL = L + 22 - 3 * n := ⟨_, rfl⟩
      rw [← hLL] at HJ
      have R0 : Hid (Rd B R LL wr) := HJ.out.2.2.2.2.2
      have mk : Hid (∀ w', wr.grownBy w' (some R) → w'.cell? ⟨w.heap.size + 1, 0, none⟩ = some (.slice g us.length c) ∧ wr.grownBy w' (some R)) := fun w' hg => ⟨gbox HJ.out.2.1.1 hg (by omega), hg⟩
      have HTb : Hid (∀ w', wr.grownBy w' (some R) → TabAt w' (.slice g us.length c) us) := fun w' hg => (HJ.out.2.2.1.grown hg (by omega)).tab
      clear t0
      go_upto_region 5 with fail
      go_cut [7] (fun s7 wx => ∃ b g c vs, s7 = .pointer (some ⟨b, 0, none⟩) ∧ wx.cell? ⟨b, 0, none⟩ = some (.slice g (vs : List (Int × Int)).length c) ∧ OwnTab wx wr.heap.size (.slice g vs.length c) vs ∧ (vs.length ≤ 6 ∧ ∀ x ∈ vs, Sm x.1 x.2) ∧ wr.grownBy wx (some R) ∧ Rd B R (LL + 3) wx ∧ wr.heap.size ≤ b)
      case first =>
        go_region_held3 (fun w' => w'.cell? ⟨w.heap.size + 1, 0, none⟩ = some (.slice g us.length c) ∧ wr.grownBy w' (some R))
          (first
            | exact mk.out _ (grownB (Below.refl _ _).drew)
            | exact mk.out _ cc
            | exact mk.out _ (cc.trans (World.grownBy_alloc _ _ _))
            | exact mk.out _ (grown_new cc _ _ (by first | omega | (simp; done) | (simp; omega)))
            | exact mk.out _ (grownB (((Below.refl _ _).drew).alloc (Nat.le_refl _) _))
            | exact mk.out _ ((‹_ ∧ wr.grownBy _ (some R)›.2).trans (World.grownBy_alloc _ _ _))
            | exact mk.out _ (grown_new (‹_ ∧ wr.grownBy _ (some R)›.2) _ _ (by first | omega | exact (‹_ ∧ wr.grownBy _ (some R)›.2).size | (simp; done) | (simp; omega)))
            | (trace_state; fail))
          (first
            | (go_at_call 43; have hS := (by assumption : _ ∧ wr.grownBy _ (some R)); refine (in_sm B R LL _ (by first | exact rd_drew R0.out | exact rd_alloc (rd_drew R0.out) _ | exact rd_drew (rd_alloc R0.out _)) (by omega)).mono ?_; rintro e wN ⟨a, p, rfl, gN, rN, QN⟩; have cc : wr.grownBy wN (some R) := hS.2.trans gN; have RN := Lib.hid rN; have QQ := Lib.hid QN; have zc := cc.size; (first | (have hk := freshG gN (by simp; omega); obtain ⟨k0, kf⟩ := hk) | (have hk := freshGd gN (by omega); obtain ⟨k0, kf⟩ := hk) | skip); clear rN QN)
            | (go_at_call 42; (try have kb := World.block_lt_of_cell? _ _ k0); have hS := (by assumption : _ ∧ wr.grownBy _ (some R)); refine (put_drawn _ us a p _ (by omega) (HTb.out _ hS.2)).mono ?_; rintro e wN ⟨g', c', vs, q, rfl, ho, hv, bN⟩; have FR := Lib.hid ho; have HV := Lib.hid hv; have cc : wr.grownBy wN (some R) := hS.2.trans (grownB bN); have RM : Hid (Rd B R (LL + 3) wN) := (by first | exact rd_below RN.out bN (Nat.le_refl _) | exact rd_below (rd_alloc RN.out _) bN (Nat.le_refl _)); have zc := cc.size; have zh := hS.2.size; (first | (have hk := freshB bN; obtain ⟨k0, kf⟩ := hk) | (have hk := boxDB k0 kf bN; obtain ⟨k0, kf⟩ := hk) | skip); clear ho hv))
        all_goals (go_wp2_with fail; go_meet)
        all_goals (first
          | exact ⟨_, _, _, _, rfl, by simp, OwnTab.mono (FR.out.below ((Below.refl _ _).alloc (Nat.le_refl _) _)) (by first | omega | (simp; omega)), ⟨HV.out.1, fun x hx => (HV.out.2 x hx).elim (fun h => HJ.out.2.2.2.1 x h) (fun h => by rw [h]; exact QQ.out)⟩, cc.trans (World.grownBy_alloc _ _ _), rd_alloc RM.out _, by first | omega | (simp; omega)⟩
          | exact ⟨_, _, _, _, rfl, World.cell?_setCell_same _ _ _ k0, OwnTab.mono (ownsRow_setCell_below FR.out (by first | exact kb | (simp; done) | omega | (simp; omega)) _) (by first | omega | (simp; omega)), ⟨HV.out.1, fun x hx => (HV.out.2 x hx).elim (fun h => HJ.out.2.2.2.1 x h) (fun h => by rw [h]; exact QQ.out)⟩, grown_new cc _ _ (by first | omega | (simp; done) | (simp; omega)), rd_put RM.out _ (by first | omega | (simp; omega)) (by first | omega | (simp; omega)), by first | omega | (simp; done) | (simp; omega)⟩
          | (trace_state; fail))
      case rest =>
        obtain ⟨bx, gx, cx, vs, rfl, kx, ox, ⟨hv6, hvS⟩, gX, rx, lx⟩ := hcut
        have HK : Hid (TabI w.heap.size B R (LL + 3) w (wc.setCell ⟨w.heap.size + 1, 0, none⟩ (.slice gx vs.length cx)) gx cx vs) := HJ.out.set gX (by omega) hBR (Nat.le_refl _) (ox.mono (by omega)) hvS rx
        have t1 := gbox HJ.out.2.1.1 gX (by omega)
        have tf := gboxf HJ.out.2.1.1 HJ.out.2.1.2 gX (by omega)
        clear ox hvS gX rx
        go_wp2_with fail
        go_roundw
        case rel => exact ⟨n - 1, by omega, by go_num, gx, cx, vs, hv6, ⟨HK.out.1, HK.out.2.1, HK.out.2.2.1, HK.out.2.2.2.1, HK.out.2.2.2.2.1, HK.out.2.2.2.2.2.mono (by omega)⟩⟩
        case measure => simp [intOf]; omega
    · obtain rfl : n = 0 := by omega
      have R0 := HJ.out.2.2.2.2.2
      have hn0i : ¬ (0 : Int) < ((0 : Nat) : Int) := by omega
      go_wp2_with fail
      (go_at_call 44; refine (odd_any m B R (L + 22) _ R0 (by omega) hm hm2).mono ?_; rintro e w2 ⟨b, rfl, g2, r2⟩)
      have HJ2 : Hid (TabI w.heap.size B R (L + 23) w w2 g c us) := HJ.out.later g2 (by omega) (r2.mono (by omega))
      have z2 := HJ2.out.2.2.2.2.1.size
      clear HJ R0 g2 r2 HI
      have hul : us.length ≤ 6 := hus
      cases b
      · obtain ⟨gx, cx, xs, HX, hx8⟩ : ∃ gx cx xs, Hid (TabI w.heap.size B R (L + 23) w w2 gx cx xs) ∧ (xs : List (Int × Int)).length ≤ 8 := ⟨g, c, us, HJ2, by omega⟩
        clear HJ2
        have r0 := HX.out.1.1
        have t0 := HX.out.2.1.1
        have rf := HX.out.1.2
        have F := Lib.hid (HX.out.fin (M := L + 90) hR hBR hx8 (by omega))
        go_wp2_with fail
        exact bodyPost_ret (v := .agg #[.slice gx xs.length cx]) (by simp [results, Try.results23, go_sem, World.cell?_setCell_same _ _ _ r0]) rfl ⟨gx, cx, xs, rfl, F.out⟩
      · go_wp2_with fail
        (go_at_call 16; refine (pick_any 3 B R (L + 23) _ HJ2.out.2.2.2.2.2 (by omega)).mono ?_; rintro e w3 ⟨k3, rfl, hk3, g3, r3⟩)
        have HJ3 : Hid (TabI w.heap.size B R (L + 24) w w3 g c us) := HJ2.out.later g3 (by omega) (r3.mono (by omega))
        have z3 := HJ3.out.2.2.2.2.1.size
        have t3 := HJ3.out.2.1.1
        have tf3 := HJ3.out.2.1.2
        have tl3 := World.block_lt_of_cell? _ _ t3
        simp only at tl3
        clear HJ2 g3 r3
        obtain ⟨i0, hi, hz0, hz1, hz2⟩ := info_parts infoEnd
        rcases (show k3 = 0 ∨ k3 = 1 ∨ k3 = 2 by omega) with rfl | rfl | rfl
        · have RR : Hid (Rd B R (L + 24) w3.drew) := rd_drew HJ3.out.2.2.2.2.2
          have mk : Hid (∀ w', w3.grownBy w' (some R) → Rd B R (L + 26) w' → TabI w.heap.size B R (L + 26) w w' g c us) := fun w' hg hr => HJ3.out.later hg (by omega) hr
          go_upto_region 12 with fail
          go_region_law (first
            | (refine step_append_more _ rfl (.tmp 46) (.tmp 49) 32 rfl (w.heap.size + 2) 39 i0 (.agg #[.int .i64 0, .int .i64 0]) 2 16 Try.underlying32 hi hz0 hz1 hz2 rfl (by decide) (.slice g us.length c) us.length (flatE us) (by rfl) (HO4.out _) ⟨w4.heap.size, 0, none⟩ 1 1 [.int .i64 a, .int .i64 p] (by rfl) (by rfl) (World.news_of_block (cs := #[.int .i64 a, .int .i64 p]) (t := 39) (heap_last _ _)) (by intro u hu; simp at hu; rcases hu with rfl | rfl <;> rfl) (by unfold maxLen; omega) (by omega) (by simp; omega) ?_
               intro v5 w5 hown5 hgrow5
               have HB5 : Hid (BoxI w.heap.size B R (L + 26) w w5 (.slice g us.length c)) := HJ4.out.box.app ((World.grownBy_alloc _ _ _).trans hgrow5) (fun k e => (HJ4.out.2.2.1.ge k e)) hR hBR (Nat.le_refl _)
               obtain ⟨gx, cx, xs, rfl, o5, l5, e5⟩ := own_snoc hown5
               have HX := Lib.hid (HB5.out.close hR hBR (Nat.le_refl _) o5 (sm_snoc HJ4.out.2.2.2.1 e5 QQ.out))
               have t5 := HB5.out.2.1.1
               have tf5 := HB5.out.2.1.2
               have hx8 : xs.length ≤ 8 := by omega
               clear hown5 hgrow5 o5 l5 e5 t4 tf4)
            | (go_simp; go_at_call 45; refine (out_sm B R (L + 24) _ RR.out (by omega)).mono ?_; rintro e w4 ⟨a, p, rfl, g4, r4, Q4⟩; have HJ4 : Hid (TabI w.heap.size B R (L + 26) w w4 g c us) := mk.out _ ((grownB (Below.refl _ _).drew).trans g4) r4; have QQ := Lib.hid Q4; have HO4 : Hid (∀ x, OwnTab (w4.alloc x) (w.heap.size + 2) (.slice g us.length c) us) := (fun x => HJ4.out.2.2.1.below ((Below.refl _ _).alloc (Nat.le_refl _) _)); have t4 := HJ4.out.2.1.1; have tf4 := HJ4.out.2.1.2; have z4 := HJ4.out.2.2.2.2.1.size; have tl4 := World.block_lt_of_cell? _ _ t4; simp only at tl4; clear g4 r4 Q4))
          all_goals
            have r0 := HX.out.1.1
            have t0 := HX.out.2.1.1
            have rf := HX.out.1.2
            have F := Lib.hid (HX.out.fin (M := L + 90) hR hBR hx8 (by omega))
            go_wp2_with fail
            exact bodyPost_ret (v := .agg #[.slice gx xs.length cx]) (by simp [results, Try.results23, go_sem, World.cell?_setCell_same _ _ _ r0]) rfl ⟨gx, cx, xs, rfl, F.out⟩
        · have HO3 : Hid (∀ x, OwnTab (w3.alloc x) (w.heap.size + 2) (.slice g us.length c) us) := fun x => HJ3.out.2.2.1.below ((Below.refl _ _).alloc (Nat.le_refl _) _)
          have HB3 := Lib.hid HJ3.out.box
          go_wp2_with (at_builtin; refine wpList_append_own _ rfl (.tmp 55) (.tmp 57) 32 rfl (w.heap.size + 2) 39 i0 (.agg #[.int .i64 0, .int .i64 0]) 2 16 Try.underlying32 hi hz0 hz1 hz2 rfl (by decide) _ _ _ rfl (HO3.out _) ⟨w3.heap.size, 0, none⟩ 1 1 [.int .i64 9, .int .i64 9] rfl rfl ?c1 ?c2 ?c3 ?c4 ?c5 ?_)
          case c1 =>
            intro j u hj
            match j, hj with
            | 0, hj => simp at hj; subst hj; simp [Addr.add]
            | 1, hj => simp at hj; subst hj; simp [Addr.add]
          case c2 => intro u hu; simp at hu; rcases hu with rfl | rfl <;> rfl
          case c3 => unfold maxLen; omega
          case c4 => omega
          case c5 => simp; omega
          intro v4 w4 hown4 hgrow4 _
          have HB4 : Hid (BoxI w.heap.size B R (L + 24) w w4 (.slice g us.length c)) := HB3.out.app ((World.grownBy_alloc _ _ _).trans hgrow4) (fun k e => (HJ3.out.2.2.1.ge k e)) hR hBR (Nat.le_refl _)
          obtain ⟨g4, c4, us4, rfl, o4, l4, e4⟩ := own_snoc hown4
          have hs4 := Lib.hid (sm_snoc HJ3.out.2.2.2.1 e4 (by unfold Sm; decide))
          have O4 := Lib.hid o4
          have L4 := Lib.hid l4
          have l4b : us4.length ≤ 7 := by omega
          clear e4 l4
          have HO4 : Hid (∀ x, OwnTab (w4.alloc x) (w.heap.size + 2) (.slice g4 us4.length c4) us4) := fun x => o4.below ((Below.refl _ _).alloc (Nat.le_refl _) _)
          have z4 := HB4.out.2.2.1.size
          have t4 := HB4.out.2.1.1
          have tl4 := World.block_lt_of_cell? _ _ t4
          simp only at tl4
          clear hown4 hgrow4 HB3 HO3 HJ3 t3 tf3
          go_wp2_with (at_builtin; refine wpList_append_own _ rfl (.tmp 58) (.tmp 60) 32 rfl (w.heap.size + 2) 39 i0 (.agg #[.int .i64 0, .int .i64 0]) 2 16 Try.underlying32 hi hz0 hz1 hz2 rfl (by decide) _ _ _ rfl (HO4.out _) ⟨w4.heap.size, 0, none⟩ 1 1 [.int .i64 9, .int .i64 9] rfl rfl ?c1 ?c2 ?c3 ?c4 ?c5 ?_)
          case c1 =>
            intro j u hj
            match j, hj with
            | 0, hj => simp at hj; subst hj; simp [Addr.add]
            | 1, hj => simp at hj; subst hj; simp [Addr.add]
          case c2 => intro u hu; simp at hu; rcases hu with rfl | rfl <;> rfl
          case c3 => unfold maxLen; omega
          case c4 => omega
          case c5 => simp; omega
          intro v5 w5 hown5 hgrow5 _
          have HB5 : Hid (BoxI w.heap.size B R (L + 24) w w5 (.slice g us.length c)) := HB4.out.app ((World.grownBy_alloc _ _ _).trans hgrow5) (fun k e => (O4.out.ge k e)) hR hBR (Nat.le_refl _)
          obtain ⟨gx, cx, xs, rfl, o5, l5, e5⟩ := own_snoc hown5
          have HX := Lib.hid (HB5.out.close hR hBR (Nat.le_refl _) o5 (sm_snoc hs4.out e5 (by unfold Sm; decide)))
          have t5 := HB5.out.2.1.1
          have tf5 := HB5.out.2.1.2
          have hx8 : xs.length ≤ 8 := by have := L4.out; omega
          clear hown5 hgrow5 o4 O4 o5 l5 e5 HB4 HB5 HO4 t4 L4
          have r0 := HX.out.1.1
          have t0 := HX.out.2.1.1
          have rf := HX.out.1.2
          have F := Lib.hid (HX.out.fin (M := L + 90) hR hBR hx8 (by omega))
          go_wp2_with fail
          exact bodyPost_ret (v := .agg #[.slice gx xs.length cx]) (by simp [results, Try.results23, go_sem, World.cell?_setCell_same _ _ _ r0]) rfl ⟨gx, cx, xs, rfl, F.out⟩
        · have hx6 : us.length ≤ 7 := by omega
          go_wp2_with fail
          go_loopw [] (fun wr => ∃ g c us, (us : List (Int × Int)).length ≤ 7 ∧ Hid (TabI w.heap.size B R (L + 24) w wr g c us)) (fun wr => 8 - lenAt (w.heap.size + 1) wr)
          case atStart => exact ⟨g, c, us, hx6, HJ3⟩
          case round =>
            obtain ⟨g, c, us, hx7, HJ⟩ := hrel
            have zr := HJ.out.2.2.2.2.1.size
            have tr := HJ.out.2.1.1
            have tfr := HJ.out.2.1.2
            have tlr := World.block_lt_of_cell? _ _ tr
            simp only at tlr
            have HLn := Lib.hid (lenAt_of tr)
            by_cases hle : us.length ≤ 6
            · have hlei : (us.length : Int) ≤ 6 := by omega
              have HOr : Hid (∀ x, OwnTab (wr.alloc x) (w.heap.size + 2) (.slice g us.length c) us) := fun x => HJ.out.2.2.1.below ((Below.refl _ _).alloc (Nat.le_refl _) _)
              have hsm : Hid (Sm 8 (1 + (us.length : Int))) := by show Sm _ _; unfold Sm; omega
              go_wp2_with (at_builtin; refine wpList_append_own _ rfl (.tmp 34) (.tmp 40) 32 rfl (w.heap.size + 2) 39 i0 (.agg #[.int .i64 0, .int .i64 0]) 2 16 Try.underlying32 hi hz0 hz1 hz2 rfl (by decide) _ _ _ rfl (HOr.out _) ⟨wr.heap.size, 0, none⟩ 1 1 [.int .i64 8, .int .i64 (1 + (us.length : Int))] rfl rfl ?c1 ?c2 ?c3 ?c4 ?c5 ?_)
              case c1 =>
                intro j u hj
                match j, hj with
                | 0, hj => simp at hj; subst hj; simp [Addr.add]
                | 1, hj => simp at hj; subst hj; simp [Addr.add]
              case c2 => intro u hu; simp at hu; rcases hu with rfl | rfl <;> rfl
              case c3 => unfold maxLen; omega
              case c4 => omega
              case c5 => simp; omega
              intro v5 w5 hown5 hgrow5 _
              have HB5 : Hid (BoxI w.heap.size B R (L + 24) w w5 (.slice g us.length c)) := HJ.out.box.app ((World.grownBy_alloc _ _ _).trans hgrow5) (fun k e => (HJ.out.2.2.1.ge k e)) hR hBR (Nat.le_refl _)
              obtain ⟨gx, cx, xs, rfl, o5, l5, e5⟩ := own_snoc hown5
              have HX := Lib.hid (HB5.out.close hR hBR (Nat.le_refl _) o5 (sm_snoc HJ.out.2.2.2.1 e5 hsm.out))
              have t5 := HB5.out.2.1.1
              have tf5 := HB5.out.2.1.2
              have L5 := Lib.hid l5
              clear hown5 hgrow5 o5 l5 e5 HB5 tr tfr
              go_wp2_with fail
              go_roundw
              case rel => exact ⟨gx, cx, xs, by have := L5.out; omega, HX⟩
              case measure => have h1 := HLn.out; have h2 := lenAt_of HX.out.2.1.1; have := L5.out; rw [h1, h2]; omega
            · have hlei : ¬ (us.length : Int) ≤ 6 := by omega
              obtain ⟨gx, cx, xs, HX, hx8, hxl⟩ : ∃ gx cx xs, Hid (TabI w.heap.size B R (L + 24) w wr gx cx xs) ∧ (xs : List (Int × Int)).length ≤ 8 ∧ ¬ (xs.length : Int) ≤ 6 := ⟨g, c, us, HJ, by omega, hlei⟩
              clear HJ tr tfr HLn hlei
              have r0 := HX.out.1.1
              have t0 := HX.out.2.1.1
              have rf := HX.out.1.2
              have F := Lib.hid (HX.out.fin (M := L + 90) hR hBR hx8 (by omega))
              go_wp2_with fail
              exact bodyPost_ret (v := .agg #[.slice gx xs.length cx]) (by simp [results, Try.results23, go_sem, World.cell?_setCell_same _ _ _ r0]) rfl ⟨gx, cx, xs, rfl, F.out⟩

end Go.Proofs.Ytbhpogddnpaacaa
