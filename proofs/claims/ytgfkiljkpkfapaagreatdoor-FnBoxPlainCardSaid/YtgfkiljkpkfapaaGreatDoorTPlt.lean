/- Lines that have gone outside: none has a sign, none names an end inside, and they go outside as they are. No condition. (Several texts, joined: DrawTab, DrawBO, DrawBOk, DrawBFar, FarI, GIBoxOk, GIFar, GFar, SRwrL, IRwrA, PortP, StrOut.) -/
import Derived.Test.YtgfkiljkpkfapaaGreatDoorTPlj
import Derived.Test.YtgfkiljkpkfapaaGreatDoorTPla
import Derived.Test.YtgfkiljkpkfapaaGreatDoorTPlr
import Derived.Test.YtgfkiljkpkfapaaGreatDoorTPls
import Derived.Test.YtgfkiljkpkfapaaGreatDoorTPlm
import Derived.Test.YtgfkiljkpkfapaaGreatDoorTPlg
import Derived.Test.YtgfkiljkpkfapaaGreatDoorTPlh
import Derived.Test.YtgfkiljkpkfapaaGreatDoorTPlb
import Derived.Test.YtgfkiljkpkfapaaGreatDoorTPlf
import Derived.Test.YtgfkiljkpkfapaaGreatDoorTPlk
import Derived.Test.YtgfkiljkpkfapaaGreatDoorTPld

/- The table that is drawn: some table, or what is none, of few ends, in memory of the call's own. Conditions: the reader is there; its place is small. -/
namespace Go.Proofs.YtgfkiljkpkfapaaGreatDoor
open Go.RowKit

theorem mapB_six {es : List (Int × Int)} (h : mapB es = true) : es.length ≤ 6 := by
  unfold mapB at h
  simp at h
  exact h.1

theorem putE_six {es : List (Int × Int)} {e : Int × Int} (h : es.length ≤ 6) : (putE es e).1.length ≤ 6 := by
  unfold putE
  split
  · exact h
  · split
    · exact h
    · simp; omega

theorem putE_mem {es : List (Int × Int)} {e x : Int × Int} (h : x ∈ (putE es e).1) : x ∈ es ∨ x = e := by
  unfold putE at h
  split at h
  · exact .inl h
  · split at h
    · exact .inl h
    · simpa using h

/-- MapPut at whatever: some table of at most six ends, each of the old ones or the new one. -/
theorem put_drawn (v : Value) (es : List (Int × Int)) (a p : Int) (w : World) (hn : es.length ≤ 4194304) (ht : TabAt w v es) :
    Calls Tryz.prog 115 #[.agg #[v], .agg #[.int .i64 a, .int .i64 p]] w fun e w' => ∃ g c us q, e = .returned (.tuple #[.agg #[.slice g (us : List (Int × Int)).length c], .int .i64 q]) ∧ OwnTab w' w.heap.size (.slice g us.length c) us ∧ (us.length ≤ 6 ∧ ∀ x ∈ us, x ∈ es ∨ x = (a, p)) ∧ Below w.heap.size w w' := by
  by_cases h : (mapB es && insB a p) = true
  · have h' := h
    simp at h'
    refine (specMapPut_ok v es a p w hn ht h'.1 h'.2).mono ?_
    rintro e w' ⟨g, c, rfl, ho, hb⟩
    exact ⟨some g, c, _, _, rfl, ho, ⟨putE_six (mapB_six h'.1), fun x hx => putE_mem hx⟩, hb⟩
  · refine (specMapPut_not v es a p w hn ht (by simpa using h)).mono ?_
    rintro e w' ⟨rfl, hb⟩
    exact ⟨none, 0, [], _, rfl, World.ownsRow_nil _ _ _ _, ⟨by simp, fun x hx => by cases hx⟩, hb⟩

theorem OwnTab.grown {w w' : World} {B R : Nat} {v : Value} {es : List (Int × Int)} (h : OwnTab w B v es) (hg : w.grownBy w' (some R)) (hR : R < B) : OwnTab w' B v es := by
  refine World.ownsRow.kept h hg ?_
  obtain ⟨_, h1 | ⟨g, cap, cur, rfl, hb, _⟩⟩ := h
  · rw [h1.1]; exact .inl rfl
  · exact .inr (by simp [Value.ownBlock]; omega)

theorem grownB {w w' : World} {row : Option Nat} (h : Below w.heap.size w w') : w.grownBy w' row :=
  ⟨h.os, h.tape, h.output, h.size, fun k hk _ => h.block k hk⟩
theorem gbox {w w' : World} {b i R : Nat} {v : Value} (h : w.cell? ⟨b, i, none⟩ = some v) (hg : w.grownBy w' (some R)) (hne : b ≠ R) : w'.cell? ⟨b, i, none⟩ = some v := by
  rw [(gcell hg (World.block_lt_of_cell? w _ h) hne i).1]; exact h
theorem gboxf {w w' : World} {b i R : Nat} {v : Value} (h : w.cell? ⟨b, i, none⟩ = some v) (hf : w.frozen? ⟨b, i, none⟩ = false) (hg : w.grownBy w' (some R)) (hne : b ≠ R) : w'.frozen? ⟨b, i, none⟩ = false := by
  rw [(gcell hg (World.block_lt_of_cell? w _ h) hne i).2]; exact hf
/-- A box of one cell that a drawer finds new. -/
theorem freshG {W w : World} {x : Value} {t : TypeId} {R : Nat} (h : (W.alloc (.cells #[x] t)).grownBy w (some R)) (hR : W.heap.size ≠ R) : w.cell? ⟨W.heap.size, 0, none⟩ = some x ∧ w.frozen? ⟨W.heap.size, 0, none⟩ = false :=
  ⟨gbox (by simp) h hR, gboxf (v := x) (by simp) (cell_new W _ _ 0).2 h hR⟩
theorem freshGd {W w : World} {x : Value} {t : TypeId} {R : Nat} (h : (W.alloc (.cells #[x] t)).drew.grownBy w (some R)) (hR : W.heap.size ≠ R) : w.cell? ⟨W.heap.size, 0, none⟩ = some x ∧ w.frozen? ⟨W.heap.size, 0, none⟩ = false :=
  freshG ((grownB (Below.refl _ _).drew).trans h) hR
/-- A box of one cell that a call finds new. -/
theorem freshB {W w : World} {x : Value} {t : TypeId} (h : Below (W.alloc (.cells #[x] t)).heap.size (W.alloc (.cells #[x] t)) w) : w.cell? ⟨W.heap.size, 0, none⟩ = some x ∧ w.frozen? ⟨W.heap.size, 0, none⟩ = false :=
  ⟨by rw [h.cell (by simp)]; simp, by rw [h.frozen (by simp)]; exact (cell_new W _ _ 0).2⟩
theorem boxDB {w w' : World} {b i : Nat} {v : Value} (h : w.cell? ⟨b, i, none⟩ = some v) (hf : w.frozen? ⟨b, i, none⟩ = false) (hb : Below w.heap.size w w') : w'.cell? ⟨b, i, none⟩ = some v ∧ w'.frozen? ⟨b, i, none⟩ = false :=
  ⟨by rw [hb.cell (p := ⟨b, i, none⟩) (World.block_lt_of_cell? w _ h)]; exact h, by rw [hb.frozen (p := ⟨b, i, none⟩) (World.block_lt_of_cell? w _ h)]; exact hf⟩

/-- Ends with small numbers. -/
def SmE (us : List (Int × Int)) : Prop := ∀ x ∈ us, Sm x.1 x.2

/-- How things stand while a table is drawn: the result's box at b, the table's behind it, its row behind both. -/
def TabI (b B R L : Nat) (w0 w : World) (g : Option Addr) (c : Nat) (us : List (Int × Int)) : Prop :=
  (w.cell? ⟨b, 0, none⟩ = some (.slice none 0 0) ∧ w.frozen? ⟨b, 0, none⟩ = false) ∧ (w.cell? ⟨b + 1, 0, none⟩ = some (.slice g us.length c) ∧ w.frozen? ⟨b + 1, 0, none⟩ = false) ∧ OwnTab w (b + 2) (.slice g us.length c) us ∧ (∀ x ∈ us, Sm x.1 x.2) ∧ w0.grownBy w (some R) ∧ Rd B R L w

theorem TabI.set {b B R L L' : Nat} {w0 w wc : World} {g g' : Option Addr} {c c' : Nat} {us vs : List (Int × Int)} (h : TabI b B R L w0 w g c us) (hg : w.grownBy wc (some R)) (hR : R < b) (hB : B ≤ R) (h0 : w0.heap.size ≤ b) (ho : OwnTab wc (b + 2) (.slice g' vs.length c') vs) (hv : ∀ x ∈ vs, Sm x.1 x.2) (hr : Rd B R L' wc) :
    TabI b B R L' w0 (wc.setCell ⟨b + 1, 0, none⟩ (.slice g' vs.length c')) g' c' vs := by
  obtain ⟨⟨r0, rf⟩, ⟨t0, tf⟩, _, _, hgr, _⟩ := h
  have t1 := gbox t0 hg (by omega)
  refine ⟨⟨?_, ?_⟩, ⟨World.cell?_setCell_same _ _ _ t1, ?_⟩, ownsRow_setCell_below (a := ⟨b + 1, 0, none⟩) ho (by simp) _, hv, grown_new (hgr.trans hg) _ _ (by omega), rd_put hr _ (by omega) (by omega)⟩
  · rw [World.cell?_setCell_other _ _ _ _ (by simp)]; exact gbox r0 hg (by omega)
  · rw [World.frozen?_setCell]; exact gboxf r0 rf hg (by omega)
  · rw [World.frozen?_setCell]; exact gboxf t0 tf hg (by omega)

theorem TabI.later {b B R L L' : Nat} {w0 w w' : World} {g : Option Addr} {c : Nat} {us : List (Int × Int)} (h : TabI b B R L w0 w g c us) (hg : w.grownBy w' (some R)) (hR : R < b) (hr : Rd B R L' w') : TabI b B R L' w0 w' g c us := by
  obtain ⟨⟨r0, rf⟩, ⟨t0, tf⟩, ho, hs, hgr, _⟩ := h
  exact ⟨⟨gbox r0 hg (by omega), gboxf r0 rf hg (by omega)⟩, ⟨gbox t0 hg (by omega), gboxf t0 tf hg (by omega)⟩, ho.grown hg (by omega), hs, hgr.trans hg, hr⟩
/-- What is left behind, once the table is stored as the result. -/
theorem TabI.fin {B R L M : Nat} {w0 w : World} {g : Option Addr} {c : Nat} {us : List (Int × Int)} (h : TabI w0.heap.size B R L w0 w g c us) (hR : R < w0.heap.size) (hB : B ≤ R) (h8 : us.length ≤ 8) (hL : L ≤ M) :
    OwnTab (w.setCell ⟨w0.heap.size, 0, none⟩ (.slice g us.length c)) w0.heap.size (.slice g us.length c) us ∧ (us.length ≤ 8 ∧ SmE us) ∧ w0.grownBy (w.setCell ⟨w0.heap.size, 0, none⟩ (.slice g us.length c)) (some R) ∧ Rd B R M (w.setCell ⟨w0.heap.size, 0, none⟩ (.slice g us.length c)) := by
  obtain ⟨_, _, ho, hs, hgr, hr⟩ := h
  exact ⟨OwnTab.mono (B := w0.heap.size + 2) (ownsRow_setCell_below (a := ⟨w0.heap.size, 0, none⟩) ho (by simp) _) (by omega), ⟨h8, hs⟩, grown_new hgr _ _ (Nat.le_refl _), rd_put (hr.mono hL) _ (by omega) (by omega)⟩

/-- The boxes alone: the table's holds v. -/
def BoxI (b B R L : Nat) (w0 w : World) (v : Value) : Prop :=
  (w.cell? ⟨b, 0, none⟩ = some (.slice none 0 0) ∧ w.frozen? ⟨b, 0, none⟩ = false) ∧ (w.cell? ⟨b + 1, 0, none⟩ = some v ∧ w.frozen? ⟨b + 1, 0, none⟩ = false) ∧ w0.grownBy w (some R) ∧ Rd B R L w
theorem TabI.box {b B R L : Nat} {w0 w : World} {g : Option Addr} {c : Nat} {us : List (Int × Int)} (h : TabI b B R L w0 w g c us) : BoxI b B R L w0 w (.slice g us.length c) := ⟨h.1, h.2.1, h.2.2.2.2.1, h.2.2.2.2.2⟩
theorem gcellN {w w' : World} {row : Option Nat} (hg : w.grownBy w' row) {b i : Nat} {v : Value} (h : w.cell? ⟨b, i, none⟩ = some v) (hf : w.frozen? ⟨b, i, none⟩ = false) (hne : row ≠ some b) : w'.cell? ⟨b, i, none⟩ = some v ∧ w'.frozen? ⟨b, i, none⟩ = false := by
  have hk := hg.block b (World.block_lt_of_cell? w _ h) (Ne.symm hne)
  exact ⟨(World.cell?_of_block (a := ⟨b, i, none⟩) hk).trans h, (World.frozen?_of_block (a := ⟨b, i, none⟩) hk).trans hf⟩
theorem BoxI.app {b B R L : Nat} {w0 w w' : World} {v : Value} {row : Option Nat} (h : BoxI b B R L w0 w v) (hg : w.grownBy w' row) (hrow : ∀ k, row = some k → b + 2 ≤ k) (hR : R < b) (hB : B ≤ R) (h0 : w0.heap.size ≤ b) : BoxI b B R L w0 w' v := by
  obtain ⟨⟨r0, rf⟩, ⟨t0, tf⟩, hgr, hr⟩ := h
  have n0 : row ≠ some b := fun e => by have := hrow _ e; omega
  have n1 : row ≠ some (b + 1) := fun e => by have := hrow _ e; omega
  exact ⟨gcellN hg r0 rf n0, gcellN hg t0 tf n1, hgr.andThen hg (fun j e => .inl (by have := hrow _ e; omega)), rd_kept hr hg (fun j e => by have := hrow _ e; exact ⟨by omega, by omega⟩)⟩
theorem BoxI.close {b B R L : Nat} {w0 w : World} {v : Value} {g : Option Addr} {c : Nat} {us : List (Int × Int)} (h : BoxI b B R L w0 w v) (hR : R < b) (hB : B ≤ R) (h0 : w0.heap.size ≤ b) (ho : OwnTab w (b + 2) (.slice g us.length c) us) (hs : ∀ x ∈ us, Sm x.1 x.2) :
    TabI b B R L w0 (w.setCell ⟨b + 1, 0, none⟩ (.slice g us.length c)) g c us := by
  obtain ⟨⟨r0, rf⟩, ⟨t0, tf⟩, hgr, hr⟩ := h
  refine ⟨⟨?_, ?_⟩, ⟨World.cell?_setCell_same _ _ _ t0, ?_⟩, ownsRow_setCell_below (a := ⟨b + 1, 0, none⟩) ho (by simp) _, hs, grown_new hgr _ _ (by omega), rd_put hr _ (by omega) (by omega)⟩
  · rw [World.cell?_setCell_other _ _ _ _ (by simp)]; exact r0
  · rw [World.frozen?_setCell]; exact rf
  · rw [World.frozen?_setCell]; exact tf
theorem own_snoc {w : World} {B : Nat} {v : Value} {us : List (Int × Int)} {a p : Int} (h : w.ownsRow B 31 2 v (us.length + 1) (flatE us ++ [.int .i64 a, .int .i64 p])) :
    ∃ g c vs, v = .slice g (vs : List (Int × Int)).length c ∧ OwnTab w B (.slice g vs.length c) vs ∧ vs.length = us.length + 1 ∧ vs = us ++ [(a, p)] := by
  have ho : OwnTab w B v (us ++ [(a, p)]) := by
    show w.ownsRow _ _ _ _ _ _
    rw [flatE_app, List.length_append]
    simpa [flatE] using h
  obtain ⟨g, c, e⟩ := ho.form
  exact ⟨g, c, _, e, e ▸ ho, by simp, rfl⟩
theorem OwnTab.ge {w : World} {B : Nat} {v : Value} {es : List (Int × Int)} (h : OwnTab w B v es) : ∀ k, v.ownBlock = some k → B ≤ k := by
  intro k hk
  obtain ⟨_, h1 | ⟨g, cap, cur, rfl, hb, _⟩⟩ := h
  · rw [h1.1] at hk; cases hk
  · simp [Value.ownBlock] at hk; omega
theorem sm_snoc {us vs : List (Int × Int)} {a p : Int} (h : ∀ x ∈ us, Sm x.1 x.2) (e : vs = us ++ [(a, p)]) (hs : Sm a p) : ∀ x ∈ vs, Sm x.1 x.2 := by
  subst e
  intro x hx
  simp at hx
  rcases hx with hx | rfl
  · exact h x hx
  · exact hs
/-- How long the slice in a box is. -/
def lenAt (b : Nat) (w : World) : Nat := match w.cell? ⟨b, 0, none⟩ with | some (.slice _ n _) => n | _ => 0
theorem lenAt_of {b : Nat} {w : World} {g : Option Addr} {n c : Nat} (h : w.cell? ⟨b, 0, none⟩ = some (.slice g n c)) : lenAt b w = n := by unfold lenAt; rw [h]

/-- append onto a slice of the call's own, something or other, at a step of a region that draws its order. -/
theorem step_append_more {P : Program} (w : World) {ops : Array Oper} {o : Oper} {a : Act} {K : Act → World → Prop} {Q : Exit → Act → World → Prop} {E : Prop} (hgd : o.guard = none) (s x : Operand) (t : TypeId)
    (ho : o.op = .call { callee := .builtin .append, args := #[s, x], argTypes := #[t, t] })
    (base : Nat) (e : TypeId) (i : TypeInfo) (z : Value) (size bytes : Nat) (ht : P.underlying t = some (.slice e)) (hi : P.info? e = some i) (hz : i.zero = some z)
    (hsize : i.size = size) (hby : i.bytes = bytes) (hzs : z.cells.size = size) (hsz : 0 < size)
    (v : Value) (n : Nat) (xs : List Value) (hs : a.eval s = v) (hown : w.ownsRow base e size v n xs)
    (ad : Addr) (m c : Nat) (news : List Value) (hx : a.eval x = .slice (some ad) m c) (hl : news.length = m * size) (hnews : ∀ j u, news[j]? = some u → w.cell? (ad.add j) = some u) (h1 : ∀ u ∈ news, u.oneCell' = true)
    (h63 : n + m ≤ maxLen) (hbytes : (n + m) * bytes ≤ 140737488355328) (hbase : base ≤ w.heap.size)
    (h : ∀ v' w', w'.ownsRow base e size v' (n + m) (xs ++ news) → w.grownBy w' v.ownBlock → K (a.put o.dst v') w') :
    if Region.wanted o (yielded ops a.tmps) = true then Oper.wp P o a w K Q else E := by
  have hw : Region.wanted o (yielded ops a.tmps) = true := by simp [Region.wanted, hgd]
  rw [if_pos hw]
  obtain ⟨v', w', hr, h2, h3, _, _⟩ := run_append_own_at (P := P) w base t o.type e i z size bytes ht hi hz hsize hby hzs hsz v n xs hown ad m c news hl hnews h1 h63 hbytes hbase
  unfold Oper.wp execOp
  simp only [ho, resolve, invoke, builtin, Sem.run_bind, Sem.run_pure, Result.andThen_ok, List.map_toArray, List.map_cons, List.map_nil, hs, hx, hr]
  exact h v' w' h2 h3

set_option maxRecDepth 100000 in
set_option maxHeartbeats 3200000 in
theorem table_any (m : Int) (B R L : Nat) (w : World) (h : Rd B R L w) (hL : L ≤ 990000) (hm : 0 ≤ m) (hm2 : m ≤ 1000000) :
    Calls Tryz.prog 66 #[.pointer (some ⟨R, 0, none⟩), .int .i64 m] w fun e w' => ∃ g c us, e = .returned (.agg #[.slice g (us : List (Int × Int)).length c]) ∧ OwnTab w' w.heap.size (.slice g us.length c) us ∧ (us.length ≤ 8 ∧ SmE us) ∧ w.grownBy w' (some R) ∧ Rd B R (L + 90) w' := by
  have hR := h.lt
  have hBR := h.base
  have H := Lib.hid h
  clear h
  go_enter Tryz.func66, Tryz.ntmps66
  go_wp2_with fail
  (go_at_call 27; refine (pick_any 8 B R L _ (by first | exact rd_alloc (rd_alloc H.out _) _ | exact rd_put (rd_alloc (rd_alloc H.out _) _) _ (by simp; omega) (by simp; omega)) (by omega)).mono ?_; rintro e w1 ⟨k, rfl, hk, g1, r1⟩)
  have hI : TabI w.heap.size B R (L + 1) w w1 none 0 [] := by
    refine ⟨⟨gbox (by simp) g1 (by omega), gboxf (v := .slice none 0 0) (by simp) (by simp) g1 (by omega)⟩, ⟨gbox (by simp) g1 (by omega), gboxf (v := .slice none 0 0) (by simp) (by simp) g1 (by omega)⟩, World.ownsRow_nil _ _ _ _, fun x hx => (by cases hx), ?_, r1⟩
    exact ((World.grownBy_alloc w _ _).trans (World.grownBy_alloc _ _ _)).trans g1
  have HI := Lib.hid hI
  clear hI g1 r1
  go_wp2_with fail
  go_loopw [6] (fun i wr => ∃ k : Nat, k ≤ 7 ∧ i = .int .i64 k ∧ ∃ g c us, (us : List (Int × Int)).length ≤ 6 ∧ Hid (TabI w.heap.size B R (L + 22 - 3 * k) w wr g c us)) (fun i _ => (intOf i).toNat)
  case atStart => exact ⟨k, by omega, rfl, none, 0, [], by simp, ⟨(HI.out.1), HI.out.2.1, HI.out.2.2.1, HI.out.2.2.2.1, HI.out.2.2.2.2.1, HI.out.2.2.2.2.2.mono (by omega)⟩⟩
  case round =>
    obtain ⟨n, hn, rfl, g, c, us, hus, HJ⟩ := hrel
    have z := HJ.out.2.2.2.2.1.size
    by_cases hn0 : 0 < n
    · have hn0i : (0 : Int) < (n : Int) := by omega
      have t0 := HJ.out.2.1.1
      have tl := World.block_lt_of_cell? _ _ t0
      simp only at tl
      obtain ⟨LL, hLL⟩ : ∃ LL, LL = L + 22 - 3 * n := ⟨_, rfl⟩
      rw [← hLL] at HJ
      have R0 : Hid (Rd B R LL wr) := HJ.out.2.2.2.2.2
      have mk : Hid (∀ w', wr.grownBy w' (some R) → w'.cell? ⟨w.heap.size + 1, 0, none⟩ = some (.slice g us.length c) ∧ wr.grownBy w' (some R)) := fun w' hg => ⟨gbox HJ.out.2.1.1 hg (by omega), hg⟩
      have HTb : Hid (∀ w', wr.grownBy w' (some R) → TabAt w' (.slice g us.length c) us) := fun w' hg => (HJ.out.2.2.1.grown hg (by omega)).tab
      clear t0
      go_upto_region 5 with fail
      go_cut [7] (fun s7 wx => ∃ b g c vs, s7 = .pointer (some ⟨b, 0, none⟩) ∧ wx.cell? ⟨b, 0, none⟩ = some (.slice g (vs : List (Int × Int)).length c) ∧ OwnTab wx wr.heap.size (.slice g vs.length c) vs ∧ (vs.length ≤ 6 ∧ ∀ x ∈ vs, Sm x.1 x.2) ∧ wr.grownBy wx (some R) ∧ Rd B R (LL + 3) wx ∧ wr.heap.size ≤ b)
      case first =>
        go_region_held3 (fun w' => w'.cell? ⟨w.heap.size + 1, 0, none⟩ = some (.slice g us.length c) ∧ wr.grownBy w' (some R))
          (first
            | exact mk.out _ (grownB (Below.refl _ _).drew)
            | exact mk.out _ cc
            | exact mk.out _ (cc.trans (World.grownBy_alloc _ _ _))
            | exact mk.out _ (grown_new cc _ _ (by first | omega | (simp; done) | (simp; omega)))
            | exact mk.out _ (grownB (((Below.refl _ _).drew).alloc (Nat.le_refl _) _))
            | exact mk.out _ ((‹_ ∧ wr.grownBy _ (some R)›.2).trans (World.grownBy_alloc _ _ _))
            | exact mk.out _ (grown_new (‹_ ∧ wr.grownBy _ (some R)›.2) _ _ (by first | omega | exact (‹_ ∧ wr.grownBy _ (some R)›.2).size | (simp; done) | (simp; omega)))
            | (trace_state; fail))
          (first
            | (go_at_call 70; have hS := (by assumption : _ ∧ wr.grownBy _ (some R)); refine (in_sm B R LL _ (by first | exact rd_drew R0.out | exact rd_alloc (rd_drew R0.out) _ | exact rd_drew (rd_alloc R0.out _)) (by omega)).mono ?_; rintro e wN ⟨a, p, rfl, gN, rN, QN⟩; have cc : wr.grownBy wN (some R) := hS.2.trans gN; have RN := Lib.hid rN; have QQ := Lib.hid QN; have zc := cc.size; (first | (have hk := freshG gN (by simp; omega); obtain ⟨k0, kf⟩ := hk) | (have hk := freshGd gN (by omega); obtain ⟨k0, kf⟩ := hk) | skip); clear rN QN)
            | (go_at_call 115; (try have kb := World.block_lt_of_cell? _ _ k0); have hS := (by assumption : _ ∧ wr.grownBy _ (some R)); refine (put_drawn _ us a p _ (by omega) (HTb.out _ hS.2)).mono ?_; rintro e wN ⟨g', c', vs, q, rfl, ho, hv, bN⟩; have FR := Lib.hid ho; have HV := Lib.hid hv; have cc : wr.grownBy wN (some R) := hS.2.trans (grownB bN); have RM : Hid (Rd B R (LL + 3) wN) := (by first | exact rd_below RN.out bN (Nat.le_refl _) | exact rd_below (rd_alloc RN.out _) bN (Nat.le_refl _)); have zc := cc.size; have zh := hS.2.size; (first | (have hk := freshB bN; obtain ⟨k0, kf⟩ := hk) | (have hk := boxDB k0 kf bN; obtain ⟨k0, kf⟩ := hk) | skip); clear ho hv))
        all_goals (go_wp2_with fail; go_meet)
        all_goals (first
          | exact ⟨_, _, _, _, rfl, by simp, OwnTab.mono (FR.out.below ((Below.refl _ _).alloc (Nat.le_refl _) _)) (by first | omega | (simp; omega)), ⟨HV.out.1, fun x hx => (HV.out.2 x hx).elim (fun h => HJ.out.2.2.2.1 x h) (fun h => by rw [h]; exact QQ.out)⟩, cc.trans (World.grownBy_alloc _ _ _), rd_alloc RM.out _, by first | omega | (simp; omega)⟩
          | exact ⟨_, _, _, _, rfl, World.cell?_setCell_same _ _ _ k0, OwnTab.mono (ownsRow_setCell_below FR.out (by first | exact kb | (simp; done) | omega | (simp; omega)) _) (by first | omega | (simp; omega)), ⟨HV.out.1, fun x hx => (HV.out.2 x hx).elim (fun h => HJ.out.2.2.2.1 x h) (fun h => by rw [h]; exact QQ.out)⟩, grown_new cc _ _ (by first | omega | (simp; done) | (simp; omega)), rd_put RM.out _ (by first | omega | (simp; omega)) (by first | omega | (simp; omega)), by first | omega | (simp; done) | (simp; omega)⟩
          | (trace_state; fail))
      case rest =>
        obtain ⟨bx, gx, cx, vs, rfl, kx, ox, ⟨hv6, hvS⟩, gX, rx, lx⟩ := hcut
        have HK : Hid (TabI w.heap.size B R (LL + 3) w (wc.setCell ⟨w.heap.size + 1, 0, none⟩ (.slice gx vs.length cx)) gx cx vs) := HJ.out.set gX (by omega) hBR (Nat.le_refl _) (ox.mono (by omega)) hvS rx
        have t1 := gbox HJ.out.2.1.1 gX (by omega)
        have tf := gboxf HJ.out.2.1.1 HJ.out.2.1.2 gX (by omega)
        clear ox hvS gX rx
        go_wp2_with fail
        go_roundw
        case rel => exact ⟨n - 1, by omega, by go_num, gx, cx, vs, hv6, ⟨HK.out.1, HK.out.2.1, HK.out.2.2.1, HK.out.2.2.2.1, HK.out.2.2.2.2.1, HK.out.2.2.2.2.2.mono (by omega)⟩⟩
        case measure => simp [intOf]; omega
    · obtain rfl : n = 0 := by omega
      have R0 := HJ.out.2.2.2.2.2
      have hn0i : ¬ (0 : Int) < ((0 : Nat) : Int) := by omega
      go_wp2_with fail
      (go_at_call 28; refine (odd_any m B R (L + 22) _ R0 (by omega) hm hm2).mono ?_; rintro e w2 ⟨b, rfl, g2, r2⟩)
      have HJ2 : Hid (TabI w.heap.size B R (L + 23) w w2 g c us) := HJ.out.later g2 (by omega) (r2.mono (by omega))
      have z2 := HJ2.out.2.2.2.2.1.size
      clear HJ R0 g2 r2 HI
      have hul : us.length ≤ 6 := hus
      cases b
      · obtain ⟨gx, cx, xs, HX, hx8⟩ : ∃ gx cx xs, Hid (TabI w.heap.size B R (L + 23) w w2 gx cx xs) ∧ (xs : List (Int × Int)).length ≤ 8 := ⟨g, c, us, HJ2, by omega⟩
        clear HJ2
        have r0 := HX.out.1.1
        have t0 := HX.out.2.1.1
        have rf := HX.out.1.2
        have F := Lib.hid (HX.out.fin (M := L + 90) hR hBR hx8 (by omega))
        go_wp2_with fail
        exact bodyPost_ret (v := .agg #[.slice gx xs.length cx]) (by simp [results, Tryz.results66, go_sem, World.cell?_setCell_same _ _ _ r0]) rfl ⟨gx, cx, xs, rfl, F.out⟩
      · go_wp2_with fail
        (go_at_call 27; refine (pick_any 3 B R (L + 23) _ HJ2.out.2.2.2.2.2 (by omega)).mono ?_; rintro e w3 ⟨k3, rfl, hk3, g3, r3⟩)
        have HJ3 : Hid (TabI w.heap.size B R (L + 24) w w3 g c us) := HJ2.out.later g3 (by omega) (r3.mono (by omega))
        have z3 := HJ3.out.2.2.2.2.1.size
        have t3 := HJ3.out.2.1.1
        have tf3 := HJ3.out.2.1.2
        have tl3 := World.block_lt_of_cell? _ _ t3
        simp only at tl3
        clear HJ2 g3 r3
        obtain ⟨i0, hi, hz0, hz1, hz2⟩ := info_parts infoEnd
        rcases (show k3 = 0 ∨ k3 = 1 ∨ k3 = 2 by omega) with rfl | rfl | rfl
        · have RR : Hid (Rd B R (L + 24) w3.drew) := rd_drew HJ3.out.2.2.2.2.2
          have mk : Hid (∀ w', w3.grownBy w' (some R) → Rd B R (L + 26) w' → TabI w.heap.size B R (L + 26) w w' g c us) := fun w' hg hr => HJ3.out.later hg (by omega) hr
          go_upto_region 12 with fail
          go_region_law (first
            | (refine step_append_more _ rfl (.tmp 46) (.tmp 49) 24 rfl (w.heap.size + 2) 31 i0 (.agg #[.int .i64 0, .int .i64 0]) 2 16 Tryz.underlying24 hi hz0 hz1 hz2 rfl (by decide) (.slice g us.length c) us.length (flatE us) (by rfl) (HO4.out _) ⟨w4.heap.size, 0, none⟩ 1 1 [.int .i64 a, .int .i64 p] (by rfl) (by rfl) (World.news_of_block (cs := #[.int .i64 a, .int .i64 p]) (t := 31) (heap_last _ _)) (by intro u hu; simp at hu; rcases hu with rfl | rfl <;> rfl) (by unfold maxLen; omega) (by omega) (by simp; omega) ?_
               intro v5 w5 hown5 hgrow5
               have HB5 : Hid (BoxI w.heap.size B R (L + 26) w w5 (.slice g us.length c)) := HJ4.out.box.app ((World.grownBy_alloc _ _ _).trans hgrow5) (fun k e => (HJ4.out.2.2.1.ge k e)) hR hBR (Nat.le_refl _)
               obtain ⟨gx, cx, xs, rfl, o5, l5, e5⟩ := own_snoc hown5
               have HX := Lib.hid (HB5.out.close hR hBR (Nat.le_refl _) o5 (sm_snoc HJ4.out.2.2.2.1 e5 QQ.out))
               have t5 := HB5.out.2.1.1
               have tf5 := HB5.out.2.1.2
               have hx8 : xs.length ≤ 8 := by omega
               clear hown5 hgrow5 o5 l5 e5 t4 tf4)
            | (go_simp; go_at_call 71; refine (out_sm B R (L + 24) _ RR.out (by omega)).mono ?_; rintro e w4 ⟨a, p, rfl, g4, r4, Q4⟩; have HJ4 : Hid (TabI w.heap.size B R (L + 26) w w4 g c us) := mk.out _ ((grownB (Below.refl _ _).drew).trans g4) r4; have QQ := Lib.hid Q4; have HO4 : Hid (∀ x, OwnTab (w4.alloc x) (w.heap.size + 2) (.slice g us.length c) us) := (fun x => HJ4.out.2.2.1.below ((Below.refl _ _).alloc (Nat.le_refl _) _)); have t4 := HJ4.out.2.1.1; have tf4 := HJ4.out.2.1.2; have z4 := HJ4.out.2.2.2.2.1.size; have tl4 := World.block_lt_of_cell? _ _ t4; simp only at tl4; clear g4 r4 Q4))
          all_goals
            have r0 := HX.out.1.1
            have t0 := HX.out.2.1.1
            have rf := HX.out.1.2
            have F := Lib.hid (HX.out.fin (M := L + 90) hR hBR hx8 (by omega))
            go_wp2_with fail
            exact bodyPost_ret (v := .agg #[.slice gx xs.length cx]) (by simp [results, Tryz.results66, go_sem, World.cell?_setCell_same _ _ _ r0]) rfl ⟨gx, cx, xs, rfl, F.out⟩
        · have HO3 : Hid (∀ x, OwnTab (w3.alloc x) (w.heap.size + 2) (.slice g us.length c) us) := fun x => HJ3.out.2.2.1.below ((Below.refl _ _).alloc (Nat.le_refl _) _)
          have HB3 := Lib.hid HJ3.out.box
          go_wp2_with (at_builtin; refine wpList_append_own _ rfl (.tmp 55) (.tmp 57) 24 rfl (w.heap.size + 2) 31 i0 (.agg #[.int .i64 0, .int .i64 0]) 2 16 Tryz.underlying24 hi hz0 hz1 hz2 rfl (by decide) _ _ _ rfl (HO3.out _) ⟨w3.heap.size, 0, none⟩ 1 1 [.int .i64 9, .int .i64 9] rfl rfl ?c1 ?c2 ?c3 ?c4 ?c5 ?_)
          case c1 =>
            intro j u hj
            match j, hj with
            | 0, hj => simp at hj; subst hj; simp [Addr.add]
            | 1, hj => simp at hj; subst hj; simp [Addr.add]
          case c2 => intro u hu; simp at hu; rcases hu with rfl | rfl <;> rfl
          case c3 => unfold maxLen; omega
          case c4 => omega
          case c5 => simp; omega
          intro v4 w4 hown4 hgrow4 _
          have HB4 : Hid (BoxI w.heap.size B R (L + 24) w w4 (.slice g us.length c)) := HB3.out.app ((World.grownBy_alloc _ _ _).trans hgrow4) (fun k e => (HJ3.out.2.2.1.ge k e)) hR hBR (Nat.le_refl _)
          obtain ⟨g4, c4, us4, rfl, o4, l4, e4⟩ := own_snoc hown4
          have hs4 := Lib.hid (sm_snoc HJ3.out.2.2.2.1 e4 (by unfold Sm; decide))
          have O4 := Lib.hid o4
          have L4 := Lib.hid l4
          have l4b : us4.length ≤ 7 := by omega
          clear e4 l4
          have HO4 : Hid (∀ x, OwnTab (w4.alloc x) (w.heap.size + 2) (.slice g4 us4.length c4) us4) := fun x => o4.below ((Below.refl _ _).alloc (Nat.le_refl _) _)
          have z4 := HB4.out.2.2.1.size
          have t4 := HB4.out.2.1.1
          have tl4 := World.block_lt_of_cell? _ _ t4
          simp only at tl4
          clear hown4 hgrow4 HB3 HO3 HJ3 t3 tf3
          go_wp2_with (at_builtin; refine wpList_append_own _ rfl (.tmp 58) (.tmp 60) 24 rfl (w.heap.size + 2) 31 i0 (.agg #[.int .i64 0, .int .i64 0]) 2 16 Tryz.underlying24 hi hz0 hz1 hz2 rfl (by decide) _ _ _ rfl (HO4.out _) ⟨w4.heap.size, 0, none⟩ 1 1 [.int .i64 9, .int .i64 9] rfl rfl ?c1 ?c2 ?c3 ?c4 ?c5 ?_)
          case c1 =>
            intro j u hj
            match j, hj with
            | 0, hj => simp at hj; subst hj; simp [Addr.add]
            | 1, hj => simp at hj; subst hj; simp [Addr.add]
          case c2 => intro u hu; simp at hu; rcases hu with rfl | rfl <;> rfl
          case c3 => unfold maxLen; omega
          case c4 => omega
          case c5 => simp; omega
          intro v5 w5 hown5 hgrow5 _
          have HB5 : Hid (BoxI w.heap.size B R (L + 24) w w5 (.slice g us.length c)) := HB4.out.app ((World.grownBy_alloc _ _ _).trans hgrow5) (fun k e => (O4.out.ge k e)) hR hBR (Nat.le_refl _)
          obtain ⟨gx, cx, xs, rfl, o5, l5, e5⟩ := own_snoc hown5
          have HX := Lib.hid (HB5.out.close hR hBR (Nat.le_refl _) o5 (sm_snoc hs4.out e5 (by unfold Sm; decide)))
          have t5 := HB5.out.2.1.1
          have tf5 := HB5.out.2.1.2
          have hx8 : xs.length ≤ 8 := by have := L4.out; omega
          clear hown5 hgrow5 o4 O4 o5 l5 e5 HB4 HB5 HO4 t4 L4
          have r0 := HX.out.1.1
          have t0 := HX.out.2.1.1
          have rf := HX.out.1.2
          have F := Lib.hid (HX.out.fin (M := L + 90) hR hBR hx8 (by omega))
          go_wp2_with fail
          exact bodyPost_ret (v := .agg #[.slice gx xs.length cx]) (by simp [results, Tryz.results66, go_sem, World.cell?_setCell_same _ _ _ r0]) rfl ⟨gx, cx, xs, rfl, F.out⟩
        · have hx6 : us.length ≤ 7 := by omega
          go_wp2_with fail
          go_loopw [] (fun wr => ∃ g c us, (us : List (Int × Int)).length ≤ 7 ∧ Hid (TabI w.heap.size B R (L + 24) w wr g c us)) (fun wr => 8 - lenAt (w.heap.size + 1) wr)
          case atStart => exact ⟨g, c, us, hx6, HJ3⟩
          case round =>
            obtain ⟨g, c, us, hx7, HJ⟩ := hrel
            have zr := HJ.out.2.2.2.2.1.size
            have tr := HJ.out.2.1.1
            have tfr := HJ.out.2.1.2
            have tlr := World.block_lt_of_cell? _ _ tr
            simp only at tlr
            have HLn := Lib.hid (lenAt_of tr)
            by_cases hle : us.length ≤ 6
            · have hlei : (us.length : Int) ≤ 6 := by omega
              have HOr : Hid (∀ x, OwnTab (wr.alloc x) (w.heap.size + 2) (.slice g us.length c) us) := fun x => HJ.out.2.2.1.below ((Below.refl _ _).alloc (Nat.le_refl _) _)
              have hsm : Hid (Sm 8 (1 + (us.length : Int))) := by show Sm _ _; unfold Sm; omega
              go_wp2_with (at_builtin; refine wpList_append_own _ rfl (.tmp 34) (.tmp 40) 24 rfl (w.heap.size + 2) 31 i0 (.agg #[.int .i64 0, .int .i64 0]) 2 16 Tryz.underlying24 hi hz0 hz1 hz2 rfl (by decide) _ _ _ rfl (HOr.out _) ⟨wr.heap.size, 0, none⟩ 1 1 [.int .i64 8, .int .i64 (1 + (us.length : Int))] rfl rfl ?c1 ?c2 ?c3 ?c4 ?c5 ?_)
              case c1 =>
                intro j u hj
                match j, hj with
                | 0, hj => simp at hj; subst hj; simp [Addr.add]
                | 1, hj => simp at hj; subst hj; simp [Addr.add]
              case c2 => intro u hu; simp at hu; rcases hu with rfl | rfl <;> rfl
              case c3 => unfold maxLen; omega
              case c4 => omega
              case c5 => simp; omega
              intro v5 w5 hown5 hgrow5 _
              have HB5 : Hid (BoxI w.heap.size B R (L + 24) w w5 (.slice g us.length c)) := HJ.out.box.app ((World.grownBy_alloc _ _ _).trans hgrow5) (fun k e => (HJ.out.2.2.1.ge k e)) hR hBR (Nat.le_refl _)
              obtain ⟨gx, cx, xs, rfl, o5, l5, e5⟩ := own_snoc hown5
              have HX := Lib.hid (HB5.out.close hR hBR (Nat.le_refl _) o5 (sm_snoc HJ.out.2.2.2.1 e5 hsm.out))
              have t5 := HB5.out.2.1.1
              have tf5 := HB5.out.2.1.2
              have L5 := Lib.hid l5
              clear hown5 hgrow5 o5 l5 e5 HB5 tr tfr
              go_wp2_with fail
              go_roundw
              case rel => exact ⟨gx, cx, xs, by have := L5.out; omega, HX⟩
              case measure => have h1 := HLn.out; have h2 := lenAt_of HX.out.2.1.1; have := L5.out; rw [h1, h2]; omega
            · have hlei : ¬ (us.length : Int) ≤ 6 := by omega
              obtain ⟨gx, cx, xs, HX, hx8, hxl⟩ : ∃ gx cx xs, Hid (TabI w.heap.size B R (L + 24) w wr gx cx xs) ∧ (xs : List (Int × Int)).length ≤ 8 ∧ ¬ (xs.length : Int) ≤ 6 := ⟨g, c, us, HJ, by omega, hlei⟩
              clear HJ tr tfr HLn hlei
              have r0 := HX.out.1.1
              have t0 := HX.out.2.1.1
              have rf := HX.out.1.2
              have F := Lib.hid (HX.out.fin (M := L + 90) hR hBR hx8 (by omega))
              go_wp2_with fail
              exact bodyPost_ret (v := .agg #[.slice gx xs.length cx]) (by simp [results, Tryz.results66, go_sem, World.cell?_setCell_same _ _ _ r0]) rfl ⟨gx, cx, xs, rfl, F.out⟩

end Go.Proofs.YtgfkiljkpkfapaaGreatDoor

/- l20BoxOr of the specification: some box, in the call's own memory, not large. Conditions: the reader is there, its place is small. -/
namespace Go.Proofs.YtgfkiljkpkfapaaGreatDoor
open Go.RowKit Go.Sort

theorem OwH.set3B {w : World} {B g : Nat} {l : List Value} {v u0 u1 u2 : Value} {b : Bx} (h : OwH w B v b) (hb : Blk w g 29 l) : OwH (((w.setCell ⟨g, 0, none⟩ u0).setCell ⟨g, 1, none⟩ u1).setCell ⟨g, 2, none⟩ u2) B v b :=
  ((h.setB hb 0 u0).setB (hb.set 0 u0) 1 u1).setB ((hb.set 0 u0).set 1 u1) 2 u2

set_option maxRecDepth 100000 in
set_option maxHeartbeats 12800000 in
theorem boxOr_any (m : Int) (B R L : Nat) (w : World) (h : Rd B R L w) (hL : L ≤ 960000) (hm : 0 ≤ m) (hm2 : m ≤ 1000000) :
    Calls Tryz.prog 25 #[.pointer (some ⟨R, 0, none⟩), .int .i64 m] w fun e w' => ∃ x1 x2 x3 b, e = .returned (.agg #[x1, x2, x3]) ∧ OwH w' w.heap.size (.agg #[x1, x2, x3]) b ∧ (bxSz b ∧ wfE b.es ∧ cnWf b.cs) ∧ w.grownBy w' (some R) ∧ Rd B R (L + 1800) w' := by
  obtain ⟨i0, hi, hz0, hz1, hz2⟩ := info_parts infoCn
  have hRs := h.lt
  have hBR := h.base
  have H := Lib.hid h
  clear h
  go_enter Tryz.func25, Tryz.ntmps25
  go_wp2_with fail
  (go_at_call 65; refine (box_any B R L _ (rd_alloc H.out _) (by omega)).mono ?_; rintro e w1 ⟨x1, x2, x3, b, rfl, oh, hz, g1, r1⟩)
  obtain ⟨a1, c1, a2, c2, a3, c3, rfl, rfl, rfl⟩ := oh.form
  have z1 : w.heap.size + 1 ≤ w1.heap.size := by have := g1.size; simpa using this
  obtain ⟨s, hs⟩ : ∃ s, s = w.heap.size := ⟨_, rfl⟩
  obtain ⟨b3, hb3⟩ : ∃ b3, b3 = w1.heap.size := ⟨_, rfl⟩
  have S2 : Hid (BS B R s b3 (L + 1400) w (w1.alloc (.cells #[.slice a1 b.rs.length c1, .slice a2 b.es.length c2, .slice a3 b.cs.length c3] 29)) [.slice none 0 0, .slice none 0 0, .slice none 0 0] (.slice a1 b.rs.length c1) (.slice a2 b.es.length c2) (.slice a3 b.cs.length c3) b) := by
    rw [hs, hb3]
    have hA : Blk w1 w.heap.size 29 [.slice none 0 0, .slice none 0 0, .slice none 0 0] := (blk_newD w [.slice none 0 0, .slice none 0 0, .slice none 0 0] 29).grown g1 (by omega)
    refine ⟨hA.alloc _, blk_newD _ _ _, ?_, hz, ?_, rd_alloc r1 _⟩
    · have h1 := oh.later ((Below.refl _ w1).alloc (Nat.le_refl _) (.cells #[.slice a1 b.rs.length c1, .slice a2 b.es.length c2, .slice a3 b.cs.length c3] 29))
      exact h1.mono (by simp)
    · exact grown_alloc ((World.grownBy_alloc w _ _).trans g1) _
  go_upto_region 2 with fail
  obtain ⟨n1, hn1⟩ : ∃ n, n = b.rs.length := ⟨_, rfl⟩
  obtain ⟨n2, hn2⟩ : ∃ n, n = b.es.length := ⟨_, rfl⟩
  obtain ⟨n3, hn3⟩ : ∃ n, n = b.cs.length := ⟨_, rfl⟩
  rw [← hn1, ← hn2, ← hn3] at S2 ⊢
  have HN3 := Lib.hid hn3
  obtain ⟨W2, hW2⟩ : ∃ W2, W2 = w1.alloc (.cells #[.slice a1 n1 c1, .slice a2 n2 c2, .slice a3 n3 c3] 29) := ⟨_, rfl⟩
  rw [← hW2] at S2 ⊢
  rw [← hs] at z1 hRs ⊢
  rw [← hb3] at z1 ⊢
  have hsb : s < b3 := by omega
  have hbs : b3 ≠ s := by omega
  have hsb2 : s ≠ b3 := by omega
  have h0s : w.heap.size ≤ s := Nat.le_of_eq hs.symm
  have hn3k : n3 ≤ 1048576 := by rw [hn3]; exact hz.1.2.2.1
  clear hW2 hs hb3 z1 oh g1 r1 H hn1 hn2 hn3 hz
  go_upto_if 11 with (go_at_call 28; refine (odd_any m B R (L + 1400) _ S2.out.2.2.2.2.2 (by omega) hm hm2).mono ?_; rintro e w3 ⟨bo, rfl, g3, r3⟩)
  have S3 := Lib.hid (BS.grown S2.out g3 r3 hRs hsb)
  clear g3 r3 S2
  cases bo
  · obtain ⟨⟨p0, p1, p2⟩, u0, u1, u2⟩ := three_all (S3.out).2.1; obtain ⟨⟨t0, t1, t2⟩, f0, f1, f2⟩ := three_all (S3.out).1
    go_wp2_with fail
    obtain ⟨⟨z0, z1, z2⟩, -⟩ := three_all (three_set (S3.out.fin).1 (.slice a1 n1 c1) (.slice a2 n2 c2) (.slice a3 n3 c3))
    refine bodyPost_ret (v := .agg #[.slice a1 n1 c1, .slice a2 n2 c2, .slice a3 n3 c3]) (by simp [results, Tryz.results25, go_sem, z0, z1, z2]) rfl ⟨_, _, _, _, rfl, ?_, (S3.out.fin).2.2.2.1, ?_, ?_⟩
    · exact OwH.mono (OwH.set3B (S3.out.fin).2.2.1 (S3.out.fin).1) (by omega)
    · exact grown_putR (grown_putR (grown_putR (S3.out.fin).2.2.2.2.1 h0s 0 _) h0s 1 _) h0s 2 _
    · exact (rd_put (rd_put (rd_put (S3.out.fin).2.2.2.2.2 _ (by omega) (by omega)) _ (by omega) (by omega)) _ (by omega) (by omega)).mono (by omega)
  · obtain ⟨⟨p0, p1, p2⟩, u0, u1, u2⟩ := three_all (S3.out).2.1; obtain ⟨⟨t0, t1, t2⟩, f0, f1, f2⟩ := three_all (S3.out).1
    go_wp2_with fail
    (go_at_call 27; refine (pick_any 8 B R (L + 1401) _ S3.out.2.2.2.2.2 (by omega)).mono ?_; rintro e w4 ⟨k, rfl, hk, g4, r4⟩)
    have S4 := Lib.hid (BS.grown S3.out g4 r4 hRs hsb)
    have hk8 : k < 8 := by omega
    clear g4 r4 S3 hk
    clear p0 p1 p2 u0 u1 u2 t0 t1 t2 f0 f1 f2
    obtain ⟨⟨p0, p1, p2⟩, u0, u1, u2⟩ := three_all (S4.out).2.1; obtain ⟨⟨t0, t1, t2⟩, f0, f1, f2⟩ := three_all (S4.out).1
    obtain rfl | rfl | rfl | rfl | rfl | rfl | rfl | rfl : k = 0 ∨ k = 1 ∨ k = 2 ∨ k = 3 ∨ k = 4 ∨ k = 5 ∨ k = 6 ∨ k = 7 := by omega
    · go_wp2_with fail
      (go_at_call 66; refine (table_any 1 B R (L + 1402) _ S4.out.2.2.2.2.2 (by omega) (by omega) (by omega)).mono ?_; rintro e w5 ⟨g, c, us, rfl, ot, ⟨hu, hsu⟩, g5, r5⟩)
      have s5 := BS.grown S4.out g5 r5 hRs hsb
      have ot2 : OwnTab w5 (s + 1) (.slice g us.length c) us := own_monoG ot S4.out.1.lt
      clear p0 p1 p2 u0 u1 u2 t0 t1 t2 f0 f1 f2
      obtain ⟨⟨p0, p1, p2⟩, u0, u1, u2⟩ := three_all (s5).2.1; obtain ⟨⟨t0, t1, t2⟩, f0, f1, f2⟩ := three_all (s5).1
      go_wp2_with fail
      have S6 := BS.tab s5 hRs hBR hsb h0s ot2 hu (fun y hy => (hsu y hy).wf)
      obtain ⟨⟨z0, z1, z2⟩, -⟩ := three_all (three_set (S6).1 (.slice a1 n1 c1) (.slice g us.length c) (.slice a3 n3 c3))
      refine bodyPost_ret (v := .agg #[.slice a1 n1 c1, .slice g us.length c, .slice a3 n3 c3]) (by simp [results, Tryz.results25, go_sem, z0, z1, z2]) rfl ⟨_, _, _, _, rfl, ?_, (S6).2.2.2.1, ?_, ?_⟩
      · exact OwH.mono (OwH.set3B (S6).2.2.1 (S6).1) (by omega)
      · exact grown_putR (grown_putR (grown_putR (S6).2.2.2.2.1 h0s 0 _) h0s 1 _) h0s 2 _
      · exact (rd_put (rd_put (rd_put (S6).2.2.2.2.2 _ (by omega) (by omega)) _ (by omega) (by omega)) _ (by omega) (by omega)).mono (by omega)
    · by_cases h0 : n3 = 0
      · subst h0
        go_wp2_with fail
        obtain ⟨⟨z0, z1, z2⟩, -⟩ := three_all (three_set (S4.out.fin).1 (.slice a1 n1 c1) (.slice a2 n2 c2) (.slice a3 0 c3))
        refine bodyPost_ret (v := .agg #[.slice a1 n1 c1, .slice a2 n2 c2, .slice a3 0 c3]) (by simp [results, Tryz.results25, go_sem, z0, z1, z2]) rfl ⟨_, _, _, _, rfl, ?_, (S4.out.fin).2.2.2.1, ?_, ?_⟩
        · exact OwH.mono (OwH.set3B (S4.out.fin).2.2.1 (S4.out.fin).1) (by omega)
        · exact grown_putR (grown_putR (grown_putR (S4.out.fin).2.2.2.2.1 h0s 0 _) h0s 1 _) h0s 2 _
        · exact (rd_put (rd_put (rd_put (S4.out.fin).2.2.2.2.2 _ (by omega) (by omega)) _ (by omega) (by omega)) _ (by omega) (by omega)).mono (by omega)
      · have h0i : (0 : Int) < (n3 : Int) := by omega
        have h0n : 0 < n3 := by omega
        clear h0
        have hcx := S4.out.2.2.2.1.2
        go_upto_region 11 with fail
        obtain ⟨e1, e2, e3, o1, o2, o3⟩ := S4.out.2.2.1.parts; obtain ⟨x, cr, hcs⟩ : ∃ x cr, b.cs = x :: cr := (by cases hh : b.cs with | nil => rw [hh] at e3; simp at e3; omega | cons x cr => exact ⟨x, cr, rfl⟩); obtain ⟨g, eg, hgB, hgl, hcp, -, ⟨k0, k1, k2, k3, k4, k5, k6⟩, v0, v1, v2, v3, v4, v5, v6⟩ := own_conn o3 h0n x (by rw [hcs]; rfl); simp only [Nat.zero_mul, Nat.zero_add] at k0 k1 k2 k3 k4 k5 k6 v0 v1 v2 v3 v4 v5 v6; have hgs : g ≠ s := (by omega); have hsg : s ≠ g := (by omega); have HCS := Lib.hid hcs; clear e1 e2 e3 o1 o2 o3 hcs
        subst eg
        have hx6 : (x.kn.size : Int) ≤ 1048576 ∧ (x.he.size : Int) ≤ 1048576 ∧ (x.ne.size : Int) ≤ 1048576 := by
          have h1 := hcx.1
          rw [HCS.out] at h1
          have h2 := h1 x (List.mem_cons_self ..)
          exact ⟨by omega, by omega, by omega⟩
        have hxw : Hid (cnWf1 x) := hcx.2.2.1 x (by rw [HCS.out]; exact List.mem_cons_self ..)
        clear hcx
        have p0y := (fun o => (three_all (S4.out.alloc o).2.1).1.1); have p1y := (fun o => (three_all (S4.out.alloc o).2.1).1.2.1); have p2y := (fun o => (three_all (S4.out.alloc o).2.1).1.2.2)
        have hsw4 : s + 1 ≤ w4.heap.size := S4.out.1.lt
        go_region_law (first
          | (refine step_append_w _ (by rfl) (.tmp 34) (.tmp 39) 27 rfl (s + 1) 49 i0 (.agg #[.int .i64 0, .int .i64 0, .int .i64 0, .int .i64 0, .string ⟨#[]⟩, .string ⟨#[]⟩, .string ⟨#[]⟩]) 7 80 Tryz.underlying27 hi hz0 hz1 hz2 rfl (by decide) (.slice (some ⟨g, 0, none⟩) n3 c3) n3 (flatC cnC b.cs) (by rfl) (by first | exact (BS.own S4.out _).drew | exact BS.own S4.out.drew _) ⟨w4.heap.size, 0, none⟩ 1 1 (cnC x) (by rfl) (by rfl) (World.news_of_block (cs := #[.int .i64 x.ia, .int .i64 x.ip, .int .i64 x.oa, .int .i64 x.op, .string x.kn, .string x.he, .string x.ne]) (t := 49) (heap_last3 _ _)) (by intro u hu; simp [cnC] at hu; rcases hu with rfl | rfl | rfl | rfl | rfl | rfl | rfl <;> rfl) (by unfold maxLen; omega) (by omega) (by simp; omega) ?_; intro v5 w5 hown5 hgrow5; obtain ⟨a5, c5, rfl, m1, m2, m3⟩ := BS.app (x' := x) S4.out hRs hBR hsb h0s (grown_fromD hgrow5) hown5 hx6 hxw.out; clear hown5 hgrow5 p0y p1y p2y; clear p0 p1 p2 u0 u1 u2 t0 t1 t2 f0 f1 f2 k0 k1 k2 k3 k4 k5 k6 v0 v1 v2 v3 v4 v5 v6; obtain ⟨⟨p0, p1, p2⟩, u0, u1, u2⟩ := three_all m2; obtain ⟨⟨t0, t1, t2⟩, f0, f1, f2⟩ := three_all m1))
        all_goals go_wp2_with fail
        all_goals
          obtain ⟨⟨z0, z1, z2⟩, -⟩ := three_all (three_set (m3).1 (.slice a1 n1 c1) (.slice a2 n2 c2) (.slice a5 (n3 + 1) c5))
          refine bodyPost_ret (v := .agg #[.slice a1 n1 c1, .slice a2 n2 c2, .slice a5 (n3 + 1) c5]) (by simp [results, Tryz.results25, go_sem, z0, z1, z2]) rfl ⟨_, _, _, _, rfl, ?_, (m3).2.2.2.1, ?_, ?_⟩
          · exact OwH.mono (OwH.set3B (m3).2.2.1 (m3).1) (by omega)
          · exact grown_putR (grown_putR (grown_putR (m3).2.2.2.2.1 h0s 0 _) h0s 1 _) h0s 2 _
          · exact (rd_put (rd_put (rd_put (m3).2.2.2.2.2 _ (by omega) (by omega)) _ (by omega) (by omega)) _ (by omega) (by omega)).mono (by omega)
    · by_cases h0 : n3 = 0
      · subst h0
        go_wp2_with fail
        obtain ⟨⟨z0, z1, z2⟩, -⟩ := three_all (three_set (S4.out.fin).1 (.slice a1 n1 c1) (.slice a2 n2 c2) (.slice a3 0 c3))
        refine bodyPost_ret (v := .agg #[.slice a1 n1 c1, .slice a2 n2 c2, .slice a3 0 c3]) (by simp [results, Tryz.results25, go_sem, z0, z1, z2]) rfl ⟨_, _, _, _, rfl, ?_, (S4.out.fin).2.2.2.1, ?_, ?_⟩
        · exact OwH.mono (OwH.set3B (S4.out.fin).2.2.1 (S4.out.fin).1) (by omega)
        · exact grown_putR (grown_putR (grown_putR (S4.out.fin).2.2.2.2.1 h0s 0 _) h0s 1 _) h0s 2 _
        · exact (rd_put (rd_put (rd_put (S4.out.fin).2.2.2.2.2 _ (by omega) (by omega)) _ (by omega) (by omega)) _ (by omega) (by omega)).mono (by omega)
      · have h0i : (0 : Int) < (n3 : Int) := by omega
        have h0n : 0 < n3 := by omega
        clear h0
        go_upto_region 14 with fail
        obtain ⟨e1, e2, e3, o1, o2, o3⟩ := S4.out.2.2.1.parts; obtain ⟨x, cr, hcs⟩ : ∃ x cr, b.cs = x :: cr := (by cases hh : b.cs with | nil => rw [hh] at e3; simp at e3; omega | cons x cr => exact ⟨x, cr, rfl⟩); obtain ⟨g, eg, hgB, hgl, hcp, -, ⟨k0, k1, k2, k3, k4, k5, k6⟩, v0, v1, v2, v3, v4, v5, v6⟩ := own_conn o3 h0n x (by rw [hcs]; rfl); simp only [Nat.zero_mul, Nat.zero_add] at k0 k1 k2 k3 k4 k5 k6 v0 v1 v2 v3 v4 v5 v6; have hgs : g ≠ s := (by omega); have hsg : s ≠ g := (by omega); have HCS := Lib.hid hcs; clear e1 e2 e3 o1 o2 o3 hcs
        subst eg
        go_region_with (go_at_call 67; refine (streamOr_any 2 (by omega) (by omega) B R (L + 1402) _ (by first | exact S4.out.2.2.2.2.2 | exact rd_drewD S4.out.2.2.2.2.2) (by omega)).mono ?_; rintro e w5 ⟨sv, rfl, hsv, g5, r5⟩; have s5 := BS.grown S4.out (by first | exact g5 | exact grown_fromD g5) r5 hRs hsb; clear p0 p1 p2 u0 u1 u2 t0 t1 t2 f0 f1 f2 k0 k1 k2 k3 k4 k5 k6 v0 v1 v2 v3 v4 v5 v6; obtain ⟨⟨p0, p1, p2⟩, u0, u1, u2⟩ := three_all (s5).2.1; obtain ⟨⟨t0, t1, t2⟩, f0, f1, f2⟩ := three_all (s5).1; obtain ⟨g', eg, -, -, -, -, ⟨k0, k1, k2, k3, k4, k5, k6⟩, v0, v1, v2, v3, v4, v5, v6⟩ := own_conn s5.2.2.1.parts.2.2.2.2.2 h0n x (by rw [HCS.out]; rfl); injection eg with eg; injection eg with eg; subst eg; simp only [Nat.zero_mul, Nat.zero_add] at k0 k1 k2 k3 k4 k5 k6 v0 v1 v2 v3 v4 v5 v6)
        all_goals go_wp2_with fail
        all_goals
          have S6 := BS.put1 (cs' := ⟨x.ia, x.ip, x.oa, x.op, sv, x.he, x.ne⟩ :: cr) s5 hRs hBR h0s 4 (.string sv) (by rw [HCS.out]; rfl) (by rw [HCS.out]; rfl) (by have h1 := s5.2.2.2.1.2.1; rw [HCS.out] at h1; have h2 := h1 x (List.mem_cons_self ..); exact cnIn_tail h1 (by first | (show (sv.size : Int) ≤ _; omega) | (have := h2.1; show (x.kn.size : Int) ≤ _; omega)) (by first | (show (sv.size : Int) ≤ _; omega) | (have := h2.2.1; show (x.he.size : Int) ≤ _; omega)) (by have := h2.2.2; show (x.ne.size : Int) ≤ _; omega)) (by have h1 := s5.2.2.2.1.2.2.2.1; rw [HCS.out] at h1; exact cnWf_tail h1 (h1 x (List.mem_cons_self ..)))
          obtain ⟨⟨z0, z1, z2⟩, -⟩ := three_all (three_set (S6).1 (.slice a1 n1 c1) (.slice a2 n2 c2) (.slice (some ⟨g, 0, none⟩) n3 c3))
          refine bodyPost_ret (v := .agg #[.slice a1 n1 c1, .slice a2 n2 c2, .slice (some ⟨g, 0, none⟩) n3 c3]) (by simp [results, Tryz.results25, go_sem, z0, z1, z2]) rfl ⟨_, _, _, _, rfl, ?_, (S6).2.2.2.1, ?_, ?_⟩
          · exact OwH.mono (OwH.set3B (S6).2.2.1 (S6).1) (by omega)
          · exact grown_putR (grown_putR (grown_putR (S6).2.2.2.2.1 h0s 0 _) h0s 1 _) h0s 2 _
          · exact (rd_put (rd_put (rd_put (S6).2.2.2.2.2 _ (by omega) (by omega)) _ (by omega) (by omega)) _ (by omega) (by omega)).mono (by omega)
    · have hsw4 : s + 1 ≤ w4.heap.size := S4.out.1.lt
      go_upto_region 16 with fail
      go_region_law (first
        | (go_simp; go_at_call 68; refine (end_sm 3 B R (L + 1410) _ (by first | exact s5.2.2.2.2.2 | exact rd_drewD s5.2.2.2.2.2) (by omega) (by decide) (by decide)).mono ?_; rintro e w6 ⟨ea2, ep2, rfl, g6, r6, sm6⟩; have s6 := BS.grown s5 (by first | exact g6 | exact grown_fromD g6) r6 hRs hsb; have hsw6 : s + 1 ≤ w6.heap.size := s6.1.lt; have hwf6 := Lib.hid (show cnWf1 ⟨ea1, ep1, ea2, ep2, ⟨#[]⟩, ⟨#[]⟩, ⟨#[]⟩⟩ from ⟨hwf5.out, sm6.wf⟩); clear g6 r6 sm6; clear p0 p1 p2 u0 u1 u2 t0 t1 t2 f0 f1 f2; obtain ⟨⟨p0, p1, p2⟩, u0, u1, u2⟩ := three_all (s6).2.1; obtain ⟨⟨t0, t1, t2⟩, f0, f1, f2⟩ := three_all (s6).1; have p0y := (fun o => (three_all (s6.alloc o).2.1).1.1); have p1y := (fun o => (three_all (s6.alloc o).2.1).1.2.1); have p2y := (fun o => (three_all (s6.alloc o).2.1).1.2.2))
        | (go_simp; go_at_call 68; refine (end_sm 3 B R (L + 1402) _ (by first | exact S4.out.2.2.2.2.2 | exact rd_drewD S4.out.2.2.2.2.2) (by omega) (by decide) (by decide)).mono ?_; rintro e w5 ⟨ea1, ep1, rfl, g5, r5, sm5⟩; have s5 := BS.grown S4.out (by first | exact g5 | exact grown_fromD g5) r5 hRs hsb; have hwf5 := Lib.hid sm5.wf; clear g5 r5 sm5; clear p0 p1 p2 u0 u1 u2 t0 t1 t2 f0 f1 f2; obtain ⟨⟨p0, p1, p2⟩, u0, u1, u2⟩ := three_all (s5).2.1; obtain ⟨⟨t0, t1, t2⟩, f0, f1, f2⟩ := three_all (s5).1)
        | (refine step_append_w _ (by rfl) (.tmp 55) (.tmp 61) 27 rfl (s + 1) 49 i0 (.agg #[.int .i64 0, .int .i64 0, .int .i64 0, .int .i64 0, .string ⟨#[]⟩, .string ⟨#[]⟩, .string ⟨#[]⟩]) 7 80 Tryz.underlying27 hi hz0 hz1 hz2 rfl (by decide) (.slice a3 n3 c3) n3 (flatC cnC b.cs) (by rfl) (by first | exact BS.own s6 _ | exact (BS.own s6 _).drew) ⟨w6.heap.size, 0, none⟩ 1 1 (cnC ⟨ea1, ep1, ea2, ep2, ⟨#[]⟩, ⟨#[]⟩, ⟨#[]⟩⟩) (by rfl) (by rfl) (World.news_of_block (cs := #[.int .i64 ea1, .int .i64 ep1, .int .i64 ea2, .int .i64 ep2, .string ⟨#[]⟩, .string ⟨#[]⟩, .string ⟨#[]⟩]) (t := 49) (heap_last3 _ _)) (by intro u hu; simp [cnC] at hu; rcases hu with rfl | rfl | rfl | rfl | rfl <;> rfl) (by unfold maxLen; omega) (by omega) (by simp; omega) ?_; intro v7 w7 hown7 hgrow7; obtain ⟨a5, c5, rfl, m1, m2, m3⟩ := BS.app (x' := ⟨ea1, ep1, ea2, ep2, ⟨#[]⟩, ⟨#[]⟩, ⟨#[]⟩⟩) s6 hRs hBR hsb h0s (by first | exact hgrow7 | exact grown_fromD hgrow7) hown7 ⟨(show ((⟨#[]⟩ : ByteArray).size : Int) ≤ 1048576 by decide), (show ((⟨#[]⟩ : ByteArray).size : Int) ≤ 1048576 by decide), (show ((⟨#[]⟩ : ByteArray).size : Int) ≤ 1048576 by decide)⟩ hwf6.out; clear hown7 hgrow7 p0y p1y p2y; clear p0 p1 p2 u0 u1 u2 t0 t1 t2 f0 f1 f2; obtain ⟨⟨p0, p1, p2⟩, u0, u1, u2⟩ := three_all m2; obtain ⟨⟨t0, t1, t2⟩, f0, f1, f2⟩ := three_all m1))
      all_goals go_wp2_with fail
      all_goals
        obtain ⟨⟨z0, z1, z2⟩, -⟩ := three_all (three_set (m3).1 (.slice a1 n1 c1) (.slice a2 n2 c2) (.slice a5 (n3 + 1) c5))
        refine bodyPost_ret (v := .agg #[.slice a1 n1 c1, .slice a2 n2 c2, .slice a5 (n3 + 1) c5]) (by simp [results, Tryz.results25, go_sem, z0, z1, z2]) rfl ⟨_, _, _, _, rfl, ?_, (m3).2.2.2.1, ?_, ?_⟩
        · exact OwH.mono (OwH.set3B (m3).2.2.1 (m3).1) (by omega)
        · exact grown_putR (grown_putR (grown_putR (m3).2.2.2.2.1 h0s 0 _) h0s 1 _) h0s 2 _
        · exact (rd_put (rd_put (rd_put (m3).2.2.2.2.2 _ (by omega) (by omega)) _ (by omega) (by omega)) _ (by omega) (by omega)).mono (by omega)
    · go_wp2_with (go_at_call 69; refine (rules_any 1 B R (L + 1402) _ S4.out.2.2.2.2.2 (by omega) (by omega) (by omega)).mono ?_; rintro e w5 ⟨g, c, l, rfl, ol, hl, g5, r5⟩; have s5 := BS.grown S4.out g5 r5 hRs hsb; have ol := own_monoG ol S4.out.1.lt; clear p0 p1 p2 u0 u1 u2 t0 t1 t2 f0 f1 f2; obtain ⟨⟨p0, p1, p2⟩, u0, u1, u2⟩ := three_all (s5).2.1; obtain ⟨⟨t0, t1, t2⟩, f0, f1, f2⟩ := three_all (s5).1)
      have S6 := BS.rul s5 hRs hBR hsb h0s ol hl
      obtain ⟨⟨z0, z1, z2⟩, -⟩ := three_all (three_set (S6).1 (.slice (some g) l.length c) (.slice a2 n2 c2) (.slice a3 n3 c3))
      refine bodyPost_ret (v := .agg #[.slice (some g) l.length c, .slice a2 n2 c2, .slice a3 n3 c3]) (by simp [results, Tryz.results25, go_sem, z0, z1, z2]) rfl ⟨_, _, _, _, rfl, ?_, (S6).2.2.2.1, ?_, ?_⟩
      · exact OwH.mono (OwH.set3B (S6).2.2.1 (S6).1) (by omega)
      · exact grown_putR (grown_putR (grown_putR (S6).2.2.2.2.1 h0s 0 _) h0s 1 _) h0s 2 _
      · exact (rd_put (rd_put (rd_put (S6).2.2.2.2.2 _ (by omega) (by omega)) _ (by omega) (by omega)) _ (by omega) (by omega)).mono (by omega)
    · by_cases h0 : n3 = 0
      · subst h0
        go_wp2_with fail
        obtain ⟨⟨z0, z1, z2⟩, -⟩ := three_all (three_set (S4.out.fin).1 (.slice a1 n1 c1) (.slice a2 n2 c2) (.slice a3 0 c3))
        refine bodyPost_ret (v := .agg #[.slice a1 n1 c1, .slice a2 n2 c2, .slice a3 0 c3]) (by simp [results, Tryz.results25, go_sem, z0, z1, z2]) rfl ⟨_, _, _, _, rfl, ?_, (S4.out.fin).2.2.2.1, ?_, ?_⟩
        · exact OwH.mono (OwH.set3B (S4.out.fin).2.2.1 (S4.out.fin).1) (by omega)
        · exact grown_putR (grown_putR (grown_putR (S4.out.fin).2.2.2.2.1 h0s 0 _) h0s 1 _) h0s 2 _
        · exact (rd_put (rd_put (rd_put (S4.out.fin).2.2.2.2.2 _ (by omega) (by omega)) _ (by omega) (by omega)) _ (by omega) (by omega)).mono (by omega)
      · have h0i : (0 : Int) < (n3 : Int) := by omega
        have h0n : 0 < n3 := by omega
        clear h0
        go_upto_region 21 with fail
        obtain ⟨e1, e2, e3, o1, o2, o3⟩ := S4.out.2.2.1.parts; obtain ⟨x, cr, hcs⟩ : ∃ x cr, b.cs = x :: cr := (by cases hh : b.cs with | nil => rw [hh] at e3; simp at e3; omega | cons x cr => exact ⟨x, cr, rfl⟩); obtain ⟨g, eg, hgB, hgl, hcp, -, ⟨k0, k1, k2, k3, k4, k5, k6⟩, v0, v1, v2, v3, v4, v5, v6⟩ := own_conn o3 h0n x (by rw [hcs]; rfl); simp only [Nat.zero_mul, Nat.zero_add] at k0 k1 k2 k3 k4 k5 k6 v0 v1 v2 v3 v4 v5 v6; have hgs : g ≠ s := (by omega); have hsg : s ≠ g := (by omega); have HCS := Lib.hid hcs; clear e1 e2 e3 o1 o2 o3 hcs
        subst eg
        go_region_with (go_at_call 67; refine (streamOr_any 2 (by omega) (by omega) B R (L + 1402) _ (by first | exact S4.out.2.2.2.2.2 | exact rd_drewD S4.out.2.2.2.2.2) (by omega)).mono ?_; rintro e w5 ⟨sv, rfl, hsv, g5, r5⟩; have s5 := BS.grown S4.out (by first | exact g5 | exact grown_fromD g5) r5 hRs hsb; clear p0 p1 p2 u0 u1 u2 t0 t1 t2 f0 f1 f2 k0 k1 k2 k3 k4 k5 k6 v0 v1 v2 v3 v4 v5 v6; obtain ⟨⟨p0, p1, p2⟩, u0, u1, u2⟩ := three_all (s5).2.1; obtain ⟨⟨t0, t1, t2⟩, f0, f1, f2⟩ := three_all (s5).1; obtain ⟨g', eg, -, -, -, -, ⟨k0, k1, k2, k3, k4, k5, k6⟩, v0, v1, v2, v3, v4, v5, v6⟩ := own_conn s5.2.2.1.parts.2.2.2.2.2 h0n x (by rw [HCS.out]; rfl); injection eg with eg; injection eg with eg; subst eg; simp only [Nat.zero_mul, Nat.zero_add] at k0 k1 k2 k3 k4 k5 k6 v0 v1 v2 v3 v4 v5 v6)
        all_goals go_wp2_with fail
        all_goals
          have S6 := BS.put1 (cs' := ⟨x.ia, x.ip, x.oa, x.op, x.kn, sv, x.ne⟩ :: cr) s5 hRs hBR h0s 5 (.string sv) (by rw [HCS.out]; rfl) (by rw [HCS.out]; rfl) (by have h1 := s5.2.2.2.1.2.1; rw [HCS.out] at h1; have h2 := h1 x (List.mem_cons_self ..); exact cnIn_tail h1 (by first | (show (sv.size : Int) ≤ _; omega) | (have := h2.1; show (x.kn.size : Int) ≤ _; omega)) (by first | (show (sv.size : Int) ≤ _; omega) | (have := h2.2.1; show (x.he.size : Int) ≤ _; omega)) (by have := h2.2.2; show (x.ne.size : Int) ≤ _; omega)) (by have h1 := s5.2.2.2.1.2.2.2.1; rw [HCS.out] at h1; exact cnWf_tail h1 (h1 x (List.mem_cons_self ..)))
          obtain ⟨⟨z0, z1, z2⟩, -⟩ := three_all (three_set (S6).1 (.slice a1 n1 c1) (.slice a2 n2 c2) (.slice (some ⟨g, 0, none⟩) n3 c3))
          refine bodyPost_ret (v := .agg #[.slice a1 n1 c1, .slice a2 n2 c2, .slice (some ⟨g, 0, none⟩) n3 c3]) (by simp [results, Tryz.results25, go_sem, z0, z1, z2]) rfl ⟨_, _, _, _, rfl, ?_, (S6).2.2.2.1, ?_, ?_⟩
          · exact OwH.mono (OwH.set3B (S6).2.2.1 (S6).1) (by omega)
          · exact grown_putR (grown_putR (grown_putR (S6).2.2.2.2.1 h0s 0 _) h0s 1 _) h0s 2 _
          · exact (rd_put (rd_put (rd_put (S6).2.2.2.2.2 _ (by omega) (by omega)) _ (by omega) (by omega)) _ (by omega) (by omega)).mono (by omega)
    · by_cases h0 : n3 = 0
      · subst h0
        go_wp2_with fail
        obtain ⟨⟨z0, z1, z2⟩, -⟩ := three_all (three_set (S4.out.fin).1 (.slice a1 n1 c1) (.slice a2 n2 c2) (.slice a3 0 c3))
        refine bodyPost_ret (v := .agg #[.slice a1 n1 c1, .slice a2 n2 c2, .slice a3 0 c3]) (by simp [results, Tryz.results25, go_sem, z0, z1, z2]) rfl ⟨_, _, _, _, rfl, ?_, (S4.out.fin).2.2.2.1, ?_, ?_⟩
        · exact OwH.mono (OwH.set3B (S4.out.fin).2.2.1 (S4.out.fin).1) (by omega)
        · exact grown_putR (grown_putR (grown_putR (S4.out.fin).2.2.2.2.1 h0s 0 _) h0s 1 _) h0s 2 _
        · exact (rd_put (rd_put (rd_put (S4.out.fin).2.2.2.2.2 _ (by omega) (by omega)) _ (by omega) (by omega)) _ (by omega) (by omega)).mono (by omega)
      · have h0i : (0 : Int) < (n3 : Int) := by omega
        have h0n : 0 < n3 := by omega
        clear h0
        go_upto_region 24 with fail
        obtain ⟨e1, e2, e3, o1, o2, o3⟩ := S4.out.2.2.1.parts; obtain ⟨x, cr, hcs⟩ : ∃ x cr, b.cs = x :: cr := (by cases hh : b.cs with | nil => rw [hh] at e3; simp at e3; omega | cons x cr => exact ⟨x, cr, rfl⟩); obtain ⟨g, eg, hgB, hgl, hcp, -, ⟨k0, k1, k2, k3, k4, k5, k6⟩, v0, v1, v2, v3, v4, v5, v6⟩ := own_conn o3 h0n x (by rw [hcs]; rfl); simp only [Nat.zero_mul, Nat.zero_add] at k0 k1 k2 k3 k4 k5 k6 v0 v1 v2 v3 v4 v5 v6; have hgs : g ≠ s := (by omega); have hsg : s ≠ g := (by omega); have HCS := Lib.hid hcs; clear e1 e2 e3 o1 o2 o3 hcs
        subst eg
        have hne6 : ¬ 9223372036854775807 < x.ne.size + 2 := by have h1 := S4.out.2.2.2.1.2.1; rw [HCS.out] at h1; have h2 := (h1 x (List.mem_cons_self ..)).2.2; omega
        go_region
        all_goals go_wp2_with fail
        all_goals
          have S6 := BS.put1 (cs' := ⟨x.ia, x.ip, x.oa, x.op, x.kn, x.he, x.ne ++ ⟨#[97, 59]⟩⟩ :: cr) S4.out hRs hBR h0s 6 (.string (x.ne ++ ⟨#[97, 59]⟩)) (by rw [HCS.out]; rfl) (by rw [HCS.out]; rfl) (by have h1 := S4.out.2.2.2.1.2.1; rw [HCS.out] at h1; have h2 := h1 x (List.mem_cons_self ..); exact cnIn_tail h1 (by have := h2.1; show (x.kn.size : Int) ≤ _; omega) (by have := h2.2.1; show (x.he.size : Int) ≤ _; omega) (by have := h2.2.2; show ((x.ne ++ ⟨#[97, 59]⟩ : ByteArray).size : Int) ≤ _; rw [ByteArray.size_append]; show ((x.ne.size + 2 : Nat) : Int) ≤ _; omega)) (by have h1 := S4.out.2.2.2.1.2.2.2.1; rw [HCS.out] at h1; exact cnWf_tail h1 (h1 x (List.mem_cons_self ..)))
          obtain ⟨⟨z0, z1, z2⟩, -⟩ := three_all (three_set (S6).1 (.slice a1 n1 c1) (.slice a2 n2 c2) (.slice (some ⟨g, 0, none⟩) n3 c3))
          refine bodyPost_ret (v := .agg #[.slice a1 n1 c1, .slice a2 n2 c2, .slice (some ⟨g, 0, none⟩) n3 c3]) (by simp [results, Tryz.results25, go_sem, z0, z1, z2]) rfl ⟨_, _, _, _, rfl, ?_, (S6).2.2.2.1, ?_, ?_⟩
          · exact (OwH.mono (OwH.set3B (S6).2.2.1 (S6).1) (by omega)).later (Below.refl _ _).drew
          · exact grown_drewG (grown_putR (grown_putR (grown_putR (S6).2.2.2.2.1 h0s 0 _) h0s 1 _) h0s 2 _)
          · exact rd_drewD ((rd_put (rd_put (rd_put (S6).2.2.2.2.2 _ (by omega) (by omega)) _ (by omega) (by omega)) _ (by omega) (by omega)).mono (by omega))
    · by_cases h0 : n3 = 0
      · subst h0
        go_wp2_with fail
        obtain ⟨⟨z0, z1, z2⟩, -⟩ := three_all (three_set (S4.out.fin).1 (.slice a1 n1 c1) (.slice a2 n2 c2) (.slice a3 0 c3))
        refine bodyPost_ret (v := .agg #[.slice a1 n1 c1, .slice a2 n2 c2, .slice a3 0 c3]) (by simp [results, Tryz.results25, go_sem, z0, z1, z2]) rfl ⟨_, _, _, _, rfl, ?_, (S4.out.fin).2.2.2.1, ?_, ?_⟩
        · exact OwH.mono (OwH.set3B (S4.out.fin).2.2.1 (S4.out.fin).1) (by omega)
        · exact grown_putR (grown_putR (grown_putR (S4.out.fin).2.2.2.2.1 h0s 0 _) h0s 1 _) h0s 2 _
        · exact (rd_put (rd_put (rd_put (S4.out.fin).2.2.2.2.2 _ (by omega) (by omega)) _ (by omega) (by omega)) _ (by omega) (by omega)).mono (by omega)
      · have h0i : (0 : Int) < (n3 : Int) := by omega
        have h0n : 0 < n3 := by omega
        clear h0
        obtain ⟨e1, e2, e3, o1, o2, o3⟩ := S4.out.2.2.1.parts; obtain ⟨x, cr, hcs⟩ : ∃ x cr, b.cs = x :: cr := (by cases hh : b.cs with | nil => rw [hh] at e3; simp at e3; omega | cons x cr => exact ⟨x, cr, rfl⟩); obtain ⟨g, eg, hgB, hgl, hcp, -, ⟨k0, k1, k2, k3, k4, k5, k6⟩, v0, v1, v2, v3, v4, v5, v6⟩ := own_conn o3 h0n x (by rw [hcs]; rfl); simp only [Nat.zero_mul, Nat.zero_add] at k0 k1 k2 k3 k4 k5 k6 v0 v1 v2 v3 v4 v5 v6; have hgs : g ≠ s := (by omega); have hsg : s ≠ g := (by omega); have HCS := Lib.hid hcs; clear e1 e2 e3 o1 o2 o3 hcs
        subst eg
        go_wp2_with fail
        have S6 := BS.put1 (cs' := ⟨x.ia, x.ip, x.oa, 80, x.kn, x.he, x.ne⟩ :: cr) S4.out hRs hBR h0s 3 (.int .i64 80) (by rw [HCS.out]; rfl) (by rw [HCS.out]; rfl) (by have h1 := S4.out.2.2.2.1.2.1; rw [HCS.out] at h1; have h2 := h1 x (List.mem_cons_self ..); exact cnIn_tail h1 (by have := h2.1; show (x.kn.size : Int) ≤ _; omega) (by have := h2.2.1; show (x.he.size : Int) ≤ _; omega) (by have := h2.2.2; show (x.ne.size : Int) ≤ _; omega)) (by have h1 := S4.out.2.2.2.1.2.2.2.1; rw [HCS.out] at h1; exact cnWf_tail h1 ⟨(h1 x (List.mem_cons_self ..)).1, (h1 x (List.mem_cons_self ..)).2.1, show (Lit.int .i64 80).wf = true by decide⟩)
        obtain ⟨⟨z0, z1, z2⟩, -⟩ := three_all (three_set (S6).1 (.slice a1 n1 c1) (.slice a2 n2 c2) (.slice (some ⟨g, 0, none⟩) n3 c3))
        refine bodyPost_ret (v := .agg #[.slice a1 n1 c1, .slice a2 n2 c2, .slice (some ⟨g, 0, none⟩) n3 c3]) (by simp [results, Tryz.results25, go_sem, z0, z1, z2]) rfl ⟨_, _, _, _, rfl, ?_, (S6).2.2.2.1, ?_, ?_⟩
        · exact OwH.mono (OwH.set3B (S6).2.2.1 (S6).1) (by omega)
        · exact grown_putR (grown_putR (grown_putR (S6).2.2.2.2.1 h0s 0 _) h0s 1 _) h0s 2 _
        · exact (rd_put (rd_put (rd_put (S6).2.2.2.2.2 _ (by omega) (by omega)) _ (by omega) (by omega)) _ (by omega) (by omega)).mono (by omega)

end Go.Proofs.YtgfkiljkpkfapaaGreatDoor

/- The box that is drawn for the law of BoxOk. Condition: the code lies in memory. -/
namespace Go.Proofs.YtgfkiljkpkfapaaGreatDoor
open Go.RowKit Go.Sort

/-- A box of the answer, where it is written. -/
theorem ans_box {w0 w : World} {s Bo : Nat} {x0 x1 x2 : Value} {v : Value} {b : Bx} (hs : w0.heap.size = s) (hB : s ≤ Bo) (k : Blk w s 29 [x0, x1, x2]) (o : OwH w Bo v b) (h : Below w0.heap.size w0 w) (y0 y1 y2 : Value) :
    Blk (((w.setCell ⟨s, 0, none⟩ y0).setCell ⟨s, 1, none⟩ y1).setCell ⟨s, 2, none⟩ y2) s 29 [y0, y1, y2] ∧ OwH (((w.setCell ⟨s, 0, none⟩ y0).setCell ⟨s, 1, none⟩ y1).setCell ⟨s, 2, none⟩ y2) w0.heap.size v b ∧ Below w0.heap.size w0 (((w.setCell ⟨s, 0, none⟩ y0).setCell ⟨s, 1, none⟩ y1).setCell ⟨s, 2, none⟩ y2) :=
  ⟨three_set k y0 y1 y2, (OwH.set3B o k).mono (by omega), ((h.setCell (by show _ ≤ s; omega) y0).setCell (by show _ ≤ s; omega) y1).setCell (by show _ ≤ s; omega) y2⟩

set_option maxRecDepth 100000 in
set_option maxHeartbeats 1600000 in
theorem drawBoxOk_any (ao : Option Addr) (n cap : Nat) (w : World) (h : BytesIn w ao n) (hn : n ≤ cap) :
    Calls Tryz.prog 18 #[.slice ao n cap] w fun e w' => ∃ x1 x2 x3 b, e = .returned (.agg #[x1, x2, x3]) ∧ OwH w' w.heap.size (.agg #[x1, x2, x3]) b ∧ (bxSz b ∧ wfE b.es ∧ cnWf b.cs) ∧ Below w.heap.size w w' := by
  have H := Lib.hid h
  clear h
  go_enter Tryz.func18, Tryz.ntmps18
  go_wp2_with fail
  (go_at_call 24; refine (open_any ao n cap _ (H.out.below ((Below.refl _ _).alloc (Nat.le_refl _) _)) hn).mono ?_; rintro e w1 ⟨R, rfl, hR, b1, r1⟩)
  simp only [World.size_alloc] at hR r1
  have hR1 : R < w1.heap.size := r1.lt
  have B1 : Hid (Below w.heap.size w w1) := ((Below.refl _ w).alloc (Nat.le_refl _) _).trans (b1.mono (by simp))
  have P1 : Hid (Blk w1 w.heap.size 29 [.slice none 0 0, .slice none 0 0, .slice none 0 0]) := Blk.below (three_new w _ _ _ _) b1
  have R1 := Lib.hid r1
  clear r1 b1
  obtain ⟨s, hs⟩ : ∃ s, s = w.heap.size := ⟨_, rfl⟩
  have HS := Lib.hid hs.symm
  rw [← hs] at R1 hR P1 ⊢
  clear hs
  go_wp2_with fail
  (go_at_call 25; refine (boxOr_any 2 (s + 1) R 0 _ R1.out (by omega) (by omega) (by omega)).mono ?_; rintro e w2 ⟨x1, x2, x3, b, rfl, ho, hz, g2, r2⟩)
  obtain ⟨a1, c1, a2, c2, a3, c3, rfl, rfl, rfl⟩ := ho.form
  have F := ans_box HS.out (by omega : s ≤ w1.heap.size) (P1.out.grown g2 (by omega)) ho (B1.out.grown g2 B1.out.size (fun k e => by cases e; have := HS.out; omega)) (.slice a1 b.rs.length c1) (.slice a2 b.es.length c2) (.slice a3 b.cs.length c3)
  have P2 := Lib.hid (P1.out.grown g2 (by omega))
  have FF := Lib.hid F
  clear ho g2 r2 R1 P1 B1 F
  obtain ⟨⟨t0, t1, t2⟩, u0, u1, u2⟩ := three_all P2.out
  go_wp2_with fail
  obtain ⟨⟨z0, z1, z2⟩, -⟩ := three_all FF.out.1
  refine bodyPost_ret (v := .agg #[.slice a1 b.rs.length c1, .slice a2 b.es.length c2, .slice a3 b.cs.length c3]) (by simp [results, Tryz.results18, go_sem, z0, z1, z2]) rfl ⟨_, _, _, b, rfl, FF.out.2.1, hz, FF.out.2.2⟩

end Go.Proofs.YtgfkiljkpkfapaaGreatDoor

/- The box and the place that are drawn for the law of BoxFar. Condition: the code lies in memory. -/
namespace Go.Proofs.YtgfkiljkpkfapaaGreatDoor
open Go.RowKit Go.Sort

set_option maxRecDepth 100000 in
set_option maxHeartbeats 1600000 in
theorem drawBoxFar_any (ao : Option Addr) (n cap : Nat) (w : World) (h : BytesIn w ao n) (hn : n ≤ cap) :
    Calls Tryz.prog 19 #[.slice ao n cap] w fun e w' => ∃ x1 x2 x3 b k, e = .returned (.tuple #[.agg #[x1, x2, x3], .int .i64 k]) ∧ (-1 ≤ k ∧ k ≤ 4) ∧ OwH w' w.heap.size (.agg #[x1, x2, x3]) b ∧ (bxSz b ∧ wfE b.es ∧ cnWf b.cs) ∧ Below w.heap.size w w' := by
  have H := Lib.hid h
  clear h
  go_enter Tryz.func19, Tryz.ntmps19
  go_wp2_with fail
  (go_at_call 24; refine (open_any ao n cap _ (H.out.below ((Below.refl _ _).alloc (Nat.le_refl _) _)) hn).mono ?_; rintro e w1 ⟨R, rfl, hR, b1, r1⟩)
  simp only [World.size_alloc] at hR r1
  have hR1 : R < w1.heap.size := r1.lt
  have B1 : Hid (Below w.heap.size w w1) := ((Below.refl _ w).alloc (Nat.le_refl _) _).trans (b1.mono (by simp))
  have P1 : Hid (Blk w1 w.heap.size 29 [.slice none 0 0, .slice none 0 0, .slice none 0 0]) := Blk.below (three_new w _ _ _ _) b1
  have R1 := Lib.hid r1
  clear r1 b1
  obtain ⟨s, hs⟩ : ∃ s, s = w.heap.size := ⟨_, rfl⟩
  have HS := Lib.hid hs.symm
  rw [← hs] at R1 hR P1 ⊢
  clear hs
  go_wp2_with fail
  (go_at_call 25; refine (boxOr_any 9 (s + 1) R 0 _ R1.out (by omega) (by omega) (by omega)).mono ?_; rintro e w2 ⟨x1, x2, x3, b, rfl, ho, hz, g2, r2⟩)
  obtain ⟨a1, c1, a2, c2, a3, c3, rfl, rfl, rfl⟩ := ho.form
  have HO := Lib.hid ho
  have R2 := Lib.hid r2
  have P2 := Lib.hid (P1.out.grown g2 (by omega))
  have BA : Hid (Below w.heap.size w w2) := B1.out.grown g2 B1.out.size (fun k e => by cases e; have := HS.out; omega)
  clear ho g2 r2 R1 P1 B1
  go_wp2_with fail
  (go_at_call 27; refine (pick_any 5 (s + 1) R (0 + 1800) _ R2.out (by omega)).mono ?_; rintro e w3 ⟨k, rfl, hk, g3, r3⟩)
  have hk5 : k < 5 := by omega
  have F := ans_box HS.out (by omega : s ≤ w1.heap.size) (P2.out.grown g3 (by omega)) (HO.out.grown g3 hR1) (BA.out.grown g3 BA.out.size (fun k e => by cases e; have := HS.out; omega)) (.slice a1 b.rs.length c1) (.slice a2 b.es.length c2) (.slice a3 b.cs.length c3)
  have P3 := Lib.hid (P2.out.grown g3 (by omega))
  have FF := Lib.hid F
  have hw5 := IntWalk.i64_in ((k : Int) - 1) (by omega)
  clear g3 r3 R2 P2 BA HO F
  obtain ⟨⟨t0, t1, t2⟩, u0, u1, u2⟩ := three_all P3.out
  go_wp2_with fail
  obtain ⟨⟨z0, z1, z2⟩, -⟩ := three_all FF.out.1
  refine bodyPost_ret (v := .tuple #[.agg #[.slice a1 b.rs.length c1, .slice a2 b.es.length c2, .slice a3 b.cs.length c3], .int .i64 ((k : Int) - 1)]) (by simp [results, Tryz.results19, go_sem, z0, z1, z2]) rfl ⟨_, _, _, b, _, rfl, ⟨by omega, by omega⟩, FF.out.2.1, hz, FF.out.2.2⟩

end Go.Proofs.YtgfkiljkpkfapaaGreatDoor

/- What goes outside of streams that a box knows, as the program answers. Condition: lists and texts of at most 2^20. -/
namespace Go.Proofs.YtgfkiljkpkfapaaGreatDoor
open Go.RowKit Go.Sort

/-- The cells of the n-th streams. -/
theorem RdCn.at {w : World} {a : Option Addr} {m cap : Nat} {cs : List Cn} (h : RdCn w (.slice a m cap) cs) {n : Nat} (hn : n < cs.length) (c : Cn) (hc : c = cs[n]) : ∃ g, a = some ⟨g, 0, none⟩ ∧ m = cs.length ∧ cs.length ≤ cap ∧ g < w.heap.size ∧
    (w.cell? ⟨g, n * 7, none⟩ = some (.int .i64 c.ia) ∧ w.cell? ⟨g, n * 7 + 1, none⟩ = some (.int .i64 c.ip) ∧ w.cell? ⟨g, n * 7 + 2, none⟩ = some (.int .i64 c.oa) ∧ w.cell? ⟨g, n * 7 + 3, none⟩ = some (.int .i64 c.op) ∧ w.cell? ⟨g, n * 7 + 4, none⟩ = some (.string c.kn) ∧ w.cell? ⟨g, n * 7 + 5, none⟩ = some (.string c.he) ∧ w.cell? ⟨g, n * 7 + 6, none⟩ = some (.string c.ne)) := by
  obtain ⟨ax, cx, ex, hcap, hrow⟩ := h
  simp at ex
  obtain ⟨rfl, rfl, rfl⟩ := ex
  obtain ⟨g, rfl, hr⟩ := hrow (by omega)
  exact ⟨g, rfl, rfl, hcap, hr.lt (by rw [flatC_len cnC_len]; omega), (RowAt.conn hr n hn c hc).1⟩

theorem cell_newE {w : World} {cs : Array Value} {t : TypeId} {b i : Nat} (h : b = w.heap.size) : (w.alloc (.cells cs t)).cell? ⟨b, i, none⟩ = cs[i]? := by subst h; exact (cell_new w cs t i).1
theorem frozen_newE {w : World} {cs : Array Value} {t : TypeId} {b i : Nat} (h : b = w.heap.size) : (w.alloc (.cells cs t)).frozen? ⟨b, i, none⟩ = false := by subst h; exact (cell_new w cs t i).2
theorem two_two {W : World} {b1 b2 : Nat} {x0 x1 y0 y1 : Value} (u0 u1 v0 v1 : Value) (n : b1 ≠ b2) (k0 : W.cell? ⟨b1, 0, none⟩ = some x0) (k1 : W.cell? ⟨b1, 1, none⟩ = some x1) (m0 : W.cell? ⟨b2, 0, none⟩ = some y0) (m1 : W.cell? ⟨b2, 1, none⟩ = some y1) :
    ((((W.setCell ⟨b1, 0, none⟩ u0).setCell ⟨b1, 1, none⟩ u1).setCell ⟨b2, 0, none⟩ v0).setCell ⟨b2, 1, none⟩ v1).cell? ⟨b1, 0, none⟩ = some u0 ∧ ((((W.setCell ⟨b1, 0, none⟩ u0).setCell ⟨b1, 1, none⟩ u1).setCell ⟨b2, 0, none⟩ v0).setCell ⟨b2, 1, none⟩ v1).cell? ⟨b1, 1, none⟩ = some u1 ∧
    ((((W.setCell ⟨b1, 0, none⟩ u0).setCell ⟨b1, 1, none⟩ u1).setCell ⟨b2, 0, none⟩ v0).setCell ⟨b2, 1, none⟩ v1).cell? ⟨b2, 0, none⟩ = some v0 ∧ ((((W.setCell ⟨b1, 0, none⟩ u0).setCell ⟨b1, 1, none⟩ u1).setCell ⟨b2, 0, none⟩ v0).setCell ⟨b2, 1, none⟩ v1).cell? ⟨b2, 1, none⟩ = some v1 := by
  have f1 : ∀ i j, (⟨b2, i, none⟩ : Addr) ≠ ⟨b1, j, none⟩ := fun i j e => by injection e with e1; exact n e1.symm
  have f2 : ∀ i j, (⟨b1, i, none⟩ : Addr) ≠ ⟨b2, j, none⟩ := fun i j e => by injection e with e1; exact n e1
  have g0 := World.cell?_setCell_same W ⟨b1, 0, none⟩ u0 k0
  have g1 := World.cell?_setCell_same (W.setCell ⟨b1, 0, none⟩ u0) ⟨b1, 1, none⟩ u1 ((World.cell?_setCell_other _ _ _ _ (seg_ne (show 0 ≠ 1 by decide))).trans k1)
  have h0 : (((W.setCell ⟨b1, 0, none⟩ u0).setCell ⟨b1, 1, none⟩ u1).cell? ⟨b2, 0, none⟩) = some y0 := (World.cell?_setCell_other _ _ _ _ (f2 _ _)).trans ((World.cell?_setCell_other _ _ _ _ (f2 _ _)).trans m0)
  have h1 : ((((W.setCell ⟨b1, 0, none⟩ u0).setCell ⟨b1, 1, none⟩ u1).setCell ⟨b2, 0, none⟩ v0).cell? ⟨b2, 1, none⟩) = some y1 := (World.cell?_setCell_other _ _ _ _ (seg_ne (show 0 ≠ 1 by decide))).trans ((World.cell?_setCell_other _ _ _ _ (f2 _ _)).trans ((World.cell?_setCell_other _ _ _ _ (f2 _ _)).trans m1))
  refine ⟨?_, ?_, ?_, ?_⟩
  · exact (World.cell?_setCell_other _ _ _ _ (f1 _ _)).trans ((World.cell?_setCell_other _ _ _ _ (f1 _ _)).trans ((World.cell?_setCell_other _ _ _ _ (seg_ne (show 1 ≠ 0 by decide))).trans g0))
  · exact (World.cell?_setCell_other _ _ _ _ (f1 _ _)).trans ((World.cell?_setCell_other _ _ _ _ (f1 _ _)).trans g1)
  · exact (World.cell?_setCell_other _ _ _ _ (seg_ne (show 1 ≠ 0 by decide))).trans (World.cell?_setCell_same _ _ _ h0)
  · exact World.cell?_setCell_same _ _ _ h1

theorem wp_name {P : Program} {c : Code} {Q : Exit → Act → World → Prop} {a : Act} {w : World} (F : World → Prop) (hF : F w) (h : ∀ W, F W → Code.wp P c Q a W) : Code.wp P c Q a w := h w hF

set_option maxRecDepth 100000 in
set_option maxHeartbeats 3200000 in
theorem implWays_any (v : Value) (b : Bx) (n : Nat) (w : World) (c : Cn) (hn : n < b.cs.length) (hc : c = b.cs[n]) (hm : mapB b.es = true) (hl : strB c.kn.data.toList = true) (hs : c.kn.size ≤ 2097152) (hv : RdBx w v b) (hvars : VarsOk w) :
    Calls Tryz.prog 59 #[v, .int .i64 n] w fun e w' => e = .returned (.tuple #[.agg #[.string c.kn, .string ⟨(streamE b.es (linesL c.kn.data.toList)).2.toArray⟩], .agg #[.string c.he, .string c.ne]]) ∧ Below w.heap.size w w' := by
  have h6 := mapB_le hm
  obtain ⟨a1, k1, a2, k2, a3, k3, rfl⟩ := hv.form
  obtain ⟨_, _, _, hvv, hr, ht, hcn⟩ := hv
  simp at hvv
  obtain ⟨rfl, rfl, rfl⟩ := hvv
  obtain ⟨g, rfl, -, hcap, hg, y0, y1, y2, y3, y4, y5, y6⟩ := hcn.at hn c hc
  have HC : Hid (∀ w', Below w.heap.size w w' → Calls Tryz.prog 103 #[.agg #[.slice a2 b.es.length k2], .string c.kn] w' fun e w'' => ∃ g c1, e = .returned (.tuple #[.agg #[.slice g (streamE b.es (linesL c.kn.data.toList)).1.length c1], .string ⟨(streamE b.es (linesL c.kn.data.toList)).2.toArray⟩]) ∧ Below w'.heap.size w' w'') := fun w' h => by
    refine (implStream_ok _ b.es c.kn w' (by omega) hs (ht.below h) hm hl (hvars.below h)).mono ?_
    rintro e w'' ⟨g, c1, rfl, _, b⟩
    exact ⟨g, c1, rfl, b⟩
  obtain ⟨ia, ip, oa, op, kn, he, ne⟩ := c
  simp only at HC y0 y1 y2 y3 y4 y5 y6 ⊢
  obtain ⟨z, hz⟩ : ∃ k, k = (streamE b.es (linesL kn.data.toList)).1.length := ⟨_, rfl⟩
  obtain ⟨ot, hot⟩ : ∃ o : ByteArray, o = ⟨(streamE b.es (linesL kn.data.toList)).2.toArray⟩ := ⟨_, rfl⟩
  rw [← hz, ← hot] at HC
  rw [← hot]
  have hn2 : (n : Int) < (b.cs.length : Int) := by omega
  have hn3 : (n : Int) ≤ (k3 : Int) := by omega
  have r0 := fun x y z => (cell_alloc_lt (o := z) (w := (w.alloc x).alloc y) (by simp; omega)).trans ((cell_alloc_lt (o := y) (w := w.alloc x) (by simp; omega)).trans ((cell_alloc_lt (o := x) hg).trans y0))
  have r1 := fun x y z => (cell_alloc_lt (o := z) (w := (w.alloc x).alloc y) (by simp; omega)).trans ((cell_alloc_lt (o := y) (w := w.alloc x) (by simp; omega)).trans ((cell_alloc_lt (o := x) hg).trans y1))
  have r2 := fun x y z => (cell_alloc_lt (o := z) (w := (w.alloc x).alloc y) (by simp; omega)).trans ((cell_alloc_lt (o := y) (w := w.alloc x) (by simp; omega)).trans ((cell_alloc_lt (o := x) hg).trans y2))
  have r3 := fun x y z => (cell_alloc_lt (o := z) (w := (w.alloc x).alloc y) (by simp; omega)).trans ((cell_alloc_lt (o := y) (w := w.alloc x) (by simp; omega)).trans ((cell_alloc_lt (o := x) hg).trans y3))
  have r4 := fun x y z => (cell_alloc_lt (o := z) (w := (w.alloc x).alloc y) (by simp; omega)).trans ((cell_alloc_lt (o := y) (w := w.alloc x) (by simp; omega)).trans ((cell_alloc_lt (o := x) hg).trans y4))
  have r5 := fun x y z => (cell_alloc_lt (o := z) (w := (w.alloc x).alloc y) (by simp; omega)).trans ((cell_alloc_lt (o := y) (w := w.alloc x) (by simp; omega)).trans ((cell_alloc_lt (o := x) hg).trans y5))
  have r6 := fun x y z => (cell_alloc_lt (o := z) (w := (w.alloc x).alloc y) (by simp; omega)).trans ((cell_alloc_lt (o := y) (w := w.alloc x) (by simp; omega)).trans ((cell_alloc_lt (o := x) hg).trans y6))
  have HA : Hid (∀ x y z u, Below w.heap.size w ((((w.alloc x).alloc y).alloc z).alloc u)) := fun x y z u => ((((Below.refl _ _).alloc (Nat.le_refl _) x).alloc (by simp) y).alloc (by simp; omega) z).alloc (by simp; omega) u
  clear hz hot hc hm hl hs hr ht hcn hvars y0 y1 y2 y3 y4 y5 y6
  go_enter Tryz.func59, Tryz.ntmps59
  go_wp2_with fail
  clear r0 r1 r2 r3 r4 r5 r6
  (go_at_call 103; refine (HC.out _ (HA.out _ _ _ _)).mono ?_; rintro e w1 ⟨gg, cc, rfl, b1⟩; obtain ⟨e1, f1⟩ := bcell b1)
  have s1 : w.heap.size < w1.heap.size := by have := b1.size; simp at this; omega
  have s2 : w.heap.size + 1 < w1.heap.size := by have := b1.size; simp at this; omega
  have s3 : w.heap.size + 1 + 1 < w1.heap.size := by have := b1.size; simp at this; omega
  have s4 : w.heap.size + 1 + 1 + 1 < w1.heap.size := by have := b1.size; simp at this; omega
  have B1 : Hid (Below w.heap.size w w1) := (HA.out _ _ _ _).trans (b1.mono (HA.out _ _ _ _).size)
  clear b1
  have O : Hid ((w1.cell? ⟨w.heap.size + 1, 0, none⟩ = some (.string ⟨#[]⟩) ∧ w1.cell? ⟨w.heap.size + 1, 1, none⟩ = some (.string ⟨#[]⟩) ∧ w1.frozen? ⟨w.heap.size + 1, 0, none⟩ = false ∧ w1.frozen? ⟨w.heap.size + 1, 1, none⟩ = false) ∧ (w1.cell? ⟨w.heap.size + 1 + 1, 0, none⟩ = some (.string ⟨#[]⟩) ∧ w1.cell? ⟨w.heap.size + 1 + 1, 1, none⟩ = some (.string ⟨#[]⟩) ∧ w1.frozen? ⟨w.heap.size + 1 + 1, 0, none⟩ = false ∧ w1.frozen? ⟨w.heap.size + 1 + 1, 1, none⟩ = false)) :=
    ⟨⟨((e1 _ _ (by simp)).trans ((cell_alloc_lt (by simp <;> omega)).trans ((cell_alloc_lt (by simp <;> omega)).trans (cell_newE (by simp))))), ((e1 _ _ (by simp)).trans ((cell_alloc_lt (by simp <;> omega)).trans ((cell_alloc_lt (by simp <;> omega)).trans (cell_newE (by simp))))), ((f1 _ _ (by simp)).trans ((frozen_alloc_lt (by simp <;> omega)).trans ((frozen_alloc_lt (by simp <;> omega)).trans (frozen_newE (by simp))))), ((f1 _ _ (by simp)).trans ((frozen_alloc_lt (by simp <;> omega)).trans ((frozen_alloc_lt (by simp <;> omega)).trans (frozen_newE (by simp)))))⟩, ⟨((e1 _ _ (by simp)).trans ((cell_alloc_lt (by simp <;> omega)).trans (cell_newE (by simp)))), ((e1 _ _ (by simp)).trans ((cell_alloc_lt (by simp <;> omega)).trans (cell_newE (by simp)))), ((f1 _ _ (by simp)).trans ((frozen_alloc_lt (by simp <;> omega)).trans (frozen_newE (by simp)))), ((f1 _ _ (by simp)).trans ((frozen_alloc_lt (by simp <;> omega)).trans (frozen_newE (by simp))))⟩⟩
  simp at e1 f1
  go_wp2_with fail
  refine wp_name (fun W => (W.cell? ⟨w.heap.size + 1, 0, none⟩ = some (.string ⟨#[]⟩) ∧ W.cell? ⟨w.heap.size + 1, 1, none⟩ = some (.string ⟨#[]⟩) ∧ W.frozen? ⟨w.heap.size + 1, 0, none⟩ = false ∧ W.frozen? ⟨w.heap.size + 1, 1, none⟩ = false) ∧
    (W.cell? ⟨w.heap.size + 1 + 1, 0, none⟩ = some (.string ⟨#[]⟩) ∧ W.cell? ⟨w.heap.size + 1 + 1, 1, none⟩ = some (.string ⟨#[]⟩) ∧ W.frozen? ⟨w.heap.size + 1 + 1, 0, none⟩ = false ∧ W.frozen? ⟨w.heap.size + 1 + 1, 1, none⟩ = false) ∧
    (W.cell? ⟨w1.heap.size + 1, 0, none⟩ = some (.string kn) ∧ W.cell? ⟨w1.heap.size + 1, 1, none⟩ = some (.string ot)) ∧ (W.cell? ⟨w1.heap.size + 1 + 1, 0, none⟩ = some (.string he) ∧ W.cell? ⟨w1.heap.size + 1 + 1, 1, none⟩ = some (.string ne)) ∧ Hid (Below w.heap.size w W)) ?_ ?_
  · refine ⟨⟨?_, ?_, ?_, ?_⟩, ⟨?_, ?_, ?_, ?_⟩, ⟨?_, ?_⟩, ⟨?_, ?_⟩, ?_⟩
    rotate_right
    · exact ((B1.out.alloc B1.out.size _).alloc (by simp; omega) _).alloc (by simp; omega) _
    · exact (cell_alloc_lt (by simp; omega)).trans ((cell_alloc_lt (by simp; omega)).trans ((cell_alloc_lt (by omega)).trans O.out.1.1))
    · exact (cell_alloc_lt (by simp; omega)).trans ((cell_alloc_lt (by simp; omega)).trans ((cell_alloc_lt (by omega)).trans O.out.1.2.1))
    · exact (frozen_alloc_lt (by simp; omega)).trans ((frozen_alloc_lt (by simp; omega)).trans ((frozen_alloc_lt (by omega)).trans O.out.1.2.2.1))
    · exact (frozen_alloc_lt (by simp; omega)).trans ((frozen_alloc_lt (by simp; omega)).trans ((frozen_alloc_lt (by omega)).trans O.out.1.2.2.2))
    · exact (cell_alloc_lt (by simp; omega)).trans ((cell_alloc_lt (by simp; omega)).trans ((cell_alloc_lt (by omega)).trans O.out.2.1))
    · exact (cell_alloc_lt (by simp; omega)).trans ((cell_alloc_lt (by simp; omega)).trans ((cell_alloc_lt (by omega)).trans O.out.2.2.1))
    · exact (frozen_alloc_lt (by simp; omega)).trans ((frozen_alloc_lt (by simp; omega)).trans ((frozen_alloc_lt (by omega)).trans O.out.2.2.2.1))
    · exact (frozen_alloc_lt (by simp; omega)).trans ((frozen_alloc_lt (by simp; omega)).trans ((frozen_alloc_lt (by omega)).trans O.out.2.2.2.2))
    · exact (cell_alloc_lt (by simp)).trans (cell_newE (by simp))
    · exact (cell_alloc_lt (by simp)).trans (cell_newE (by simp))
    · exact cell_newE (by simp)
    · exact cell_newE (by simp)
  intro W5 ⟨⟨k0, k1, g0, g1⟩, ⟨m0, m1, p0, p1⟩, ⟨u0, u1⟩, ⟨t0, t1⟩, BB⟩
  obtain ⟨b1, hb1⟩ : ∃ b, b = w.heap.size + 1 := ⟨_, rfl⟩
  obtain ⟨b2, hb2⟩ : ∃ b, b = w.heap.size + 1 + 1 := ⟨_, rfl⟩
  obtain ⟨b3, hb3⟩ : ∃ b, b = w1.heap.size + 1 := ⟨_, rfl⟩
  obtain ⟨b4, hb4⟩ : ∃ b, b = w1.heap.size + 1 + 1 := ⟨_, rfl⟩
  rw [← hb2, ← hb1, ← hb4, ← hb3]
  rw [← hb1] at k0 k1 g0 g1
  rw [← hb2] at m0 m1 p0 p1
  rw [← hb3] at u0 u1
  rw [← hb4] at t0 t1
  have n1 : b1 ≠ b2 := by omega
  have n2 : b1 ≠ b3 := by omega
  have n3 : b1 ≠ b4 := by omega
  have n4 : b2 ≠ b3 := by omega
  have n5 : b2 ≠ b4 := by omega
  have l1 : w.heap.size ≤ b1 := by omega
  have l2 : w.heap.size ≤ b2 := by omega
  clear O hb1 hb2 hb3 hb4 e1 f1 s1 s2 s3 s4 B1 HA HC hg hn hn2 hn3 hcap h6
  go_region
  all_goals
    go_wp2_with fail
    obtain ⟨q0, q1, q2, q3⟩ := two_two (W := W5) (b1 := b1) (b2 := b2) (.string kn) (.string ot) (.string he) (.string ne) n1 k0 k1 m0 m1
    refine bodyPost_ret (v := .tuple #[.agg #[.string kn, .string ot], .agg #[.string he, .string ne]]) (by simp [results, Tryz.results59, go_sem, q0, q1, q2, q3]) rfl ⟨rfl, ?_⟩
    exact ((((BB.out.setCell l1 _).setCell l1 _).setCell l2 _).setCell l2 _).drew

end Go.Proofs.YtgfkiljkpkfapaaGreatDoor

/- BoxOk of the program, at a box whose lists lie at any address. Conditions: at most 2^20 rules, ends and streams each; texts of at most 2^21 bytes. -/
namespace Go.Proofs.YtgfkiljkpkfapaaGreatDoor
open Go.RowKit Go.Sort

set_option maxRecDepth 100000 in
set_option maxHeartbeats 3200000 in
theorem implBoxOk_anyG (B : Nat) (v : Value) (b : Bx) (w : World) (hs : bxSz b) (hwf : wfE b.es) (hcw : cnWf b.cs) (ho : GBx w B v b) (hv : VarsOk w) (htb : TabOk w) :
    Calls Tryz.prog 16 #[v] w fun e w' => e = .returned (.bool (boxOkB b)) ∧ Below w.heap.size w w' := by
  obtain ⟨a1, c1, a2, c2, a3, c3, rfl, o1, o2, o3⟩ := ho
  obtain ⟨m1, m2, m3, m4⟩ := hs
  obtain ⟨W0, hW0⟩ : ∃ W, W = w.alloc (.cells #[.slice a1 b.rs.length c1, .slice a2 b.es.length c2, .slice a3 b.cs.length c3] 29) := ⟨_, rfl⟩
  have hA : Below w.heap.size w W0 := by rw [hW0]; exact (Below.refl _ _).alloc (Nat.le_refl _) _
  have K1 : Blk W0 w.heap.size 29 [.slice a1 b.rs.length c1, .slice a2 b.es.length c2, .slice a3 b.cs.length c3] := by rw [hW0]; exact three_new w _ _ _ _
  have KK : Hid (∀ w', Below W0.heap.size W0 w' → w'.cell? ⟨w.heap.size, 0, none⟩ = some (.slice a1 b.rs.length c1) ∧ w'.cell? ⟨w.heap.size, 1, none⟩ = some (.slice a2 b.es.length c2) ∧ w'.cell? ⟨w.heap.size, 2, none⟩ = some (.slice a3 b.cs.length c3)) := fun w' h => (three_all (K1.below h)).1
  have HA : Hid (∀ w', Below W0.heap.size W0 w' → Below w.heap.size w w') := fun w' h => hA.trans (h.mono hA.size)
  have HM : Hid (∀ w', Below w.heap.size w w' → Calls Tryz.prog 53 #[.agg #[.slice a2 b.es.length c2]] w' fun e w'' => e = .returned (.bool (mapB b.es)) ∧ Below w'.heap.size w' w'') := fun w' h => implMapOk_any _ b.es w' (by omega) hwf (OwnTab.tab (own_later o2 h))
  have HR : Hid (∀ w', Below w.heap.size w w' → Calls Tryz.prog 52 #[.slice a1 b.rs.length c1] w' fun e w'' => e = .returned (.bool (rulesB b.rs)) ∧ Below w'.heap.size w' w'') := fun w' h => implRules_any _ b.rs w' (by omega) (o1.below h)
  have HC : Hid (mapB b.es = true → ∀ k (hk : k < b.cs.length) (c : Cn), c = b.cs[k] → ∀ w', Below w.heap.size w w' → Calls Tryz.prog 55 #[.agg #[.slice a2 b.es.length c2], .agg #[.int .i64 c.ia, .int .i64 c.ip, .int .i64 c.oa, .int .i64 c.op, .string c.kn, .string c.he, .string c.ne]] w' fun e w'' => e = .returned (.bool (conI b.es c)) ∧ Below w'.heap.size w' w'') := fun hm k hk c hc w' h => by
    have hmem : c ∈ b.cs := by rw [hc]; exact List.getElem_mem _
    obtain ⟨y1, y2, y3⟩ := m4 c hmem
    obtain ⟨⟨v1, v2⟩, -⟩ := hcw c hmem
    exact implConn_any _ b.es c.ia c.ip c.oa c.op c.kn c.he c.ne w' hm (by omega) (by omega) (by omega) v1 v2 (OwnTab.tab (own_later o2 h)) (hv.below h) (htb.below h (Nat.le_refl _))
  have HF : Hid (∀ (c : Cn) w', Below w.heap.size w w' → Calls Tryz.prog 54 #[.slice a3 b.cs.length c3, .agg #[.int .i64 c.ia, .int .i64 c.ip], .agg #[.int .i64 c.oa, .int .i64 c.op]] w' fun e w'' => e = .returned (.int .i64 (findCn b.cs c.ia c.ip c.oa c.op)) ∧ Below w'.heap.size w' w'') := fun c w' h => implFindCn_any _ b.cs c.ia c.ip c.oa c.op w' (by omega) (o3.below h)
  have HRow : Hid (∀ k (hk : k < b.cs.length) (c : Cn), c = b.cs[k] → ∀ w', Below w.heap.size w w' → ∃ g3, a3 = some ⟨g3, 0, none⟩ ∧ w'.cell? ⟨g3, k * 7, none⟩ = some (.int .i64 c.ia) ∧ w'.cell? ⟨g3, k * 7 + 1, none⟩ = some (.int .i64 c.ip) ∧ w'.cell? ⟨g3, k * 7 + 2, none⟩ = some (.int .i64 c.oa) ∧ w'.cell? ⟨g3, k * 7 + 3, none⟩ = some (.int .i64 c.op) ∧ w'.cell? ⟨g3, k * 7 + 4, none⟩ = some (.string c.kn) ∧ w'.cell? ⟨g3, k * 7 + 5, none⟩ = some (.string c.he) ∧ w'.cell? ⟨g3, k * 7 + 6, none⟩ = some (.string c.ne)) := fun k hk c hc w' h => by
    obtain ⟨ax, cx, ex, -, hrow⟩ := o3.below h
    simp only [Value.slice.injEq] at ex
    obtain ⟨rfl, -, rfl⟩ := ex
    obtain ⟨g, e, hr⟩ := hrow (by omega)
    exact ⟨g, e, (RowAt.conn hr k hk c hc).1⟩
  have HCP : Hid (b.cs.length ≤ c3) := by
    obtain ⟨ax, cx, ex, hcx, -⟩ := o3
    simp only [Value.slice.injEq] at ex
    obtain ⟨-, -, rfl⟩ := ex
    exact hcx
  have HCI : Hid (mapB b.es = true → ∀ k (hk : k < b.cs.length) (c : Cn), c = b.cs[k] → connB b.es b.cs k = (decide (findCn b.cs c.ia c.ip c.oa c.op = (k : Int)) && conI b.es c)) := fun hm k hk c hc => connB_I hm hk c hc
  have HQ : Hid (boxOkB b = (mapB b.es && rulesB b.rs && decide (b.cs.length ≤ 3) && (List.range b.cs.length).all (connB b.es b.cs))) := rfl
  obtain ⟨Q, hQ⟩ : ∃ Q, Q = boxOkB b := ⟨_, rfl⟩
  obtain ⟨q1, e1⟩ : ∃ q, q = mapB b.es := ⟨_, rfl⟩
  obtain ⟨q2, e2⟩ : ∃ q, q = rulesB b.rs := ⟨_, rfl⟩
  obtain ⟨P, hP⟩ : ∃ P, P = connB b.es b.cs := ⟨_, rfl⟩
  obtain ⟨n1, hn1⟩ : ∃ n, n = b.rs.length := ⟨_, rfl⟩
  obtain ⟨n2, hn2⟩ : ∃ n, n = b.es.length := ⟨_, rfl⟩
  obtain ⟨n3, hn3⟩ : ∃ n, n = b.cs.length := ⟨_, rfl⟩
  rw [← hQ] at HQ ⊢
  rw [← e1] at HM HC HCI HQ
  rw [← e2] at HR HQ
  rw [← hP] at HCI HQ
  rw [← hn1] at KK HR hW0 ⊢
  rw [← hn2] at KK HM HC hW0 ⊢
  have HL := Lib.hid hn3
  rw [← hn3] at KK HF HQ hW0 m3 ⊢
  have BB : Hid (Below W0.heap.size W0 W0) := Below.refl _ _
  clear hQ e1 e2 hP hn1 hn2 hn3 o1 o2 o3 m1 m2 m4 K1 hA hv htb hwf hcw
  subst hW0
  cases q2
  · have hq : Q = false := by have := HQ.out; simpa using this
    subst hq
    clear HQ HC HCI HF HRow
    go_enter Tryz.func16, Tryz.ntmps16
    go_wp2_with fail
    (go_at_call 52; refine (HR.out _ (HA.out _ BB.out)).mono ?_; rintro e w1 ⟨rfl, b1⟩)
    go_wp2_with fail
    go_ret
    exact ⟨rfl, HA.out _ b1⟩
  cases q1
  · have hq : Q = false := by have := HQ.out; simpa using this
    subst hq
    clear HQ HC HCI HF HRow
    go_enter Tryz.func16, Tryz.ntmps16
    go_wp2_with fail
    (go_at_call 52; refine (HR.out _ (HA.out _ BB.out)).mono ?_; rintro e w1 ⟨rfl, b1⟩)
    obtain ⟨k0, k1, k2⟩ := KK.out _ b1
    have B1 := Lib.hid b1
    clear b1
    go_wp2_with fail
    (go_at_call 53; refine (HM.out _ (HA.out _ B1.out)).mono ?_; rintro e w2 ⟨rfl, b2⟩)
    go_wp2_with fail
    go_ret
    exact ⟨rfl, HA.out _ (B1.out.trans (b2.mono B1.out.size))⟩
  have HC2 := Lib.hid (HC.out rfl)
  have HCI2 := Lib.hid (HCI.out rfl)
  clear HC HCI
  by_cases h3 : 3 < n3
  · have hq : Q = false := by have := HQ.out; simpa [show ¬ n3 ≤ 3 by omega] using this
    subst hq
    clear HQ HC2 HCI2 HF HRow
    go_enter Tryz.func16, Tryz.ntmps16
    go_wp2_with fail
    (go_at_call 52; refine (HR.out _ (HA.out _ BB.out)).mono ?_; rintro e w1 ⟨rfl, b1⟩)
    obtain ⟨k0, k1, k2⟩ := KK.out _ b1
    have B1 := Lib.hid b1
    clear b1
    go_wp2_with fail
    (go_at_call 53; refine (HM.out _ (HA.out _ B1.out)).mono ?_; rintro e w2 ⟨rfl, b2⟩)
    have B2 := Lib.hid (B1.out.trans (b2.mono B1.out.size))
    obtain ⟨k0', k1', k2'⟩ := KK.out _ B2.out
    clear b2
    go_wp2_with fail
    go_ret
    exact ⟨rfl, HA.out _ B2.out⟩
  have HQ2 : Hid (Q = (List.range n3).all P) := by
    show Q = _
    have := HQ.out
    rw [decide_eq_true (by omega : n3 ≤ 3)] at this
    simpa using this
  clear HQ
  go_enter Tryz.func16, Tryz.ntmps16
  go_wp2_with fail
  (go_at_call 52; refine (HR.out _ (HA.out _ BB.out)).mono ?_; rintro e w1 ⟨rfl, b1⟩)
  obtain ⟨k0, k1, k2⟩ := KK.out _ b1
  have B1 := Lib.hid b1
  clear b1
  go_wp2_with fail
  (go_at_call 53; refine (HM.out _ (HA.out _ B1.out)).mono ?_; rintro e w2 ⟨rfl, b2⟩)
  have B2 := Lib.hid (B1.out.trans (b2.mono B1.out.size))
  obtain ⟨k0', k1', k2'⟩ := KK.out _ B2.out
  clear b2 k0 k1 k2
  go_wp2_with fail
  clear k0' k1' k2'
  go_loopw [3, 24] (fun _ i wr => ∃ k : Nat, k ≤ n3 ∧ i = .int .i64 k ∧ Hid (∀ j, j < k → P j = true) ∧ Hid (Below (w.alloc (.cells #[.slice a1 n1 c1, .slice a2 n2 c2, .slice a3 n3 c3] 29)).heap.size (w.alloc (.cells #[.slice a1 n1 c1, .slice a2 n2 c2, .slice a3 n3 c3] 29)) wr)) (fun _ i _ => n3 - (intOf i).toNat)
  case atStart => exact ⟨0, Nat.zero_le _, rfl, fun j hj => by omega, B2⟩
  case round =>
    obtain ⟨k, hk, rfl, HD, HB⟩ := hrel
    obtain ⟨k0, k1, k2⟩ := KK.out _ HB.out
    by_cases hlt : k < n3
    · have hlt2 : k < b.cs.length := by have := HL.out; omega
      have hcp : (k : Int) < (c3 : Int) := by have := HCP.out; omega
      obtain ⟨⟨ia, ip, oa, op, kn, he, ne⟩, hc⟩ : ∃ c, c = b.cs[k] := ⟨_, rfl⟩
      have CC : Hid (∀ w', Below w.heap.size w w' → Calls Tryz.prog 55 #[.agg #[.slice a2 n2 c2], .agg #[.int .i64 ia, .int .i64 ip, .int .i64 oa, .int .i64 op, .string kn, .string he, .string ne]] w' fun e w'' => e = .returned (.bool (conI b.es ⟨ia, ip, oa, op, kn, he, ne⟩)) ∧ Below w'.heap.size w' w'') := HC2.out k hlt2 _ hc
      have CF : Hid (∀ w', Below w.heap.size w w' → Calls Tryz.prog 54 #[.slice a3 n3 c3, .agg #[.int .i64 ia, .int .i64 ip], .agg #[.int .i64 oa, .int .i64 op]] w' fun e w'' => e = .returned (.int .i64 (findCn b.cs ia ip oa op)) ∧ Below w'.heap.size w' w'') := HF.out ⟨ia, ip, oa, op, kn, he, ne⟩
      have CI : Hid (P k = (decide (findCn b.cs ia ip oa op = (k : Int)) && conI b.es ⟨ia, ip, oa, op, kn, he, ne⟩)) := HCI2.out k hlt2 _ hc
      obtain ⟨g3, ha3, y0, y1, y2, y3, y4, y5, y6⟩ := HRow.out k hlt2 _ hc wr (HA.out _ HB.out)
      subst ha3
      simp only at y0 y1 y2 y3 y4 y5 y6
      obtain ⟨f, hf⟩ : ∃ z, z = findCn b.cs ia ip oa op := ⟨_, rfl⟩
      obtain ⟨q, hq⟩ : ∃ z, z = conI b.es ⟨ia, ip, oa, op, kn, he, ne⟩ := ⟨_, rfl⟩
      rw [← hf] at CF CI
      rw [← hq] at CC CI
      clear hc HC2 HF HCI2 hf hq HRow
      have hsw : w.heap.size < wr.heap.size := by have := HB.out.size; simp at this; omega
      have kA : ∀ o, (wr.alloc o).cell? ⟨w.heap.size, 2, none⟩ = some (.slice (some ⟨g3, 0, none⟩) n3 c3) := fun o => (cell_alloc_lt hsw).trans k2
      have kB : ∀ o, (wr.alloc o).cell? ⟨w.heap.size, 1, none⟩ = some (.slice a2 n2 c2) := fun o => (cell_alloc_lt hsw).trans k1
      have AA : Hid (∀ o, Below w.heap.size w (wr.alloc o)) := fun o => (HA.out _ HB.out).alloc (by omega) o
      have LL : Hid (∀ w', Below (wr.alloc (.cells #[.int .i64 ia, .int .i64 ip, .int .i64 oa, .int .i64 op, .string kn, .string he, .string ne] 49)).heap.size (wr.alloc (.cells #[.int .i64 ia, .int .i64 ip, .int .i64 oa, .int .i64 op, .string kn, .string he, .string ne] 49)) w' → (w'.cell? ⟨wr.heap.size, 0, none⟩ = some (.int .i64 ia) ∧ w'.cell? ⟨wr.heap.size, 1, none⟩ = some (.int .i64 ip) ∧ w'.cell? ⟨wr.heap.size, 2, none⟩ = some (.int .i64 oa) ∧ w'.cell? ⟨wr.heap.size, 3, none⟩ = some (.int .i64 op) ∧ w'.cell? ⟨wr.heap.size, 4, none⟩ = some (.string kn) ∧ w'.cell? ⟨wr.heap.size, 5, none⟩ = some (.string he) ∧ w'.cell? ⟨wr.heap.size, 6, none⟩ = some (.string ne)) ∧ w'.cell? ⟨w.heap.size, 1, none⟩ = some (.slice a2 n2 c2) ∧ Hid (Below (w.alloc (.cells #[.slice a1 n1 c1, .slice a2 n2 c2, .slice (some ⟨g3, 0, none⟩) n3 c3] 29)).heap.size (w.alloc (.cells #[.slice a1 n1 c1, .slice a2 n2 c2, .slice (some ⟨g3, 0, none⟩) n3 c3] 29)) w')) := fun w' h =>
        ⟨seven_cells ((show Blk (wr.alloc (.cells #[.int .i64 ia, .int .i64 ip, .int .i64 oa, .int .i64 op, .string kn, .string he, .string ne] 49)) wr.heap.size _ _ from heap_last3 wr _).below h), (h.cell (p := ⟨w.heap.size, 1, none⟩) (by simp; omega)).trans (kB _), (HB.out.alloc HB.out.size _).trans (h.mono (HB.out.alloc HB.out.size _).size)⟩
      by_cases hfk : f = (k : Int)
      rotate_left
      · have HF0 : Hid (Q = false) := HQ2.out.trans (all_no hlt (CI.out.trans (by rw [decide_eq_false hfk]; rfl)))
        clear CI HQ2 HD
        go_wp2_with fail
        (go_at_call 54; refine (CF.out _ (AA.out _)).mono ?_; rintro e w3 ⟨rfl, b3⟩)
        obtain ⟨⟨z0, z1, z2, z3, z4, z5, z6⟩, x1, HB3⟩ := LL.out _ b3
        clear b3 y0 y1 y2 y3 y4 y5 y6
        go_wp2_with fail
        go_ret
        exact ⟨ret_bool HF0.out.symm, HA.out _ HB3.out⟩
      subst hfk
      cases q
      · have HF0 : Hid (Q = false) := HQ2.out.trans (all_no hlt (CI.out.trans (by simp)))
        clear CI HQ2 HD
        go_wp2_with fail
        (go_at_call 54; refine (CF.out _ (AA.out _)).mono ?_; rintro e w3 ⟨rfl, b3⟩)
        obtain ⟨⟨z0, z1, z2, z3, z4, z5, z6⟩, x1, HB3⟩ := LL.out _ b3
        clear b3 y0 y1 y2 y3 y4 y5 y6
        go_wp2_with fail
        (go_at_call 55; refine (CC.out _ (HA.out _ HB3.out)).mono ?_; rintro e w4 ⟨rfl, b4⟩)
        have HB4 := Lib.hid (HB3.out.trans (b4.mono HB3.out.size))
        clear b4
        go_wp2_with fail
        go_ret
        exact ⟨ret_bool HF0.out.symm, HA.out _ HB4.out⟩
      · have HN : Hid (∀ j, j < k + 1 → P j = true) := fun j hj => by
          by_cases e : j = k
          · subst e; exact CI.out.trans (by simp)
          · exact HD.out j (by omega)
        clear CI HQ2 HD
        go_wp2_with fail
        (go_at_call 54; refine (CF.out _ (AA.out _)).mono ?_; rintro e w3 ⟨rfl, b3⟩)
        obtain ⟨⟨z0, z1, z2, z3, z4, z5, z6⟩, x1, HB3⟩ := LL.out _ b3
        clear b3 y0 y1 y2 y3 y4 y5 y6
        go_wp2_with fail
        (go_at_call 55; refine (CC.out _ (HA.out _ HB3.out)).mono ?_; rintro e w4 ⟨rfl, b4⟩)
        have HB4 := Lib.hid (HB3.out.trans (b4.mono HB3.out.size))
        clear b4
        go_wp2_with fail
        go_roundw
        case rel => exact ⟨k + 1, by omega, by go_num, HN, HB4⟩
        case measure => simp [intOf]; omega
    · have HT : Hid (Q = true) := HQ2.out.trans (all_yes fun j hj => HD.out j (by omega))
      have hkn : k = n3 := by omega
      clear HQ2 HD
      go_wp2
      go_ret
      exact ⟨ret_bool HT.out.symm, HA.out _ HB.out⟩

end Go.Proofs.YtgfkiljkpkfapaaGreatDoor

/- BoxFar of the program, at a box whose lists lie at any address. Condition: lists and texts of at most 2^20. -/
namespace Go.Proofs.YtgfkiljkpkfapaaGreatDoor
open Go.RowKit Go.Sort

set_option maxRecDepth 100000 in
set_option maxHeartbeats 3200000 in
theorem implFar_anyG (B : Nat) (v : Value) (b : Bx) (k : Int) (w : World) (hs : bxSz b) (hwf : wfE b.es) (hcw : cnWf b.cs) (ho : GBx w B v b) (hv : VarsOk w) (htb : TabOk w) :
    Calls Tryz.prog 20 #[v, .int .i64 k] w fun e w' => e = .returned (.string ⟨(farB b k).toArray⟩) ∧ Below w.heap.size w w' := by
  have HO := Lib.hid ho
  obtain ⟨a1, c1, a2, c2, a3, c3, rfl, o1, o2, o3⟩ := ho
  obtain ⟨W0, hW0⟩ : ∃ W, W = w.alloc (.cells #[.slice a1 b.rs.length c1, .slice a2 b.es.length c2, .slice a3 b.cs.length c3] 29) := ⟨_, rfl⟩
  have hA : Below w.heap.size w W0 := by rw [hW0]; exact (Below.refl _ _).alloc (Nat.le_refl _) _
  have K1 : Blk W0 w.heap.size 29 [.slice a1 b.rs.length c1, .slice a2 b.es.length c2, .slice a3 b.cs.length c3] := by rw [hW0]; exact three_new w _ _ _ _
  have KK : Hid (∀ w', Below W0.heap.size W0 w' → (w'.cell? ⟨w.heap.size, 0, none⟩ = some (.slice a1 b.rs.length c1) ∧ w'.cell? ⟨w.heap.size, 1, none⟩ = some (.slice a2 b.es.length c2) ∧ w'.cell? ⟨w.heap.size, 2, none⟩ = some (.slice a3 b.cs.length c3)) ∧ Below w.heap.size w w') := fun w' h => ⟨(three_all (K1.below h)).1, hA.trans (h.mono hA.size)⟩
  have HM : Hid (Calls Tryz.prog 16 #[.agg #[.slice a1 b.rs.length c1, .slice a2 b.es.length c2, .slice a3 b.cs.length c3]] W0 fun e w' => e = .returned (.bool (boxOkB b)) ∧ Below W0.heap.size W0 w') := implBoxOk_anyG B _ b W0 hs hwf hcw (HO.out.later hA) (hv.below hA) (htb.below hA (Nat.le_refl _))
  have HI : Hid (∀ w', Calls Tryz.prog 58 #[.int .i64 k, .int .i64 0, .int .i64 ((b.cs.length : Int) - 1)] w' fun e w'' => e = .returned (.bool (inB k 0 ((b.cs.length : Int) - 1))) ∧ w' = w'') := fun w' => within_any k 0 _ w'
  have h3 : b.cs.length ≤ 1048576 := hs.2.2.1
  have BB : Hid (Below W0.heap.size W0 W0) := Below.refl _ _
  cases hok : boxOkB b
  · have hf : farB b k = [] := if_neg (by rw [hok]; simp)
    rw [hf]
    rw [hok] at HM
    clear hf hok HO o1 o2 o3 K1 hA hs hwf hcw hv htb KK HI
    have AA : Hid (∀ w', Below W0.heap.size W0 w' → Below w.heap.size w w') := fun w' h => by rw [hW0] at h; exact ((Below.refl _ _).alloc (Nat.le_refl _) _).trans (h.mono (by simp))
    subst hW0
    go_enter Tryz.func20, Tryz.ntmps20
    go_wp2_with fail
    (go_at_call 16; refine HM.out.mono ?_; rintro e w1 ⟨rfl, b1⟩)
    go_wp2_with fail
    go_ret
    exact ⟨rfl, AA.out _ b1⟩
  rw [hok] at HM
  by_cases hk : 0 ≤ k ∧ k ≤ (b.cs.length : Int) - 1
  rotate_left
  · have hf : farB b k = [] := if_neg (by rintro ⟨_, h⟩; exact hk h)
    have hi : inB k 0 ((b.cs.length : Int) - 1) = false := by
      unfold inB
      simp only [Bool.and_eq_false_iff, decide_eq_false_iff_not]
      omega
    rw [hf]
    rw [hi] at HI
    clear hf hok HO o1 o2 o3 K1 hA hs hwf hcw hv htb hi hk
    subst hW0
    go_enter Tryz.func20, Tryz.ntmps20
    go_wp2_with fail
    (go_at_call 16; refine HM.out.mono ?_; rintro e w1 ⟨rfl, b1⟩)
    obtain ⟨⟨x0, x1, x2⟩, bw⟩ := KK.out _ b1
    go_wp2_with fail
    (go_at_call 58; refine (HI.out _).mono ?_; rintro e w2 ⟨rfl, rfl⟩)
    go_wp2_with fail
    go_ret
    exact ⟨rfl, bw⟩
  obtain ⟨n, rfl⟩ : ∃ n : Nat, k = n := ⟨k.toNat, by omega⟩
  have hn : n < b.cs.length := by omega
  have hi : inB (n : Int) 0 ((b.cs.length : Int) - 1) = true := by
    unfold inB
    simp only [Bool.and_eq_true, decide_eq_true_eq]
    omega
  rw [hi] at HI
  obtain ⟨⟨ia, ip, oa, op, kn, he, ne⟩, hc⟩ : ∃ c, c = b.cs[n] := ⟨_, rfl⟩
  have hf : farB b n = (streamE b.es (linesL kn.data.toList)).2 := by
    unfold farB
    rw [if_pos ⟨hok, hk⟩]
    unfold farE
    simp only [Int.toNat_natCast]
    rw [getD_at hn, ← hc]
  have hm := (boxOk_parts hok).1
  have hsz : kn.size ≤ 1048576 := by have := (hs.2.2.2 ⟨ia, ip, oa, op, kn, he, ne⟩ (by rw [hc]; exact List.getElem_mem _)).1; simp only at this; omega
  have HF : Hid (∀ w', Below w.heap.size w w' → Calls Tryz.prog 59 #[.agg #[.slice a1 b.rs.length c1, .slice a2 b.es.length c2, .slice a3 b.cs.length c3], .int .i64 n] w' fun e w'' => e = .returned (.tuple #[.agg #[.string kn, .string ⟨(farB b n).toArray⟩], .agg #[.string he, .string ne]]) ∧ Below w'.heap.size w' w'') := fun w' h => by
    rw [hf]
    have hl : strB kn.data.toList = true := by
      have := (conn_parts ((boxOk_parts hok).2.2.2 n hn)).2.2.2.2.1
      rwa [getD_at hn, ← hc] at this
    exact implWays_any _ b n w' ⟨ia, ip, oa, op, kn, he, ne⟩ hn hc hm hl (by show kn.size ≤ 2097152; omega) (HO.out.later h).rd (hv.below h)
  obtain ⟨ot, hot⟩ : ∃ o : ByteArray, o = ⟨(farB b n).toArray⟩ := ⟨_, rfl⟩
  rw [← hot] at HF ⊢
  have hn2 : (n : Int) < (b.cs.length : Int) := by omega
  clear hot hf hm hsz hc hi hok HO o1 o2 o3 K1 hA hs hwf hcw hv htb hk
  subst hW0
  go_enter Tryz.func20, Tryz.ntmps20
  go_wp2_with fail
  (go_at_call 16; refine HM.out.mono ?_; rintro e w1 ⟨rfl, b1⟩)
  obtain ⟨⟨x0, x1, x2⟩, bw⟩ := KK.out _ b1
  go_wp2_with fail
  (go_at_call 58; refine (HI.out _).mono ?_; rintro e w2 ⟨rfl, rfl⟩)
  go_wp2_with fail
  (go_at_call 59; refine (HF.out _ bw).mono ?_; rintro e w3 ⟨rfl, b3⟩)
  have bw3 := bw.trans (b3.mono bw.size)
  go_wp2_with fail
  go_ret
  first
    | exact ⟨rfl, bw3⟩
    | exact ⟨rfl, (bw3.alloc bw3.size _).alloc (by have := bw3.size; simp; omega) _⟩

end Go.Proofs.YtgfkiljkpkfapaaGreatDoor

/- BoxFar of the specification, at a box whose lists lie at any address. Conditions: as BoxOk. -/
namespace Go.Proofs.YtgfkiljkpkfapaaGreatDoor
open Go.RowKit Go.Sort

set_option maxRecDepth 100000 in
set_option maxHeartbeats 3200000 in
theorem specFar_anyG (B : Nat) (v : Value) (b : Bx) (k : Int) (w : World) (hs : bxSz b) (hB : B ≤ w.heap.size) (ho : GBx w B v b) :
    Calls Tryz.prog 21 #[v, .int .i64 k] w fun e w' => e = .returned (.string ⟨(farB b k).toArray⟩) ∧ Below w.heap.size w w' := by
  have HO := Lib.hid ho
  obtain ⟨a1, c1, a2, c2, a3, c3, rfl, o1, o2, o3⟩ := ho
  obtain ⟨W0, hW0⟩ : ∃ W, W = w.alloc (.cells #[.slice a1 b.rs.length c1, .slice a2 b.es.length c2, .slice a3 b.cs.length c3] 29) := ⟨_, rfl⟩
  have hA : Below w.heap.size w W0 := by rw [hW0]; exact (Below.refl _ _).alloc (Nat.le_refl _) _
  have K1 : Blk W0 w.heap.size 29 [.slice a1 b.rs.length c1, .slice a2 b.es.length c2, .slice a3 b.cs.length c3] := by rw [hW0]; exact three_new w _ _ _ _
  have KK : Hid (∀ w', Below W0.heap.size W0 w' → (w'.cell? ⟨w.heap.size, 0, none⟩ = some (.slice a1 b.rs.length c1) ∧ w'.cell? ⟨w.heap.size, 1, none⟩ = some (.slice a2 b.es.length c2) ∧ w'.cell? ⟨w.heap.size, 2, none⟩ = some (.slice a3 b.cs.length c3)) ∧ Below w.heap.size w w') := fun w' h => ⟨(three_all (K1.below h)).1, hA.trans (h.mono hA.size)⟩
  have HM : Hid (Calls Tryz.prog 10 #[.agg #[.slice a1 b.rs.length c1, .slice a2 b.es.length c2, .slice a3 b.cs.length c3]] W0 fun e w' => e = .returned (.bool (boxOkB b)) ∧ Below W0.heap.size W0 w') := specBoxOk_anyG B _ b W0 hs (Nat.le_trans hB hA.size) (HO.out.later hA)
  have HI : Hid (∀ w', Calls Tryz.prog 49 #[.int .i64 k, .int .i64 0, .int .i64 ((b.cs.length : Int) - 1)] w' fun e w'' => e = .returned (.bool (inB k 0 ((b.cs.length : Int) - 1))) ∧ w' = w'') := fun w' => specIn_any k 0 _ w'
  have h3 : b.cs.length ≤ 1048576 := hs.2.2.1
  have BB : Hid (Below W0.heap.size W0 W0) := Below.refl _ _
  cases hok : boxOkB b
  · have hf : farB b k = [] := if_neg (by rw [hok]; simp)
    rw [hf]
    rw [hok] at HM
    clear hf hok HO o1 o2 o3 K1 hA hs hB KK HI
    have AA : Hid (∀ w', Below W0.heap.size W0 w' → Below w.heap.size w w') := fun w' h => by rw [hW0] at h; exact ((Below.refl _ _).alloc (Nat.le_refl _) _).trans (h.mono (by simp))
    subst hW0
    go_enter Tryz.func21, Tryz.ntmps21
    go_wp2_with fail
    (go_at_call 10; refine HM.out.mono ?_; rintro e w1 ⟨rfl, b1⟩)
    go_wp2_with fail
    go_ret
    exact ⟨rfl, AA.out _ b1⟩
  rw [hok] at HM
  by_cases hk : 0 ≤ k ∧ k ≤ (b.cs.length : Int) - 1
  rotate_left
  · have hf : farB b k = [] := if_neg (by rintro ⟨_, h⟩; exact hk h)
    have hi : inB k 0 ((b.cs.length : Int) - 1) = false := by
      unfold inB
      simp only [Bool.and_eq_false_iff, decide_eq_false_iff_not]
      omega
    rw [hf]
    rw [hi] at HI
    clear hf hok HO o1 o2 o3 K1 hA hs hB hi hk
    subst hW0
    go_enter Tryz.func21, Tryz.ntmps21
    go_wp2_with fail
    (go_at_call 10; refine HM.out.mono ?_; rintro e w1 ⟨rfl, b1⟩)
    obtain ⟨⟨x0, x1, x2⟩, bw⟩ := KK.out _ b1
    go_wp2_with fail
    (go_at_call 49; refine (HI.out _).mono ?_; rintro e w2 ⟨rfl, rfl⟩)
    go_wp2_with fail
    go_ret
    exact ⟨rfl, bw⟩
  obtain ⟨n, rfl⟩ : ∃ n : Nat, k = n := ⟨k.toNat, by omega⟩
  have hn : n < b.cs.length := by omega
  have hi : inB (n : Int) 0 ((b.cs.length : Int) - 1) = true := by
    unfold inB
    simp only [Bool.and_eq_true, decide_eq_true_eq]
    omega
  rw [hi] at HI
  obtain ⟨⟨ia, ip, oa, op, kn, he, ne⟩, hc⟩ : ∃ c, c = b.cs[n] := ⟨_, rfl⟩
  have hf : farB b n = (streamE b.es (linesL kn.data.toList)).2 := by
    unfold farB
    rw [if_pos ⟨hok, hk⟩]
    unfold farE
    simp only [Int.toNat_natCast]
    rw [getD_at hn, ← hc]
  have hm := (boxOk_parts hok).1
  have hsz : kn.size ≤ 1048576 := by have := (hs.2.2.2 ⟨ia, ip, oa, op, kn, he, ne⟩ (by rw [hc]; exact List.getElem_mem _)).1; simp only at this; omega
  have HF : Hid (∀ w', Below w.heap.size w w' → Calls Tryz.prog 60 #[.agg #[.slice a2 b.es.length c2], .string kn] w' fun e w'' => e = .returned (.string ⟨(farB b n).toArray⟩) ∧ Below w'.heap.size w' w'') := fun w' h => by
    rw [hf]
    exact specL7Far_anyG B _ c2 b.es kn w' hm (by omega) (Nat.le_trans hB h.size) (own_later o2 h)
  have hcp : b.cs.length ≤ c3 := by
    obtain ⟨ax, cx, ex, hcx, -⟩ := o3
    simp only [Value.slice.injEq] at ex
    obtain ⟨-, -, rfl⟩ := ex
    exact hcx
  have hnc : (n : Int) < (c3 : Int) := by omega
  obtain ⟨g3, rfl, HRow⟩ : ∃ g3, a3 = some ⟨g3, 0, none⟩ ∧ Hid (∀ w', Below w.heap.size w w' → w'.cell? ⟨g3, n * 7 + 4, none⟩ = some (.string kn)) := by
    obtain ⟨ax, cx, ex, -, hrow⟩ := o3
    simp only [Value.slice.injEq] at ex
    obtain ⟨rfl, -, rfl⟩ := ex
    obtain ⟨g, rfl, hr⟩ := hrow (by omega)
    exact ⟨g, rfl, fun w' h => box_below (RowAt.conn hr n hn _ hc).1.2.2.2.2.1 h⟩
  obtain ⟨ot, hot⟩ : ∃ o : ByteArray, o = ⟨(farB b n).toArray⟩ := ⟨_, rfl⟩
  rw [← hot] at HF ⊢
  have hn2 : (n : Int) < (b.cs.length : Int) := by omega
  clear hcp hot hf hm hsz hc hi hok HO o1 o2 o3 K1 hA hs hB hk
  subst hW0
  go_enter Tryz.func21, Tryz.ntmps21
  go_wp2_with fail
  (go_at_call 10; refine HM.out.mono ?_; rintro e w1 ⟨rfl, b1⟩)
  obtain ⟨⟨x0, x1, x2⟩, bw⟩ := KK.out _ b1
  have r4 := HRow.out _ bw
  go_wp2_with fail
  (go_at_call 49; refine (HI.out _).mono ?_; rintro e w2 ⟨rfl, rfl⟩)
  go_wp2_with fail
  have bd : Below w.heap.size w w1.drew := bw.drew
  go_region_with (go_at_call 60; refine (HF.out _ (by first | exact bw | exact bd)).mono ?_; rintro e w3 ⟨rfl, b3⟩; have bw3 : Below w.heap.size w w3 := (by first | exact bw.trans (b3.mono bw.size) | exact bd.trans (b3.mono bd.size)); clear b3)
  all_goals
    go_wp2
    go_ret
    exact ⟨rfl, bw3⟩

end Go.Proofs.YtgfkiljkpkfapaaGreatDoor

/- RwrLine of the specification. Conditions: at most 2^22 ends; the text has at most 2^21 bytes. -/
namespace Go.Proofs.YtgfkiljkpkfapaaGreatDoor
open Go.RowKit Go.Sort

end Go.Proofs.YtgfkiljkpkfapaaGreatDoor

/- RwrLine of the program and of the specification, in one form. Conditions: at most 2^22 ends; all numbers are ints; the text has at most 2^21 bytes; the variables that are read hold what they are laid with. -/
namespace Go.Proofs.YtgfkiljkpkfapaaGreatDoor
open Go.RowKit

end Go.Proofs.YtgfkiljkpkfapaaGreatDoor

/- Plain facts on the texts of ends and the lines that name them: what is read is what is written. No condition. -/
namespace Go.Proofs.YtgfkiljkpkfapaaGreatDoor
open Go.RowKit

end Go.Proofs.YtgfkiljkpkfapaaGreatDoor

/- Lines that have gone outside: none has a sign, none names an end inside, and they go outside as they are. No condition. -/
namespace Go.Proofs.YtgfkiljkpkfapaaGreatDoor
open Go.RowKit

end Go.Proofs.YtgfkiljkpkfapaaGreatDoor
