/- The law that a part of a box is a box: at every code. Conditions: the code lies in memory; the variables that are read hold what they are laid with. (Several texts, joined: DrawTab, DrawBO, DrawBOk, GIBoxOk, BoxSub, HaOk, LwBoxOk.) -/
import Derived.Test.YtgfkiljkpkfapaaGreatDoorTPlj
import Derived.Test.YtgfkiljkpkfapaaGreatDoorTPla
import Derived.Test.YtgfkiljkpkfapaaGreatDoorTPlr
import Derived.Test.YtgfkiljkpkfapaaGreatDoorTPls
import Derived.Test.YtgfkiljkpkfapaaGreatDoorTPlg
import Derived.Test.YtgfkiljkpkfapaaGreatDoorTPlh
import Derived.Test.YtgfkiljkpkfapaaGreatDoorTPlm
import Derived.Test.YtgfkiljkpkfapaaGreatDoorTPlc
import Derived.Test.YtgfkiljkpkfapaaGreatDoorTPld
import Derived.Deep.RegionHeld3
import Derived.Deep.DeepCutAuto

/- The table that is drawn: some table, or what is none, of few ends, in memory of the call's own. Conditions: the reader is there; its place is small. -/
namespace Go.Proofs.YtgfkiljkpkfapaaGreatDoor
open Go.RowKit

theorem mapB_six {es : List (Int × Int)} (h : mapB es = true) : es.length ≤ 6 := by
  unfold mapB at h
  simp at h
  exact h.1

theorem putE_six {es : List (Int × Int)} {e : Int × Int} (h : es.length ≤ 6) : (putE es e).1.length ≤ 6 := by
  unfold putE
  split
  · exact h
  · split
    · exact h
    · simp; omega

theorem putE_mem {es : List (Int × Int)} {e x : Int × Int} (h : x ∈ (putE es e).1) : x ∈ es ∨ x = e := by
  unfold putE at h
  split at h
  · exact .inl h
  · split at h
    · exact .inl h
    · simpa using h

/-- MapPut at whatever: some table of at most six ends, each of the old ones or the new one. -/
theorem put_drawn (v : Value) (es : List (Int × Int)) (a p : Int) (w : World) (hn : es.length ≤ 4194304) (ht : TabAt w v es) :
    Calls Tryz.prog 115 #[.agg #[v], .agg #[.int .i64 a, .int .i64 p]] w fun e w' => ∃ g c us q, e = .returned (.tuple #[.agg #[.slice g (us : List (Int × Int)).length c], .int .i64 q]) ∧ OwnTab w' w.heap.size (.slice g us.length c) us ∧ (us.length ≤ 6 ∧ ∀ x ∈ us, x ∈ es ∨ x = (a, p)) ∧ Below w.heap.size w w' := by
  by_cases h : (mapB es && insB a p) = true
  · have h' := h
    simp at h'
    refine (specMapPut_ok v es a p w hn ht h'.1 h'.2).mono ?_
    rintro e w' ⟨g, c, rfl, ho, hb⟩
    exact ⟨some g, c, _, _, rfl, ho, ⟨putE_six (mapB_six h'.1), fun x hx => putE_mem hx⟩, hb⟩
  · refine (specMapPut_not v es a p w hn ht (by simpa using h)).mono ?_
    rintro e w' ⟨rfl, hb⟩
    exact ⟨none, 0, [], _, rfl, World.ownsRow_nil _ _ _ _, ⟨by simp, fun x hx => by cases hx⟩, hb⟩

theorem OwnTab.grown {w w' : World} {B R : Nat} {v : Value} {es : List (Int × Int)} (h : OwnTab w B v es) (hg : w.grownBy w' (some R)) (hR : R < B) : OwnTab w' B v es := by
  refine World.ownsRow.kept h hg ?_
  obtain ⟨_, h1 | ⟨g, cap, cur, rfl, hb, _⟩⟩ := h
  · rw [h1.1]; exact .inl rfl
  · exact .inr (by simp [Value.ownBlock]; omega)

theorem grownB {w w' : World} {row : Option Nat} (h : Below w.heap.size w w') : w.grownBy w' row :=
  ⟨h.os, h.tape, h.output, h.size, fun k hk _ => h.block k hk⟩
theorem gbox {w w' : World} {b i R : Nat} {v : Value} (h : w.cell? ⟨b, i, none⟩ = some v) (hg : w.grownBy w' (some R)) (hne : b ≠ R) : w'.cell? ⟨b, i, none⟩ = some v := by
  rw [(gcell hg (World.block_lt_of_cell? w _ h) hne i).1]; exact h
theorem gboxf {w w' : World} {b i R : Nat} {v : Value} (h : w.cell? ⟨b, i, none⟩ = some v) (hf : w.frozen? ⟨b, i, none⟩ = false) (hg : w.grownBy w' (some R)) (hne : b ≠ R) : w'.frozen? ⟨b, i, none⟩ = false := by
  rw [(gcell hg (World.block_lt_of_cell? w _ h) hne i).2]; exact hf
/-- A box of one cell that a drawer finds new. -/
theorem freshG {W w : World} {x : Value} {t : TypeId} {R : Nat} (h : (W.alloc (.cells #[x] t)).grownBy w (some R)) (hR : W.heap.size ≠ R) : w.cell? ⟨W.heap.size, 0, none⟩ = some x ∧ w.frozen? ⟨W.heap.size, 0, none⟩ = false :=
  ⟨gbox (by simp) h hR, gboxf (v := x) (by simp) (cell_new W _ _ 0).2 h hR⟩
theorem freshGd {W w : World} {x : Value} {t : TypeId} {R : Nat} (h : (W.alloc (.cells #[x] t)).drew.grownBy w (some R)) (hR : W.heap.size ≠ R) : w.cell? ⟨W.heap.size, 0, none⟩ = some x ∧ w.frozen? ⟨W.heap.size, 0, none⟩ = false :=
  freshG ((grownB (Below.refl _ _).drew).trans h) hR
/-- A box of one cell that a call finds new. -/
theorem freshB {W w : World} {x : Value} {t : TypeId} (h : Below (W.alloc (.cells #[x] t)).heap.size (W.alloc (.cells #[x] t)) w) : w.cell? ⟨W.heap.size, 0, none⟩ = some x ∧ w.frozen? ⟨W.heap.size, 0, none⟩ = false :=
  ⟨by rw [h.cell (by simp)]; simp, by rw [h.frozen (by simp)]; exact (cell_new W _ _ 0).2⟩
theorem boxDB {w w' : World} {b i : Nat} {v : Value} (h : w.cell? ⟨b, i, none⟩ = some v) (hf : w.frozen? ⟨b, i, none⟩ = false) (hb : Below w.heap.size w w') : w'.cell? ⟨b, i, none⟩ = some v ∧ w'.frozen? ⟨b, i, none⟩ = false :=
  ⟨by rw [hb.cell (p := ⟨b, i, none⟩) (World.block_lt_of_cell? w _ h)]; exact h, by rw [hb.frozen (p := ⟨b, i, none⟩) (World.block_lt_of_cell? w _ h)]; exact hf⟩

/-- Ends with small numbers. -/
def SmE (us : List (Int × Int)) : Prop := ∀ x ∈ us, Sm x.1 x.2

/-- How things stand while a table is drawn: the result's box at b, the table's behind it, its row behind both. -/
def TabI (b B R L : Nat) (w0 w : World) (g : Option Addr) (c : Nat) (us : List (Int × Int)) : Prop :=
  (w.cell? ⟨b, 0, none⟩ = some (.slice none 0 0) ∧ w.frozen? ⟨b, 0, none⟩ = false) ∧ (w.cell? ⟨b + 1, 0, none⟩ = some (.slice g us.length c) ∧ w.frozen? ⟨b + 1, 0, none⟩ = false) ∧ OwnTab w (b + 2) (.slice g us.length c) us ∧ (∀ x ∈ us, Sm x.1 x.2) ∧ w0.grownBy w (some R) ∧ Rd B R L w

theorem TabI.set {b B R L L' : Nat} {w0 w wc : World} {g g' : Option Addr} {c c' : Nat} {us vs : List (Int × Int)} (h : TabI b B R L w0 w g c us) (hg : w.grownBy wc (some R)) (hR : R < b) (hB : B ≤ R) (h0 : w0.heap.size ≤ b) (ho : OwnTab wc (b + 2) (.slice g' vs.length c') vs) (hv : ∀ x ∈ vs, Sm x.1 x.2) (hr : Rd B R L' wc) :
    TabI b B R L' w0 (wc.setCell ⟨b + 1, 0, none⟩ (.slice g' vs.length c')) g' c' vs := by
  obtain ⟨⟨r0, rf⟩, ⟨t0, tf⟩, _, _, hgr, _⟩ := h
  have t1 := gbox t0 hg (by omega)
  refine ⟨⟨?_, ?_⟩, ⟨World.cell?_setCell_same _ _ _ t1, ?_⟩, ownsRow_setCell_below (a := ⟨b + 1, 0, none⟩) ho (by simp) _, hv, grown_new (hgr.trans hg) _ _ (by omega), rd_put hr _ (by omega) (by omega)⟩
  · rw [World.cell?_setCell_other _ _ _ _ (by simp)]; exact gbox r0 hg (by omega)
  · rw [World.frozen?_setCell]; exact gboxf r0 rf hg (by omega)
  · rw [World.frozen?_setCell]; exact gboxf t0 tf hg (by omega)

theorem TabI.later {b B R L L' : Nat} {w0 w w' : World} {g : Option Addr} {c : Nat} {us : List (Int × Int)} (h : TabI b B R L w0 w g c us) (hg : w.grownBy w' (some R)) (hR : R < b) (hr : Rd B R L' w') : TabI b B R L' w0 w' g c us := by
  obtain ⟨⟨r0, rf⟩, ⟨t0, tf⟩, ho, hs, hgr, _⟩ := h
  exact ⟨⟨gbox r0 hg (by omega), gboxf r0 rf hg (by omega)⟩, ⟨gbox t0 hg (by omega), gboxf t0 tf hg (by omega)⟩, ho.grown hg (by omega), hs, hgr.trans hg, hr⟩
/-- What is left behind, once the table is stored as the result. -/
theorem TabI.fin {B R L M : Nat} {w0 w : World} {g : Option Addr} {c : Nat} {us : List (Int × Int)} (h : TabI w0.heap.size B R L w0 w g c us) (hR : R < w0.heap.size) (hB : B ≤ R) (h8 : us.length ≤ 8) (hL : L ≤ M) :
    OwnTab (w.setCell ⟨w0.heap.size, 0, none⟩ (.slice g us.length c)) w0.heap.size (.slice g us.length c) us ∧ (us.length ≤ 8 ∧ SmE us) ∧ w0.grownBy (w.setCell ⟨w0.heap.size, 0, none⟩ (.slice g us.length c)) (some R) ∧ Rd B R M (w.setCell ⟨w0.heap.size, 0, none⟩ (.slice g us.length c)) := by
  obtain ⟨_, _, ho, hs, hgr, hr⟩ := h
  exact ⟨OwnTab.mono (B := w0.heap.size + 2) (ownsRow_setCell_below (a := ⟨w0.heap.size, 0, none⟩) ho (by simp) _) (by omega), ⟨h8, hs⟩, grown_new hgr _ _ (Nat.le_refl _), rd_put (hr.mono hL) _ (by omega) (by omega)⟩

/-- The boxes alone: the table's holds v. -/
def BoxI (b B R L : Nat) (w0 w : World) (v : Value) : Prop :=
  (w.cell? ⟨b, 0, none⟩ = some (.slice none 0 0) ∧ w.frozen? ⟨b, 0, none⟩ = false) ∧ (w.cell? ⟨b + 1, 0, none⟩ = some v ∧ w.frozen? ⟨b + 1, 0, none⟩ = false) ∧ w0.grownBy w (some R) ∧ Rd B R L w
theorem TabI.box {b B R L : Nat} {w0 w : World} {g : Option Addr} {c : Nat} {us : List (Int × Int)} (h : TabI b B R L w0 w g c us) : BoxI b B R L w0 w (.slice g us.length c) := ⟨h.1, h.2.1, h.2.2.2.2.1, h.2.2.2.2.2⟩
theorem gcellN {w w' : World} {row : Option Nat} (hg : w.grownBy w' row) {b i : Nat} {v : Value} (h : w.cell? ⟨b, i, none⟩ = some v) (hf : w.frozen? ⟨b, i, none⟩ = false) (hne : row ≠ some b) : w'.cell? ⟨b, i, none⟩ = some v ∧ w'.frozen? ⟨b, i, none⟩ = false := by
  have hk := hg.block b (World.block_lt_of_cell? w _ h) (Ne.symm hne)
  exact ⟨(World.cell?_of_block (a := ⟨b, i, none⟩) hk).trans h, (World.frozen?_of_block (a := ⟨b, i, none⟩) hk).trans hf⟩
theorem BoxI.app {b B R L : Nat} {w0 w w' : World} {v : Value} {row : Option Nat} (h : BoxI b B R L w0 w v) (hg : w.grownBy w' row) (hrow : ∀ k, row = some k → b + 2 ≤ k) (hR : R < b) (hB : B ≤ R) (h0 : w0.heap.size ≤ b) : BoxI b B R L w0 w' v := by
  obtain ⟨⟨r0, rf⟩, ⟨t0, tf⟩, hgr, hr⟩ := h
  have n0 : row ≠ some b := fun e => by have := hrow _ e; omega
  have n1 : row ≠ some (b + 1) := fun e => by have := hrow _ e; omega
  exact ⟨gcellN hg r0 rf n0, gcellN hg t0 tf n1, hgr.andThen hg (fun j e => .inl (by have := hrow _ e; omega)), rd_kept hr hg (fun j e => by have := hrow _ e; exact ⟨by omega, by omega⟩)⟩
theorem BoxI.close {b B R L : Nat} {w0 w : World} {v : Value} {g : Option Addr} {c : Nat} {us : List (Int × Int)} (h : BoxI b B R L w0 w v) (hR : R < b) (hB : B ≤ R) (h0 : w0.heap.size ≤ b) (ho : OwnTab w (b + 2) (.slice g us.length c) us) (hs : ∀ x ∈ us, Sm x.1 x.2) :
    TabI b B R L w0 (w.setCell ⟨b + 1, 0, none⟩ (.slice g us.length c)) g c us := by
  obtain ⟨⟨r0, rf⟩, ⟨t0, tf⟩, hgr, hr⟩ := h
  refine ⟨⟨?_, ?_⟩, ⟨World.cell?_setCell_same _ _ _ t0, ?_⟩, ownsRow_setCell_below (a := ⟨b + 1, 0, none⟩) ho (by simp) _, hs, grown_new hgr _ _ (by omega), rd_put hr _ (by omega) (by omega)⟩
  · rw [World.cell?_setCell_other _ _ _ _ (by simp)]; exact r0
  · rw [World.frozen?_setCell]; exact rf
  · rw [World.frozen?_setCell]; exact tf
theorem own_snoc {w : World} {B : Nat} {v : Value} {us : List (Int × Int)} {a p : Int} (h : w.ownsRow B 31 2 v (us.length + 1) (flatE us ++ [.int .i64 a, .int .i64 p])) :
    ∃ g c vs, v = .slice g (vs : List (Int × Int)).length c ∧ OwnTab w B (.slice g vs.length c) vs ∧ vs.length = us.length + 1 ∧ vs = us ++ [(a, p)] := by
  have ho : OwnTab w B v (us ++ [(a, p)]) := by
    show w.ownsRow _ _ _ _ _ _
    rw [flatE_app, List.length_append]
    simpa [flatE] using h
  obtain ⟨g, c, e⟩ := ho.form
  exact ⟨g, c, _, e, e ▸ ho, by simp, rfl⟩
theorem OwnTab.ge {w : World} {B : Nat} {v : Value} {es : List (Int × Int)} (h : OwnTab w B v es) : ∀ k, v.ownBlock = some k → B ≤ k := by
  intro k hk
  obtain ⟨_, h1 | ⟨g, cap, cur, rfl, hb, _⟩⟩ := h
  · rw [h1.1] at hk; cases hk
  · simp [Value.ownBlock] at hk; omega
theorem sm_snoc {us vs : List (Int × Int)} {a p : Int} (h : ∀ x ∈ us, Sm x.1 x.2) (e : vs = us ++ [(a, p)]) (hs : Sm a p) : ∀ x ∈ vs, Sm x.1 x.2 := by
  subst e
  intro x hx
  simp at hx
  rcases hx with hx | rfl
  · exact h x hx
  · exact hs
/-- How long the slice in a box is. -/
def lenAt (b : Nat) (w : World) : Nat := match w.cell? ⟨b, 0, none⟩ with | some (.slice _ n _) => n | _ => 0
theorem lenAt_of {b : Nat} {w : World} {g : Option Addr} {n c : Nat} (h : w.cell? ⟨b, 0, none⟩ = some (.slice g n c)) : lenAt b w = n := by unfold lenAt; rw [h]

/-- append onto a slice of the call's own, something or other, at a step of a region that draws its order. -/
theorem step_append_more {P : Program} (w : World) {ops : Array Oper} {o : Oper} {a : Act} {K : Act → World → Prop} {Q : Exit → Act → World → Prop} {E : Prop} (hgd : o.guard = none) (s x : Operand) (t : TypeId)
    (ho : o.op = .call { callee := .builtin .append, args := #[s, x], argTypes := #[t, t] })
    (base : Nat) (e : TypeId) (i : TypeInfo) (z : Value) (size bytes : Nat) (ht : P.underlying t = some (.slice e)) (hi : P.info? e = some i) (hz : i.zero = some z)
    (hsize : i.size = size) (hby : i.bytes = bytes) (hzs : z.cells.size = size) (hsz : 0 < size)
    (v : Value) (n : Nat) (xs : List Value) (hs : a.eval s = v) (hown : w.ownsRow base e size v n xs)
    (ad : Addr) (m c : Nat) (news : List Value) (hx : a.eval x = .slice (some ad) m c) (hl : news.length = m * size) (hnews : ∀ j u, news[j]? = some u → w.cell? (ad.add j) = some u) (h1 : ∀ u ∈ news, u.oneCell' = true)
    (h63 : n + m ≤ maxLen) (hbytes : (n + m) * bytes ≤ 140737488355328) (hbase : base ≤ w.heap.size)
    (h : ∀ v' w', w'.ownsRow base e size v' (n + m) (xs ++ news) → w.grownBy w' v.ownBlock → K (a.put o.dst v') w') :
    if Region.wanted o (yielded ops a.tmps) = true then Oper.wp P o a w K Q else E := by
  have hw : Region.wanted o (yielded ops a.tmps) = true := by simp [Region.wanted, hgd]
  rw [if_pos hw]
  obtain ⟨v', w', hr, h2, h3, _, _⟩ := run_append_own_at (P := P) w base t o.type e i z size bytes ht hi hz hsize hby hzs hsz v n xs hown ad m c news hl hnews h1 h63 hbytes hbase
  unfold Oper.wp execOp
  simp only [ho, resolve, invoke, builtin, Sem.run_bind, Sem.run_pure, Result.andThen_ok, List.map_toArray, List.map_cons, List.map_nil, hs, hx, hr]
  exact h v' w' h2 h3

set_option maxRecDepth 100000 in
set_option maxHeartbeats 3200000 in
theorem table_any (m : Int) (B R L : Nat) (w : World) (h : Rd B R L w) (hL : L ≤ 990000) (hm : 0 ≤ m) (hm2 : m ≤ 1000000) :
    Calls Tryz.prog 66 #[.pointer (some ⟨R, 0, none⟩), .int .i64 m] w fun e w' => ∃ g c us, e = .returned (.agg #[.slice g (us : List (Int × Int)).length c]) ∧ OwnTab w' w.heap.size (.slice g us.length c) us ∧ (us.length ≤ 8 ∧ SmE us) ∧ w.grownBy w' (some R) ∧ Rd B R (L + 90) w' := by
  have hR := h.lt
  have hBR := h.base
  have H := Lib.hid h
  clear h
  go_enter Tryz.func66, Tryz.ntmps66
  go_wp2_with fail
  (go_at_call 27; refine (pick_any 8 B R L _ (by first | exact rd_alloc (rd_alloc H.out _) _ | exact rd_put (rd_alloc (rd_alloc H.out _) _) _ (by simp; omega) (by simp; omega)) (by omega)).mono ?_; rintro e w1 ⟨k, rfl, hk, g1, r1⟩)
  have hI : TabI w.heap.size B R (L + 1) w w1 none 0 [] := by
    refine ⟨⟨gbox (by simp) g1 (by omega), gboxf (v := .slice none 0 0) (by simp) (by simp) g1 (by omega)⟩, ⟨gbox (by simp) g1 (by omega), gboxf (v := .slice none 0 0) (by simp) (by simp) g1 (by omega)⟩, World.ownsRow_nil _ _ _ _, fun x hx => (by cases hx), ?_, r1⟩
    exact ((World.grownBy_alloc w _ _).trans (World.grownBy_alloc _ _ _)).trans g1
  have HI := Lib.hid hI
  clear hI g1 r1
  go_wp2_with fail
  go_loopw [6] (fun i wr => ∃ k : Nat, k ≤ 7 ∧ i = .int .i64 k ∧ ∃ g c us, (us : List (Int × Int)).length ≤ 6 ∧ Hid (TabI w.heap.size B R (L + 22 - 3 * k) w wr g c us)) (fun i _ => (intOf i).toNat)
  case atStart => exact ⟨k, by omega, rfl, none, 0, [], by simp, ⟨(HI.out.1), HI.out.2.1, HI.out.2.2.1, HI.out.2.2.2.1, HI.out.2.2.2.2.1, HI.out.2.2.2.2.2.mono (by omega)⟩⟩
  case round =>
    obtain ⟨n, hn, rfl, g, c, us, hus, HJ⟩ := hrel
    have z := HJ.out.2.2.2.2.1.size
    by_cases hn0 : 0 < n
    · have hn0i : (0 : Int) < (n : Int) := by omega
      have t0 := HJ.out.2.1.1
      have tl := World.block_lt_of_cell? _ _ t0
      simp only at tl
      obtain ⟨LL, hLL⟩ : ∃ LL, LL = L + 22 - 3 * n := ⟨_, rfl⟩
      rw [← hLL] at HJ
      have R0 : Hid (Rd B R LL wr) := HJ.out.2.2.2.2.2
      have mk : Hid (∀ w', wr.grownBy w' (some R) → w'.cell? ⟨w.heap.size + 1, 0, none⟩ = some (.slice g us.length c) ∧ wr.grownBy w' (some R)) := fun w' hg => ⟨gbox HJ.out.2.1.1 hg (by omega), hg⟩
      have HTb : Hid (∀ w', wr.grownBy w' (some R) → TabAt w' (.slice g us.length c) us) := fun w' hg => (HJ.out.2.2.1.grown hg (by omega)).tab
      clear t0
      go_upto_region 5 with fail
      go_cut [7] (fun s7 wx => ∃ b g c vs, s7 = .pointer (some ⟨b, 0, none⟩) ∧ wx.cell? ⟨b, 0, none⟩ = some (.slice g (vs : List (Int × Int)).length c) ∧ OwnTab wx wr.heap.size (.slice g vs.length c) vs ∧ (vs.length ≤ 6 ∧ ∀ x ∈ vs, Sm x.1 x.2) ∧ wr.grownBy wx (some R) ∧ Rd B R (LL + 3) wx ∧ wr.heap.size ≤ b)
      case first =>
        go_region_held3 (fun w' => w'.cell? ⟨w.heap.size + 1, 0, none⟩ = some (.slice g us.length c) ∧ wr.grownBy w' (some R))
          (first
            | exact mk.out _ (grownB (Below.refl _ _).drew)
            | exact mk.out _ cc
            | exact mk.out _ (cc.trans (World.grownBy_alloc _ _ _))
            | exact mk.out _ (grown_new cc _ _ (by first | omega | (simp; done) | (simp; omega)))
            | exact mk.out _ (grownB (((Below.refl _ _).drew).alloc (Nat.le_refl _) _))
            | exact mk.out _ ((‹_ ∧ wr.grownBy _ (some R)›.2).trans (World.grownBy_alloc _ _ _))
            | exact mk.out _ (grown_new (‹_ ∧ wr.grownBy _ (some R)›.2) _ _ (by first | omega | exact (‹_ ∧ wr.grownBy _ (some R)›.2).size | (simp; done) | (simp; omega)))
            | (trace_state; fail))
          (first
            | (go_at_call 70; have hS := (by assumption : _ ∧ wr.grownBy _ (some R)); refine (in_sm B R LL _ (by first | exact rd_drew R0.out | exact rd_alloc (rd_drew R0.out) _ | exact rd_drew (rd_alloc R0.out _)) (by omega)).mono ?_; rintro e wN ⟨a, p, rfl, gN, rN, QN⟩; have cc : wr.grownBy wN (some R) := hS.2.trans gN; have RN := Lib.hid rN; have QQ := Lib.hid QN; have zc := cc.size; (first | (have hk := freshG gN (by simp; omega); obtain ⟨k0, kf⟩ := hk) | (have hk := freshGd gN (by omega); obtain ⟨k0, kf⟩ := hk) | skip); clear rN QN)
            | (go_at_call 115; (try have kb := World.block_lt_of_cell? _ _ k0); have hS := (by assumption : _ ∧ wr.grownBy _ (some R)); refine (put_drawn _ us a p _ (by omega) (HTb.out _ hS.2)).mono ?_; rintro e wN ⟨g', c', vs, q, rfl, ho, hv, bN⟩; have FR := Lib.hid ho; have HV := Lib.hid hv; have cc : wr.grownBy wN (some R) := hS.2.trans (grownB bN); have RM : Hid (Rd B R (LL + 3) wN) := (by first | exact rd_below RN.out bN (Nat.le_refl _) | exact rd_below (rd_alloc RN.out _) bN (Nat.le_refl _)); have zc := cc.size; have zh := hS.2.size; (first | (have hk := freshB bN; obtain ⟨k0, kf⟩ := hk) | (have hk := boxDB k0 kf bN; obtain ⟨k0, kf⟩ := hk) | skip); clear ho hv))
        all_goals (go_wp2_with fail; go_meet)
        all_goals (first
          | exact ⟨_, _, _, _, rfl, by simp, OwnTab.mono (FR.out.below ((Below.refl _ _).alloc (Nat.le_refl _) _)) (by first | omega | (simp; omega)), ⟨HV.out.1, fun x hx => (HV.out.2 x hx).elim (fun h => HJ.out.2.2.2.1 x h) (fun h => by rw [h]; exact QQ.out)⟩, cc.trans (World.grownBy_alloc _ _ _), rd_alloc RM.out _, by first | omega | (simp; omega)⟩
          | exact ⟨_, _, _, _, rfl, World.cell?_setCell_same _ _ _ k0, OwnTab.mono (ownsRow_setCell_below FR.out (by first | exact kb | (simp; done) | omega | (simp; omega)) _) (by first | omega | (simp; omega)), ⟨HV.out.1, fun x hx => (HV.out.2 x hx).elim (fun h => HJ.out.2.2.2.1 x h) (fun h => by rw [h]; exact QQ.out)⟩, grown_new cc _ _ (by first | omega | (simp; done) | (simp; omega)), rd_put RM.out _ (by first | omega | (simp; omega)) (by first | omega | (simp; omega)), by first | omega | (simp; done) | (simp; omega)⟩
          | (trace_state; fail))
      case rest =>
        obtain ⟨bx, gx, cx, vs, rfl, kx, ox, ⟨hv6, hvS⟩, gX, rx, lx⟩ := hcut
        have HK : Hid (TabI w.heap.size B R (LL + 3) w (wc.setCell ⟨w.heap.size + 1, 0, none⟩ (.slice gx vs.length cx)) gx cx vs) := HJ.out.set gX (by omega) hBR (Nat.le_refl _) (ox.mono (by omega)) hvS rx
        have t1 := gbox HJ.out.2.1.1 gX (by omega)
        have tf := gboxf HJ.out.2.1.1 HJ.out.2.1.2 gX (by omega)
        clear ox hvS gX rx
        go_wp2_with fail
        go_roundw
        case rel => exact ⟨n - 1, by omega, by go_num, gx, cx, vs, hv6, ⟨HK.out.1, HK.out.2.1, HK.out.2.2.1, HK.out.2.2.2.1, HK.out.2.2.2.2.1, HK.out.2.2.2.2.2.mono (by omega)⟩⟩
        case measure => simp [intOf]; omega
    · obtain rfl : n = 0 := by omega
      have R0 := HJ.out.2.2.2.2.2
      have hn0i : ¬ (0 : Int) < ((0 : Nat) : Int) := by omega
      go_wp2_with fail
      (go_at_call 28; refine (odd_any m B R (L + 22) _ R0 (by omega) hm hm2).mono ?_; rintro e w2 ⟨b, rfl, g2, r2⟩)
      have HJ2 : Hid (TabI w.heap.size B R (L + 23) w w2 g c us) := HJ.out.later g2 (by omega) (r2.mono (by omega))
      have z2 := HJ2.out.2.2.2.2.1.size
      clear HJ R0 g2 r2 HI
      have hul : us.length ≤ 6 := hus
      cases b
      · obtain ⟨gx, cx, xs, HX, hx8⟩ : ∃ gx cx xs, Hid (TabI w.heap.size B R (L + 23) w w2 gx cx xs) ∧ (xs : List (Int × Int)).length ≤ 8 := ⟨g, c, us, HJ2, by omega⟩
        clear HJ2
        have r0 := HX.out.1.1
        have t0 := HX.out.2.1.1
        have rf := HX.out.1.2
        have F := Lib.hid (HX.out.fin (M := L + 90) hR hBR hx8 (by omega))
        go_wp2_with fail
        exact bodyPost_ret (v := .agg #[.slice gx xs.length cx]) (by simp [results, Tryz.results66, go_sem, World.cell?_setCell_same _ _ _ r0]) rfl ⟨gx, cx, xs, rfl, F.out⟩
      · go_wp2_with fail
        (go_at_call 27; refine (pick_any 3 B R (L + 23) _ HJ2.out.2.2.2.2.2 (by omega)).mono ?_; rintro e w3 ⟨k3, rfl, hk3, g3, r3⟩)
        have HJ3 : Hid (TabI w.heap.size B R (L + 24) w w3 g c us) := HJ2.out.later g3 (by omega) (r3.mono (by omega))
        have z3 := HJ3.out.2.2.2.2.1.size
        have t3 := HJ3.out.2.1.1
        have tf3 := HJ3.out.2.1.2
        have tl3 := World.block_lt_of_cell? _ _ t3
        simp only at tl3
        clear HJ2 g3 r3
        obtain ⟨i0, hi, hz0, hz1, hz2⟩ := info_parts infoEnd
        rcases (show k3 = 0 ∨ k3 = 1 ∨ k3 = 2 by omega) with rfl | rfl | rfl
        · have RR : Hid (Rd B R (L + 24) w3.drew) := rd_drew HJ3.out.2.2.2.2.2
          have mk : Hid (∀ w', w3.grownBy w' (some R) → Rd B R (L + 26) w' → TabI w.heap.size B R (L + 26) w w' g c us) := fun w' hg hr => HJ3.out.later hg (by omega) hr
          go_upto_region 12 with fail
          go_region_law (first
            | (refine step_append_more _ rfl (.tmp 46) (.tmp 49) 24 rfl (w.heap.size + 2) 31 i0 (.agg #[.int .i64 0, .int .i64 0]) 2 16 Tryz.underlying24 hi hz0 hz1 hz2 rfl (by decide) (.slice g us.length c) us.length (flatE us) (by rfl) (HO4.out _) ⟨w4.heap.size, 0, none⟩ 1 1 [.int .i64 a, .int .i64 p] (by rfl) (by rfl) (World.news_of_block (cs := #[.int .i64 a, .int .i64 p]) (t := 31) (heap_last _ _)) (by intro u hu; simp at hu; rcases hu with rfl | rfl <;> rfl) (by unfold maxLen; omega) (by omega) (by simp; omega) ?_
               intro v5 w5 hown5 hgrow5
               have HB5 : Hid (BoxI w.heap.size B R (L + 26) w w5 (.slice g us.length c)) := HJ4.out.box.app ((World.grownBy_alloc _ _ _).trans hgrow5) (fun k e => (HJ4.out.2.2.1.ge k e)) hR hBR (Nat.le_refl _)
               obtain ⟨gx, cx, xs, rfl, o5, l5, e5⟩ := own_snoc hown5
               have HX := Lib.hid (HB5.out.close hR hBR (Nat.le_refl _) o5 (sm_snoc HJ4.out.2.2.2.1 e5 QQ.out))
               have t5 := HB5.out.2.1.1
               have tf5 := HB5.out.2.1.2
               have hx8 : xs.length ≤ 8 := by omega
               clear hown5 hgrow5 o5 l5 e5 t4 tf4)
            | (go_simp; go_at_call 71; refine (out_sm B R (L + 24) _ RR.out (by omega)).mono ?_; rintro e w4 ⟨a, p, rfl, g4, r4, Q4⟩; have HJ4 : Hid (TabI w.heap.size B R (L + 26) w w4 g c us) := mk.out _ ((grownB (Below.refl _ _).drew).trans g4) r4; have QQ := Lib.hid Q4; have HO4 : Hid (∀ x, OwnTab (w4.alloc x) (w.heap.size + 2) (.slice g us.length c) us) := (fun x => HJ4.out.2.2.1.below ((Below.refl _ _).alloc (Nat.le_refl _) _)); have t4 := HJ4.out.2.1.1; have tf4 := HJ4.out.2.1.2; have z4 := HJ4.out.2.2.2.2.1.size; have tl4 := World.block_lt_of_cell? _ _ t4; simp only at tl4; clear g4 r4 Q4))
          all_goals
            have r0 := HX.out.1.1
            have t0 := HX.out.2.1.1
            have rf := HX.out.1.2
            have F := Lib.hid (HX.out.fin (M := L + 90) hR hBR hx8 (by omega))
            go_wp2_with fail
            exact bodyPost_ret (v := .agg #[.slice gx xs.length cx]) (by simp [results, Tryz.results66, go_sem, World.cell?_setCell_same _ _ _ r0]) rfl ⟨gx, cx, xs, rfl, F.out⟩
        · have HO3 : Hid (∀ x, OwnTab (w3.alloc x) (w.heap.size + 2) (.slice g us.length c) us) := fun x => HJ3.out.2.2.1.below ((Below.refl _ _).alloc (Nat.le_refl _) _)
          have HB3 := Lib.hid HJ3.out.box
          go_wp2_with (at_builtin; refine wpList_append_own _ rfl (.tmp 55) (.tmp 57) 24 rfl (w.heap.size + 2) 31 i0 (.agg #[.int .i64 0, .int .i64 0]) 2 16 Tryz.underlying24 hi hz0 hz1 hz2 rfl (by decide) _ _ _ rfl (HO3.out _) ⟨w3.heap.size, 0, none⟩ 1 1 [.int .i64 9, .int .i64 9] rfl rfl ?c1 ?c2 ?c3 ?c4 ?c5 ?_)
          case c1 =>
            intro j u hj
            match j, hj with
            | 0, hj => simp at hj; subst hj; simp [Addr.add]
            | 1, hj => simp at hj; subst hj; simp [Addr.add]
          case c2 => intro u hu; simp at hu; rcases hu with rfl | rfl <;> rfl
          case c3 => unfold maxLen; omega
          case c4 => omega
          case c5 => simp; omega
          intro v4 w4 hown4 hgrow4 _
          have HB4 : Hid (BoxI w.heap.size B R (L + 24) w w4 (.slice g us.length c)) := HB3.out.app ((World.grownBy_alloc _ _ _).trans hgrow4) (fun k e => (HJ3.out.2.2.1.ge k e)) hR hBR (Nat.le_refl _)
          obtain ⟨g4, c4, us4, rfl, o4, l4, e4⟩ := own_snoc hown4
          have hs4 := Lib.hid (sm_snoc HJ3.out.2.2.2.1 e4 (by unfold Sm; decide))
          have O4 := Lib.hid o4
          have L4 := Lib.hid l4
          have l4b : us4.length ≤ 7 := by omega
          clear e4 l4
          have HO4 : Hid (∀ x, OwnTab (w4.alloc x) (w.heap.size + 2) (.slice g4 us4.length c4) us4) := fun x => o4.below ((Below.refl _ _).alloc (Nat.le_refl _) _)
          have z4 := HB4.out.2.2.1.size
          have t4 := HB4.out.2.1.1
          have tl4 := World.block_lt_of_cell? _ _ t4
          simp only at tl4
          clear hown4 hgrow4 HB3 HO3 HJ3 t3 tf3
          go_wp2_with (at_builtin; refine wpList_append_own _ rfl (.tmp 58) (.tmp 60) 24 rfl (w.heap.size + 2) 31 i0 (.agg #[.int .i64 0, .int .i64 0]) 2 16 Tryz.underlying24 hi hz0 hz1 hz2 rfl (by decide) _ _ _ rfl (HO4.out _) ⟨w4.heap.size, 0, none⟩ 1 1 [.int .i64 9, .int .i64 9] rfl rfl ?c1 ?c2 ?c3 ?c4 ?c5 ?_)
          case c1 =>
            intro j u hj
            match j, hj with
            | 0, hj => simp at hj; subst hj; simp [Addr.add]
            | 1, hj => simp at hj; subst hj; simp [Addr.add]
          case c2 => intro u hu; simp at hu; rcases hu with rfl | rfl <;> rfl
          case c3 => unfold maxLen; omega
          case c4 => omega
          case c5 => simp; omega
          intro v5 w5 hown5 hgrow5 _
          have HB5 : Hid (BoxI w.heap.size B R (L + 24) w w5 (.slice g us.length c)) := HB4.out.app ((World.grownBy_alloc _ _ _).trans hgrow5) (fun k e => (O4.out.ge k e)) hR hBR (Nat.le_refl _)
          obtain ⟨gx, cx, xs, rfl, o5, l5, e5⟩ := own_snoc hown5
          have HX := Lib.hid (HB5.out.close hR hBR (Nat.le_refl _) o5 (sm_snoc hs4.out e5 (by unfold Sm; decide)))
          have t5 := HB5.out.2.1.1
          have tf5 := HB5.out.2.1.2
          have hx8 : xs.length ≤ 8 := by have := L4.out; omega
          clear hown5 hgrow5 o4 O4 o5 l5 e5 HB4 HB5 HO4 t4 L4
          have r0 := HX.out.1.1
          have t0 := HX.out.2.1.1
          have rf := HX.out.1.2
          have F := Lib.hid (HX.out.fin (M := L + 90) hR hBR hx8 (by omega))
          go_wp2_with fail
          exact bodyPost_ret (v := .agg #[.slice gx xs.length cx]) (by simp [results, Tryz.results66, go_sem, World.cell?_setCell_same _ _ _ r0]) rfl ⟨gx, cx, xs, rfl, F.out⟩
        · have hx6 : us.length ≤ 7 := by omega
          go_wp2_with fail
          go_loopw [] (fun wr => ∃ g c us, (us : List (Int × Int)).length ≤ 7 ∧ Hid (TabI w.heap.size B R (L + 24) w wr g c us)) (fun wr => 8 - lenAt (w.heap.size + 1) wr)
          case atStart => exact ⟨g, c, us, hx6, HJ3⟩
          case round =>
            obtain ⟨g, c, us, hx7, HJ⟩ := hrel
            have zr := HJ.out.2.2.2.2.1.size
            have tr := HJ.out.2.1.1
            have tfr := HJ.out.2.1.2
            have tlr := World.block_lt_of_cell? _ _ tr
            simp only at tlr
            have HLn := Lib.hid (lenAt_of tr)
            by_cases hle : us.length ≤ 6
            · have hlei : (us.length : Int) ≤ 6 := by omega
              have HOr : Hid (∀ x, OwnTab (wr.alloc x) (w.heap.size + 2) (.slice g us.length c) us) := fun x => HJ.out.2.2.1.below ((Below.refl _ _).alloc (Nat.le_refl _) _)
              have hsm : Hid (Sm 8 (1 + (us.length : Int))) := by show Sm _ _; unfold Sm; omega
              go_wp2_with (at_builtin; refine wpList_append_own _ rfl (.tmp 34) (.tmp 40) 24 rfl (w.heap.size + 2) 31 i0 (.agg #[.int .i64 0, .int .i64 0]) 2 16 Tryz.underlying24 hi hz0 hz1 hz2 rfl (by decide) _ _ _ rfl (HOr.out _) ⟨wr.heap.size, 0, none⟩ 1 1 [.int .i64 8, .int .i64 (1 + (us.length : Int))] rfl rfl ?c1 ?c2 ?c3 ?c4 ?c5 ?_)
              case c1 =>
                intro j u hj
                match j, hj with
                | 0, hj => simp at hj; subst hj; simp [Addr.add]
                | 1, hj => simp at hj; subst hj; simp [Addr.add]
              case c2 => intro u hu; simp at hu; rcases hu with rfl | rfl <;> rfl
              case c3 => unfold maxLen; omega
              case c4 => omega
              case c5 => simp; omega
              intro v5 w5 hown5 hgrow5 _
              have HB5 : Hid (BoxI w.heap.size B R (L + 24) w w5 (.slice g us.length c)) := HJ.out.box.app ((World.grownBy_alloc _ _ _).trans hgrow5) (fun k e => (HJ.out.2.2.1.ge k e)) hR hBR (Nat.le_refl _)
              obtain ⟨gx, cx, xs, rfl, o5, l5, e5⟩ := own_snoc hown5
              have HX := Lib.hid (HB5.out.close hR hBR (Nat.le_refl _) o5 (sm_snoc HJ.out.2.2.2.1 e5 hsm.out))
              have t5 := HB5.out.2.1.1
              have tf5 := HB5.out.2.1.2
              have L5 := Lib.hid l5
              clear hown5 hgrow5 o5 l5 e5 HB5 tr tfr
              go_wp2_with fail
              go_roundw
              case rel => exact ⟨gx, cx, xs, by have := L5.out; omega, HX⟩
              case measure => have h1 := HLn.out; have h2 := lenAt_of HX.out.2.1.1; have := L5.out; rw [h1, h2]; omega
            · have hlei : ¬ (us.length : Int) ≤ 6 := by omega
              obtain ⟨gx, cx, xs, HX, hx8, hxl⟩ : ∃ gx cx xs, Hid (TabI w.heap.size B R (L + 24) w wr gx cx xs) ∧ (xs : List (Int × Int)).length ≤ 8 ∧ ¬ (xs.length : Int) ≤ 6 := ⟨g, c, us, HJ, by omega, hlei⟩
              clear HJ tr tfr HLn hlei
              have r0 := HX.out.1.1
              have t0 := HX.out.2.1.1
              have rf := HX.out.1.2
              have F := Lib.hid (HX.out.fin (M := L + 90) hR hBR hx8 (by omega))
              go_wp2_with fail
              exact bodyPost_ret (v := .agg #[.slice gx xs.length cx]) (by simp [results, Tryz.results66, go_sem, World.cell?_setCell_same _ _ _ r0]) rfl ⟨gx, cx, xs, rfl, F.out⟩

end Go.Proofs.YtgfkiljkpkfapaaGreatDoor

/- l20BoxOr of the specification: some box, in the call's own memory, not large. Conditions: the reader is there, its place is small. -/
namespace Go.Proofs.YtgfkiljkpkfapaaGreatDoor
open Go.RowKit Go.Sort

theorem OwH.set3B {w : World} {B g : Nat} {l : List Value} {v u0 u1 u2 : Value} {b : Bx} (h : OwH w B v b) (hb : Blk w g 29 l) : OwH (((w.setCell ⟨g, 0, none⟩ u0).setCell ⟨g, 1, none⟩ u1).setCell ⟨g, 2, none⟩ u2) B v b :=
  ((h.setB hb 0 u0).setB (hb.set 0 u0) 1 u1).setB ((hb.set 0 u0).set 1 u1) 2 u2

set_option maxRecDepth 100000 in
set_option maxHeartbeats 12800000 in
theorem boxOr_any (m : Int) (B R L : Nat) (w : World) (h : Rd B R L w) (hL : L ≤ 960000) (hm : 0 ≤ m) (hm2 : m ≤ 1000000) :
    Calls Tryz.prog 25 #[.pointer (some ⟨R, 0, none⟩), .int .i64 m] w fun e w' => ∃ x1 x2 x3 b, e = .returned (.agg #[x1, x2, x3]) ∧ OwH w' w.heap.size (.agg #[x1, x2, x3]) b ∧ (bxSz b ∧ wfE b.es ∧ cnWf b.cs) ∧ w.grownBy w' (some R) ∧ Rd B R (L + 1800) w' := by
  obtain ⟨i0, hi, hz0, hz1, hz2⟩ := info_parts infoCn
  have hRs := h.lt
  have hBR := h.base
  have H := Lib.hid h
  clear h
  go_enter Tryz.func25, Tryz.ntmps25
  go_wp2_with fail
  (go_at_call 65; refine (box_any B R L _ (rd_alloc H.out _) (by omega)).mono ?_; rintro e w1 ⟨x1, x2, x3, b, rfl, oh, hz, g1, r1⟩)
  obtain ⟨a1, c1, a2, c2, a3, c3, rfl, rfl, rfl⟩ := oh.form
  have z1 : w.heap.size + 1 ≤ w1.heap.size := by have := g1.size; simpa using this
  obtain ⟨s, hs⟩ : ∃ s, s = w.heap.size := ⟨_, rfl⟩
  obtain ⟨b3, hb3⟩ : ∃ b3, b3 = w1.heap.size := ⟨_, rfl⟩
  have S2 : Hid (BS B R s b3 (L + 1400) w (w1.alloc (.cells #[.slice a1 b.rs.length c1, .slice a2 b.es.length c2, .slice a3 b.cs.length c3] 29)) [.slice none 0 0, .slice none 0 0, .slice none 0 0] (.slice a1 b.rs.length c1) (.slice a2 b.es.length c2) (.slice a3 b.cs.length c3) b) := by
    rw [hs, hb3]
    have hA : Blk w1 w.heap.size 29 [.slice none 0 0, .slice none 0 0, .slice none 0 0] := (blk_newD w [.slice none 0 0, .slice none 0 0, .slice none 0 0] 29).grown g1 (by omega)
    refine ⟨hA.alloc _, blk_newD _ _ _, ?_, hz, ?_, rd_alloc r1 _⟩
    · have h1 := oh.later ((Below.refl _ w1).alloc (Nat.le_refl _) (.cells #[.slice a1 b.rs.length c1, .slice a2 b.es.length c2, .slice a3 b.cs.length c3] 29))
      exact h1.mono (by simp)
    · exact grown_alloc ((World.grownBy_alloc w _ _).trans g1) _
  go_upto_region 2 with fail
  obtain ⟨n1, hn1⟩ : ∃ n, n = b.rs.length := ⟨_, rfl⟩
  obtain ⟨n2, hn2⟩ : ∃ n, n = b.es.length := ⟨_, rfl⟩
  obtain ⟨n3, hn3⟩ : ∃ n, n = b.cs.length := ⟨_, rfl⟩
  rw [← hn1, ← hn2, ← hn3] at S2 ⊢
  have HN3 := Lib.hid hn3
  obtain ⟨W2, hW2⟩ : ∃ W2, W2 = w1.alloc (.cells #[.slice a1 n1 c1, .slice a2 n2 c2, .slice a3 n3 c3] 29) := ⟨_, rfl⟩
  rw [← hW2] at S2 ⊢
  rw [← hs] at z1 hRs ⊢
  rw [← hb3] at z1 ⊢
  have hsb : s < b3 := by omega
  have hbs : b3 ≠ s := by omega
  have hsb2 : s ≠ b3 := by omega
  have h0s : w.heap.size ≤ s := Nat.le_of_eq hs.symm
  have hn3k : n3 ≤ 1048576 := by rw [hn3]; exact hz.1.2.2.1
  clear hW2 hs hb3 z1 oh g1 r1 H hn1 hn2 hn3 hz
  go_upto_if 11 with (go_at_call 28; refine (odd_any m B R (L + 1400) _ S2.out.2.2.2.2.2 (by omega) hm hm2).mono ?_; rintro e w3 ⟨bo, rfl, g3, r3⟩)
  have S3 := Lib.hid (BS.grown S2.out g3 r3 hRs hsb)
  clear g3 r3 S2
  cases bo
  · obtain ⟨⟨p0, p1, p2⟩, u0, u1, u2⟩ := three_all (S3.out).2.1; obtain ⟨⟨t0, t1, t2⟩, f0, f1, f2⟩ := three_all (S3.out).1
    go_wp2_with fail
    obtain ⟨⟨z0, z1, z2⟩, -⟩ := three_all (three_set (S3.out.fin).1 (.slice a1 n1 c1) (.slice a2 n2 c2) (.slice a3 n3 c3))
    refine bodyPost_ret (v := .agg #[.slice a1 n1 c1, .slice a2 n2 c2, .slice a3 n3 c3]) (by simp [results, Tryz.results25, go_sem, z0, z1, z2]) rfl ⟨_, _, _, _, rfl, ?_, (S3.out.fin).2.2.2.1, ?_, ?_⟩
    · exact OwH.mono (OwH.set3B (S3.out.fin).2.2.1 (S3.out.fin).1) (by omega)
    · exact grown_putR (grown_putR (grown_putR (S3.out.fin).2.2.2.2.1 h0s 0 _) h0s 1 _) h0s 2 _
    · exact (rd_put (rd_put (rd_put (S3.out.fin).2.2.2.2.2 _ (by omega) (by omega)) _ (by omega) (by omega)) _ (by omega) (by omega)).mono (by omega)
  · obtain ⟨⟨p0, p1, p2⟩, u0, u1, u2⟩ := three_all (S3.out).2.1; obtain ⟨⟨t0, t1, t2⟩, f0, f1, f2⟩ := three_all (S3.out).1
    go_wp2_with fail
    (go_at_call 27; refine (pick_any 8 B R (L + 1401) _ S3.out.2.2.2.2.2 (by omega)).mono ?_; rintro e w4 ⟨k, rfl, hk, g4, r4⟩)
    have S4 := Lib.hid (BS.grown S3.out g4 r4 hRs hsb)
    have hk8 : k < 8 := by omega
    clear g4 r4 S3 hk
    clear p0 p1 p2 u0 u1 u2 t0 t1 t2 f0 f1 f2
    obtain ⟨⟨p0, p1, p2⟩, u0, u1, u2⟩ := three_all (S4.out).2.1; obtain ⟨⟨t0, t1, t2⟩, f0, f1, f2⟩ := three_all (S4.out).1
    obtain rfl | rfl | rfl | rfl | rfl | rfl | rfl | rfl : k = 0 ∨ k = 1 ∨ k = 2 ∨ k = 3 ∨ k = 4 ∨ k = 5 ∨ k = 6 ∨ k = 7 := by omega
    · go_wp2_with fail
      (go_at_call 66; refine (table_any 1 B R (L + 1402) _ S4.out.2.2.2.2.2 (by omega) (by omega) (by omega)).mono ?_; rintro e w5 ⟨g, c, us, rfl, ot, ⟨hu, hsu⟩, g5, r5⟩)
      have s5 := BS.grown S4.out g5 r5 hRs hsb
      have ot2 : OwnTab w5 (s + 1) (.slice g us.length c) us := own_monoG ot S4.out.1.lt
      clear p0 p1 p2 u0 u1 u2 t0 t1 t2 f0 f1 f2
      obtain ⟨⟨p0, p1, p2⟩, u0, u1, u2⟩ := three_all (s5).2.1; obtain ⟨⟨t0, t1, t2⟩, f0, f1, f2⟩ := three_all (s5).1
      go_wp2_with fail
      have S6 := BS.tab s5 hRs hBR hsb h0s ot2 hu (fun y hy => (hsu y hy).wf)
      obtain ⟨⟨z0, z1, z2⟩, -⟩ := three_all (three_set (S6).1 (.slice a1 n1 c1) (.slice g us.length c) (.slice a3 n3 c3))
      refine bodyPost_ret (v := .agg #[.slice a1 n1 c1, .slice g us.length c, .slice a3 n3 c3]) (by simp [results, Tryz.results25, go_sem, z0, z1, z2]) rfl ⟨_, _, _, _, rfl, ?_, (S6).2.2.2.1, ?_, ?_⟩
      · exact OwH.mono (OwH.set3B (S6).2.2.1 (S6).1) (by omega)
      · exact grown_putR (grown_putR (grown_putR (S6).2.2.2.2.1 h0s 0 _) h0s 1 _) h0s 2 _
      · exact (rd_put (rd_put (rd_put (S6).2.2.2.2.2 _ (by omega) (by omega)) _ (by omega) (by omega)) _ (by omega) (by omega)).mono (by omega)
    · by_cases h0 : n3 = 0
      · subst h0
        go_wp2_with fail
        obtain ⟨⟨z0, z1, z2⟩, -⟩ := three_all (three_set (S4.out.fin).1 (.slice a1 n1 c1) (.slice a2 n2 c2) (.slice a3 0 c3))
        refine bodyPost_ret (v := .agg #[.slice a1 n1 c1, .slice a2 n2 c2, .slice a3 0 c3]) (by simp [results, Tryz.results25, go_sem, z0, z1, z2]) rfl ⟨_, _, _, _, rfl, ?_, (S4.out.fin).2.2.2.1, ?_, ?_⟩
        · exact OwH.mono (OwH.set3B (S4.out.fin).2.2.1 (S4.out.fin).1) (by omega)
        · exact grown_putR (grown_putR (grown_putR (S4.out.fin).2.2.2.2.1 h0s 0 _) h0s 1 _) h0s 2 _
        · exact (rd_put (rd_put (rd_put (S4.out.fin).2.2.2.2.2 _ (by omega) (by omega)) _ (by omega) (by omega)) _ (by omega) (by omega)).mono (by omega)
      · have h0i : (0 : Int) < (n3 : Int) := by omega
        have h0n : 0 < n3 := by omega
        clear h0
        have hcx := S4.out.2.2.2.1.2
        go_upto_region 11 with fail
        obtain ⟨e1, e2, e3, o1, o2, o3⟩ := S4.out.2.2.1.parts; obtain ⟨x, cr, hcs⟩ : ∃ x cr, b.cs = x :: cr := (by cases hh : b.cs with | nil => rw [hh] at e3; simp at e3; omega | cons x cr => exact ⟨x, cr, rfl⟩); obtain ⟨g, eg, hgB, hgl, hcp, -, ⟨k0, k1, k2, k3, k4, k5, k6⟩, v0, v1, v2, v3, v4, v5, v6⟩ := own_conn o3 h0n x (by rw [hcs]; rfl); simp only [Nat.zero_mul, Nat.zero_add] at k0 k1 k2 k3 k4 k5 k6 v0 v1 v2 v3 v4 v5 v6; have hgs : g ≠ s := (by omega); have hsg : s ≠ g := (by omega); have HCS := Lib.hid hcs; clear e1 e2 e3 o1 o2 o3 hcs
        subst eg
        have hx6 : (x.kn.size : Int) ≤ 1048576 ∧ (x.he.size : Int) ≤ 1048576 ∧ (x.ne.size : Int) ≤ 1048576 := by
          have h1 := hcx.1
          rw [HCS.out] at h1
          have h2 := h1 x (List.mem_cons_self ..)
          exact ⟨by omega, by omega, by omega⟩
        have hxw : Hid (cnWf1 x) := hcx.2.2.1 x (by rw [HCS.out]; exact List.mem_cons_self ..)
        clear hcx
        have p0y := (fun o => (three_all (S4.out.alloc o).2.1).1.1); have p1y := (fun o => (three_all (S4.out.alloc o).2.1).1.2.1); have p2y := (fun o => (three_all (S4.out.alloc o).2.1).1.2.2)
        have hsw4 : s + 1 ≤ w4.heap.size := S4.out.1.lt
        go_region_law (first
          | (refine step_append_w _ (by rfl) (.tmp 34) (.tmp 39) 27 rfl (s + 1) 49 i0 (.agg #[.int .i64 0, .int .i64 0, .int .i64 0, .int .i64 0, .string ⟨#[]⟩, .string ⟨#[]⟩, .string ⟨#[]⟩]) 7 80 Tryz.underlying27 hi hz0 hz1 hz2 rfl (by decide) (.slice (some ⟨g, 0, none⟩) n3 c3) n3 (flatC cnC b.cs) (by rfl) (by first | exact (BS.own S4.out _).drew | exact BS.own S4.out.drew _) ⟨w4.heap.size, 0, none⟩ 1 1 (cnC x) (by rfl) (by rfl) (World.news_of_block (cs := #[.int .i64 x.ia, .int .i64 x.ip, .int .i64 x.oa, .int .i64 x.op, .string x.kn, .string x.he, .string x.ne]) (t := 49) (heap_last3 _ _)) (by intro u hu; simp [cnC] at hu; rcases hu with rfl | rfl | rfl | rfl | rfl | rfl | rfl <;> rfl) (by unfold maxLen; omega) (by omega) (by simp; omega) ?_; intro v5 w5 hown5 hgrow5; obtain ⟨a5, c5, rfl, m1, m2, m3⟩ := BS.app (x' := x) S4.out hRs hBR hsb h0s (grown_fromD hgrow5) hown5 hx6 hxw.out; clear hown5 hgrow5 p0y p1y p2y; clear p0 p1 p2 u0 u1 u2 t0 t1 t2 f0 f1 f2 k0 k1 k2 k3 k4 k5 k6 v0 v1 v2 v3 v4 v5 v6; obtain ⟨⟨p0, p1, p2⟩, u0, u1, u2⟩ := three_all m2; obtain ⟨⟨t0, t1, t2⟩, f0, f1, f2⟩ := three_all m1))
        all_goals go_wp2_with fail
        all_goals
          obtain ⟨⟨z0, z1, z2⟩, -⟩ := three_all (three_set (m3).1 (.slice a1 n1 c1) (.slice a2 n2 c2) (.slice a5 (n3 + 1) c5))
          refine bodyPost_ret (v := .agg #[.slice a1 n1 c1, .slice a2 n2 c2, .slice a5 (n3 + 1) c5]) (by simp [results, Tryz.results25, go_sem, z0, z1, z2]) rfl ⟨_, _, _, _, rfl, ?_, (m3).2.2.2.1, ?_, ?_⟩
          · exact OwH.mono (OwH.set3B (m3).2.2.1 (m3).1) (by omega)
          · exact grown_putR (grown_putR (grown_putR (m3).2.2.2.2.1 h0s 0 _) h0s 1 _) h0s 2 _
          · exact (rd_put (rd_put (rd_put (m3).2.2.2.2.2 _ (by omega) (by omega)) _ (by omega) (by omega)) _ (by omega) (by omega)).mono (by omega)
    · by_cases h0 : n3 = 0
      · subst h0
        go_wp2_with fail
        obtain ⟨⟨z0, z1, z2⟩, -⟩ := three_all (three_set (S4.out.fin).1 (.slice a1 n1 c1) (.slice a2 n2 c2) (.slice a3 0 c3))
        refine bodyPost_ret (v := .agg #[.slice a1 n1 c1, .slice a2 n2 c2, .slice a3 0 c3]) (by simp [results, Tryz.results25, go_sem, z0, z1, z2]) rfl ⟨_, _, _, _, rfl, ?_, (S4.out.fin).2.2.2.1, ?_, ?_⟩
        · exact OwH.mono (OwH.set3B (S4.out.fin).2.2.1 (S4.out.fin).1) (by omega)
        · exact grown_putR (grown_putR (grown_putR (S4.out.fin).2.2.2.2.1 h0s 0 _) h0s 1 _) h0s 2 _
        · exact (rd_put (rd_put (rd_put (S4.out.fin).2.2.2.2.2 _ (by omega) (by omega)) _ (by omega) (by omega)) _ (by omega) (by omega)).mono (by omega)
      · have h0i : (0 : Int) < (n3 : Int) := by omega
        have h0n : 0 < n3 := by omega
        clear h0
        go_upto_region 14 with fail
        obtain ⟨e1, e2, e3, o1, o2, o3⟩ := S4.out.2.2.1.parts; obtain ⟨x, cr, hcs⟩ : ∃ x cr, b.cs = x :: cr := (by cases hh : b.cs with | nil => rw [hh] at e3; simp at e3; omega | cons x cr => exact ⟨x, cr, rfl⟩); obtain ⟨g, eg, hgB, hgl, hcp, -, ⟨k0, k1, k2, k3, k4, k5, k6⟩, v0, v1, v2, v3, v4, v5, v6⟩ := own_conn o3 h0n x (by rw [hcs]; rfl); simp only [Nat.zero_mul, Nat.zero_add] at k0 k1 k2 k3 k4 k5 k6 v0 v1 v2 v3 v4 v5 v6; have hgs : g ≠ s := (by omega); have hsg : s ≠ g := (by omega); have HCS := Lib.hid hcs; clear e1 e2 e3 o1 o2 o3 hcs
        subst eg
        go_region_with (go_at_call 67; refine (streamOr_any 2 (by omega) (by omega) B R (L + 1402) _ (by first | exact S4.out.2.2.2.2.2 | exact rd_drewD S4.out.2.2.2.2.2) (by omega)).mono ?_; rintro e w5 ⟨sv, rfl, hsv, g5, r5⟩; have s5 := BS.grown S4.out (by first | exact g5 | exact grown_fromD g5) r5 hRs hsb; clear p0 p1 p2 u0 u1 u2 t0 t1 t2 f0 f1 f2 k0 k1 k2 k3 k4 k5 k6 v0 v1 v2 v3 v4 v5 v6; obtain ⟨⟨p0, p1, p2⟩, u0, u1, u2⟩ := three_all (s5).2.1; obtain ⟨⟨t0, t1, t2⟩, f0, f1, f2⟩ := three_all (s5).1; obtain ⟨g', eg, -, -, -, -, ⟨k0, k1, k2, k3, k4, k5, k6⟩, v0, v1, v2, v3, v4, v5, v6⟩ := own_conn s5.2.2.1.parts.2.2.2.2.2 h0n x (by rw [HCS.out]; rfl); injection eg with eg; injection eg with eg; subst eg; simp only [Nat.zero_mul, Nat.zero_add] at k0 k1 k2 k3 k4 k5 k6 v0 v1 v2 v3 v4 v5 v6)
        all_goals go_wp2_with fail
        all_goals
          have S6 := BS.put1 (cs' := ⟨x.ia, x.ip, x.oa, x.op, sv, x.he, x.ne⟩ :: cr) s5 hRs hBR h0s 4 (.string sv) (by rw [HCS.out]; rfl) (by rw [HCS.out]; rfl) (by have h1 := s5.2.2.2.1.2.1; rw [HCS.out] at h1; have h2 := h1 x (List.mem_cons_self ..); exact cnIn_tail h1 (by first | (show (sv.size : Int) ≤ _; omega) | (have := h2.1; show (x.kn.size : Int) ≤ _; omega)) (by first | (show (sv.size : Int) ≤ _; omega) | (have := h2.2.1; show (x.he.size : Int) ≤ _; omega)) (by have := h2.2.2; show (x.ne.size : Int) ≤ _; omega)) (by have h1 := s5.2.2.2.1.2.2.2.1; rw [HCS.out] at h1; exact cnWf_tail h1 (h1 x (List.mem_cons_self ..)))
          obtain ⟨⟨z0, z1, z2⟩, -⟩ := three_all (three_set (S6).1 (.slice a1 n1 c1) (.slice a2 n2 c2) (.slice (some ⟨g, 0, none⟩) n3 c3))
          refine bodyPost_ret (v := .agg #[.slice a1 n1 c1, .slice a2 n2 c2, .slice (some ⟨g, 0, none⟩) n3 c3]) (by simp [results, Tryz.results25, go_sem, z0, z1, z2]) rfl ⟨_, _, _, _, rfl, ?_, (S6).2.2.2.1, ?_, ?_⟩
          · exact OwH.mono (OwH.set3B (S6).2.2.1 (S6).1) (by omega)
          · exact grown_putR (grown_putR (grown_putR (S6).2.2.2.2.1 h0s 0 _) h0s 1 _) h0s 2 _
          · exact (rd_put (rd_put (rd_put (S6).2.2.2.2.2 _ (by omega) (by omega)) _ (by omega) (by omega)) _ (by omega) (by omega)).mono (by omega)
    · have hsw4 : s + 1 ≤ w4.heap.size := S4.out.1.lt
      go_upto_region 16 with fail
      go_region_law (first
        | (go_simp; go_at_call 68; refine (end_sm 3 B R (L + 1410) _ (by first | exact s5.2.2.2.2.2 | exact rd_drewD s5.2.2.2.2.2) (by omega) (by decide) (by decide)).mono ?_; rintro e w6 ⟨ea2, ep2, rfl, g6, r6, sm6⟩; have s6 := BS.grown s5 (by first | exact g6 | exact grown_fromD g6) r6 hRs hsb; have hsw6 : s + 1 ≤ w6.heap.size := s6.1.lt; have hwf6 := Lib.hid (show cnWf1 ⟨ea1, ep1, ea2, ep2, ⟨#[]⟩, ⟨#[]⟩, ⟨#[]⟩⟩ from ⟨hwf5.out, sm6.wf⟩); clear g6 r6 sm6; clear p0 p1 p2 u0 u1 u2 t0 t1 t2 f0 f1 f2; obtain ⟨⟨p0, p1, p2⟩, u0, u1, u2⟩ := three_all (s6).2.1; obtain ⟨⟨t0, t1, t2⟩, f0, f1, f2⟩ := three_all (s6).1; have p0y := (fun o => (three_all (s6.alloc o).2.1).1.1); have p1y := (fun o => (three_all (s6.alloc o).2.1).1.2.1); have p2y := (fun o => (three_all (s6.alloc o).2.1).1.2.2))
        | (go_simp; go_at_call 68; refine (end_sm 3 B R (L + 1402) _ (by first | exact S4.out.2.2.2.2.2 | exact rd_drewD S4.out.2.2.2.2.2) (by omega) (by decide) (by decide)).mono ?_; rintro e w5 ⟨ea1, ep1, rfl, g5, r5, sm5⟩; have s5 := BS.grown S4.out (by first | exact g5 | exact grown_fromD g5) r5 hRs hsb; have hwf5 := Lib.hid sm5.wf; clear g5 r5 sm5; clear p0 p1 p2 u0 u1 u2 t0 t1 t2 f0 f1 f2; obtain ⟨⟨p0, p1, p2⟩, u0, u1, u2⟩ := three_all (s5).2.1; obtain ⟨⟨t0, t1, t2⟩, f0, f1, f2⟩ := three_all (s5).1)
        | (refine step_append_w _ (by rfl) (.tmp 55) (.tmp 61) 27 rfl (s + 1) 49 i0 (.agg #[.int .i64 0, .int .i64 0, .int .i64 0, .int .i64 0, .string ⟨#[]⟩, .string ⟨#[]⟩, .string ⟨#[]⟩]) 7 80 Tryz.underlying27 hi hz0 hz1 hz2 rfl (by decide) (.slice a3 n3 c3) n3 (flatC cnC b.cs) (by rfl) (by first | exact BS.own s6 _ | exact (BS.own s6 _).drew) ⟨w6.heap.size, 0, none⟩ 1 1 (cnC ⟨ea1, ep1, ea2, ep2, ⟨#[]⟩, ⟨#[]⟩, ⟨#[]⟩⟩) (by rfl) (by rfl) (World.news_of_block (cs := #[.int .i64 ea1, .int .i64 ep1, .int .i64 ea2, .int .i64 ep2, .string ⟨#[]⟩, .string ⟨#[]⟩, .string ⟨#[]⟩]) (t := 49) (heap_last3 _ _)) (by intro u hu; simp [cnC] at hu; rcases hu with rfl | rfl | rfl | rfl | rfl <;> rfl) (by unfold maxLen; omega) (by omega) (by simp; omega) ?_; intro v7 w7 hown7 hgrow7; obtain ⟨a5, c5, rfl, m1, m2, m3⟩ := BS.app (x' := ⟨ea1, ep1, ea2, ep2, ⟨#[]⟩, ⟨#[]⟩, ⟨#[]⟩⟩) s6 hRs hBR hsb h0s (by first | exact hgrow7 | exact grown_fromD hgrow7) hown7 ⟨(show ((⟨#[]⟩ : ByteArray).size : Int) ≤ 1048576 by decide), (show ((⟨#[]⟩ : ByteArray).size : Int) ≤ 1048576 by decide), (show ((⟨#[]⟩ : ByteArray).size : Int) ≤ 1048576 by decide)⟩ hwf6.out; clear hown7 hgrow7 p0y p1y p2y; clear p0 p1 p2 u0 u1 u2 t0 t1 t2 f0 f1 f2; obtain ⟨⟨p0, p1, p2⟩, u0, u1, u2⟩ := three_all m2; obtain ⟨⟨t0, t1, t2⟩, f0, f1, f2⟩ := three_all m1))
      all_goals go_wp2_with fail
      all_goals
        obtain ⟨⟨z0, z1, z2⟩, -⟩ := three_all (three_set (m3).1 (.slice a1 n1 c1) (.slice a2 n2 c2) (.slice a5 (n3 + 1) c5))
        refine bodyPost_ret (v := .agg #[.slice a1 n1 c1, .slice a2 n2 c2, .slice a5 (n3 + 1) c5]) (by simp [results, Tryz.results25, go_sem, z0, z1, z2]) rfl ⟨_, _, _, _, rfl, ?_, (m3).2.2.2.1, ?_, ?_⟩
        · exact OwH.mono (OwH.set3B (m3).2.2.1 (m3).1) (by omega)
        · exact grown_putR (grown_putR (grown_putR (m3).2.2.2.2.1 h0s 0 _) h0s 1 _) h0s 2 _
        · exact (rd_put (rd_put (rd_put (m3).2.2.2.2.2 _ (by omega) (by omega)) _ (by omega) (by omega)) _ (by omega) (by omega)).mono (by omega)
    · go_wp2_with (go_at_call 69; refine (rules_any 1 B R (L + 1402) _ S4.out.2.2.2.2.2 (by omega) (by omega) (by omega)).mono ?_; rintro e w5 ⟨g, c, l, rfl, ol, hl, g5, r5⟩; have s5 := BS.grown S4.out g5 r5 hRs hsb; have ol := own_monoG ol S4.out.1.lt; clear p0 p1 p2 u0 u1 u2 t0 t1 t2 f0 f1 f2; obtain ⟨⟨p0, p1, p2⟩, u0, u1, u2⟩ := three_all (s5).2.1; obtain ⟨⟨t0, t1, t2⟩, f0, f1, f2⟩ := three_all (s5).1)
      have S6 := BS.rul s5 hRs hBR hsb h0s ol hl
      obtain ⟨⟨z0, z1, z2⟩, -⟩ := three_all (three_set (S6).1 (.slice (some g) l.length c) (.slice a2 n2 c2) (.slice a3 n3 c3))
      refine bodyPost_ret (v := .agg #[.slice (some g) l.length c, .slice a2 n2 c2, .slice a3 n3 c3]) (by simp [results, Tryz.results25, go_sem, z0, z1, z2]) rfl ⟨_, _, _, _, rfl, ?_, (S6).2.2.2.1, ?_, ?_⟩
      · exact OwH.mono (OwH.set3B (S6).2.2.1 (S6).1) (by omega)
      · exact grown_putR (grown_putR (grown_putR (S6).2.2.2.2.1 h0s 0 _) h0s 1 _) h0s 2 _
      · exact (rd_put (rd_put (rd_put (S6).2.2.2.2.2 _ (by omega) (by omega)) _ (by omega) (by omega)) _ (by omega) (by omega)).mono (by omega)
    · by_cases h0 : n3 = 0
      · subst h0
        go_wp2_with fail
        obtain ⟨⟨z0, z1, z2⟩, -⟩ := three_all (three_set (S4.out.fin).1 (.slice a1 n1 c1) (.slice a2 n2 c2) (.slice a3 0 c3))
        refine bodyPost_ret (v := .agg #[.slice a1 n1 c1, .slice a2 n2 c2, .slice a3 0 c3]) (by simp [results, Tryz.results25, go_sem, z0, z1, z2]) rfl ⟨_, _, _, _, rfl, ?_, (S4.out.fin).2.2.2.1, ?_, ?_⟩
        · exact OwH.mono (OwH.set3B (S4.out.fin).2.2.1 (S4.out.fin).1) (by omega)
        · exact grown_putR (grown_putR (grown_putR (S4.out.fin).2.2.2.2.1 h0s 0 _) h0s 1 _) h0s 2 _
        · exact (rd_put (rd_put (rd_put (S4.out.fin).2.2.2.2.2 _ (by omega) (by omega)) _ (by omega) (by omega)) _ (by omega) (by omega)).mono (by omega)
      · have h0i : (0 : Int) < (n3 : Int) := by omega
        have h0n : 0 < n3 := by omega
        clear h0
        go_upto_region 21 with fail
        obtain ⟨e1, e2, e3, o1, o2, o3⟩ := S4.out.2.2.1.parts; obtain ⟨x, cr, hcs⟩ : ∃ x cr, b.cs = x :: cr := (by cases hh : b.cs with | nil => rw [hh] at e3; simp at e3; omega | cons x cr => exact ⟨x, cr, rfl⟩); obtain ⟨g, eg, hgB, hgl, hcp, -, ⟨k0, k1, k2, k3, k4, k5, k6⟩, v0, v1, v2, v3, v4, v5, v6⟩ := own_conn o3 h0n x (by rw [hcs]; rfl); simp only [Nat.zero_mul, Nat.zero_add] at k0 k1 k2 k3 k4 k5 k6 v0 v1 v2 v3 v4 v5 v6; have hgs : g ≠ s := (by omega); have hsg : s ≠ g := (by omega); have HCS := Lib.hid hcs; clear e1 e2 e3 o1 o2 o3 hcs
        subst eg
        go_region_with (go_at_call 67; refine (streamOr_any 2 (by omega) (by omega) B R (L + 1402) _ (by first | exact S4.out.2.2.2.2.2 | exact rd_drewD S4.out.2.2.2.2.2) (by omega)).mono ?_; rintro e w5 ⟨sv, rfl, hsv, g5, r5⟩; have s5 := BS.grown S4.out (by first | exact g5 | exact grown_fromD g5) r5 hRs hsb; clear p0 p1 p2 u0 u1 u2 t0 t1 t2 f0 f1 f2 k0 k1 k2 k3 k4 k5 k6 v0 v1 v2 v3 v4 v5 v6; obtain ⟨⟨p0, p1, p2⟩, u0, u1, u2⟩ := three_all (s5).2.1; obtain ⟨⟨t0, t1, t2⟩, f0, f1, f2⟩ := three_all (s5).1; obtain ⟨g', eg, -, -, -, -, ⟨k0, k1, k2, k3, k4, k5, k6⟩, v0, v1, v2, v3, v4, v5, v6⟩ := own_conn s5.2.2.1.parts.2.2.2.2.2 h0n x (by rw [HCS.out]; rfl); injection eg with eg; injection eg with eg; subst eg; simp only [Nat.zero_mul, Nat.zero_add] at k0 k1 k2 k3 k4 k5 k6 v0 v1 v2 v3 v4 v5 v6)
        all_goals go_wp2_with fail
        all_goals
          have S6 := BS.put1 (cs' := ⟨x.ia, x.ip, x.oa, x.op, x.kn, sv, x.ne⟩ :: cr) s5 hRs hBR h0s 5 (.string sv) (by rw [HCS.out]; rfl) (by rw [HCS.out]; rfl) (by have h1 := s5.2.2.2.1.2.1; rw [HCS.out] at h1; have h2 := h1 x (List.mem_cons_self ..); exact cnIn_tail h1 (by first | (show (sv.size : Int) ≤ _; omega) | (have := h2.1; show (x.kn.size : Int) ≤ _; omega)) (by first | (show (sv.size : Int) ≤ _; omega) | (have := h2.2.1; show (x.he.size : Int) ≤ _; omega)) (by have := h2.2.2; show (x.ne.size : Int) ≤ _; omega)) (by have h1 := s5.2.2.2.1.2.2.2.1; rw [HCS.out] at h1; exact cnWf_tail h1 (h1 x (List.mem_cons_self ..)))
          obtain ⟨⟨z0, z1, z2⟩, -⟩ := three_all (three_set (S6).1 (.slice a1 n1 c1) (.slice a2 n2 c2) (.slice (some ⟨g, 0, none⟩) n3 c3))
          refine bodyPost_ret (v := .agg #[.slice a1 n1 c1, .slice a2 n2 c2, .slice (some ⟨g, 0, none⟩) n3 c3]) (by simp [results, Tryz.results25, go_sem, z0, z1, z2]) rfl ⟨_, _, _, _, rfl, ?_, (S6).2.2.2.1, ?_, ?_⟩
          · exact OwH.mono (OwH.set3B (S6).2.2.1 (S6).1) (by omega)
          · exact grown_putR (grown_putR (grown_putR (S6).2.2.2.2.1 h0s 0 _) h0s 1 _) h0s 2 _
          · exact (rd_put (rd_put (rd_put (S6).2.2.2.2.2 _ (by omega) (by omega)) _ (by omega) (by omega)) _ (by omega) (by omega)).mono (by omega)
    · by_cases h0 : n3 = 0
      · subst h0
        go_wp2_with fail
        obtain ⟨⟨z0, z1, z2⟩, -⟩ := three_all (three_set (S4.out.fin).1 (.slice a1 n1 c1) (.slice a2 n2 c2) (.slice a3 0 c3))
        refine bodyPost_ret (v := .agg #[.slice a1 n1 c1, .slice a2 n2 c2, .slice a3 0 c3]) (by simp [results, Tryz.results25, go_sem, z0, z1, z2]) rfl ⟨_, _, _, _, rfl, ?_, (S4.out.fin).2.2.2.1, ?_, ?_⟩
        · exact OwH.mono (OwH.set3B (S4.out.fin).2.2.1 (S4.out.fin).1) (by omega)
        · exact grown_putR (grown_putR (grown_putR (S4.out.fin).2.2.2.2.1 h0s 0 _) h0s 1 _) h0s 2 _
        · exact (rd_put (rd_put (rd_put (S4.out.fin).2.2.2.2.2 _ (by omega) (by omega)) _ (by omega) (by omega)) _ (by omega) (by omega)).mono (by omega)
      · have h0i : (0 : Int) < (n3 : Int) := by omega
        have h0n : 0 < n3 := by omega
        clear h0
        go_upto_region 24 with fail
        obtain ⟨e1, e2, e3, o1, o2, o3⟩ := S4.out.2.2.1.parts; obtain ⟨x, cr, hcs⟩ : ∃ x cr, b.cs = x :: cr := (by cases hh : b.cs with | nil => rw [hh] at e3; simp at e3; omega | cons x cr => exact ⟨x, cr, rfl⟩); obtain ⟨g, eg, hgB, hgl, hcp, -, ⟨k0, k1, k2, k3, k4, k5, k6⟩, v0, v1, v2, v3, v4, v5, v6⟩ := own_conn o3 h0n x (by rw [hcs]; rfl); simp only [Nat.zero_mul, Nat.zero_add] at k0 k1 k2 k3 k4 k5 k6 v0 v1 v2 v3 v4 v5 v6; have hgs : g ≠ s := (by omega); have hsg : s ≠ g := (by omega); have HCS := Lib.hid hcs; clear e1 e2 e3 o1 o2 o3 hcs
        subst eg
        have hne6 : ¬ 9223372036854775807 < x.ne.size + 2 := by have h1 := S4.out.2.2.2.1.2.1; rw [HCS.out] at h1; have h2 := (h1 x (List.mem_cons_self ..)).2.2; omega
        go_region
        all_goals go_wp2_with fail
        all_goals
          have S6 := BS.put1 (cs' := ⟨x.ia, x.ip, x.oa, x.op, x.kn, x.he, x.ne ++ ⟨#[97, 59]⟩⟩ :: cr) S4.out hRs hBR h0s 6 (.string (x.ne ++ ⟨#[97, 59]⟩)) (by rw [HCS.out]; rfl) (by rw [HCS.out]; rfl) (by have h1 := S4.out.2.2.2.1.2.1; rw [HCS.out] at h1; have h2 := h1 x (List.mem_cons_self ..); exact cnIn_tail h1 (by have := h2.1; show (x.kn.size : Int) ≤ _; omega) (by have := h2.2.1; show (x.he.size : Int) ≤ _; omega) (by have := h2.2.2; show ((x.ne ++ ⟨#[97, 59]⟩ : ByteArray).size : Int) ≤ _; rw [ByteArray.size_append]; show ((x.ne.size + 2 : Nat) : Int) ≤ _; omega)) (by have h1 := S4.out.2.2.2.1.2.2.2.1; rw [HCS.out] at h1; exact cnWf_tail h1 (h1 x (List.mem_cons_self ..)))
          obtain ⟨⟨z0, z1, z2⟩, -⟩ := three_all (three_set (S6).1 (.slice a1 n1 c1) (.slice a2 n2 c2) (.slice (some ⟨g, 0, none⟩) n3 c3))
          refine bodyPost_ret (v := .agg #[.slice a1 n1 c1, .slice a2 n2 c2, .slice (some ⟨g, 0, none⟩) n3 c3]) (by simp [results, Tryz.results25, go_sem, z0, z1, z2]) rfl ⟨_, _, _, _, rfl, ?_, (S6).2.2.2.1, ?_, ?_⟩
          · exact (OwH.mono (OwH.set3B (S6).2.2.1 (S6).1) (by omega)).later (Below.refl _ _).drew
          · exact grown_drewG (grown_putR (grown_putR (grown_putR (S6).2.2.2.2.1 h0s 0 _) h0s 1 _) h0s 2 _)
          · exact rd_drewD ((rd_put (rd_put (rd_put (S6).2.2.2.2.2 _ (by omega) (by omega)) _ (by omega) (by omega)) _ (by omega) (by omega)).mono (by omega))
    · by_cases h0 : n3 = 0
      · subst h0
        go_wp2_with fail
        obtain ⟨⟨z0, z1, z2⟩, -⟩ := three_all (three_set (S4.out.fin).1 (.slice a1 n1 c1) (.slice a2 n2 c2) (.slice a3 0 c3))
        refine bodyPost_ret (v := .agg #[.slice a1 n1 c1, .slice a2 n2 c2, .slice a3 0 c3]) (by simp [results, Tryz.results25, go_sem, z0, z1, z2]) rfl ⟨_, _, _, _, rfl, ?_, (S4.out.fin).2.2.2.1, ?_, ?_⟩
        · exact OwH.mono (OwH.set3B (S4.out.fin).2.2.1 (S4.out.fin).1) (by omega)
        · exact grown_putR (grown_putR (grown_putR (S4.out.fin).2.2.2.2.1 h0s 0 _) h0s 1 _) h0s 2 _
        · exact (rd_put (rd_put (rd_put (S4.out.fin).2.2.2.2.2 _ (by omega) (by omega)) _ (by omega) (by omega)) _ (by omega) (by omega)).mono (by omega)
      · have h0i : (0 : Int) < (n3 : Int) := by omega
        have h0n : 0 < n3 := by omega
        clear h0
        obtain ⟨e1, e2, e3, o1, o2, o3⟩ := S4.out.2.2.1.parts; obtain ⟨x, cr, hcs⟩ : ∃ x cr, b.cs = x :: cr := (by cases hh : b.cs with | nil => rw [hh] at e3; simp at e3; omega | cons x cr => exact ⟨x, cr, rfl⟩); obtain ⟨g, eg, hgB, hgl, hcp, -, ⟨k0, k1, k2, k3, k4, k5, k6⟩, v0, v1, v2, v3, v4, v5, v6⟩ := own_conn o3 h0n x (by rw [hcs]; rfl); simp only [Nat.zero_mul, Nat.zero_add] at k0 k1 k2 k3 k4 k5 k6 v0 v1 v2 v3 v4 v5 v6; have hgs : g ≠ s := (by omega); have hsg : s ≠ g := (by omega); have HCS := Lib.hid hcs; clear e1 e2 e3 o1 o2 o3 hcs
        subst eg
        go_wp2_with fail
        have S6 := BS.put1 (cs' := ⟨x.ia, x.ip, x.oa, 80, x.kn, x.he, x.ne⟩ :: cr) S4.out hRs hBR h0s 3 (.int .i64 80) (by rw [HCS.out]; rfl) (by rw [HCS.out]; rfl) (by have h1 := S4.out.2.2.2.1.2.1; rw [HCS.out] at h1; have h2 := h1 x (List.mem_cons_self ..); exact cnIn_tail h1 (by have := h2.1; show (x.kn.size : Int) ≤ _; omega) (by have := h2.2.1; show (x.he.size : Int) ≤ _; omega) (by have := h2.2.2; show (x.ne.size : Int) ≤ _; omega)) (by have h1 := S4.out.2.2.2.1.2.2.2.1; rw [HCS.out] at h1; exact cnWf_tail h1 ⟨(h1 x (List.mem_cons_self ..)).1, (h1 x (List.mem_cons_self ..)).2.1, show (Lit.int .i64 80).wf = true by decide⟩)
        obtain ⟨⟨z0, z1, z2⟩, -⟩ := three_all (three_set (S6).1 (.slice a1 n1 c1) (.slice a2 n2 c2) (.slice (some ⟨g, 0, none⟩) n3 c3))
        refine bodyPost_ret (v := .agg #[.slice a1 n1 c1, .slice a2 n2 c2, .slice (some ⟨g, 0, none⟩) n3 c3]) (by simp [results, Tryz.results25, go_sem, z0, z1, z2]) rfl ⟨_, _, _, _, rfl, ?_, (S6).2.2.2.1, ?_, ?_⟩
        · exact OwH.mono (OwH.set3B (S6).2.2.1 (S6).1) (by omega)
        · exact grown_putR (grown_putR (grown_putR (S6).2.2.2.2.1 h0s 0 _) h0s 1 _) h0s 2 _
        · exact (rd_put (rd_put (rd_put (S6).2.2.2.2.2 _ (by omega) (by omega)) _ (by omega) (by omega)) _ (by omega) (by omega)).mono (by omega)

end Go.Proofs.YtgfkiljkpkfapaaGreatDoor

/- The box that is drawn for the law of BoxOk. Condition: the code lies in memory. -/
namespace Go.Proofs.YtgfkiljkpkfapaaGreatDoor
open Go.RowKit Go.Sort

/-- A box of the answer, where it is written. -/
theorem ans_box {w0 w : World} {s Bo : Nat} {x0 x1 x2 : Value} {v : Value} {b : Bx} (hs : w0.heap.size = s) (hB : s ≤ Bo) (k : Blk w s 29 [x0, x1, x2]) (o : OwH w Bo v b) (h : Below w0.heap.size w0 w) (y0 y1 y2 : Value) :
    Blk (((w.setCell ⟨s, 0, none⟩ y0).setCell ⟨s, 1, none⟩ y1).setCell ⟨s, 2, none⟩ y2) s 29 [y0, y1, y2] ∧ OwH (((w.setCell ⟨s, 0, none⟩ y0).setCell ⟨s, 1, none⟩ y1).setCell ⟨s, 2, none⟩ y2) w0.heap.size v b ∧ Below w0.heap.size w0 (((w.setCell ⟨s, 0, none⟩ y0).setCell ⟨s, 1, none⟩ y1).setCell ⟨s, 2, none⟩ y2) :=
  ⟨three_set k y0 y1 y2, (OwH.set3B o k).mono (by omega), ((h.setCell (by show _ ≤ s; omega) y0).setCell (by show _ ≤ s; omega) y1).setCell (by show _ ≤ s; omega) y2⟩

set_option maxRecDepth 100000 in
set_option maxHeartbeats 1600000 in
theorem drawBoxOk_any (ao : Option Addr) (n cap : Nat) (w : World) (h : BytesIn w ao n) (hn : n ≤ cap) :
    Calls Tryz.prog 18 #[.slice ao n cap] w fun e w' => ∃ x1 x2 x3 b, e = .returned (.agg #[x1, x2, x3]) ∧ OwH w' w.heap.size (.agg #[x1, x2, x3]) b ∧ (bxSz b ∧ wfE b.es ∧ cnWf b.cs) ∧ Below w.heap.size w w' := by
  have H := Lib.hid h
  clear h
  go_enter Tryz.func18, Tryz.ntmps18
  go_wp2_with fail
  (go_at_call 24; refine (open_any ao n cap _ (H.out.below ((Below.refl _ _).alloc (Nat.le_refl _) _)) hn).mono ?_; rintro e w1 ⟨R, rfl, hR, b1, r1⟩)
  simp only [World.size_alloc] at hR r1
  have hR1 : R < w1.heap.size := r1.lt
  have B1 : Hid (Below w.heap.size w w1) := ((Below.refl _ w).alloc (Nat.le_refl _) _).trans (b1.mono (by simp))
  have P1 : Hid (Blk w1 w.heap.size 29 [.slice none 0 0, .slice none 0 0, .slice none 0 0]) := Blk.below (three_new w _ _ _ _) b1
  have R1 := Lib.hid r1
  clear r1 b1
  obtain ⟨s, hs⟩ : ∃ s, s = w.heap.size := ⟨_, rfl⟩
  have HS := Lib.hid hs.symm
  rw [← hs] at R1 hR P1 ⊢
  clear hs
  go_wp2_with fail
  (go_at_call 25; refine (boxOr_any 2 (s + 1) R 0 _ R1.out (by omega) (by omega) (by omega)).mono ?_; rintro e w2 ⟨x1, x2, x3, b, rfl, ho, hz, g2, r2⟩)
  obtain ⟨a1, c1, a2, c2, a3, c3, rfl, rfl, rfl⟩ := ho.form
  have F := ans_box HS.out (by omega : s ≤ w1.heap.size) (P1.out.grown g2 (by omega)) ho (B1.out.grown g2 B1.out.size (fun k e => by cases e; have := HS.out; omega)) (.slice a1 b.rs.length c1) (.slice a2 b.es.length c2) (.slice a3 b.cs.length c3)
  have P2 := Lib.hid (P1.out.grown g2 (by omega))
  have FF := Lib.hid F
  clear ho g2 r2 R1 P1 B1 F
  obtain ⟨⟨t0, t1, t2⟩, u0, u1, u2⟩ := three_all P2.out
  go_wp2_with fail
  obtain ⟨⟨z0, z1, z2⟩, -⟩ := three_all FF.out.1
  refine bodyPost_ret (v := .agg #[.slice a1 b.rs.length c1, .slice a2 b.es.length c2, .slice a3 b.cs.length c3]) (by simp [results, Tryz.results18, go_sem, z0, z1, z2]) rfl ⟨_, _, _, b, rfl, FF.out.2.1, hz, FF.out.2.2⟩

end Go.Proofs.YtgfkiljkpkfapaaGreatDoor

/- BoxOk of the program, at a box whose lists lie at any address. Conditions: at most 2^20 rules, ends and streams each; texts of at most 2^21 bytes. -/
namespace Go.Proofs.YtgfkiljkpkfapaaGreatDoor
open Go.RowKit Go.Sort

set_option maxRecDepth 100000 in
set_option maxHeartbeats 3200000 in
theorem implBoxOk_anyG (B : Nat) (v : Value) (b : Bx) (w : World) (hs : bxSz b) (hwf : wfE b.es) (hcw : cnWf b.cs) (ho : GBx w B v b) (hv : VarsOk w) (htb : TabOk w) :
    Calls Tryz.prog 16 #[v] w fun e w' => e = .returned (.bool (boxOkB b)) ∧ Below w.heap.size w w' := by
  obtain ⟨a1, c1, a2, c2, a3, c3, rfl, o1, o2, o3⟩ := ho
  obtain ⟨m1, m2, m3, m4⟩ := hs
  obtain ⟨W0, hW0⟩ : ∃ W, W = w.alloc (.cells #[.slice a1 b.rs.length c1, .slice a2 b.es.length c2, .slice a3 b.cs.length c3] 29) := ⟨_, rfl⟩
  have hA : Below w.heap.size w W0 := by rw [hW0]; exact (Below.refl _ _).alloc (Nat.le_refl _) _
  have K1 : Blk W0 w.heap.size 29 [.slice a1 b.rs.length c1, .slice a2 b.es.length c2, .slice a3 b.cs.length c3] := by rw [hW0]; exact three_new w _ _ _ _
  have KK : Hid (∀ w', Below W0.heap.size W0 w' → w'.cell? ⟨w.heap.size, 0, none⟩ = some (.slice a1 b.rs.length c1) ∧ w'.cell? ⟨w.heap.size, 1, none⟩ = some (.slice a2 b.es.length c2) ∧ w'.cell? ⟨w.heap.size, 2, none⟩ = some (.slice a3 b.cs.length c3)) := fun w' h => (three_all (K1.below h)).1
  have HA : Hid (∀ w', Below W0.heap.size W0 w' → Below w.heap.size w w') := fun w' h => hA.trans (h.mono hA.size)
  have HM : Hid (∀ w', Below w.heap.size w w' → Calls Tryz.prog 53 #[.agg #[.slice a2 b.es.length c2]] w' fun e w'' => e = .returned (.bool (mapB b.es)) ∧ Below w'.heap.size w' w'') := fun w' h => implMapOk_any _ b.es w' (by omega) hwf (OwnTab.tab (own_later o2 h))
  have HR : Hid (∀ w', Below w.heap.size w w' → Calls Tryz.prog 52 #[.slice a1 b.rs.length c1] w' fun e w'' => e = .returned (.bool (rulesB b.rs)) ∧ Below w'.heap.size w' w'') := fun w' h => implRules_any _ b.rs w' (by omega) (o1.below h)
  have HC : Hid (mapB b.es = true → ∀ k (hk : k < b.cs.length) (c : Cn), c = b.cs[k] → ∀ w', Below w.heap.size w w' → Calls Tryz.prog 55 #[.agg #[.slice a2 b.es.length c2], .agg #[.int .i64 c.ia, .int .i64 c.ip, .int .i64 c.oa, .int .i64 c.op, .string c.kn, .string c.he, .string c.ne]] w' fun e w'' => e = .returned (.bool (conI b.es c)) ∧ Below w'.heap.size w' w'') := fun hm k hk c hc w' h => by
    have hmem : c ∈ b.cs := by rw [hc]; exact List.getElem_mem _
    obtain ⟨y1, y2, y3⟩ := m4 c hmem
    obtain ⟨⟨v1, v2⟩, -⟩ := hcw c hmem
    exact implConn_any _ b.es c.ia c.ip c.oa c.op c.kn c.he c.ne w' hm (by omega) (by omega) (by omega) v1 v2 (OwnTab.tab (own_later o2 h)) (hv.below h) (htb.below h (Nat.le_refl _))
  have HF : Hid (∀ (c : Cn) w', Below w.heap.size w w' → Calls Tryz.prog 54 #[.slice a3 b.cs.length c3, .agg #[.int .i64 c.ia, .int .i64 c.ip], .agg #[.int .i64 c.oa, .int .i64 c.op]] w' fun e w'' => e = .returned (.int .i64 (findCn b.cs c.ia c.ip c.oa c.op)) ∧ Below w'.heap.size w' w'') := fun c w' h => implFindCn_any _ b.cs c.ia c.ip c.oa c.op w' (by omega) (o3.below h)
  have HRow : Hid (∀ k (hk : k < b.cs.length) (c : Cn), c = b.cs[k] → ∀ w', Below w.heap.size w w' → ∃ g3, a3 = some ⟨g3, 0, none⟩ ∧ w'.cell? ⟨g3, k * 7, none⟩ = some (.int .i64 c.ia) ∧ w'.cell? ⟨g3, k * 7 + 1, none⟩ = some (.int .i64 c.ip) ∧ w'.cell? ⟨g3, k * 7 + 2, none⟩ = some (.int .i64 c.oa) ∧ w'.cell? ⟨g3, k * 7 + 3, none⟩ = some (.int .i64 c.op) ∧ w'.cell? ⟨g3, k * 7 + 4, none⟩ = some (.string c.kn) ∧ w'.cell? ⟨g3, k * 7 + 5, none⟩ = some (.string c.he) ∧ w'.cell? ⟨g3, k * 7 + 6, none⟩ = some (.string c.ne)) := fun k hk c hc w' h => by
    obtain ⟨ax, cx, ex, -, hrow⟩ := o3.below h
    simp only [Value.slice.injEq] at ex
    obtain ⟨rfl, -, rfl⟩ := ex
    obtain ⟨g, e, hr⟩ := hrow (by omega)
    exact ⟨g, e, (RowAt.conn hr k hk c hc).1⟩
  have HCP : Hid (b.cs.length ≤ c3) := by
    obtain ⟨ax, cx, ex, hcx, -⟩ := o3
    simp only [Value.slice.injEq] at ex
    obtain ⟨-, -, rfl⟩ := ex
    exact hcx
  have HCI : Hid (mapB b.es = true → ∀ k (hk : k < b.cs.length) (c : Cn), c = b.cs[k] → connB b.es b.cs k = (decide (findCn b.cs c.ia c.ip c.oa c.op = (k : Int)) && conI b.es c)) := fun hm k hk c hc => connB_I hm hk c hc
  have HQ : Hid (boxOkB b = (mapB b.es && rulesB b.rs && decide (b.cs.length ≤ 3) && (List.range b.cs.length).all (connB b.es b.cs))) := rfl
  obtain ⟨Q, hQ⟩ : ∃ Q, Q = boxOkB b := ⟨_, rfl⟩
  obtain ⟨q1, e1⟩ : ∃ q, q = mapB b.es := ⟨_, rfl⟩
  obtain ⟨q2, e2⟩ : ∃ q, q = rulesB b.rs := ⟨_, rfl⟩
  obtain ⟨P, hP⟩ : ∃ P, P = connB b.es b.cs := ⟨_, rfl⟩
  obtain ⟨n1, hn1⟩ : ∃ n, n = b.rs.length := ⟨_, rfl⟩
  obtain ⟨n2, hn2⟩ : ∃ n, n = b.es.length := ⟨_, rfl⟩
  obtain ⟨n3, hn3⟩ : ∃ n, n = b.cs.length := ⟨_, rfl⟩
  rw [← hQ] at HQ ⊢
  rw [← e1] at HM HC HCI HQ
  rw [← e2] at HR HQ
  rw [← hP] at HCI HQ
  rw [← hn1] at KK HR hW0 ⊢
  rw [← hn2] at KK HM HC hW0 ⊢
  have HL := Lib.hid hn3
  rw [← hn3] at KK HF HQ hW0 m3 ⊢
  have BB : Hid (Below W0.heap.size W0 W0) := Below.refl _ _
  clear hQ e1 e2 hP hn1 hn2 hn3 o1 o2 o3 m1 m2 m4 K1 hA hv htb hwf hcw
  subst hW0
  cases q2
  · have hq : Q = false := by have := HQ.out; simpa using this
    subst hq
    clear HQ HC HCI HF HRow
    go_enter Tryz.func16, Tryz.ntmps16
    go_wp2_with fail
    (go_at_call 52; refine (HR.out _ (HA.out _ BB.out)).mono ?_; rintro e w1 ⟨rfl, b1⟩)
    go_wp2_with fail
    go_ret
    exact ⟨rfl, HA.out _ b1⟩
  cases q1
  · have hq : Q = false := by have := HQ.out; simpa using this
    subst hq
    clear HQ HC HCI HF HRow
    go_enter Tryz.func16, Tryz.ntmps16
    go_wp2_with fail
    (go_at_call 52; refine (HR.out _ (HA.out _ BB.out)).mono ?_; rintro e w1 ⟨rfl, b1⟩)
    obtain ⟨k0, k1, k2⟩ := KK.out _ b1
    have B1 := Lib.hid b1
    clear b1
    go_wp2_with fail
    (go_at_call 53; refine (HM.out _ (HA.out _ B1.out)).mono ?_; rintro e w2 ⟨rfl, b2⟩)
    go_wp2_with fail
    go_ret
    exact ⟨rfl, HA.out _ (B1.out.trans (b2.mono B1.out.size))⟩
  have HC2 := Lib.hid (HC.out rfl)
  have HCI2 := Lib.hid (HCI.out rfl)
  clear HC HCI
  by_cases h3 : 3 < n3
  · have hq : Q = false := by have := HQ.out; simpa [show ¬ n3 ≤ 3 by omega] using this
    subst hq
    clear HQ HC2 HCI2 HF HRow
    go_enter Tryz.func16, Tryz.ntmps16
    go_wp2_with fail
    (go_at_call 52; refine (HR.out _ (HA.out _ BB.out)).mono ?_; rintro e w1 ⟨rfl, b1⟩)
    obtain ⟨k0, k1, k2⟩ := KK.out _ b1
    have B1 := Lib.hid b1
    clear b1
    go_wp2_with fail
    (go_at_call 53; refine (HM.out _ (HA.out _ B1.out)).mono ?_; rintro e w2 ⟨rfl, b2⟩)
    have B2 := Lib.hid (B1.out.trans (b2.mono B1.out.size))
    obtain ⟨k0', k1', k2'⟩ := KK.out _ B2.out
    clear b2
    go_wp2_with fail
    go_ret
    exact ⟨rfl, HA.out _ B2.out⟩
  have HQ2 : Hid (Q = (List.range n3).all P) := by
    show Q = _
    have := HQ.out
    rw [decide_eq_true (by omega : n3 ≤ 3)] at this
    simpa using this
  clear HQ
  go_enter Tryz.func16, Tryz.ntmps16
  go_wp2_with fail
  (go_at_call 52; refine (HR.out _ (HA.out _ BB.out)).mono ?_; rintro e w1 ⟨rfl, b1⟩)
  obtain ⟨k0, k1, k2⟩ := KK.out _ b1
  have B1 := Lib.hid b1
  clear b1
  go_wp2_with fail
  (go_at_call 53; refine (HM.out _ (HA.out _ B1.out)).mono ?_; rintro e w2 ⟨rfl, b2⟩)
  have B2 := Lib.hid (B1.out.trans (b2.mono B1.out.size))
  obtain ⟨k0', k1', k2'⟩ := KK.out _ B2.out
  clear b2 k0 k1 k2
  go_wp2_with fail
  clear k0' k1' k2'
  go_loopw [3, 24] (fun _ i wr => ∃ k : Nat, k ≤ n3 ∧ i = .int .i64 k ∧ Hid (∀ j, j < k → P j = true) ∧ Hid (Below (w.alloc (.cells #[.slice a1 n1 c1, .slice a2 n2 c2, .slice a3 n3 c3] 29)).heap.size (w.alloc (.cells #[.slice a1 n1 c1, .slice a2 n2 c2, .slice a3 n3 c3] 29)) wr)) (fun _ i _ => n3 - (intOf i).toNat)
  case atStart => exact ⟨0, Nat.zero_le _, rfl, fun j hj => by omega, B2⟩
  case round =>
    obtain ⟨k, hk, rfl, HD, HB⟩ := hrel
    obtain ⟨k0, k1, k2⟩ := KK.out _ HB.out
    by_cases hlt : k < n3
    · have hlt2 : k < b.cs.length := by have := HL.out; omega
      have hcp : (k : Int) < (c3 : Int) := by have := HCP.out; omega
      obtain ⟨⟨ia, ip, oa, op, kn, he, ne⟩, hc⟩ : ∃ c, c = b.cs[k] := ⟨_, rfl⟩
      have CC : Hid (∀ w', Below w.heap.size w w' → Calls Tryz.prog 55 #[.agg #[.slice a2 n2 c2], .agg #[.int .i64 ia, .int .i64 ip, .int .i64 oa, .int .i64 op, .string kn, .string he, .string ne]] w' fun e w'' => e = .returned (.bool (conI b.es ⟨ia, ip, oa, op, kn, he, ne⟩)) ∧ Below w'.heap.size w' w'') := HC2.out k hlt2 _ hc
      have CF : Hid (∀ w', Below w.heap.size w w' → Calls Tryz.prog 54 #[.slice a3 n3 c3, .agg #[.int .i64 ia, .int .i64 ip], .agg #[.int .i64 oa, .int .i64 op]] w' fun e w'' => e = .returned (.int .i64 (findCn b.cs ia ip oa op)) ∧ Below w'.heap.size w' w'') := HF.out ⟨ia, ip, oa, op, kn, he, ne⟩
      have CI : Hid (P k = (decide (findCn b.cs ia ip oa op = (k : Int)) && conI b.es ⟨ia, ip, oa, op, kn, he, ne⟩)) := HCI2.out k hlt2 _ hc
      obtain ⟨g3, ha3, y0, y1, y2, y3, y4, y5, y6⟩ := HRow.out k hlt2 _ hc wr (HA.out _ HB.out)
      subst ha3
      simp only at y0 y1 y2 y3 y4 y5 y6
      obtain ⟨f, hf⟩ : ∃ z, z = findCn b.cs ia ip oa op := ⟨_, rfl⟩
      obtain ⟨q, hq⟩ : ∃ z, z = conI b.es ⟨ia, ip, oa, op, kn, he, ne⟩ := ⟨_, rfl⟩
      rw [← hf] at CF CI
      rw [← hq] at CC CI
      clear hc HC2 HF HCI2 hf hq HRow
      have hsw : w.heap.size < wr.heap.size := by have := HB.out.size; simp at this; omega
      have kA : ∀ o, (wr.alloc o).cell? ⟨w.heap.size, 2, none⟩ = some (.slice (some ⟨g3, 0, none⟩) n3 c3) := fun o => (cell_alloc_lt hsw).trans k2
      have kB : ∀ o, (wr.alloc o).cell? ⟨w.heap.size, 1, none⟩ = some (.slice a2 n2 c2) := fun o => (cell_alloc_lt hsw).trans k1
      have AA : Hid (∀ o, Below w.heap.size w (wr.alloc o)) := fun o => (HA.out _ HB.out).alloc (by omega) o
      have LL : Hid (∀ w', Below (wr.alloc (.cells #[.int .i64 ia, .int .i64 ip, .int .i64 oa, .int .i64 op, .string kn, .string he, .string ne] 49)).heap.size (wr.alloc (.cells #[.int .i64 ia, .int .i64 ip, .int .i64 oa, .int .i64 op, .string kn, .string he, .string ne] 49)) w' → (w'.cell? ⟨wr.heap.size, 0, none⟩ = some (.int .i64 ia) ∧ w'.cell? ⟨wr.heap.size, 1, none⟩ = some (.int .i64 ip) ∧ w'.cell? ⟨wr.heap.size, 2, none⟩ = some (.int .i64 oa) ∧ w'.cell? ⟨wr.heap.size, 3, none⟩ = some (.int .i64 op) ∧ w'.cell? ⟨wr.heap.size, 4, none⟩ = some (.string kn) ∧ w'.cell? ⟨wr.heap.size, 5, none⟩ = some (.string he) ∧ w'.cell? ⟨wr.heap.size, 6, none⟩ = some (.string ne)) ∧ w'.cell? ⟨w.heap.size, 1, none⟩ = some (.slice a2 n2 c2) ∧ Hid (Below (w.alloc (.cells #[.slice a1 n1 c1, .slice a2 n2 c2, .slice (some ⟨g3, 0, none⟩) n3 c3] 29)).heap.size (w.alloc (.cells #[.slice a1 n1 c1, .slice a2 n2 c2, .slice (some ⟨g3, 0, none⟩) n3 c3] 29)) w')) := fun w' h =>
        ⟨seven_cells ((show Blk (wr.alloc (.cells #[.int .i64 ia, .int .i64 ip, .int .i64 oa, .int .i64 op, .string kn, .string he, .string ne] 49)) wr.heap.size _ _ from heap_last3 wr _).below h), (h.cell (p := ⟨w.heap.size, 1, none⟩) (by simp; omega)).trans (kB _), (HB.out.alloc HB.out.size _).trans (h.mono (HB.out.alloc HB.out.size _).size)⟩
      by_cases hfk : f = (k : Int)
      rotate_left
      · have HF0 : Hid (Q = false) := HQ2.out.trans (all_no hlt (CI.out.trans (by rw [decide_eq_false hfk]; rfl)))
        clear CI HQ2 HD
        go_wp2_with fail
        (go_at_call 54; refine (CF.out _ (AA.out _)).mono ?_; rintro e w3 ⟨rfl, b3⟩)
        obtain ⟨⟨z0, z1, z2, z3, z4, z5, z6⟩, x1, HB3⟩ := LL.out _ b3
        clear b3 y0 y1 y2 y3 y4 y5 y6
        go_wp2_with fail
        go_ret
        exact ⟨ret_bool HF0.out.symm, HA.out _ HB3.out⟩
      subst hfk
      cases q
      · have HF0 : Hid (Q = false) := HQ2.out.trans (all_no hlt (CI.out.trans (by simp)))
        clear CI HQ2 HD
        go_wp2_with fail
        (go_at_call 54; refine (CF.out _ (AA.out _)).mono ?_; rintro e w3 ⟨rfl, b3⟩)
        obtain ⟨⟨z0, z1, z2, z3, z4, z5, z6⟩, x1, HB3⟩ := LL.out _ b3
        clear b3 y0 y1 y2 y3 y4 y5 y6
        go_wp2_with fail
        (go_at_call 55; refine (CC.out _ (HA.out _ HB3.out)).mono ?_; rintro e w4 ⟨rfl, b4⟩)
        have HB4 := Lib.hid (HB3.out.trans (b4.mono HB3.out.size))
        clear b4
        go_wp2_with fail
        go_ret
        exact ⟨ret_bool HF0.out.symm, HA.out _ HB4.out⟩
      · have HN : Hid (∀ j, j < k + 1 → P j = true) := fun j hj => by
          by_cases e : j = k
          · subst e; exact CI.out.trans (by simp)
          · exact HD.out j (by omega)
        clear CI HQ2 HD
        go_wp2_with fail
        (go_at_call 54; refine (CF.out _ (AA.out _)).mono ?_; rintro e w3 ⟨rfl, b3⟩)
        obtain ⟨⟨z0, z1, z2, z3, z4, z5, z6⟩, x1, HB3⟩ := LL.out _ b3
        clear b3 y0 y1 y2 y3 y4 y5 y6
        go_wp2_with fail
        (go_at_call 55; refine (CC.out _ (HA.out _ HB3.out)).mono ?_; rintro e w4 ⟨rfl, b4⟩)
        have HB4 := Lib.hid (HB3.out.trans (b4.mono HB3.out.size))
        clear b4
        go_wp2_with fail
        go_roundw
        case rel => exact ⟨k + 1, by omega, by go_num, HN, HB4⟩
        case measure => simp [intOf]; omega
    · have HT : Hid (Q = true) := HQ2.out.trans (all_yes fun j hj => HD.out j (by omega))
      have hkn : k = n3 := by omega
      clear HQ2 HD
      go_wp2
      go_ret
      exact ⟨ret_bool HT.out.symm, HA.out _ HB.out⟩

end Go.Proofs.YtgfkiljkpkfapaaGreatDoor

/- A part of a box that is ok is ok; one with a stream twice is not. No condition. -/
namespace Go.Proofs.YtgfkiljkpkfapaaGreatDoor
open Go.RowKit Go.Sort

theorem boxOk_of {b : Bx} (h1 : mapB b.es = true) (h2 : rulesB b.rs = true) (h3 : b.cs.length ≤ 3) (h4 : ∀ k, k < b.cs.length → connB b.es b.cs k = true) : boxOkB b = true := by
  unfold boxOkB
  rw [h1, h2, decide_eq_true h3]
  simp only [Bool.true_and]
  exact List.all_eq_true.2 fun k hk => h4 k (by simpa using hk)
theorem box_norules {b : Bx} (h : boxOkB b = true) : boxOkB ⟨[], b.es, b.cs⟩ = true := by
  obtain ⟨h1, -, h3, h4⟩ := boxOk_parts h
  exact boxOk_of h1 (by rfl) h3 h4
theorem box_less {b : Bx} (h : boxOkB b = true) (m : Nat) : boxOkB ⟨b.rs, b.es, b.cs.take m⟩ = true := by
  obtain ⟨h1, h2, h3, h4⟩ := boxOk_parts h
  refine boxOk_of h1 h2 (by show (b.cs.take m).length ≤ 3; rw [List.length_take]; omega) fun k hk => ?_
  have hk1 : k < m ∧ k < b.cs.length := by
    have h5 : k < (b.cs.take m).length := hk
    rw [List.length_take] at h5; omega
  have h6 := h4 k hk1.2
  show connB b.es (b.cs.take m) k = true
  unfold connB at h6 ⊢
  have e1 : (b.cs.take m).getD k default = b.cs.getD k default := by
    rw [getD_at (by rw [List.length_take]; omega), getD_at hk1.2, List.getElem_take]
  have e2 : (b.cs.take m).take k = b.cs.take k := by
    rw [List.take_take, Nat.min_eq_left (by omega)]
  rw [e1, e2]
  exact h6
theorem box_twice {b : Bx} {x : Cn} {r : List Cn} (hc : b.cs = x :: r) : boxOkB ⟨b.rs, b.es, b.cs ++ [x]⟩ = false := by
  cases h : boxOkB ⟨b.rs, b.es, b.cs ++ [x]⟩ with
  | false => rfl
  | true =>
    exfalso
    obtain ⟨-, -, -, h4⟩ := boxOk_parts h
    have h5 := (conn_parts (h4 b.cs.length (by simp))).2.2.2.2.2.2.2.2
    have e1 : (b.cs ++ [x]).getD b.cs.length default = x := by
      rw [getD_at (by simp)]
      simp
    have e2 : (b.cs ++ [x]).take b.cs.length = b.cs := by simp
    simp only [e1, e2] at h5
    have h6 : findCn b.cs x.ia x.ip x.oa x.op = ((0 : Nat) : Int) := by
      rw [hc]
      exact findCn_hit (k := 0) (by simp) (by simp [sameCn]) (fun j hj => by omega)
    omega

end Go.Proofs.YtgfkiljkpkfapaaGreatDoor

/- That a line of one letter is a line, which each law asks. No condition. -/
namespace Go.Proofs.YtgfkiljkpkfapaaGreatDoor
open Go.RowKit

theorem haOk_any (w : World) :
    Calls Tryz.prog 11 #[] w fun e w' => e = .returned (.bool true) ∧ w = w' := by
  have hl : linB (⟨#[97]⟩ : ByteArray).data.toList = true := by decide
  have HL : Hid (∀ w, Calls Tryz.prog 45 #[.string ⟨#[97]⟩] w fun e w' => e = .returned (.bool true) ∧ w = w') := fun w => by
    have := implLin_all ⟨#[97]⟩ w; rw [hl] at this; exact this
  go_enter Tryz.func11, Tryz.ntmps11
  go_wp2_with (go_at_call 45; refine (HL.out _).mono ?_; rintro e w' ⟨rfl, rfl⟩)
  go_ret
  exact ⟨rfl, rfl⟩

end Go.Proofs.YtgfkiljkpkfapaaGreatDoor

/- The law that a part of a box is a box: at every code. Conditions: the code lies in memory; the variables that are read hold what they are laid with. -/
namespace Go.Proofs.YtgfkiljkpkfapaaGreatDoor
open Go.RowKit Go.Sort

theorem blk_newsC {w : World} {b : Nat} {t : TypeId} {l : List Value} (h : Blk w b t l) : ∀ j u, l[j]? = some u → w.cell? ((⟨b, 0, none⟩ : Addr).add j) = some u := by
  intro j u hu
  have he : (⟨b, 0, none⟩ : Addr).add j = ⟨b, j, none⟩ := by unfold Addr.add; split <;> simp_all
  rw [he]
  exact (h.cell j u hu).1
theorem blk_newL (w : World) (l : List Value) (t : TypeId) : Blk (w.alloc (.cells ⟨l⟩ t)) w.heap.size t l := heap_at _ _ _ rfl
theorem blkCx (w : World) (x : Cn) : Blk (w.alloc (.cells #[.int .i64 x.ia, .int .i64 x.ip, .int .i64 x.oa, .int .i64 x.op, .string x.kn, .string x.he, .string x.ne] 49)) w.heap.size 49 (cnC x) := blk_newL w (cnC x) _
theorem blkCxE {w : World} {x : Cn} {b : Nat} (hb : b = w.heap.size) : Blk (w.alloc (.cells #[.int .i64 x.ia, .int .i64 x.ip, .int .i64 x.oa, .int .i64 x.op, .string x.kn, .string x.he, .string x.ne] 49)) b 49 (cnC x) := by subst hb; exact blkCx w x
theorem blkZx (w : World) : Blk (w.alloc (.cells #[.slice none 0 0, .slice none 0 0, .slice none 0 0] 29)) w.heap.size 29 [.slice none 0 0, .slice none 0 0, .slice none 0 0] := three_new w _ _ _ _
theorem blkZxE {w : World} {b : Nat} (hb : b = w.heap.size) : Blk (w.alloc (.cells #[.slice none 0 0, .slice none 0 0, .slice none 0 0] 29)) b 29 [.slice none 0 0, .slice none 0 0, .slice none 0 0] := by subst hb; exact blkZx w
theorem blk_apart {w w' : World} {B n b : Nat} {v : Value} {xs l : List Value} (ho : w.ownsRow B 49 7 v n xs) (hb : Blk w b 29 l) (hg : w.grownBy w' v.ownBlock) : Blk w' b 29 l := hb.grownR hg (own_tyG ho hb (by decide))
theorem blkW {W w : World} {p : Prop} (_ : Below W.heap.size W w ∧ p) {b : Nat} {t : TypeId} {l : List Value} (h : Blk w b t l) : Blk w b t l := h
theorem own_oneMore {w W : World} {v : Value} {cs : List Cn} {x : Cn} {n : Nat} (h : w.ownsRow W.heap.size 49 7 v (n + 1) (flatC cnC cs ++ cnC x)) (hn : n = cs.length) (hb : Below W.heap.size W w) :
    ∃ g c, v = .slice g (n + 1) c ∧ Hid (w.ownsRow W.heap.size 49 7 (.slice g (n + 1) c) (n + 1) (flatC cnC (cs ++ [x]))) ∧ Below W.heap.size W w := by
  obtain ⟨a, c, rfl⟩ : ∃ a c, v = .slice a (n + 1) c := by
    rcases h.2 with ⟨rfl, h0⟩ | ⟨g, cap, cur, hv, _⟩
    · omega
    · exact ⟨_, _, hv⟩
  refine ⟨a, c, rfl, ?_, hb⟩
  show World.ownsRow _ _ _ _ _ _ _
  rw [flatC_app]
  simpa [flatC] using h
theorem own_rdMore {w : World} {B n : Nat} {v : Value} {cs : List Cn} {x : Cn} (h : w.ownsRow B 49 7 v (n + 1) (flatC cnC (cs ++ [x]))) (hn : n = cs.length) : RdCn w v (cs ++ [x]) := by
  refine OwnCn.rd (B := B) ?_
  show World.ownsRow _ _ _ _ _ _ _
  rw [List.length_append, List.length_singleton, ← hn]
  exact h
/-- The box of the last box, and its streams, where it is written behind them. -/
theorem last_set {W w : World} {bz n : Nat} {cs : List Cn} {x : Cn} {v z0 z1 z2 : Value} (k : Blk w bz 29 [z0, z1, z2]) (o : w.ownsRow W.heap.size 49 7 v (n + 1) (flatC cnC (cs ++ [x]))) (hn : n = cs.length) (hb : Below W.heap.size W w) (hz : W.heap.size ≤ bz) (y0 y1 y2 : Value) :
    Blk (((w.setCell ⟨bz, 0, none⟩ y0).setCell ⟨bz, 1, none⟩ y1).setCell ⟨bz, 2, none⟩ y2) bz 29 [y0, y1, y2] ∧ Hid (RdCn (((w.setCell ⟨bz, 0, none⟩ y0).setCell ⟨bz, 1, none⟩ y1).setCell ⟨bz, 2, none⟩ y2) v (cs ++ [x])) ∧ Below W.heap.size W (((w.setCell ⟨bz, 0, none⟩ y0).setCell ⟨bz, 1, none⟩ y1).setCell ⟨bz, 2, none⟩ y2) :=
  ⟨three_set k y0 y1 y2, own_rdMore (own_setR (own_setR (own_setR o k (by decide) 0 y0) (k.set 0 y0) (by decide) 1 y1) ((k.set 0 y0).set 1 y1) (by decide) 2 y2) hn, ((hb.setCell (by show _ ≤ bz; exact hz) y0).setCell (by show _ ≤ bz; exact hz) y1).setCell (by show _ ≤ bz; exact hz) y2⟩
theorem last_new {W w : World} {n : Nat} {cs : List Cn} {x : Cn} {v : Value} (o : w.ownsRow W.heap.size 49 7 v (n + 1) (flatC cnC (cs ++ [x]))) (hn : n = cs.length) (hb : Below W.heap.size W w) (y0 y1 y2 : Value) :
    Blk (w.alloc (.cells #[y0, y1, y2] 29)) w.heap.size 29 [y0, y1, y2] ∧ Hid (RdCn (w.alloc (.cells #[y0, y1, y2] 29)) v (cs ++ [x])) ∧ Below W.heap.size W (w.alloc (.cells #[y0, y1, y2] 29)) :=
  ⟨three_new w _ _ _ _, own_rdMore (World.ownsRow.alloc o _) hn, hb.alloc hb.size _⟩
theorem mem_cut {α : Type} {cs : List α} {m : Nat} {c : α} (h : c ∈ cs.take m) : c ∈ cs := List.mem_of_mem_take h
theorem boxAtD {w w' : World} {b i : Nat} {v : Value} (h : w.cell? ⟨b, i, none⟩ = some v) (hb : Below w.heap.size w w') : w'.cell? ⟨b, i, none⟩ = some v := by
  rw [hb.cell (p := ⟨b, i, none⟩) (World.block_lt_of_cell? w _ h)]; exact h

set_option maxRecDepth 100000 in
set_option maxHeartbeats 12800000 in
theorem lwBoxOk_of (ao : Option Addr) (n cap : Nat) (w : World) (h : BytesIn w ao n) (hn : n ≤ cap) (hv : VarsOk w) (htb : TabOk w) (hb1 : ¬ 1048576 < n) :
    Calls Tryz.prog 4 #[.slice ao n cap] w fun e w' => e = .returned (.bool true) ∧ Below w.heap.size w w' := by
  have H := Lib.hid h
  have HV : Hid (∀ w', Below w.heap.size w w' → VarsOk w' ∧ TabOk w') := fun w' h => ⟨hv.below h, htb.below h (Nat.le_refl _)⟩
  clear h hv htb
  obtain ⟨i0, hi, hz0, hz1, hz2⟩ := info_parts infoCn
  go_enter Tryz.func4, Tryz.ntmps4
  go_wp2_with fail
  (go_at_call 18; refine (drawBoxOk_any ao n cap _ H.out hn).mono ?_; rintro e w1 ⟨y1, y2, y3, b, rfl, oh, ⟨hs, hwf, hcw⟩, b1⟩)
  obtain ⟨a1, c1, a2, c2, a3, c3, rfl, rfl, rfl⟩ := oh.form
  have BW := Lib.hid b1
  have OG := Lib.hid oh.gen
  have HV1 : Hid (∀ w', Below w1.heap.size w1 w' → VarsOk w' ∧ TabOk w') := fun w' h => HV.out w' (b1.trans (h.mono b1.size))
  have hbw := b1.size
  obtain ⟨_, _, _, _, _, _, ev, o1, o2, o3⟩ := id oh.gen
  simp only [Value.agg.injEq, Array.mk.injEq, List.cons.injEq, Value.slice.injEq, and_true, true_and] at ev
  obtain ⟨⟨rfl, rfl⟩, ⟨rfl, rfl⟩, rfl, rfl⟩ := ev
  obtain ⟨bO, hbO⟩ : ∃ x, x = boxOkB b := ⟨_, rfl⟩
  have HIo : Hid (∀ w', Below w1.heap.size w1 w' → Calls Tryz.prog 16 #[.agg #[.slice a1 b.rs.length c1, .slice a2 b.es.length c2, .slice a3 b.cs.length c3]] w' fun e w'' => e = .returned (.bool bO) ∧ Below w'.heap.size w' w'') := fun w' h => by
    rw [hbO]; exact implBoxOk_anyG w.heap.size _ b w' hs hwf hcw (OG.out.later h) (HV1.out w' h).1 (HV1.out w' h).2
  have HSo : Hid (∀ w', Below w1.heap.size w1 w' → Calls Tryz.prog 10 #[.agg #[.slice a1 b.rs.length c1, .slice a2 b.es.length c2, .slice a3 b.cs.length c3]] w' fun e w'' => e = .returned (.bool bO) ∧ Below w'.heap.size w' w'') := fun w' h => by
    rw [hbO]; exact specBoxOk_anyG w.heap.size _ b w' hs (Nat.le_trans hbw h.size) (OG.out.later h)
  have HIx : Hid (bO = true → ∀ w', Below w1.heap.size w1 w' → Calls Tryz.prog 16 #[.agg #[.slice none 0 0, .slice a2 b.es.length c2, .slice a3 b.cs.length c3]] w' fun e w'' => e = .returned (.bool true) ∧ Below w'.heap.size w' w'') := fun hT w' h => by
    have h2 := implBoxOk_anyG w.heap.size (.agg #[.slice none 0 0, .slice a2 b.es.length c2, .slice a3 b.cs.length c3]) ⟨[], b.es, b.cs⟩ w' ⟨by simp, hs.2⟩ hwf hcw ⟨none, 0, a2, c2, a3, c3, rfl, ⟨none, 0, rfl, Nat.le_refl _, fun h => absurd h (Nat.lt_irrefl _)⟩, own_later o2 h, o3.below h⟩ (HV1.out w' h).1 (HV1.out w' h).2
    rwa [box_norules (by rw [← hbO]; exact hT)] at h2
  have HIy : Hid (bO = true → ∀ m, m ≤ b.cs.length → ∀ w', Below w1.heap.size w1 w' → Calls Tryz.prog 16 #[.agg #[.slice a1 b.rs.length c1, .slice a2 b.es.length c2, .slice a3 m c3]] w' fun e w'' => e = .returned (.bool true) ∧ Below w'.heap.size w' w'') := fun hT m hm w' h => by
    have hl : (b.cs.take m).length = m := by rw [List.length_take]; omega
    have h2 := implBoxOk_anyG w.heap.size (.agg #[.slice a1 b.rs.length c1, .slice a2 b.es.length c2, .slice a3 m c3]) ⟨b.rs, b.es, b.cs.take m⟩ w' ⟨hs.1, hs.2.1, by show (b.cs.take m).length ≤ _; have := hs.2.2.1; omega, fun c hc => hs.2.2.2 c (mem_cut hc)⟩ hwf (fun c hc => hcw c (mem_cut hc)) ⟨a1, c1, a2, c2, a3, c3, by rw [hl], o1.below h, own_later o2 h, by rw [hl]; exact RdC.take ⟨7, cnC_len⟩ (o3.below h) hm⟩ (HV1.out w' h).1 (HV1.out w' h).2
    rwa [box_less (by rw [← hbO]; exact hT) m] at h2
  have HIz : Hid (bO = true → ∀ x r, b.cs = x :: r → ∀ w' g k, Below w1.heap.size w1 w' → RdCn w' (.slice g (b.cs.length + 1) k) (b.cs ++ [x]) → Calls Tryz.prog 16 #[.agg #[.slice a1 b.rs.length c1, .slice a2 b.es.length c2, .slice g (b.cs.length + 1) k]] w' fun e w'' => e = .returned (.bool false) ∧ Below w'.heap.size w' w'') := fun hT x r hx w' g k h hr => by
    obtain ⟨-, -, -, h3, h4⟩ := boxOk_small (b := b) (by rw [← hbO]; exact hT)
    have hmem : ∀ c ∈ b.cs ++ [x], c ∈ b.cs := fun c hc => by
      rcases List.mem_append.1 hc with h | h
      · exact h
      · simp at h; subst h; rw [hx]; exact List.mem_cons_self ..
    have hl : (b.cs ++ [x]).length = b.cs.length + 1 := by simp
    have h2 := implBoxOk_anyG w.heap.size (.agg #[.slice a1 b.rs.length c1, .slice a2 b.es.length c2, .slice g (b.cs.length + 1) k]) ⟨b.rs, b.es, b.cs ++ [x]⟩ w' ⟨hs.1, hs.2.1, by show (b.cs ++ [x]).length ≤ _; omega, fun c hc => hs.2.2.2 c (hmem c hc)⟩ hwf (fun c hc => hcw c (hmem c hc)) ⟨a1, c1, a2, c2, g, k, by rw [hl], o1.below h, own_later o2 h, by rw [hl]; exact hr⟩ (HV1.out w' h).1 (HV1.out w' h).2
    rwa [box_twice hx] at h2
  have HRW : Hid (∀ x r, b.cs = x :: r → ∃ g, a3 = some ⟨g, 0, none⟩ ∧ b.cs.length ≤ c3 ∧ ∀ w', Below w1.heap.size w1 w' → (w'.cell? ⟨g, 0, none⟩ = some (.int .i64 x.ia) ∧ w'.cell? ⟨g, 1, none⟩ = some (.int .i64 x.ip) ∧ w'.cell? ⟨g, 2, none⟩ = some (.int .i64 x.oa) ∧ w'.cell? ⟨g, 3, none⟩ = some (.int .i64 x.op) ∧ w'.cell? ⟨g, 4, none⟩ = some (.string x.kn) ∧ w'.cell? ⟨g, 5, none⟩ = some (.string x.he) ∧ w'.cell? ⟨g, 6, none⟩ = some (.string x.ne)) ∧ ∀ j u, (flatC cnC b.cs)[j]? = some u → w'.cell? ((⟨g, 0, none⟩ : Addr).add j) = some u) := fun x r hx => by
    have hpos : 0 < b.cs.length := by rw [hx]; simp
    obtain ⟨ax, cx, e, hcx, hr⟩ := o3
    simp only [Value.slice.injEq, true_and] at e
    obtain ⟨rfl, rfl⟩ := e
    obtain ⟨g, rfl, hrow⟩ := hr hpos
    refine ⟨g, rfl, hcx, fun w' h => ⟨?_, rdc_news cnC_len (RdC.below cnC_len (by decide) ⟨_, _, rfl, hcx, fun _ => ⟨g, rfl, hrow⟩⟩ h)⟩⟩
    obtain ⟨⟨z0, z1, z2, z3, z4, z5, z6⟩, -⟩ := RowAt.conn hrow 0 hpos x (by simp only [hx]; rfl)
    simp only [Nat.zero_mul, Nat.zero_add] at z0 z1 z2 z3 z4 z5 z6
    exact ⟨boxAtD z0 h, boxAtD z1 h, boxAtD z2 h, boxAtD z3 h, boxAtD z4 h, boxAtD z5 h, boxAtD z6 h⟩
  have hn3 := hs.2.2.1
  obtain ⟨n1, hn1⟩ : ∃ n, n = b.rs.length := ⟨_, rfl⟩
  obtain ⟨n2, hn2⟩ : ∃ n, n = b.es.length := ⟨_, rfl⟩
  obtain ⟨n3, hnc⟩ : ∃ n, n = b.cs.length := ⟨_, rfl⟩
  have HN3 := Lib.hid hnc
  rw [← hn1, ← hn2, ← hnc] at HIo HSo HIy HIz
  rw [← hn2, ← hnc] at HIx
  rw [← hnc] at HRW hn3
  rw [← hn1, ← hn2, ← hnc]
  clear hn1 hn2 hnc hbO OG o1 o2 o3 oh hs hwf hcw b1 hbw HV HV1 H
  go_upto_region 4 with fail
  obtain ⟨W1, hW1⟩ : ∃ W, W = w1.alloc (.cells #[.slice a1 n1 c1, .slice a2 n2 c2, .slice a3 n3 c3] 29) := ⟨_, rfl⟩
  have q1 : Below w1.heap.size w1 W1 := by rw [hW1]; exact (Below.refl _ _).alloc (Nat.le_refl _) _
  have K1 : Blk W1 w1.heap.size 29 [.slice a1 n1 c1, .slice a2 n2 c2, .slice a3 n3 c3] := by rw [hW1]; exact three_new w1 _ _ _ _
  rw [← hW1]
  obtain ⟨bb, hbb⟩ : ∃ b, b = w1.heap.size := ⟨_, rfl⟩
  rw [← hbb] at K1 ⊢
  have MK : Hid (∀ w', Below W1.heap.size W1 w' → Below w1.heap.size w1 w' ∧ (w'.cell? ⟨bb, 0, none⟩ = some (.slice a1 n1 c1) ∧ w'.cell? ⟨bb, 1, none⟩ = some (.slice a2 n2 c2) ∧ w'.cell? ⟨bb, 2, none⟩ = some (.slice a3 n3 c3))) := fun w' h => ⟨q1.trans (h.mono q1.size), (three_all (K1.below h)).1⟩
  have BW1 : Hid (∀ w', Below W1.heap.size W1 w' → Below w.heap.size w w') := fun w' h => BW.out.trans ((q1.trans (h.mono q1.size)).mono BW.out.size)
  clear hbb hW1 q1 K1 BW
  obtain ⟨d1, x0, x1, x2⟩ := MK.out _ (Below.refl _ _)
  go_wp2_with fail
  (go_at_call 16; refine (HIo.out _ d1).mono ?_; rintro e w2 ⟨rfl, b2⟩)
  have D2 := Lib.hid b2
  clear b2 d1 x0 x1 x2
  obtain ⟨d1, x0, x1, x2⟩ := MK.out _ D2.out
  go_wp2_with fail
  (go_at_call 10; refine (HSo.out _ d1).mono ?_; rintro e w3 ⟨rfl, b3⟩)
  have D3 := Lib.hid (D2.out.trans (b3.mono D2.out.size))
  clear b3 d1 x0 x1 x2 D2 HSo HIo
  obtain ⟨d1, x0, x1, x2⟩ := MK.out _ D3.out
  cases bO
  · clear HIx HIy HIz HRW
    go_wp2_with fail
    (go_at_call 11; refine (haOk_any _).mono ?_; rintro e wl ⟨rfl, rfl⟩)
    go_wp2_with fail
    go_ret
    exact ⟨by simp, BW1.out _ D3.out⟩
  · have HX := Lib.hid (HIx.out rfl)
    have HY := Lib.hid (HIy.out rfl)
    have HZ := Lib.hid (HIz.out rfl)
    clear HIx HIy HIz
    go_upto_region 10 with fail
    have DA : Hid (Below W1.heap.size W1 (w3.alloc (.cells #[.slice none 0 0, .slice a2 n2 c2, .slice a3 n3 c3] 29))) := D3.out.alloc D3.out.size _
    have KA := (three_all (three_new w3 (.slice none 0 0) (.slice a2 n2 c2) (.slice a3 n3 c3) 29)).1
    obtain ⟨W4, hW4⟩ : ∃ W, W = w3.alloc (.cells #[.slice none 0 0, .slice a2 n2 c2, .slice a3 n3 c3] 29) := ⟨_, rfl⟩
    rw [← hW4] at DA KA ⊢
    obtain ⟨k0, k1, k2⟩ := KA
    clear hW4 D3 d1 x0 x1 x2
    obtain ⟨d1, x0, x1, x2⟩ := MK.out _ DA.out
    go_wp2_with fail
    (go_at_call 16; refine (HX.out _ d1).mono ?_; rintro e w5 ⟨rfl, b5⟩)
    have D5 := Lib.hid (DA.out.trans (b5.mono DA.out.size))
    clear b5 d1 x0 x1 x2 k0 k1 k2 DA HX
    obtain ⟨d1, x0, x1, x2⟩ := MK.out _ D5.out
    by_cases h0 : n3 = 0
    · subst h0
      clear HY HZ HRW
      go_wp2_with fail
      go_ret
      exact ⟨by simp, BW1.out _ D5.out⟩
    · obtain ⟨x, r, hx⟩ : ∃ x r, b.cs = x :: r := by
        cases hh : b.cs with
        | nil => have := HN3.out; rw [hh] at this; simp at this; omega
        | cons x r => exact ⟨x, r, rfl⟩
      obtain ⟨g, rfl, hcap, HRX⟩ := HRW.out x r hx
      have HR := Lib.hid HRX
      have HZ2 := Lib.hid (HZ.out x r hx)
      clear HRX HRW HZ hx
      obtain ⟨m, rfl⟩ : ∃ m, n3 = m + 1 := ⟨n3 - 1, by omega⟩
      have HY2 : Hid (∀ w', Below w1.heap.size w1 w' → Calls Tryz.prog 16 #[.agg #[.slice a1 n1 c1, .slice a2 n2 c2, .slice (some ⟨g, 0, none⟩) m c3]] w' fun e w'' => e = .returned (.bool true) ∧ Below w'.heap.size w' w'') := HY.out m (by omega)
      clear HY
      have hm1 : (((m + 1 : Nat) : Int) - 1) = (m : Int) := by omega
      have hw1 : IntKind.wrap .i64 ((m : Int) + 1 - 1) = (m : Int) := by rw [show (m : Int) + 1 - 1 = (m : Int) by omega]; exact IntWalk.i64_in _ (by omega)
      have hw0 : IntKind.wrap .i64 (m : Int) = (m : Int) := IntWalk.i64_in _ (by omega)
      have hmc : (m : Int) ≤ (c3 : Int) := by omega
      have x0y := fun o => (MK.out _ (D5.out.alloc D5.out.size o)).2.1
      have x1y := fun o => (MK.out _ (D5.out.alloc D5.out.size o)).2.2.1
      have x2y := fun o => (MK.out _ (D5.out.alloc D5.out.size o)).2.2.2
      have hm0 : (0 : Int) ≤ (m : Int) := by omega
      go_upto_region 15 with fail
      go_cut [7] (fun s7 wx => s7 = .pointer (some ⟨w5.heap.size, 0, none⟩) ∧ Below W1.heap.size W1 wx ∧ Blk wx w5.heap.size 29 [.slice a1 n1 c1, .slice a2 n2 c2, .slice (some ⟨g, 0, none⟩) m c3])
      case first =>
        go_region
        all_goals (go_wp2_with fail; go_meet)
        all_goals first
          | exact ⟨rfl, (D5.out.alloc D5.out.size _).drew, three_new w5 _ _ _ _⟩
          | exact ⟨rfl, D5.out.alloc D5.out.size _, three_new w5 _ _ _ _⟩
          | exact ⟨rfl, D5.out.drew.alloc D5.out.size _, three_new w5.drew _ _ _ _⟩
          | (trace_state; fail)
      case rest =>
        obtain ⟨rfl, d6, kY⟩ := hcut
        obtain ⟨bY, hbY⟩ : ∃ b, b = w5.heap.size := ⟨_, rfl⟩
        rw [← hbY] at kY ⊢
        have D6 := Lib.hid d6
        have KY := Lib.hid kY
        clear hbY d6 kY D5 d1 x0 x1 x2 hw1 hw0 hmc hm0 hm1 x0y x1y x2y
        obtain ⟨W6, hW6⟩ : ∃ W, W = wc := ⟨_, rfl⟩
        rw [← hW6] at D6 KY ⊢
        clear hW6
        have mk : Hid (∀ w', Below W6.heap.size W6 w' → Below W6.heap.size W6 w' ∧ (w'.cell? ⟨bb, 0, none⟩ = some (.slice a1 n1 c1) ∧ w'.cell? ⟨bb, 1, none⟩ = some (.slice a2 n2 c2) ∧ w'.cell? ⟨bb, 2, none⟩ = some (.slice (some ⟨g, 0, none⟩) (m + 1) c3)) ∧ (w'.cell? ⟨g, 0, none⟩ = some (.int .i64 x.ia) ∧ w'.cell? ⟨g, 1, none⟩ = some (.int .i64 x.ip) ∧ w'.cell? ⟨g, 2, none⟩ = some (.int .i64 x.oa) ∧ w'.cell? ⟨g, 3, none⟩ = some (.int .i64 x.op) ∧ w'.cell? ⟨g, 4, none⟩ = some (.string x.kn) ∧ w'.cell? ⟨g, 5, none⟩ = some (.string x.he) ∧ w'.cell? ⟨g, 6, none⟩ = some (.string x.ne))) := fun w' h => by
          obtain ⟨q1, q2⟩ := MK.out w' (D6.out.trans (h.mono D6.out.size))
          exact ⟨h, q2, (HR.out w' q1).1⟩
        have NW : Hid (∀ w', Below W6.heap.size W6 w' → ∀ j u, (flatC cnC b.cs)[j]? = some u → w'.cell? ((⟨g, 0, none⟩ : Addr).add j) = some u) := fun w' h => by
          obtain ⟨q1, q2⟩ := MK.out w' (D6.out.trans (h.mono D6.out.size))
          exact (HR.out w' q1).2
        have HLN : Hid ((flatC cnC b.cs).length = (m + 1) * 7) := by show _ = _; rw [flatC_len cnC_len, ← HN3.out]
        have hM := mk.out _ (Below.refl _ _)
        have zc : W6.heap.size ≤ W6.heap.size := Nat.le_refl _
        have hi0 : (0 : Int) < ((m + 1 : Nat) : Int) := by omega
        have hi1 : (0 : Int) < (c3 : Int) := by omega
        go_upto_region 16 with fail
        go_cut [8] (fun s8 wx => ∃ bz gl cl, s8 = .pointer (some ⟨bz, 0, none⟩) ∧ Blk wx bz 29 [.slice a1 n1 c1, .slice a2 n2 c2, .slice gl (m + 1 + 1) cl] ∧ Hid (RdCn wx (.slice gl (m + 1 + 1) cl) (b.cs ++ [x])) ∧ Below W6.heap.size W6 wx)
        case first =>
          go_region_held3 (fun w' => Below W6.heap.size W6 w' ∧ (w'.cell? ⟨bb, 0, none⟩ = some (.slice a1 n1 c1) ∧ w'.cell? ⟨bb, 1, none⟩ = some (.slice a2 n2 c2) ∧ w'.cell? ⟨bb, 2, none⟩ = some (.slice (some ⟨g, 0, none⟩) (m + 1) c3)) ∧ (w'.cell? ⟨g, 0, none⟩ = some (.int .i64 x.ia) ∧ w'.cell? ⟨g, 1, none⟩ = some (.int .i64 x.ip) ∧ w'.cell? ⟨g, 2, none⟩ = some (.int .i64 x.oa) ∧ w'.cell? ⟨g, 3, none⟩ = some (.int .i64 x.op) ∧ w'.cell? ⟨g, 4, none⟩ = some (.string x.kn) ∧ w'.cell? ⟨g, 5, none⟩ = some (.string x.he) ∧ w'.cell? ⟨g, 6, none⟩ = some (.string x.ne)))
            (first
              | (refine mk.out _ ?_; (repeat (first | with_reducible exact Below.refl _ _ | with_reducible exact cc | with_reducible refine Below.drew ?_ | with_reducible refine Below.alloc ?_ (by first | (simp; done) | (have := cc.size; simp; omega) | (simp; omega)) _ | with_reducible refine Below.setCell ?_ (by show W6.heap.size ≤ _; first | (simp; done) | omega | (simp; omega)) _)); first | done | fail)
              | (trace_state; fail))
            (first
              | (have hS := (by assumption : Below W6.heap.size W6 _ ∧ _); refine step_append_w _ (by rfl) (.tmp 50) (.tmp 52) 27 rfl W6.heap.size 49 i0 (.agg #[.int .i64 0, .int .i64 0, .int .i64 0, .int .i64 0, .string ⟨#[]⟩, .string ⟨#[]⟩, .string ⟨#[]⟩]) 7 80 Tryz.underlying27 hi hz0 hz1 hz2 rfl (by decide) (.slice (some ⟨_, 0, none⟩) 0 0) 0 [] (by rfl) (Blk.empty (by (repeat (first | with_reducible exact Blk.newE (by (simp; done)) | with_reducible refine Blk.drew ?_ | with_reducible refine Blk.alloc ?_ _)); first | done | fail) (by first | (simp; done) | omega | (simp; omega))) ⟨g, 0, none⟩ (m + 1) c3 (flatC cnC b.cs) (by rfl) HLN.out (NW.out _ hS.1) (flatC_one cnC_one b.cs) (by unfold maxLen; omega) (by omega) (by first | exact hS.1.size | (simp; omega)) ?_; intro vL wL hown hgrow; have cc : Below W6.heap.size W6 wL := hS.1.grown hgrow hS.1.size (fun k e => by simp [Value.ownBlock] at e; subst e; first | (simp; done) | (simp; omega) | omega); have RL : Hid (wL.ownsRow W6.heap.size 49 7 vL (m + 1) (flatC cnC b.cs)) := (by show World.ownsRow _ _ _ _ _ _ _; simpa using hown); have zL : W6.heap.size ≤ wL.heap.size := cc.size; simp only [Value.ownBlock] at hgrow; have GL := Lib.hid hgrow; clear hown hgrow)
              | (have hS := (by assumption : Below W6.heap.size W6 _ ∧ _); have KZ0 := blkW hS (b := wL.heap.size) (t := 29) (l := [.slice none 0 0, .slice none 0 0, .slice none 0 0]) (by (repeat (first | with_reducible exact blkZxE (by first | (simp; done) | (simp; omega)) | with_reducible refine Blk.drew ?_ | with_reducible refine Blk.alloc ?_ _ | with_reducible refine Blk.grown ?_ GL.out (by first | (simp; done) | (simp; omega) | omega))); first | done | fail); refine step_append_w _ (by rfl) (.tmp 53) (.tmp 58) 27 rfl W6.heap.size 49 i0 (.agg #[.int .i64 0, .int .i64 0, .int .i64 0, .int .i64 0, .string ⟨#[]⟩, .string ⟨#[]⟩, .string ⟨#[]⟩]) 7 80 Tryz.underlying27 hi hz0 hz1 hz2 rfl (by decide) vL (m + 1) (flatC cnC b.cs) (by rfl) (by (repeat (first | with_reducible exact RL.out | with_reducible refine World.ownsRow.drew ?_ | with_reducible refine World.ownsRow.alloc ?_ _)); first | done | fail) ⟨_, 0, none⟩ 1 1 (cnC x) (by rfl) (by rfl) (blk_newsC (t := 49) (l := cnC x) (by (repeat (first | with_reducible exact blkCxE (by first | (simp; done) | (simp; omega)) | with_reducible refine Blk.drew ?_ | with_reducible refine Blk.alloc ?_ _ | with_reducible refine Blk.grown ?_ GL.out (by first | (simp; done) | (simp; omega) | omega))); first | done | fail)) (cnC_one x) (by unfold maxLen; omega) (by omega) (by first | exact hS.1.size | (simp; omega)) ?_; intro vN wN hown hgrow; have cc : Below W6.heap.size W6 wN := hS.1.grown hgrow hS.1.size (fun b e => own_ge RL.out b e); have KZ := Lib.hid (blk_apart (B := W6.heap.size) (n := m + 1) (xs := flatC cnC b.cs) (by (repeat (first | with_reducible exact RL.out | with_reducible refine World.ownsRow.drew ?_ | with_reducible refine World.ownsRow.alloc ?_ _)); first | done | fail) KZ0 hgrow); obtain ⟨⟨zz0, zz1, zz2⟩, zf0, zf1, zf2⟩ := three_all KZ.out; clear KZ0; obtain ⟨gl, cl, rfl, RN, -⟩ := own_oneMore hown HN3.out cc; clear hown hgrow)
              | (have hS := (by assumption : Below W6.heap.size W6 _ ∧ _); have KZ0 := blkW hS (b := (wL.heap.size + 1)) (t := 29) (l := [.slice none 0 0, .slice none 0 0, .slice none 0 0]) (by (repeat (first | with_reducible exact blkZxE (by first | (simp; done) | (simp; omega)) | with_reducible refine Blk.drew ?_ | with_reducible refine Blk.alloc ?_ _ | with_reducible refine Blk.grown ?_ GL.out (by first | (simp; done) | (simp; omega) | omega))); first | done | fail); refine step_append_w _ (by rfl) (.tmp 53) (.tmp 58) 27 rfl W6.heap.size 49 i0 (.agg #[.int .i64 0, .int .i64 0, .int .i64 0, .int .i64 0, .string ⟨#[]⟩, .string ⟨#[]⟩, .string ⟨#[]⟩]) 7 80 Tryz.underlying27 hi hz0 hz1 hz2 rfl (by decide) vL (m + 1) (flatC cnC b.cs) (by rfl) (by (repeat (first | with_reducible exact RL.out | with_reducible refine World.ownsRow.drew ?_ | with_reducible refine World.ownsRow.alloc ?_ _)); first | done | fail) ⟨_, 0, none⟩ 1 1 (cnC x) (by rfl) (by rfl) (blk_newsC (t := 49) (l := cnC x) (by (repeat (first | with_reducible exact blkCxE (by first | (simp; done) | (simp; omega)) | with_reducible refine Blk.drew ?_ | with_reducible refine Blk.alloc ?_ _ | with_reducible refine Blk.grown ?_ GL.out (by first | (simp; done) | (simp; omega) | omega))); first | done | fail)) (cnC_one x) (by unfold maxLen; omega) (by omega) (by first | exact hS.1.size | (simp; omega)) ?_; intro vN wN hown hgrow; have cc : Below W6.heap.size W6 wN := hS.1.grown hgrow hS.1.size (fun b e => own_ge RL.out b e); have KZ := Lib.hid (blk_apart (B := W6.heap.size) (n := m + 1) (xs := flatC cnC b.cs) (by (repeat (first | with_reducible exact RL.out | with_reducible refine World.ownsRow.drew ?_ | with_reducible refine World.ownsRow.alloc ?_ _)); first | done | fail) KZ0 hgrow); obtain ⟨⟨zz0, zz1, zz2⟩, zf0, zf1, zf2⟩ := three_all KZ.out; clear KZ0; obtain ⟨gl, cl, rfl, RN, -⟩ := own_oneMore hown HN3.out cc; clear hown hgrow)
              | (have hS := (by assumption : Below W6.heap.size W6 _ ∧ _); have KZ0 := blkW hS (b := W6.heap.size) (t := 29) (l := [.slice none 0 0, .slice none 0 0, .slice none 0 0]) (by (repeat (first | with_reducible exact blkZxE (by first | (simp; done) | (simp; omega)) | with_reducible refine Blk.drew ?_ | with_reducible refine Blk.alloc ?_ _ | with_reducible refine Blk.grown ?_ GL.out (by first | (simp; done) | (simp; omega) | omega))); first | done | fail); refine step_append_w _ (by rfl) (.tmp 53) (.tmp 58) 27 rfl W6.heap.size 49 i0 (.agg #[.int .i64 0, .int .i64 0, .int .i64 0, .int .i64 0, .string ⟨#[]⟩, .string ⟨#[]⟩, .string ⟨#[]⟩]) 7 80 Tryz.underlying27 hi hz0 hz1 hz2 rfl (by decide) vL (m + 1) (flatC cnC b.cs) (by rfl) (by (repeat (first | with_reducible exact RL.out | with_reducible refine World.ownsRow.drew ?_ | with_reducible refine World.ownsRow.alloc ?_ _)); first | done | fail) ⟨_, 0, none⟩ 1 1 (cnC x) (by rfl) (by rfl) (blk_newsC (t := 49) (l := cnC x) (by (repeat (first | with_reducible exact blkCxE (by first | (simp; done) | (simp; omega)) | with_reducible refine Blk.drew ?_ | with_reducible refine Blk.alloc ?_ _ | with_reducible refine Blk.grown ?_ GL.out (by first | (simp; done) | (simp; omega) | omega))); first | done | fail)) (cnC_one x) (by unfold maxLen; omega) (by omega) (by first | exact hS.1.size | (simp; omega)) ?_; intro vN wN hown hgrow; have cc : Below W6.heap.size W6 wN := hS.1.grown hgrow hS.1.size (fun b e => own_ge RL.out b e); have KZ := Lib.hid (blk_apart (B := W6.heap.size) (n := m + 1) (xs := flatC cnC b.cs) (by (repeat (first | with_reducible exact RL.out | with_reducible refine World.ownsRow.drew ?_ | with_reducible refine World.ownsRow.alloc ?_ _)); first | done | fail) KZ0 hgrow); obtain ⟨⟨zz0, zz1, zz2⟩, zf0, zf1, zf2⟩ := three_all KZ.out; clear KZ0; obtain ⟨gl, cl, rfl, RN, -⟩ := own_oneMore hown HN3.out cc; clear hown hgrow)
              | (have hS := (by assumption : Below W6.heap.size W6 _ ∧ _); have KZ0 := blkW hS (b := (W6.heap.size + 1)) (t := 29) (l := [.slice none 0 0, .slice none 0 0, .slice none 0 0]) (by (repeat (first | with_reducible exact blkZxE (by first | (simp; done) | (simp; omega)) | with_reducible refine Blk.drew ?_ | with_reducible refine Blk.alloc ?_ _ | with_reducible refine Blk.grown ?_ GL.out (by first | (simp; done) | (simp; omega) | omega))); first | done | fail); refine step_append_w _ (by rfl) (.tmp 53) (.tmp 58) 27 rfl W6.heap.size 49 i0 (.agg #[.int .i64 0, .int .i64 0, .int .i64 0, .int .i64 0, .string ⟨#[]⟩, .string ⟨#[]⟩, .string ⟨#[]⟩]) 7 80 Tryz.underlying27 hi hz0 hz1 hz2 rfl (by decide) vL (m + 1) (flatC cnC b.cs) (by rfl) (by (repeat (first | with_reducible exact RL.out | with_reducible refine World.ownsRow.drew ?_ | with_reducible refine World.ownsRow.alloc ?_ _)); first | done | fail) ⟨_, 0, none⟩ 1 1 (cnC x) (by rfl) (by rfl) (blk_newsC (t := 49) (l := cnC x) (by (repeat (first | with_reducible exact blkCxE (by first | (simp; done) | (simp; omega)) | with_reducible refine Blk.drew ?_ | with_reducible refine Blk.alloc ?_ _ | with_reducible refine Blk.grown ?_ GL.out (by first | (simp; done) | (simp; omega) | omega))); first | done | fail)) (cnC_one x) (by unfold maxLen; omega) (by omega) (by first | exact hS.1.size | (simp; omega)) ?_; intro vN wN hown hgrow; have cc : Below W6.heap.size W6 wN := hS.1.grown hgrow hS.1.size (fun b e => own_ge RL.out b e); have KZ := Lib.hid (blk_apart (B := W6.heap.size) (n := m + 1) (xs := flatC cnC b.cs) (by (repeat (first | with_reducible exact RL.out | with_reducible refine World.ownsRow.drew ?_ | with_reducible refine World.ownsRow.alloc ?_ _)); first | done | fail) KZ0 hgrow); obtain ⟨⟨zz0, zz1, zz2⟩, zf0, zf1, zf2⟩ := three_all KZ.out; clear KZ0; obtain ⟨gl, cl, rfl, RN, -⟩ := own_oneMore hown HN3.out cc; clear hown hgrow)
              | (have hS := (by assumption : Below W6.heap.size W6 _ ∧ _); have KZ0 := blkW hS (b := (W6.heap.size + 1 + 1)) (t := 29) (l := [.slice none 0 0, .slice none 0 0, .slice none 0 0]) (by (repeat (first | with_reducible exact blkZxE (by first | (simp; done) | (simp; omega)) | with_reducible refine Blk.drew ?_ | with_reducible refine Blk.alloc ?_ _ | with_reducible refine Blk.grown ?_ GL.out (by first | (simp; done) | (simp; omega) | omega))); first | done | fail); refine step_append_w _ (by rfl) (.tmp 53) (.tmp 58) 27 rfl W6.heap.size 49 i0 (.agg #[.int .i64 0, .int .i64 0, .int .i64 0, .int .i64 0, .string ⟨#[]⟩, .string ⟨#[]⟩, .string ⟨#[]⟩]) 7 80 Tryz.underlying27 hi hz0 hz1 hz2 rfl (by decide) vL (m + 1) (flatC cnC b.cs) (by rfl) (by (repeat (first | with_reducible exact RL.out | with_reducible refine World.ownsRow.drew ?_ | with_reducible refine World.ownsRow.alloc ?_ _)); first | done | fail) ⟨_, 0, none⟩ 1 1 (cnC x) (by rfl) (by rfl) (blk_newsC (t := 49) (l := cnC x) (by (repeat (first | with_reducible exact blkCxE (by first | (simp; done) | (simp; omega)) | with_reducible refine Blk.drew ?_ | with_reducible refine Blk.alloc ?_ _ | with_reducible refine Blk.grown ?_ GL.out (by first | (simp; done) | (simp; omega) | omega))); first | done | fail)) (cnC_one x) (by unfold maxLen; omega) (by omega) (by first | exact hS.1.size | (simp; omega)) ?_; intro vN wN hown hgrow; have cc : Below W6.heap.size W6 wN := hS.1.grown hgrow hS.1.size (fun b e => own_ge RL.out b e); have KZ := Lib.hid (blk_apart (B := W6.heap.size) (n := m + 1) (xs := flatC cnC b.cs) (by (repeat (first | with_reducible exact RL.out | with_reducible refine World.ownsRow.drew ?_ | with_reducible refine World.ownsRow.alloc ?_ _)); first | done | fail) KZ0 hgrow); obtain ⟨⟨zz0, zz1, zz2⟩, zf0, zf1, zf2⟩ := three_all KZ.out; clear KZ0; obtain ⟨gl, cl, rfl, RN, -⟩ := own_oneMore hown HN3.out cc; clear hown hgrow)
              | (have hS := (by assumption : Below W6.heap.size W6 _ ∧ _); refine step_append_w _ (by rfl) (.tmp 53) (.tmp 58) 27 rfl W6.heap.size 49 i0 (.agg #[.int .i64 0, .int .i64 0, .int .i64 0, .int .i64 0, .string ⟨#[]⟩, .string ⟨#[]⟩, .string ⟨#[]⟩]) 7 80 Tryz.underlying27 hi hz0 hz1 hz2 rfl (by decide) vL (m + 1) (flatC cnC b.cs) (by rfl) (by (repeat (first | with_reducible exact RL.out | with_reducible refine World.ownsRow.drew ?_ | with_reducible refine World.ownsRow.alloc ?_ _)); first | done | fail) ⟨_, 0, none⟩ 1 1 (cnC x) (by rfl) (by rfl) (blk_newsC (t := 49) (l := cnC x) (by (repeat (first | with_reducible exact blkCxE (by first | (simp; done) | (simp; omega)) | with_reducible refine Blk.drew ?_ | with_reducible refine Blk.alloc ?_ _ | with_reducible refine Blk.grown ?_ GL.out (by first | (simp; done) | (simp; omega) | omega))); first | done | fail)) (cnC_one x) (by unfold maxLen; omega) (by omega) (by first | exact hS.1.size | (simp; omega)) ?_; intro vN wN hown hgrow; have cc : Below W6.heap.size W6 wN := hS.1.grown hgrow hS.1.size (fun b e => own_ge RL.out b e); obtain ⟨gl, cl, rfl, RN, -⟩ := own_oneMore hown HN3.out cc; clear hown hgrow))
          all_goals (go_wp2_with fail; go_meet)
          all_goals first
            | (obtain ⟨j1, j2, j3⟩ := last_new RN.out HN3.out cc (.slice a1 n1 c1) (.slice a2 n2 c2) (.slice gl (m + 1 + 1) cl); exact ⟨_, gl, cl, rfl, j1, j2, j3⟩)
            | (obtain ⟨j1, j2, j3⟩ := last_set KZ.out RN.out HN3.out cc (by first | omega | (simp; done) | (simp; omega)) (.slice a1 n1 c1) (.slice a2 n2 c2) (.slice gl (m + 1 + 1) cl); exact ⟨_, gl, cl, rfl, j1, j2, j3⟩)
            | (trace_state; fail)
        case rest =>
          obtain ⟨bz, gl, cl, rfl, kz, RD, c7⟩ := hcut
          have KZ := Lib.hid kz
          have C7 := Lib.hid c7
          have DZ := Lib.hid (D6.out.trans (c7.mono D6.out.size))
          have hq := (MK.out _ DZ.out).1
          obtain ⟨⟨y0, y1, y2⟩, -⟩ := three_all (KY.out.below c7)
          clear kz c7 hM zc hi0 hi1 mk NW HLN
          go_wp2_with fail
          (go_at_call 16; refine (HY2.out _ hq).mono ?_; rintro e w8 ⟨rfl, b8⟩)
          have D8 := Lib.hid (DZ.out.trans (b8.mono DZ.out.size))
          have hq8 := (MK.out _ D8.out).1
          have R8 : Hid (RdCn w8 (.slice gl (m + 1 + 1) cl) (b.cs ++ [x])) := RD.out.below b8
          obtain ⟨⟨z0, z1, z2⟩, -⟩ := three_all (KZ.out.below b8)
          clear b8 hq y0 y1 y2
          go_wp2_with fail
          (go_at_call 16; refine (HZ2.out _ _ _ hq8 R8.out).mono ?_; rintro e w9 ⟨rfl, b9⟩)
          have D9 := Lib.hid (D8.out.trans (b9.mono D8.out.size))
          clear b9 z0 z1 z2
          go_wp2_with fail
          go_ret
          exact ⟨by simp, BW1.out _ D9.out⟩

set_option maxRecDepth 100000 in
set_option maxHeartbeats 800000 in
theorem lwBoxOk_any (ao : Option Addr) (n cap : Nat) (w : World) (h : BytesIn w ao n) (hn : n ≤ cap) (hv : VarsOk w) (htb : TabOk w) :
    Calls Tryz.prog 4 #[.slice ao n cap] w fun e w' => e = .returned (.bool true) ∧ Below w.heap.size w w' := by
  by_cases hb1 : 1048576 < n
  · clear h
    go_enter Tryz.func4, Tryz.ntmps4
    go_wp2_with fail
    go_ret
    exact ⟨rfl, Below.refl _ _⟩
  · exact lwBoxOk_of ao n cap w h hn hv htb hb1

end Go.Proofs.YtgfkiljkpkfapaaGreatDoor
