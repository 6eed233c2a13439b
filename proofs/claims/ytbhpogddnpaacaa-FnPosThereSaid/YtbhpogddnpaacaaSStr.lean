/- l3Stream and RwrStream of the specification. Conditions: the table is ok; the text has at most 2^21 bytes. -/
import Derived.Test.YtbhpogddnpaacaaSRwr
import Derived.Test.YtbhpogddnpaacaaSLine
import Derived.Test.YtbhpogddnpaacaaLineE
import Derived.Test.YtbhpogddnpaacaaBox
import Derived.Deep.RegionHeld3
import Derived.Deep.DeepCutAuto
namespace Go.Proofs.Ytbhpogddnpaacaa
open Go.RowKit Go.Sort

theorem lpL_len' (a p : Int) : (lpL a p).length ≤ 20 := by
  unfold lpL
  split
  · rename_i h
    obtain ⟨h1, h2, h3, h4⟩ := end_bounds h
    have l1 := dec_len4 (k := a.toNat) (by omega)
    have l2 := dec_len4 (k := p.toNat) (by omega)
    simp [portL, endL]; omega
  · simp
theorem lineE_len (es : List (Int × Int)) (l : List UInt8) : (lineE es l).2.length ≤ l.length + 20 := by
  rcases h : saysE l with _ | e
  · rw [lineE_none h]
    simp
  · rw [lineE_some h]
    simp only
    split
    · simp [noneL]
    · have := lpL_len' 50 (putE es e).2
      omega
/-- One line more goes outside. -/
def strF (T : List (Int × Int) × List UInt8) (l : List UInt8) : List (Int × Int) × List UInt8 := ((lineE T.1 l).1, T.2 ++ (lineE T.1 l).2 ++ [59])
/-- Lines as they go outside, one behind the other, and the table then. -/
def streamE (es : List (Int × Int)) (ls : List (List UInt8)) : List (Int × Int) × List UInt8 := ls.foldl strF (es, [])
theorem streamE_snoc (es : List (Int × Int)) (ls : List (List UInt8)) (l : List UInt8) : streamE es (ls ++ [l]) = strF (streamE es ls) l := by simp [streamE]
theorem streamE_ok {es : List (Int × Int)} (hm : mapB es = true) (ls : List (List UInt8)) : mapB (streamE es ls).1 = true := by
  unfold streamE
  suffices h : ∀ (T : List (Int × Int) × List UInt8), mapB T.1 = true → mapB (ls.foldl strF T).1 = true from h _ hm
  induction ls with
  | nil => intro T h; exact h
  | cons l r ih => intro T h; exact ih _ (lineE_ok h)

/-- A block of cells of this type. -/
def Tag (w : World) (b : Nat) (t : TypeId) : Prop := ∃ cs fz, w.heap[b]? = some (.cells cs t fz)
theorem Tag.lt {w : World} {b : Nat} {t : TypeId} (h : Tag w b t) : b < w.heap.size := by
  obtain ⟨_, _, h⟩ := h
  exact (Array.getElem?_eq_some_iff.1 h).1
theorem Tag.later {w w' : World} {b : Nat} {t : TypeId} (h : Tag w b t) (hb : Below w.heap.size w w') : Tag w' b t := by
  have hl := h.lt
  obtain ⟨cs, fz, h⟩ := h
  exact ⟨cs, fz, (hb.block b hl).trans h⟩
theorem Tag.new (w : World) (cs : Array Value) (t : TypeId) : Tag (w.alloc (.cells cs t)) w.heap.size t := ⟨cs, _, heap_alloc_new w (.cells cs t)⟩
/-- A table that lies in a block of ends stays, when a cell of a block of another type is written. -/
theorem OwnTab.setTag {w : World} {B : Nat} {v : Value} {es : List (Int × Int)} {t : TypeId} (h : OwnTab w B v es) {a : Addr} (ht : Tag w a.block t) (hne : t ≠ 39) (u : Value) : OwnTab (w.setCell a u) B v es := by
  refine ⟨h.1, ?_⟩
  rcases h.2 with h2 | ⟨g, cap, cur, hv, hB, hg, r⟩
  · exact .inl h2
  · refine .inr ⟨g, cap, cur, hv, hB, ?_, r⟩
    rw [Below.heap_setCell _ _ _ _ fun e => ?_]
    · exact hg
    · obtain ⟨cs, fz, h1⟩ := ht
      rw [← e, hg] at h1
      injection h1 with h1
      injection h1 with _ h2 _
      exact hne h2.symm
theorem tab_ne : (34 : TypeId) ≠ 39 := by decide
theorem fresh1t {W w : World} {x : Value} {t : TypeId} (h : Below (W.alloc (.cells #[x] t)).heap.size (W.alloc (.cells #[x] t)) w) : Tag w W.heap.size t := (Tag.new W #[x] t).later h
theorem fresh1dt {W w : World} {x : Value} {t : TypeId} (h : Below (W.alloc (.cells #[x] t)).drew.heap.size (W.alloc (.cells #[x] t)).drew w) : Tag w W.heap.size t := fresh1t (((Below.refl _ _).drew).trans h)
theorem Tag.setCell {w : World} {b : Nat} {t : TypeId} (h : Tag w b t) (a : Addr) (u : Value) : Tag (w.setCell a u) b t := by
  obtain ⟨cs, fz, h⟩ := h
  by_cases e : b = a.block
  · subst e
    refine ⟨if a.spot.isSome then cs else cs.setIfInBounds a.off u, fz, ?_⟩
    show (w.heap.modify a.block _)[a.block]? = _
    rw [Array.getElem?_modify]
    simp [h]
  · exact ⟨cs, fz, (Below.heap_setCell _ _ _ _ e).trans h⟩

set_option maxRecDepth 100000 in
set_option maxHeartbeats 3200000 in
theorem specStream_any (B : Nat) (ad : Addr) (cap : Nat) (es : List (Int × Int)) (s : ByteArray) (w : World) (hm : mapB es = true) (hs : s.size ≤ 2097152) (hB : B ≤ w.heap.size) (ho : OwnTab w B (.slice (some ad) es.length cap) es) :
    Calls Try.prog 53 #[.agg #[.slice (some ad) es.length cap], .string s] w fun e w' => ∃ g c, e = .returned (.tuple #[.agg #[.slice (some g) (streamE es (linesL s.data.toList)).1.length c], .string ⟨(streamE es (linesL s.data.toList)).2.toArray⟩]) ∧ OwnTab w' B (.slice (some g) (streamE es (linesL s.data.toList)).1.length c) (streamE es (linesL s.data.toList)).1 ∧ Below w.heap.size w w' := by
  have HO := Lib.hid ho
  have HM := Lib.hid hm
  have hlz : ∀ x ∈ linesL s.data.toList, x.length ≤ 2097152 := fun x hx => by have := line_len hx; rw [len_list] at this; omega
  have hl0 := lines_len s.data.toList
  rw [len_list] at hl0
  have HL : Hid (∀ w, Calls Try.prog 36 #[.string s] w fun e w' => ∃ v, e = .returned (.tuple #[v, .string ⟨(restL s.data.toList).toArray⟩]) ∧ w'.ownsRow w.heap.size 9 1 v (linesL s.data.toList).length ((linesL s.data.toList).map strV) ∧ Below w.heap.size w w') := fun w => specLines_any s w hs
  obtain ⟨ls, hls⟩ : ∃ ls, ls = linesL s.data.toList := ⟨_, rfl⟩
  obtain ⟨rs, hrs⟩ : ∃ rs, rs = (restL s.data.toList).toArray := ⟨_, rfl⟩
  rw [← hls] at HL hlz hl0 ⊢
  rw [← hrs] at HL
  have hln : ls.length ≤ 2097152 := by omega
  have HLZ := Lib.hid hlz
  clear ho hm hls hrs hlz hl0
  go_enter Try.func53, Try.ntmps53
  go_wp2_with fail
  (go_at_call 36; refine (HL.out _).mono ?_; rintro e w1 ⟨vl, rfl, own1, b1⟩; obtain ⟨cA, cB, b01, z1⟩ := cell_two b1; have t0 := (cA 0).1; have f0 := (cA 0).2; have r0 := (cB 0).1; have g0 := (cB 0).2; simp at t0 r0; have own1 := own_base (B' := w.heap.size + 2) own1 (by simp <;> omega); obtain ⟨al, capl, rfl⟩ := own_form own1; have OWN1 := Lib.hid own1; have B1 := Lib.hid b01; have T0 : Hid (Tag w1 w.heap.size 34) := (⟨_, _, (b1.block w.heap.size (by simp <;> omega)).trans ((Below.heap_alloc _ _ _ (by simp <;> omega)).trans (heap_alloc_new w _))⟩ : Tag w1 w.heap.size 34); have T1 : Hid (Tag w1 (w.heap.size + 1) 34) := (by obtain ⟨cs, fz, hh⟩ := Tag.new (w.alloc (.cells #[.slice (some ad) es.length cap] 34)) #[.slice none 0 0] 34; simp only [World.size_alloc] at hh; exact ⟨cs, fz, (b1.block (w.heap.size + 1) (by simp)).trans hh⟩); clear cA cB b1 b01 own1)
  go_wp2_with fail
  go_loopw [8, 9, 10, 11] (fun o i _ _ wr => ∃ (k : Nat) (us : List (Int × Int)) (x : List UInt8) (g : Addr) (c : Nat), k ≤ ls.length ∧ i = .int .i64 k ∧ o = .string ⟨x.toArray⟩ ∧ (us, x) = streamE es (ls.take k) ∧ x.length ≤ k * 2097173 ∧ wr.cell? ⟨w.heap.size, 0, none⟩ = some (.slice (some g) us.length c) ∧ wr.frozen? ⟨w.heap.size, 0, none⟩ = false ∧ Tag wr w.heap.size 34 ∧ Tag wr (w.heap.size + 1) 34 ∧ OwnTab wr B (.slice (some g) us.length c) us ∧ wr.cell? ⟨w.heap.size + 1, 0, none⟩ = some (.slice none 0 0) ∧ wr.frozen? ⟨w.heap.size + 1, 0, none⟩ = false ∧ wr.ownsRow (w.heap.size + 2) 9 1 (.slice al ls.length capl) ls.length (ls.map strV) ∧ Below w.heap.size w wr ∧ w.heap.size + 2 ≤ wr.heap.size) (fun _ i _ _ _ => ls.length - (intOf i).toNat)
  case atStart => exact ⟨0, es, [], ad, cap, Nat.zero_le _, rfl, rfl, rfl, by simp, t0, f0, T0.out, T1.out, HO.out.below B1.out, r0, g0, OWN1.out, B1.out, z1⟩
  case round =>
    obtain ⟨k, us, x, g, c, hk, rfl, rfl, hT, hxk, t2, f2, tg, tg1, ho, r2, g2, own, hb, hz⟩ := hrel
    have HT := Lib.hid hT
    have HO2 := Lib.hid ho
    have HTG := Lib.hid tg
    have HTG1 := Lib.hid tg1
    clear tg1
    have HOW := Lib.hid own
    have HB := Lib.hid hb
    clear hT ho tg hb
    by_cases hlt : k < ls.length
    · obtain ⟨gl, cl, hv, hgB, hgl, hcl, hcells⟩ := own_cells own (by omega)
      simp at hv
      obtain ⟨rfl, rfl⟩ := hv
      obtain ⟨q0, _⟩ := hcells k (by simpa using hlt)
      simp only [List.getElem_map] at q0
      have hx := HLZ.out ls[k] (List.getElem_mem hlt)
      have HTK : Hid (ls.take (k + 1) = ls.take k ++ [ls[k]]) := List.take_succ_eq_append_getElem hlt
      obtain ⟨y, hy⟩ : ∃ y, y = ls[k] := ⟨_, rfl⟩
      rw [← hy] at q0 hx HTK
      have hul : us.length ≤ 6 := by
        have := mapB_le (streamE_ok HM.out (ls.take k))
        rw [← HT.out] at this
        exact this
      obtain ⟨us', hus⟩ : ∃ us', us' = (lineE us y).1 := ⟨_, rfl⟩
      obtain ⟨x', hx'⟩ : ∃ x', x' = (lineE us y).2 := ⟨_, rfl⟩
      have HN : Hid ((us', x ++ x' ++ [59]) = streamE es (ls.take (k + 1))) := by
        show _ = _
        rw [HTK.out, streamE_snoc, ← HT.out, hus, hx']; rfl
      have hxl : x'.length ≤ 2097172 := by have := lineE_len us y; rw [hx']; omega
      have hxb : x.length ≤ 4400000000000 := by have : k * 2097173 ≤ 2097152 * 2097173 := Nat.mul_le_mul_right _ (by omega); omega
      have hxn : (x ++ x' ++ [59]).length ≤ (k + 1) * 2097173 := by simp; omega
      have HXN := Lib.hid hxn
      clear hxn
      have HC : Hid (∀ w0, B ≤ w0.heap.size → OwnTab w0 B (.slice (some g) us.length c) us → Calls Try.prog 64 #[.agg #[.slice (some g) us.length c], strV y] w0 fun e w' => ∃ g c, e = .returned (.tuple #[.agg #[.slice (some g) us'.length c], .string ⟨x'.toArray⟩]) ∧ OwnTab w' B (.slice (some g) us'.length c) us' ∧ Below w0.heap.size w0 w') := fun w0 h1 h2 => by
        rw [hus, hx']
        exact specLine_any B g c us ⟨y.toArray⟩ w0 (by omega) (by show y.toArray.size ≤ _; simpa using hx) h1 h2
      have hk2 : (k : Int) ≤ (capl : Int) := by omega
      have hk3 : (k : Int) ≤ 2097152 := by omega
      have mk : Hid (∀ w', Below wr.heap.size wr w' → w'.cell? ⟨w.heap.size, 0, none⟩ = some (.slice (some g) us.length c) ∧ w'.cell? ⟨gl, k, none⟩ = some (strV y) ∧ Below wr.heap.size wr w') := fun w' h => ⟨box_below t2 h, box_below q0 h, h⟩
      clear hcells hy own hx hus hx'
      go_upto_region 6 with fail
      go_cut [10, 11] (fun s10 s11 wx => ∃ b g c, s10 = .pointer (some ⟨b, 0, none⟩) ∧ s11 = .string ⟨x'.toArray⟩ ∧ wx.cell? ⟨b, 0, none⟩ = some (.slice (some g) us'.length c) ∧ OwnTab wx B (.slice (some g) us'.length c) us' ∧ Below wr.heap.size wr wx)
      case first =>
        go_region_held3 (fun w' => w'.cell? ⟨w.heap.size, 0, none⟩ = some (.slice (some g) us.length c) ∧ w'.cell? ⟨gl, k, none⟩ = some (strV y) ∧ Below wr.heap.size wr w')
          (first
            | exact mk.out _ (Below.refl _ _).drew
            | exact mk.out _ cc
            | exact mk.out _ (cc.alloc cc.size _)
            | exact mk.out _ (cc.setCell (by first | (simp; done) | (simp; omega)) _)
            | exact mk.out _ (((Below.refl _ _).drew).alloc (Nat.le_refl _) _)
            | (trace_state; fail))
          (first | (go_at_call 64; have hS := (by assumption : _ ∧ _ ∧ Below wr.heap.size wr _); refine (HC.out _ (Nat.le_trans (by omega : B ≤ wr.heap.size) hS.2.2.size) (HO2.out.below hS.2.2)).mono ?_; rintro e wN ⟨gN, cN, rfl, oN, bN⟩; have ON := Lib.hid oN; have cc : Below wr.heap.size wr wN := hS.2.2.trans (bN.mono hS.2.2.size); (first | (have hk := fresh1 bN; obtain ⟨k0, kf⟩ := hk; have kt := fresh1t bN) | (have hk := fresh1d bN; obtain ⟨k0, kf⟩ := hk; have kt := fresh1dt bN) | skip)))
        all_goals (go_wp2_with fail; go_meet)
        all_goals (first | exact ⟨_, _, _, rfl, rfl, by simp, ON.out.below ((Below.refl _ _).alloc (Nat.le_refl _) _), cc.alloc cc.size _⟩ | exact ⟨_, _, _, rfl, rfl, World.cell?_setCell_same _ _ _ k0, ON.out.setTag kt tab_ne _, cc.setCell (by first | (simp; done) | (simp; omega)) _⟩ | (trace_state; fail))
      case rest =>
        obtain ⟨b, gN, cN, rfl, rfl, kN, oN, bN⟩ := hcut
        have ON := Lib.hid oN
        have BN := Lib.hid bN
        have t3 := box_below t2 bN
        have f3 := box_frozen t2 f2 bN
        have r3 := box_below r2 bN
        have g3 := box_frozen r2 g2 bN
        have TG3 := Lib.hid (HTG.out.later bN)
        have OW3 := Lib.hid (own_below HOW.out bN)
        have zN := bN.size
        have HSX : Hid ((⟨x.toArray⟩ : ByteArray) ++ ⟨x'.toArray⟩ ++ ⟨#[59]⟩ = ⟨(x ++ x' ++ [59]).toArray⟩) := by
          show _ = _
          apply ByteArray.ext
          apply Array.ext'
          simp
        clear oN bN t2 f2 r2 g2 q0
        clear hxk
        go_wp2_with fail
        go_roundw
        case rel =>
          refine ⟨k + 1, us', x ++ x' ++ [59], gN, cN, by omega, by go_num, by rw [HSX.out], HN.out, HXN.out, World.cell?_setCell_same _ _ _ t3, by rw [World.frozen?_setCell]; exact f3, TG3.out.setCell _ _, (HTG1.out.later BN.out).setCell _ _, ON.out.setTag TG3.out tab_ne _, ?_, by rw [World.frozen?_setCell]; exact g3, ownsRow_setCell_below OW3.out (by simp) _, ?_, by simp; omega⟩
          · rw [World.cell?_setCell_far _ ⟨w.heap.size, 0, none⟩ ⟨w.heap.size + 1, 0, none⟩ _ (by show w.heap.size ≠ w.heap.size + 1; omega)]; exact r3
          · exact (HB.out.trans (BN.out.mono (by omega))).setCell (by simp) _
        case measure => simp [intOf]; omega
    · have hke : k = ls.length := by omega
      have HTE : Hid ((us, x) = streamE es ls) := by show _ = _; rw [HT.out, hke, List.take_length]
      clear hlt
      go_wp2_with fail
      refine bodyPost_ret (v := .tuple #[.agg #[.slice (some g) us.length c], .string ⟨x.toArray⟩]) (by simp [results, Try.results53, go_sem, World.cell?_setCell_same _ _ _ r2]) rfl ?_
      rw [← HTE.out]
      refine ⟨g, c, rfl, HO2.out.setTag HTG1.out tab_ne _, HB.out.setCell (by simp) _⟩

end Go.Proofs.Ytbhpogddnpaacaa
