/- What a list of texts reads as, in a world. No condition. (Several texts, joined: SLine, SStr, IStrm, SStrL, IStrmA, StrLen, StrALen, RdV.) -/
import Derived.Test.YtbhpogddnpaacaaGreatDoorGen
import Derived.Test.YtbhpogddnpaacaaGreatDoorLines
import Derived.Test.YtbhpogddnpaacaaGreatDoorTPplb
import Derived.Test.YtbhpogddnpaacaaGreatDoorTPpld
import Derived.Deep.RegionHeld3
import Derived.Deep.DeepCutAuto
import Derived.Test.YtbhpogddnpaacaaGreatDoorISeqS
import Derived.Test.YtbhpogddnpaacaaGreatDoorIBuild
import Derived.Test.YtbhpogddnpaacaaGreatDoorIStr
import Derived.RangeFuncWrites

/- StrLines and StrOk of the specification, at every text. Condition: the text has at most 2^21 bytes. -/
namespace Go.Proofs.YtbhpogddnpaacaaGreatDoor
open Go.RowKit

set_option maxRecDepth 100000 in
set_option maxHeartbeats 800000 in
theorem specLines_any (s : ByteArray) (w : World) (hs : s.size ≤ 2097152) :
    Calls Tryz.prog 20 #[.string s] w fun e w' => ∃ v, e = .returned (.tuple #[v, .string ⟨(restL s.data.toList).toArray⟩]) ∧ w'.ownsRow w.heap.size 9 1 v (linesL s.data.toList).length ((linesL s.data.toList).map strV) ∧ Below w.heap.size w w' := by
  obtain ⟨i0, hi, hz0, hz1, hz2⟩ := info_parts infoStr
  go_enter Tryz.func20, Tryz.ntmps20
  go_wp2
  go_loopw [4, 5, 6] (fun v f i wr => ∃ (k m : Nat) (W0 : List (List UInt8) × List UInt8), k ≤ s.size ∧ i = .int .i64 k ∧ f = .int .i64 m ∧ m + W0.2.length = k ∧ W0 = linesF (s.data.toList.take k) ∧ wr.ownsRow w.heap.size 9 1 v W0.1.length (W0.1.map strV) ∧ Below w.heap.size w wr)
    (fun _ _ i _ => s.size - (intOf i).toNat)
  case atStart => exact ⟨0, 0, ([], []), Nat.zero_le _, rfl, rfl, rfl, rfl, World.ownsRow_made w #[] 0 (Nat.le_refl _) (Nat.zero_le _) rfl, (Below.refl _ _).alloc (Nat.le_refl _) _⟩
  case round =>
    obtain ⟨k, m, W0, hk, rfl, rfl, hm, hW, hown, hb⟩ := hrel
    have HW := Lib.hid hW
    have HM := Lib.hid hm
    have hlen : W0.1.length ≤ k := by
      have := lines_len (s.data.toList.take k)
      rw [hW]; simp [linesL] at this ⊢; omega
    have hmk : m ≤ k := by omega
    have hbs := hb.size
    clear hW hm
    by_cases hlt : k < s.size
    · have hsn : Hid (linesF (s.data.toList.take (k + 1)) = stl W0 s[k]) := by
        show linesF (s.data.toList.take (k + 1)) = stl W0 s[k]
        rw [take_snoc s k hlt, linesF_snoc, HW.out]
      by_cases h59 : s[k] = 59
      · have ht : (((s[k]).toNat : Int) == 59) = true := by rw [h59]; rfl
        have H59 : Hid (s[k] = 59) := h59
        have HX : Hid (s.extract m k = ⟨W0.2.toArray⟩) := by
          show s.extract m k = _
          have h1 := rest_drop (s.data.toList.take k)
          rw [show restL (s.data.toList.take k) = W0.2 by rw [HW.out]; rfl] at h1
          have h2 : (s.data.toList.take k).length - W0.2.length = m := by have := HM.out; simp; omega
          rw [h2] at h1
          rw [ext_list, ← h1]
        clear h59
        go_wp2_with (at_builtin; rw [HX.out]; refine wpList_append_own _ rfl (.tmp 18) (.tmp 23) 32 rfl w.heap.size 9 i0 (.string ⟨#[]⟩) 1 16 Tryz.underlying32 hi hz0 hz1 hz2 rfl (by decide) _ _ _ rfl (hown.alloc _) ⟨wr.heap.size, 0, none⟩ 1 1 [.string ⟨W0.2.toArray⟩] rfl rfl ?c1 ?c2 ?c3 ?c4 ?c5 ?_)
        case c1 =>
          intro j u hj
          match j, hj with
          | 0, hj => simp at hj; subst hj; simp [Addr.add]
        case c2 => intro u hu; simp at hu; subst hu; rfl
        case c3 => unfold maxLen; omega
        case c4 => omega
        case c5 => simp; omega
        · intro v' w1 hown' hgrow _
          go_wp2
          go_roundw
          case rel =>
            refine ⟨k + 1, k + 1, stl W0 s[k], by omega, by go_num, by go_num, ?_, hsn.out.symm, ?_, ?_⟩
            · rw [stl, if_pos H59.out]; simp
            · rw [stl, if_pos H59.out]; simpa [strV] using hown'
            · exact (hb.alloc hbs _).grown hgrow (by simp; omega) (fun k hk => (hown.lt k hk).1)
          case measure => simp [intOf]; omega
      · have ht : (((s[k]).toNat : Int) == 59) = false := by
          have e59 : (59 : UInt8).toNat = 59 := rfl
          simp; intro e; exact h59 (UInt8.toNat_inj.1 (by omega))
        have H59 : Hid (¬ s[k] = 59) := h59
        clear h59
        go_wp2
        go_roundw
        case rel =>
          refine ⟨k + 1, m, stl W0 s[k], by omega, by go_num, rfl, ?_, hsn.out.symm, ?_, hb⟩
          · have := HM.out
            rw [stl, if_neg H59.out]; simp; omega
          · rw [stl, if_neg H59.out]; exact hown
        case measure => simp [intOf]; omega
    · have HK : Hid (s.data.toList.take k = s.data.toList) := List.take_of_length_le (by rw [len_list]; omega)
      have HX : Hid (s.extract m s.size = ⟨(restL s.data.toList).toArray⟩) := by
        show s.extract m s.size = _
        have h1 := rest_drop s.data.toList
        have h0 : restL s.data.toList = W0.2 := by rw [HW.out, HK.out]; rfl
        have h2 : s.data.toList.length - (restL s.data.toList).length = m := by have := HM.out; rw [h0, len_list]; omega
        rw [h2] at h1
        rw [ext_list, List.take_of_length_le (by rw [len_list]; omega), ← h1]
      have HE : Hid (linesL s.data.toList = W0.1) := by
        show linesL s.data.toList = W0.1
        rw [HW.out, HK.out]; rfl
      have hm1 : (0 : Int) ≤ (m : Int) := by omega
      have hm2 : (m : Int) ≤ (s.size : Int) := by omega
      go_wp2_with fail
      go_region
      go_wp2
      go_ret2
      exact ⟨_, by rw [HX.out]; rfl, by rw [HE.out]; exact hown, hb.drew⟩

set_option maxRecDepth 100000 in
set_option maxHeartbeats 800000 in
theorem specStr_any (s : ByteArray) (w : World) (hs : s.size ≤ 2097152) :
    Calls Tryz.prog 8 #[.string s] w fun e w' => e = .returned (.bool (strB s.data.toList)) ∧ Below w.heap.size w w' := by
  by_cases h120 : 120 < s.size
  · go_enter Tryz.func8, Tryz.ntmps8
    go_wp2_with fail
    go_ret
    exact ⟨ret_bool (by unfold strB; rw [len_list, decide_eq_false (by omega)]; rfl), Below.refl _ _⟩
  · go_enter Tryz.func8, Tryz.ntmps8
    go_wp2_with (go_at_call 20; refine (specLines_any _ _ hs).mono ?_; rintro e w1 ⟨v, rfl, own1, b1⟩)
    obtain ⟨a1, cap1, rfl⟩ := own_form own1
    have hll := lines_len s.data.toList
    rw [len_list] at hll
    have sR : (⟨(restL s.data.toList).toArray⟩ : ByteArray).size ≤ 281474976710656 := by simp [ByteArray.size]; omega
    go_loop [5] (fun i => ∃ k : Nat, k ≤ (linesL s.data.toList).length ∧ i = .int .i64 k ∧ (∀ x ∈ (linesL s.data.toList).take k, linB x = true)) (fun i => (linesL s.data.toList).length - (intOf i).toNat)
    case atStart => exact ⟨0, Nat.zero_le _, rfl, by simp⟩
    case round =>
      obtain ⟨k, hk, rfl, hd⟩ := hrel
      have HD := Lib.hid hd
      clear hd
      by_cases hlt : k < (linesL s.data.toList).length
      · obtain ⟨g, cap, e1, gB, gl, hcap, hcells⟩ := own_cells own1 (by omega)
        obtain ⟨x, hx⟩ : ∃ x, x = (linesL s.data.toList)[k] := ⟨_, rfl⟩
        have hcell : w1.cell? ⟨g, k, none⟩ = some (strV x) := by
          rw [(hcells k (by simpa using hlt)).1]; simp [hx]
        have hxl : x.length ≤ s.size := by rw [← len_list]; exact line_len (by rw [hx]; exact List.getElem_mem _)
        have sX : (⟨x.toArray⟩ : ByteArray).size ≤ 281474976710656 := by simp [ByteArray.size]; omega
        simp at e1
        obtain ⟨rfl, rfl⟩ := e1
        have HX : Hid (x = (linesL s.data.toList)[k]) := hx
        clear hx hcells hxl
        unfold strV at hcell
        by_cases hb : linB x = true
        · have HB := Lib.hid hb
          go_wp2_with (go_at_call 21; refine (specLin_any _ _ sX).mono ?_; rintro e w' ⟨rfl, rfl⟩)
          go_round
          case rel =>
            refine ⟨k + 1, by omega, by go_num, ?_⟩
            rw [List.take_succ_eq_append_getElem hlt, ← HX.out]; intro y hy
            rcases List.mem_append.1 hy with hy | hy
            · exact HD.out y hy
            · simp at hy; subst hy; exact HB.out
          case measure => simp [intOf]; omega
        · have HB : Hid (strB s.data.toList = false) := by
            have : (linesL s.data.toList).all linB = false := by
              rw [List.all_eq_false]; exact ⟨x, by rw [HX.out]; exact List.getElem_mem _, hb⟩
            show (_ && _ && _) = false
            rw [this]; simp
          go_wp2_with (go_at_call 21; refine (specLin_any _ _ sX).mono ?_; rintro e w' ⟨rfl, rfl⟩)
          go_ret
          exact ⟨ret_bool HB.out.symm, b1⟩
      · have HS : Hid (strB s.data.toList = linB (restL s.data.toList)) := by
          have he : (linesL s.data.toList).take k = linesL s.data.toList := List.take_of_length_le (by omega)
          show (_ && _ && _) = _
          rw [len_list, decide_eq_true (by omega), ← he, List.all_eq_true.2 HD.out]; simp
        go_wp2_with (go_at_call 21; refine (specLin_any _ _ sR).mono ?_; rintro e w' ⟨rfl, rfl⟩)
        go_ret
        exact ⟨ret_bool (by rw [HS.out]), b1⟩

end Go.Proofs.YtbhpogddnpaacaaGreatDoor

/- l3Stream and RwrStream of the specification. Conditions: the table is ok; the text has at most 2^21 bytes. -/
namespace Go.Proofs.YtbhpogddnpaacaaGreatDoor
open Go.RowKit Go.Sort

theorem lpL_len' (a p : Int) : (lpL a p).length ≤ 20 := by
  unfold lpL
  split
  · rename_i h
    obtain ⟨h1, h2, h3, h4⟩ := end_bounds h
    have l1 := dec_len4 (k := a.toNat) (by omega)
    have l2 := dec_len4 (k := p.toNat) (by omega)
    simp [portL, endL]; omega
  · simp
theorem lineE_len (es : List (Int × Int)) (l : List UInt8) : (lineE es l).2.length ≤ l.length + 20 := by
  rcases h : saysE l with _ | e
  · rw [lineE_none h]
    simp
  · rw [lineE_some h]
    simp only
    split
    · simp [noneL]
    · have := lpL_len' 50 (putE es e).2
      omega
/-- One line more goes outside. -/
def strF (T : List (Int × Int) × List UInt8) (l : List UInt8) : List (Int × Int) × List UInt8 := ((lineE T.1 l).1, T.2 ++ (lineE T.1 l).2 ++ [59])
/-- Lines as they go outside, one behind the other, and the table then. -/
def streamE (es : List (Int × Int)) (ls : List (List UInt8)) : List (Int × Int) × List UInt8 := ls.foldl strF (es, [])
theorem streamE_snoc (es : List (Int × Int)) (ls : List (List UInt8)) (l : List UInt8) : streamE es (ls ++ [l]) = strF (streamE es ls) l := by simp [streamE]
theorem streamE_ok {es : List (Int × Int)} (hm : mapB es = true) (ls : List (List UInt8)) : mapB (streamE es ls).1 = true := by
  unfold streamE
  suffices h : ∀ (T : List (Int × Int) × List UInt8), mapB T.1 = true → mapB (ls.foldl strF T).1 = true from h _ hm
  induction ls with
  | nil => intro T h; exact h
  | cons l r ih => intro T h; exact ih _ (lineE_ok h)

/-- A block of cells of this type. -/
def Tag (w : World) (b : Nat) (t : TypeId) : Prop := ∃ cs fz, w.heap[b]? = some (.cells cs t fz)
theorem Tag.lt {w : World} {b : Nat} {t : TypeId} (h : Tag w b t) : b < w.heap.size := by
  obtain ⟨_, _, h⟩ := h
  exact (Array.getElem?_eq_some_iff.1 h).1
theorem Tag.later {w w' : World} {b : Nat} {t : TypeId} (h : Tag w b t) (hb : Below w.heap.size w w') : Tag w' b t := by
  have hl := h.lt
  obtain ⟨cs, fz, h⟩ := h
  exact ⟨cs, fz, (hb.block b hl).trans h⟩
theorem Tag.new (w : World) (cs : Array Value) (t : TypeId) : Tag (w.alloc (.cells cs t)) w.heap.size t := ⟨cs, _, heap_alloc_new w (.cells cs t)⟩
/-- A table that lies in a block of ends stays, when a cell of a block of another type is written. -/
theorem OwnTab.setTag {w : World} {B : Nat} {v : Value} {es : List (Int × Int)} {t : TypeId} (h : OwnTab w B v es) {a : Addr} (ht : Tag w a.block t) (hne : t ≠ 36) (u : Value) : OwnTab (w.setCell a u) B v es := by
  refine ⟨h.1, ?_⟩
  rcases h.2 with h2 | ⟨g, cap, cur, hv, hB, hg, r⟩
  · exact .inl h2
  · refine .inr ⟨g, cap, cur, hv, hB, ?_, r⟩
    rw [Below.heap_setCell _ _ _ _ fun e => ?_]
    · exact hg
    · obtain ⟨cs, fz, h1⟩ := ht
      rw [← e, hg] at h1
      injection h1 with h1
      injection h1 with _ h2 _
      exact hne h2.symm
theorem tab_ne : (25 : TypeId) ≠ 36 := by decide
theorem fresh1t {W w : World} {x : Value} {t : TypeId} (h : Below (W.alloc (.cells #[x] t)).heap.size (W.alloc (.cells #[x] t)) w) : Tag w W.heap.size t := (Tag.new W #[x] t).later h
theorem fresh1dt {W w : World} {x : Value} {t : TypeId} (h : Below (W.alloc (.cells #[x] t)).drew.heap.size (W.alloc (.cells #[x] t)).drew w) : Tag w W.heap.size t := fresh1t (((Below.refl _ _).drew).trans h)
theorem Tag.setCell {w : World} {b : Nat} {t : TypeId} (h : Tag w b t) (a : Addr) (u : Value) : Tag (w.setCell a u) b t := by
  obtain ⟨cs, fz, h⟩ := h
  by_cases e : b = a.block
  · subst e
    refine ⟨if a.spot.isSome then cs else cs.setIfInBounds a.off u, fz, ?_⟩
    show (w.heap.modify a.block _)[a.block]? = _
    rw [Array.getElem?_modify]
    simp [h]
  · exact ⟨cs, fz, (Below.heap_setCell _ _ _ _ e).trans h⟩

set_option maxRecDepth 100000 in
set_option maxHeartbeats 3200000 in
theorem specStream_any (B : Nat) (ad : Addr) (cap : Nat) (es : List (Int × Int)) (s : ByteArray) (w : World) (hm : mapB es = true) (hs : s.size ≤ 2097152) (hB : B ≤ w.heap.size) (ho : OwnTab w B (.slice (some ad) es.length cap) es) :
    Calls Tryz.prog 66 #[.agg #[.slice (some ad) es.length cap], .string s] w fun e w' => ∃ g c, e = .returned (.tuple #[.agg #[.slice (some g) (streamE es (linesL s.data.toList)).1.length c], .string ⟨(streamE es (linesL s.data.toList)).2.toArray⟩]) ∧ OwnTab w' B (.slice (some g) (streamE es (linesL s.data.toList)).1.length c) (streamE es (linesL s.data.toList)).1 ∧ Below w.heap.size w w' := by
  have HO := Lib.hid ho
  have HM := Lib.hid hm
  have hlz : ∀ x ∈ linesL s.data.toList, x.length ≤ 2097152 := fun x hx => by have := line_len hx; rw [len_list] at this; omega
  have hl0 := lines_len s.data.toList
  rw [len_list] at hl0
  have HL : Hid (∀ w, Calls Tryz.prog 20 #[.string s] w fun e w' => ∃ v, e = .returned (.tuple #[v, .string ⟨(restL s.data.toList).toArray⟩]) ∧ w'.ownsRow w.heap.size 9 1 v (linesL s.data.toList).length ((linesL s.data.toList).map strV) ∧ Below w.heap.size w w') := fun w => specLines_any s w hs
  obtain ⟨ls, hls⟩ : ∃ ls, ls = linesL s.data.toList := ⟨_, rfl⟩
  obtain ⟨rs, hrs⟩ : ∃ rs, rs = (restL s.data.toList).toArray := ⟨_, rfl⟩
  rw [← hls] at HL hlz hl0 ⊢
  rw [← hrs] at HL
  have hln : ls.length ≤ 2097152 := by omega
  have HLZ := Lib.hid hlz
  clear ho hm hls hrs hlz hl0
  go_enter Tryz.func66, Tryz.ntmps66
  go_wp2_with fail
  (go_at_call 20; refine (HL.out _).mono ?_; rintro e w1 ⟨vl, rfl, own1, b1⟩; obtain ⟨cA, cB, b01, z1⟩ := cell_two b1; have t0 := (cA 0).1; have f0 := (cA 0).2; have r0 := (cB 0).1; have g0 := (cB 0).2; simp at t0 r0; have own1 := own_base (B' := w.heap.size + 2) own1 (by simp <;> omega); obtain ⟨al, capl, rfl⟩ := own_form own1; have OWN1 := Lib.hid own1; have B1 := Lib.hid b01; have T0 : Hid (Tag w1 w.heap.size 25) := (⟨_, _, (b1.block w.heap.size (by simp <;> omega)).trans ((Below.heap_alloc _ _ _ (by simp <;> omega)).trans (heap_alloc_new w _))⟩ : Tag w1 w.heap.size 25); have T1 : Hid (Tag w1 (w.heap.size + 1) 25) := (by obtain ⟨cs, fz, hh⟩ := Tag.new (w.alloc (.cells #[.slice (some ad) es.length cap] 25)) #[.slice none 0 0] 25; simp only [World.size_alloc] at hh; exact ⟨cs, fz, (b1.block (w.heap.size + 1) (by simp)).trans hh⟩); clear cA cB b1 b01 own1)
  go_wp2_with fail
  go_loopw [8, 9, 10, 11] (fun o i _ _ wr => ∃ (k : Nat) (us : List (Int × Int)) (x : List UInt8) (g : Addr) (c : Nat), k ≤ ls.length ∧ i = .int .i64 k ∧ o = .string ⟨x.toArray⟩ ∧ (us, x) = streamE es (ls.take k) ∧ x.length ≤ k * 2097173 ∧ wr.cell? ⟨w.heap.size, 0, none⟩ = some (.slice (some g) us.length c) ∧ wr.frozen? ⟨w.heap.size, 0, none⟩ = false ∧ Tag wr w.heap.size 25 ∧ Tag wr (w.heap.size + 1) 25 ∧ OwnTab wr B (.slice (some g) us.length c) us ∧ wr.cell? ⟨w.heap.size + 1, 0, none⟩ = some (.slice none 0 0) ∧ wr.frozen? ⟨w.heap.size + 1, 0, none⟩ = false ∧ wr.ownsRow (w.heap.size + 2) 9 1 (.slice al ls.length capl) ls.length (ls.map strV) ∧ Below w.heap.size w wr ∧ w.heap.size + 2 ≤ wr.heap.size) (fun _ i _ _ _ => ls.length - (intOf i).toNat)
  case atStart => exact ⟨0, es, [], ad, cap, Nat.zero_le _, rfl, rfl, rfl, by simp, t0, f0, T0.out, T1.out, HO.out.below B1.out, r0, g0, OWN1.out, B1.out, z1⟩
  case round =>
    obtain ⟨k, us, x, g, c, hk, rfl, rfl, hT, hxk, t2, f2, tg, tg1, ho, r2, g2, own, hb, hz⟩ := hrel
    have HT := Lib.hid hT
    have HO2 := Lib.hid ho
    have HTG := Lib.hid tg
    have HTG1 := Lib.hid tg1
    clear tg1
    have HOW := Lib.hid own
    have HB := Lib.hid hb
    clear hT ho tg hb
    by_cases hlt : k < ls.length
    · obtain ⟨gl, cl, hv, hgB, hgl, hcl, hcells⟩ := own_cells own (by omega)
      simp at hv
      obtain ⟨rfl, rfl⟩ := hv
      obtain ⟨q0, _⟩ := hcells k (by simpa using hlt)
      simp only [List.getElem_map] at q0
      have hx := HLZ.out ls[k] (List.getElem_mem hlt)
      have HTK : Hid (ls.take (k + 1) = ls.take k ++ [ls[k]]) := List.take_succ_eq_append_getElem hlt
      obtain ⟨y, hy⟩ : ∃ y, y = ls[k] := ⟨_, rfl⟩
      rw [← hy] at q0 hx HTK
      have hul : us.length ≤ 6 := by
        have := mapB_le (streamE_ok HM.out (ls.take k))
        rw [← HT.out] at this
        exact this
      obtain ⟨us', hus⟩ : ∃ us', us' = (lineE us y).1 := ⟨_, rfl⟩
      obtain ⟨x', hx'⟩ : ∃ x', x' = (lineE us y).2 := ⟨_, rfl⟩
      have HN : Hid ((us', x ++ x' ++ [59]) = streamE es (ls.take (k + 1))) := by
        show _ = _
        rw [HTK.out, streamE_snoc, ← HT.out, hus, hx']; rfl
      have hxl : x'.length ≤ 2097172 := by have := lineE_len us y; rw [hx']; omega
      have hxb : x.length ≤ 4400000000000 := by have : k * 2097173 ≤ 2097152 * 2097173 := Nat.mul_le_mul_right _ (by omega); omega
      have hxn : (x ++ x' ++ [59]).length ≤ (k + 1) * 2097173 := by simp; omega
      have HXN := Lib.hid hxn
      clear hxn
      have HC : Hid (∀ w0, B ≤ w0.heap.size → OwnTab w0 B (.slice (some g) us.length c) us → Calls Tryz.prog 83 #[.agg #[.slice (some g) us.length c], strV y] w0 fun e w' => ∃ g c, e = .returned (.tuple #[.agg #[.slice (some g) us'.length c], .string ⟨x'.toArray⟩]) ∧ OwnTab w' B (.slice (some g) us'.length c) us' ∧ Below w0.heap.size w0 w') := fun w0 h1 h2 => by
        rw [hus, hx']
        exact specLine_any B g c us ⟨y.toArray⟩ w0 (by omega) (by show y.toArray.size ≤ _; simpa using hx) h1 h2
      have hk2 : (k : Int) ≤ (capl : Int) := by omega
      have hk3 : (k : Int) ≤ 2097152 := by omega
      have mk : Hid (∀ w', Below wr.heap.size wr w' → w'.cell? ⟨w.heap.size, 0, none⟩ = some (.slice (some g) us.length c) ∧ w'.cell? ⟨gl, k, none⟩ = some (strV y) ∧ Below wr.heap.size wr w') := fun w' h => ⟨box_below t2 h, box_below q0 h, h⟩
      clear hcells hy own hx hus hx'
      go_upto_region 6 with fail
      go_cut [10, 11] (fun s10 s11 wx => ∃ b g c, s10 = .pointer (some ⟨b, 0, none⟩) ∧ s11 = .string ⟨x'.toArray⟩ ∧ wx.cell? ⟨b, 0, none⟩ = some (.slice (some g) us'.length c) ∧ OwnTab wx B (.slice (some g) us'.length c) us' ∧ Below wr.heap.size wr wx)
      case first =>
        go_region_held3 (fun w' => w'.cell? ⟨w.heap.size, 0, none⟩ = some (.slice (some g) us.length c) ∧ w'.cell? ⟨gl, k, none⟩ = some (strV y) ∧ Below wr.heap.size wr w')
          (first
            | exact mk.out _ (Below.refl _ _).drew
            | exact mk.out _ cc
            | exact mk.out _ (cc.alloc cc.size _)
            | exact mk.out _ (cc.setCell (by first | (simp; done) | (simp; omega)) _)
            | exact mk.out _ (((Below.refl _ _).drew).alloc (Nat.le_refl _) _)
            | (trace_state; fail))
          (first | (go_at_call 83; have hS := (by assumption : _ ∧ _ ∧ Below wr.heap.size wr _); refine (HC.out _ (Nat.le_trans (by omega : B ≤ wr.heap.size) hS.2.2.size) (HO2.out.below hS.2.2)).mono ?_; rintro e wN ⟨gN, cN, rfl, oN, bN⟩; have ON := Lib.hid oN; have cc : Below wr.heap.size wr wN := hS.2.2.trans (bN.mono hS.2.2.size); (first | (have hk := fresh1 bN; obtain ⟨k0, kf⟩ := hk; have kt := fresh1t bN) | (have hk := fresh1d bN; obtain ⟨k0, kf⟩ := hk; have kt := fresh1dt bN) | skip)))
        all_goals (go_wp2_with fail; go_meet)
        all_goals (first | exact ⟨_, _, _, rfl, rfl, by simp, ON.out.below ((Below.refl _ _).alloc (Nat.le_refl _) _), cc.alloc cc.size _⟩ | exact ⟨_, _, _, rfl, rfl, World.cell?_setCell_same _ _ _ k0, ON.out.setTag kt tab_ne _, cc.setCell (by first | (simp; done) | (simp; omega)) _⟩ | (trace_state; fail))
      case rest =>
        obtain ⟨b, gN, cN, rfl, rfl, kN, oN, bN⟩ := hcut
        have ON := Lib.hid oN
        have BN := Lib.hid bN
        have t3 := box_below t2 bN
        have f3 := box_frozen t2 f2 bN
        have r3 := box_below r2 bN
        have g3 := box_frozen r2 g2 bN
        have TG3 := Lib.hid (HTG.out.later bN)
        have OW3 := Lib.hid (own_below HOW.out bN)
        have zN := bN.size
        have HSX : Hid ((⟨x.toArray⟩ : ByteArray) ++ ⟨x'.toArray⟩ ++ ⟨#[59]⟩ = ⟨(x ++ x' ++ [59]).toArray⟩) := by
          show _ = _
          apply ByteArray.ext
          apply Array.ext'
          simp
        clear oN bN t2 f2 r2 g2 q0
        clear hxk
        go_wp2_with fail
        go_roundw
        case rel =>
          refine ⟨k + 1, us', x ++ x' ++ [59], gN, cN, by omega, by go_num, by rw [HSX.out], HN.out, HXN.out, World.cell?_setCell_same _ _ _ t3, by rw [World.frozen?_setCell]; exact f3, TG3.out.setCell _ _, (HTG1.out.later BN.out).setCell _ _, ON.out.setTag TG3.out tab_ne _, ?_, by rw [World.frozen?_setCell]; exact g3, ownsRow_setCell_below OW3.out (by simp) _, ?_, by simp; omega⟩
          · rw [World.cell?_setCell_far _ ⟨w.heap.size, 0, none⟩ ⟨w.heap.size + 1, 0, none⟩ _ (by show w.heap.size ≠ w.heap.size + 1; omega)]; exact r3
          · exact (HB.out.trans (BN.out.mono (by omega))).setCell (by simp) _
        case measure => simp [intOf]; omega
    · have hke : k = ls.length := by omega
      have HTE : Hid ((us, x) = streamE es ls) := by show _ = _; rw [HT.out, hke, List.take_length]
      clear hlt
      go_wp2_with fail
      refine bodyPost_ret (v := .tuple #[.agg #[.slice (some g) us.length c], .string ⟨x.toArray⟩]) (by simp [results, Tryz.results66, go_sem, World.cell?_setCell_same _ _ _ r2]) rfl ?_
      rw [← HTE.out]
      refine ⟨g, c, rfl, HO2.out.setTag HTG1.out tab_ne _, HB.out.setCell (by simp) _⟩

end Go.Proofs.YtbhpogddnpaacaaGreatDoor

/- RwrStream of the program. Conditions: the table is ok; the text is a stream; the variables that are read hold what they are laid with. -/
namespace Go.Proofs.YtbhpogddnpaacaaGreatDoor
open Go.RowKit Go.Shelf Go.Sort
attribute [local go_sem] Oper.semAt_some

/-- What stays when a block that is no cells turns. -/
theorem heap_kept {w w' : World} {row : Option Nat} {b : Nat} {cs : Array Value} {t : TypeId} {fz : Nat × Nat} (h : w.heap[b]? = some (.cells cs t fz)) (hg : w.grownBy w' row) (hr : ∀ r, row = some r → ∃ o : Obj, w.heap[r]? = some o ∧ o.isCells = false) : w'.heap[b]? = some (.cells cs t fz) := by
  refine (hg.block b (Array.getElem?_eq_some_iff.1 h).1 fun e => ?_).trans h
  obtain ⟨o, ho, hc⟩ := hr b e.symm
  rw [h] at ho
  cases ho
  cases hc
theorem Bld.kept {w w' : World} {row : Option Nat} {B b : Nat} {l : List UInt8} (h : Bld B b l w) (hg : w.grownBy w' row) (hr : ∀ r, row = some r → ∃ o : Obj, w.heap[r]? = some o ∧ o.isCells = false) : Bld B b l w' := by
  have one : ∀ p, Lib.BuilderAtF 61 5 B b p (Lib.byteCells l) w → Lib.BuilderAtF 61 5 B b p (Lib.byteCells l) w' := by
    rintro p ⟨hB, v, hb, hown, hne⟩
    refine ⟨hB, v, heap_kept hb hg hr, ⟨hown.1, ?_⟩, hne⟩
    rcases hown.2 with h2 | ⟨g, cap, cur, fz, hv, hBg, hh, r⟩
    · exact .inl h2
    · exact .inr ⟨g, cap, cur, fz, hv, hBg, heap_kept hh hg hr, r⟩
  rcases h with h | h
  · exact .inl (one _ h)
  · exact .inr (one _ h)
theorem OwnTab.kept {w w' : World} {row : Option Nat} {B : Nat} {v : Value} {es : List (Int × Int)} (h : OwnTab w B v es) (hg : w.grownBy w' row) (hr : ∀ r, row = some r → ∃ o : Obj, w.heap[r]? = some o ∧ o.isCells = false) : OwnTab w' B v es := by
  refine ⟨h.1, ?_⟩
  rcases h.2 with h2 | ⟨g, cap, cur, hv, hB, hh, r⟩
  · exact .inl h2
  · exact .inr ⟨g, cap, cur, hv, hB, heap_kept hh hg hr, r⟩
theorem MapAt.kind {P : Program} {k : TypeId} {w : World} {b : Nat} {L : List (Value × Value)} (h : MapAt P k w b L) : ∃ o : Obj, w.heap[b]? = some o ∧ o.isCells = false ∧ ∀ c t fz, o ≠ .cells c t fz := by
  obtain ⟨es, clock, hb, _⟩ := h
  exact ⟨_, hb, rfl, fun _ _ _ e => by cases e⟩
/-- A builder stays one, when the two maps turn. -/
theorem Bld.two {w w' : World} {g1 g2 B b : Nat} {l : List UInt8} {us : List (Int × Int)} (h : Bld B b l w) (ht : Two g1 g2 w w') (hb : Both w g1 g2 us) : Bld B b l w' := by
  obtain ⟨o1, k1, c1, _⟩ := hb.1.kind
  obtain ⟨o2, k2, c2, _⟩ := hb.2.1.kind
  have keep : ∀ (c : Nat) (cs : Array Value) (t : TypeId) (fz : Nat × Nat), w.heap[c]? = some (.cells cs t fz) → w'.heap[c]? = some (.cells cs t fz) := fun c cs t fz hc => by
    refine (ht.block c (Array.getElem?_eq_some_iff.1 hc).1 (fun e => ?_) (fun e => ?_)).trans hc
    · rw [e, k1] at hc; cases hc; cases c1
    · rw [e, k2] at hc; cases hc; cases c2
  have one : ∀ p, Lib.BuilderAtF 61 5 B b p (Lib.byteCells l) w → Lib.BuilderAtF 61 5 B b p (Lib.byteCells l) w' := by
    rintro p ⟨hB, v, hb, hown, hne⟩
    refine ⟨hB, v, keep _ _ _ _ hb, ⟨hown.1, ?_⟩, hne⟩
    rcases hown.2 with h2 | ⟨g, cap, cur, fz, hv, hBg, hh, r⟩
    · exact .inl h2
    · exact .inr ⟨g, cap, cur, fz, hv, hBg, keep _ _ _ _ hh, r⟩
  rcases h with h | h
  · exact .inl (one _ h)
  · exact .inr (one _ h)
theorem Both.kept {w w' : World} {g1 g2 b : Nat} {us : List (Int × Int)} (h : Both w g1 g2 us) (hk : Kept b w w') (h1 : g1 ≠ b) (h2 : g2 ≠ b) : Both w' g1 g2 us := by
  obtain ⟨o1, k1, _, c1⟩ := h.1.kind
  obtain ⟨o2, k2, _, c2⟩ := h.2.1.kind
  exact ⟨h.1.same ((hk g1 o1 k1 (by simpa using h1) fun c fz => c1 c _ fz).trans k1.symm), h.2.1.same ((hk g2 o2 k2 (by simpa using h2) fun c fz => c2 c _ fz).trans k2.symm), h.2.2⟩
theorem heap_other {w w' : World} {b k : Nat} {cs : Array Value} {t : TypeId} {fz : Nat × Nat} (h : w.heap[k]? = some (.cells cs t fz)) (hk : Kept b w w') (hb : k ≠ b) (ht : t ≠ 5) : w'.heap[k]? = some (.cells cs t fz) :=
  hk k _ h (by simpa using hb) fun c fz' e => by injection e with _ e2 _; exact ht e2
theorem both_ne8 : (57 : TypeId) ≠ 5 := by decide
theorem tab_ne8 : (25 : TypeId) ≠ 5 := by decide
theorem keeps_two {B g1 g2 : Nat} {w w' : World} (h : Two g1 g2 w w') (h1 : g1 < B) (h2 : g2 < B) : KeepsFrom B w w' :=
  ⟨h.size, fun k o hB hk _ => (h.block k (Array.getElem?_eq_some_iff.1 hk).1 (by omega) (by omega)).trans hk⟩
theorem keeps_kept {B b : Nat} {w w' : World} (h : Kept b w w') (hs : w.heap.size ≤ w'.heap.size) (hb : b < B) : KeepsFrom B w w' :=
  ⟨hs, fun k o hB hk ho => h k o hk (by simp; omega) fun c fz e => by subst e; cases ho⟩
theorem cells_at {w : World} {b : Nat} {cs : Array Value} {t : TypeId} (h : w.heap[b]? = some (.cells cs t (0, 0))) (i : Nat) : w.cell? ⟨b, i, none⟩ = cs[i]? ∧ w.frozen? ⟨b, i, none⟩ = false :=
  ⟨by simp only [World.cell?, h]; simp, by simp only [World.frozen?, h]; simp⟩

theorem end_ne8 : (36 : TypeId) ≠ 5 := by decide
theorem OwnTab.other {w w' : World} {B b : Nat} {v : Value} {es : List (Int × Int)} (h : OwnTab w B v es) (hk : Kept b w w') (hb : b < B) : OwnTab w' B v es := by
  refine ⟨h.1, ?_⟩
  rcases h.2 with h2 | ⟨g, cap, cur, hv, hB, hh, r⟩
  · exact .inl h2
  · exact .inr ⟨g, cap, cur, hv, hB, heap_other hh hk (by omega) end_ne8, r⟩

/-- What a round finds: the table and the text of the lines that have gone. -/
def RoundOk (es : List (Int × Int)) (w0 : World) (s : ByteArray) (g1 g2 b3 r : Nat) (pre : List (LineOf s)) (W : World) : Prop :=
  ∃ us x, (us, x) = streamE es (pre.map Subtype.val) ∧ x.length ≤ pre.length * 2097173 ∧ Both W g1 g2 us ∧ Bld (b3 + 1) (b3 + 1) x W ∧ W.heap[b3]? = some (.cells #[.map (some g1), .map (some g2)] 57 (0, 0)) ∧ W.heap[r]? = some (.cells #[.slice none 0 0] 25 (0, 0)) ∧ Below w0.heap.size w0 W ∧ b3 + 3 ≤ W.heap.size
theorem roundOk_own (es : List (Int × Int)) (w0 : World) (s : ByteArray) (g1 g2 b3 r B : Nat) (h1 : g1 < B) (h2 : g2 < B) (hB : w0.heap.size ≤ B) : OwnFrom B (RoundOk es w0 s g1 g2 b3 r) := by
  rintro pre X Y row ⟨us, x, hT, hx, hb, hl, h3, hr3, hbl, hz⟩ hg hr
  have hr' : ∀ r, row = some r → ∃ o : Obj, X.heap[r]? = some o ∧ o.isCells = false := fun r e => (hr r e).2
  have hn : ∀ g, g < B → some g ≠ row := fun g hlt e => by have := (hr g e.symm).1; omega
  refine ⟨us, x, hT, hx, ⟨hb.1.same (hg.block g1 hb.1.lt (hn _ h1)), hb.2.1.same (hg.block g2 hb.2.1.lt (hn _ h2)), hb.2.2⟩, hl.kept hg hr', heap_kept h3 hg hr', heap_kept hr3 hg hr', hbl.grown hg hbl.size (fun k e => Nat.le_trans hB (hr k e).1), Nat.le_trans hz hg.size⟩

set_option maxRecDepth 100000 in
set_option maxHeartbeats 4000000 in
theorem implStream_in (n : Nat) (hn3 : 3 ≤ n) (v : Value) (es : List (Int × Int)) (s : ByteArray) (w : World) (hn : es.length ≤ 4194304) (hs : s.size ≤ 2097152) (ht : TabAt w v es) (hm : mapB es = true) (hl : strB s.data.toList = true) (hv : VarsOk w) :
    CallsIn Fence.wide n Tryz.prog 12 #[.agg #[v], .string s] w fun e w' => ∃ g c, e = .returned (.tuple #[.agg #[.slice g (streamE es (linesL s.data.toList)).1.length c], .string ⟨(streamE es (linesL s.data.toList)).2.toArray⟩]) ∧ OwnTab w' w.heap.size (.slice g (streamE es (linesL s.data.toList)).1.length c) (streamE es (linesL s.data.toList)).1 ∧ Below w.heap.size w w' := by
  have h1 : 1 ≤ n := by omega
  have HT := Lib.hid ht
  have hwf := mapB_wf hm
  obtain ⟨ad, cap, rfl, hcap, hr⟩ := ht
  have hM : Hid (∀ w, TabAt w (.slice ad es.length cap) es → Calls Tryz.prog 28 #[.agg #[.slice ad es.length cap]] w fun e w' => e = .returned (.bool true) ∧ Below w.heap.size w w') := fun w h => by rw [← hm]; exact implMapOk_any _ es w hn hwf h
  have hL : Hid (∀ w, Calls Tryz.prog 29 #[.string s] w fun e w' => e = .returned (.bool true) ∧ Below w.heap.size w w') := fun w => by rw [← hl]; exact implStr_any s w hs
  have HP : Hid (∀ w, TabAt w (.slice ad es.length cap) es → Calls Tryz.prog 30 #[.agg #[.slice ad es.length cap]] w fun e w' => ∃ g1 g2, e = .returned (.agg #[.map (some g1), .map (some g2)]) ∧ w.heap.size ≤ g1 ∧ w.heap.size ≤ g2 ∧ Both w' g1 g2 es ∧ Below w.heap.size w w') := fun w h => portsOf_any _ es w hn hwf h
  have HV : Hid (∀ w', Below w.heap.size w w' → VarsOk w') := fun w' h => hv.below h
  have HM := Lib.hid hm
  clear hr hm hwf hcap hn hl hv
  refine callsIn_of_wp_marks Tryz.func12 rfl trivial ?_ rfl
  simp only [Tryz.ntmps12, List.size_toArray, List.length_cons, List.length_nil, Nat.reduceAdd, Nat.reduceSub, Array.replicate_succ, Array.replicate_zero, List.push_toArray, List.append_toArray, List.nil_append, List.cons_append]
  gi_wp2_with (refine ⟨trivial, ?_⟩; first
    | (gi_at_call 28; refine (callsIn_wide.2 (hM.out _ (HT.out.below (((Below.refl _ _).alloc (Nat.le_refl _) _).alloc (by simp) _)))).mono ?_; rintro e w1 ⟨rfl, b1⟩; obtain ⟨cA, _, b01, z1⟩ := cell_two b1; have t0 := (cA 0).1; simp at t0; have hR1 : w1.heap[w.heap.size + 1]? = some (.cells #[.slice none 0 0] 25 (0, 0)) := (by have h := heap_alloc_new (w.alloc (.cells #[.slice ad es.length cap] 25)) (.cells #[.slice none 0 0] 25); simp only [World.size_alloc] at h; exact (b1.block (w.heap.size + 1) (by simp)).trans h); have HR1 := Lib.hid hR1; clear cA b1 hR1)
    | (gi_at_call 29; refine (callsIn_wide.2 (hL.out _)).mono ?_; rintro e w2 ⟨rfl, b2⟩; replace t0 := box_below t0 b2; replace HR1 := Lib.hid ((b2.block _ (by omega)).trans HR1.out); replace b01 := b01.trans (b2.mono (by omega)); replace z1 := Nat.le_trans z1 b2.size; clear b2)
    | (gi_at_call 30; refine (callsIn_wide.2 (HP.out _ (HT.out.below b01))).mono ?_; rintro e w3 ⟨g1, g2, rfl, l1, l2, hb, b3⟩; replace HR1 := Lib.hid ((b3.block _ (by omega)).trans HR1.out); have B3 := Lib.hid (b01.trans (b3.mono (by omega))); have z3 := b3.size; have m1 := hb.lt.1; have m2 := hb.lt.2; have HB := Lib.hid hb; clear b01 b3 hb t0)
    | (gi_at_call 24; refine (callsIn_wide.2 (linesOf_any _ _)).mono ?_; rintro e w' ⟨rfl, rfl⟩))
  obtain ⟨W0, hW0⟩ : ∃ W0, ((w3.alloc (.cells #[.map (some g1), .map (some g2)] 57)).alloc (.cells #[.pointer none, .slice none 0 0] 61)).alloc (.cells #[.string s] 9) = W0 := ⟨_, rfl⟩
  obtain ⟨b3, hb3⟩ : ∃ b3, b3 = w3.heap.size := ⟨_, rfl⟩
  have hs0 : W0.heap.size = b3 + 3 := by rw [← hW0, hb3]; simp
  have BW : Hid (Below w3.heap.size w3 W0) := by rw [← hW0]; exact (((Below.refl _ _).alloc (Nat.le_refl _) _).alloc (by simp) _).alloc (by simp; omega) _
  have hS : W0.cell? ⟨b3 + 2, 0, none⟩ = some (.string s) := by
    have := (cell_new ((w3.alloc (.cells #[.map (some g1), .map (some g2)] 57)).alloc (.cells #[.pointer none, .slice none 0 0] 61)) #[.string s] 9 0).1
    simp only [World.size_alloc] at this
    rw [← hW0, hb3]; exact this
  have I0 : RoundOk es w s g1 g2 b3 (w.heap.size + 1) [] W0 := by
    refine ⟨es, [], rfl, by simp, HB.out.later BW.out, ?_, ?_, ?_, B3.out.trans (BW.out.mono B3.out.size), by omega⟩
    · refine .inl ⟨Nat.le_refl _, .slice none 0 0, ?_, ⟨rfl, .inl ⟨rfl, rfl⟩⟩, fun e => by cases e⟩
      have := heap_alloc_new (w3.alloc (.cells #[.map (some g1), .map (some g2)] 57)) (.cells #[.pointer none, .slice none 0 0] 61)
      simp only [World.size_alloc] at this
      rw [← hW0, hb3, Below.heap_alloc _ _ _ (by simp)]
      exact this
    · rw [← hW0, hb3, Below.heap_alloc _ _ _ (by simp; omega), Below.heap_alloc _ _ _ (by simp)]
      exact heap_alloc_new w3 _
    · exact (BW.out.block _ (by omega)).trans HR1.out
  rw [hW0]
  rw [← hb3] at m1 m2 z3 ⊢
  have hs1 : W0.heap.size ≤ b3 + 3 := Nat.le_of_eq hs0
  have hs2 : b3 + 3 ≤ W0.heap.size := Nat.le_of_eq hs0.symm
  have hzw : w.heap.size + 2 ≤ b3 := by omega
  have HI0 := Lib.hid I0
  have HSt := Lib.hid hS
  have hln : (linesL s.data.toList).length ≤ 2097152 := by have := lines_len s.data.toList; rw [len_list] at this; omega
  clear hs0 hW0 hb3 I0 hS BW
  refine wpIn_rangeFunc_ownG rfl h1 (gf := 47) (lb := #[.pointer (some ⟨b3 + 1 + 1, 0, none⟩)]) rfl trivial (enters_of Tryz.func47 (by kernel_rfl) rfl)
    (tell_stopsS (n - 1) (by omega) (b3 + 2) s hs W0 (by omega) HSt.out) (fun _ _ => trivial) (fun _ _ _ _ _ _ _ _ => trivial) (Below.refl _ _) (fun _ => rfl)
    (RoundOk es w s g1 g2 b3 (w.heap.size + 1))
    (fun _ _ _ => False)
    (roundOk_own es w s g1 g2 b3 (w.heap.size + 1) W0.heap.size (by omega) (by omega) (by omega))
    (fun c => fun _ _ _ _ h _ _ => h.elim)
    HI0.out
    (fun x => { tmps := #[.agg #[.slice ad es.length cap], .string s, .pointer (some ⟨w.heap.size, 0, none⟩), undef, .pointer (some ⟨w.heap.size + 1, 0, none⟩), .string ⟨#[]⟩, .pointer (some ⟨b3, 0, none⟩), .pointer (some ⟨b3 + 1, 0, none⟩), .string ⟨x.1.toArray⟩, .agg #[.slice ad es.length cap], .bool true, .bool false, .bool false, .string s, .bool true, .bool false, .bool false, undef, .agg #[.slice ad es.length cap], .agg #[.map (some g1), .map (some g2)], .string s, .func (.func 47) #[] #[.pointer (some ⟨b3 + 1 + 1, 0, none⟩)], .string ⟨x.1.toArray⟩, undef, undef, undef, undef, undef, undef, undef, undef], defers := [] }) ?assign ?body ?done ?stop
  case assign =>
    intro l x W K hK
    gi_wp2
    exact hK
  case body =>
    rintro l pre x W ⟨us, y, hT, hy, hb, hbl, h3, hr3, hB, hz⟩ hpre
    have hmu : mapB us = true := by
      have := streamE_ok HM.out (pre.map Subtype.val)
      rw [← hT] at this
      exact this
    have hxl : x.1.length ≤ 2097152 := by have := line_len x.2; rw [len_list] at this; omega
    obtain ⟨us', hus⟩ : ∃ us', us' = (lineE us x.1).1 := ⟨_, rfl⟩
    obtain ⟨x', hx'⟩ : ∃ x', x' = (lineE us x.1).2 := ⟨_, rfl⟩
    have hx'l : x'.length ≤ 2097172 := by have := lineE_len us x.1; rw [hx']; omega
    have hyb : y.length ≤ 4400000000000 := by have : pre.length * 2097173 ≤ 2097152 * 2097173 := Nat.mul_le_mul_right _ (by omega); omega
    have HY : Hid ((y ++ (x' ++ [59])).length ≤ (pre ++ [x]).length * 2097173) := by show _ ≤ _; simp; omega
    have HN : Hid ((us', y ++ (x' ++ [59])) = streamE es ((pre ++ [x]).map Subtype.val)) := by
      show _ = _
      rw [List.map_append, List.map_singleton, streamE_snoc, ← hT, hus, hx']
      simp [strF]
    have HC : Hid (Calls Tryz.prog 32 #[.agg #[.map (some g1), .map (some g2)], .string ⟨x.1.toArray⟩] W fun e w' => e = .returned (.string ⟨x'.toArray⟩) ∧ Both w' g1 g2 us' ∧ Two g1 g2 W w') := by
      rw [hus, hx']
      exact lineOutside_any g1 g2 us ⟨x.1.toArray⟩ W (by show x.1.toArray.size ≤ _; simpa using hxl) hb hmu fun w' h => HV.out _ (hB.trans (h.below hB.size (by omega) (by omega)))
    have HW : Hid (∀ w, Bld (b3 + 1) (b3 + 1) y w → b3 + 1 ≤ w.heap.size → Calls Tryz.prog 31 #[.pointer (some ⟨b3 + 1, 0, none⟩), .string (⟨x'.toArray⟩ ++ ⟨#[59]⟩)] w fun e w' => e = .returned (.tuple #[.int .i64 ((x' ++ [59]).length : Int), .nilIface]) ∧ Bld (b3 + 1) (b3 + 1) (y ++ (x' ++ [59])) w' ∧ Below (b3 + 1) w w' ∧ Kept (b3 + 1) w w') := fun w h1 h2 => by
      rw [show (⟨x'.toArray⟩ ++ ⟨#[59]⟩ : ByteArray) = ⟨(x' ++ [59]).toArray⟩ from by apply ByteArray.ext; apply Array.ext'; simp]
      exact write_any (b3 + 1) (b3 + 1) y (x' ++ [59]) w h1 (by simp; omega) h2
    have p0 := (cells_at h3 0).1
    have p1 := (cells_at h3 1).1
    simp at p0 p1
    have HBo := Lib.hid hb
    have HBl := Lib.hid hbl
    have H3 := Lib.hid h3
    have HR3 := Lib.hid hr3
    have HB := Lib.hid hB
    have hd : 1 ≤ n - 1 - 1 := by omega
    clear hT hy hb hbl h3 hr3 hB hmu hus hx' hxl hyb
    gi_wp2_with (refine ⟨trivial, ?_⟩; first
      | (gi_at_call 32; refine (CallsIn.inRound l (callsIn_wide.2 HC.out)).mono ?_; rintro e W1 ⟨rfl, hb1, t1⟩; have HB1 := Lib.hid hb1; have T1 := Lib.hid t1; have zW := t1.size; clear hb1 t1)
      | (gi_at_call 31; refine (CallsIn.inRound l (callsIn_wide.2 (HW.out _ (HBl.out.two T1.out HBo.out) (by omega)))).mono ?_; rintro e W2 ⟨rfl, hl2, b2, k2⟩))
    have T1 := T1.out
    have e3 : W1.heap[b3]? = some (.cells #[.map (some g1), .map (some g2)] 57 (0, 0)) := (T1.block b3 (by omega) (by omega) (by omega)).trans H3.out
    have er : W1.heap[w.heap.size + 1]? = some (.cells #[.slice none 0 0] 25 (0, 0)) := (T1.block _ (by omega) (by omega) (by omega)).trans HR3.out
    exact ⟨(keeps_two T1 (by omega) (by omega)).trans (keeps_kept k2 b2.size (by omega)), trivial, us', y ++ (x' ++ [59]), HN.out, HY.out, HB1.out.kept k2 (by omega) (by omega), hl2, heap_other e3 k2 (by omega) both_ne8, heap_other er k2 (by omega) tab_ne8, (HB.out.trans (T1.below HB.out.size (by omega) (by omega))).trans (b2.mono (by omega)), by have := b2.size; omega⟩
  case done =>
    rintro D xs W hD hxs ⟨us, y, hT, hy, hb, hbl, h3, hr3, hB, hz⟩ hK
    rw [hxs] at hT
    have hmu : mapB us = true := by
      have := streamE_ok HM.out (linesL s.data.toList)
      rw [← hT] at this
      exact this
    have HO : Hid (Calls Tryz.prog 33 #[.agg #[.map (some g1), .map (some g2)]] W fun e w' => ∃ a c, e = .returned (.agg #[.slice a us.length c]) ∧ OwnTab w' W.heap.size (.slice a us.length c) us ∧ Below W.heap.size W w') := tableOf_any g1 g2 us W hb (valsL_ok hmu) (by have := mapB_le hmu; omega)
    have HS : Hid (∀ w, Bld (b3 + 1) (b3 + 1) y w → b3 + 1 ≤ w.heap.size → Calls Tryz.prog 34 #[.pointer (some ⟨b3 + 1, 0, none⟩)] w fun e w' => e = .returned (.string ⟨y.toArray⟩) ∧ Bld (b3 + 1) (b3 + 1) y w' ∧ Below (b3 + 1) w w' ∧ Kept (b3 + 1) w w') := fun w h1 h2 => buildString_any (b3 + 1) (b3 + 1) y w h1 h2
    have p0 := (cells_at h3 0).1
    have p1 := (cells_at h3 1).1
    simp at p0 p1
    have HBo := Lib.hid hb
    have HBl := Lib.hid hbl
    have HR3 := Lib.hid hr3
    have HB := Lib.hid hB
    have HK := Lib.hid hK
    have HTT := Lib.hid hT
    clear hT hy hb hbl h3 hr3 hB hmu hxs hK
    gi_wp2_with (refine ⟨trivial, ?_⟩; first
      | (gi_at_call 33; refine (callsIn_wide.2 HO.out).mono ?_; rintro e W1 ⟨ga, ca, rfl, o1, b1⟩; have O1 := Lib.hid o1; have B1 := Lib.hid b1; have zW := b1.size; clear o1 b1)
      | (gi_at_call 34; refine (callsIn_wide.2 (HS.out _ (HBl.out.two (Two.of_below B1.out) HBo.out) (by omega))).mono ?_; rintro e W2 ⟨rfl, _, b2, k2⟩; have z2 := b2.size; have hr2 := heap_other ((B1.out.block _ (by omega)).trans HR3.out) k2 (by omega) tab_ne8; have hc2 := (cells_at hr2 0).1; have hf2 := (cells_at hr2 0).2; simp at hc2; have HR2 := Lib.hid hr2; have B2 := Lib.hid b2; have K2 := Lib.hid k2; clear b2 k2 hr2))
    have hD2 : W2.heap[D]? = some (.deferred (some [])) := K2.out D _ ((B1.out.block D (Array.getElem?_eq_some_iff.1 HK.out).1).trans HK.out) (by simp; omega) (fun c fz e => by cases e)
    have hK' := (KeepsOthers.setCell W2 ⟨w.heap.size + 1, 0, none⟩ (.slice ga us.length ca)).same D _ hD2 rfl
    have O2 : OwnTab W2 W.heap.size (.slice ga us.length ca) us := O1.out.other K2.out (by omega)
    have BB : Below w.heap.size w W2 := (HB.out.trans (B1.out.mono (by omega))).trans (B2.out.mono (by omega))
    have hc3 : (W2.setCell ⟨w.heap.size + 1, 0, none⟩ (.slice ga us.length ca)).cell? ⟨w.heap.size + 1, 0, none⟩ = some (.slice ga us.length ca) := World.cell?_setCell_same _ _ _ hc2
    have hg := grownBy_putObj' (W2.setCell ⟨w.heap.size + 1, 0, none⟩ (.slice ga us.length ca)) D (.deferred none)
    have hrw : ∀ r, some D = some r → ∃ o : Obj, (W2.setCell ⟨w.heap.size + 1, 0, none⟩ (.slice ga us.length ca)).heap[r]? = some o ∧ o.isCells = false := fun r e => by cases e; exact ⟨_, hK', rfl⟩
    refine ⟨by simp, .inl ⟨_, _, rfl, run_takeDeferred hK', ?_⟩⟩
    have hc5 := cell_kept hc3 hg hrw
    refine ⟨.tuple #[.agg #[.slice ga us.length ca], .string ⟨y.toArray⟩], ?_, ga, ca, ?_, ?_, ?_⟩
    · simp [results, Tryz.results12, go_sem, hc5]
    · rw [← HTT.out]
    · rw [← HTT.out]
      exact OwnTab.kept (OwnTab.mono (B := W.heap.size) (ownsRow_setCell_below (a := ⟨w.heap.size + 1, 0, none⟩) O2 (by simp; omega) _) (by omega)) hg hrw
    · exact (BB.setCell (by simp) _).trans (belowK_b (w := w) (Nat.le_refl _) _ D _ _ (by omega) hK' rfl rfl)
  case stop =>
    intro D c pre W hD hpre hx
    exact hx.elim

end Go.Proofs.YtbhpogddnpaacaaGreatDoor

/- RwrStream of the specification. Conditions: at most 2^22 ends; the text has at most 2^21 bytes. -/
namespace Go.Proofs.YtbhpogddnpaacaaGreatDoor
open Go.RowKit Go.Sort

end Go.Proofs.YtbhpogddnpaacaaGreatDoor

/- RwrStream of the program and of the specification, in one form. Conditions: at most 2^22 ends; all numbers are ints; the text has at most 2^21 bytes; the variables that are read hold what they are laid with. -/
namespace Go.Proofs.YtbhpogddnpaacaaGreatDoor
open Go.RowKit

/-- What RwrStream answers. -/
def strA (es : List (Int × Int)) (l : List UInt8) : List (Int × Int) × List UInt8 := if mapB es = true ∧ strB l = true then streamE es (linesL l) else ([], [])

set_option maxRecDepth 100000 in
set_option maxHeartbeats 1600000 in
theorem implRwrStream_not (v : Value) (es : List (Int × Int)) (s : ByteArray) (w : World) (hn : es.length ≤ 4194304) (hs : s.size ≤ 2097152) (hwf : wfE es) (ht : TabAt w v es) (hno : (mapB es && strB s.data.toList) = false) :
    Calls Tryz.prog 12 #[.agg #[v], .string s] w fun e w' => e = .returned (.tuple #[.agg #[.slice none 0 0], .string ⟨#[]⟩]) ∧ Below w.heap.size w w' := by
  have HT := Lib.hid ht
  obtain ⟨ad, cap, rfl, hcap, hr⟩ := ht
  have hM : Hid (∀ w, TabAt w (.slice ad es.length cap) es → Calls Tryz.prog 28 #[.agg #[.slice ad es.length cap]] w fun e w' => e = .returned (.bool (mapB es)) ∧ Below w.heap.size w w') := fun w h => implMapOk_any _ es w hn hwf h
  have hL : Hid (∀ w, Calls Tryz.prog 29 #[.string s] w fun e w' => e = .returned (.bool (strB s.data.toList)) ∧ Below w.heap.size w w') := fun w => implStr_any s w hs
  clear hr hwf
  by_cases hm : mapB es = true
  · have hi : strB s.data.toList = false := by rw [hm] at hno; simpa using hno
    rw [hm] at hM
    rw [hi] at hL
    clear hno hm
    go_enter Tryz.func12, Tryz.ntmps12
    go_wp2_with (first
      | (go_at_call 28; refine (hM.out _ (HT.out.below (((Below.refl _ _).alloc (Nat.le_refl _) _).alloc (by simp) _))).mono ?_; rintro e w1 ⟨rfl, b1⟩; obtain ⟨_, cB, b01, z1⟩ := cell_two b1; have r0 := (cB 0).1; have g0 := (cB 0).2; simp at r0; clear cB)
      | (go_at_call 29; refine (hL.out _).mono ?_; rintro e w2 ⟨rfl, b2⟩; replace g0 := box_frozen r0 g0 b2; replace r0 := box_below r0 b2; replace b01 := b01.trans (b2.mono (by omega))))
    refine bodyPost_ret (v := .tuple #[.agg #[.slice none 0 0], .string ⟨#[]⟩]) (by simp [results, Tryz.results12, go_sem, World.cell?_setCell_same _ _ _ r0]) rfl ⟨rfl, ?_⟩
    exact b01.setCell (by simp) _
  · have hm' : mapB es = false := by simpa using hm
    rw [hm'] at hM
    clear hno hm hm'
    go_enter Tryz.func12, Tryz.ntmps12
    go_wp2_with (go_at_call 28; refine (hM.out _ (HT.out.below (((Below.refl _ _).alloc (Nat.le_refl _) _).alloc (by simp) _))).mono ?_; rintro e w1 ⟨rfl, b1⟩; obtain ⟨_, cB, b01, z1⟩ := cell_two b1; have r0 := (cB 0).1; have g0 := (cB 0).2; simp at r0; clear cB)
    refine bodyPost_ret (v := .tuple #[.agg #[.slice none 0 0], .string ⟨#[]⟩]) (by simp [results, Tryz.results12, go_sem, World.cell?_setCell_same _ _ _ r0]) rfl ⟨rfl, ?_⟩
    exact b01.setCell (by simp) _

theorem implStream_ok (v : Value) (es : List (Int × Int)) (s : ByteArray) (w : World) (hn : es.length ≤ 4194304) (hs : s.size ≤ 2097152) (ht : TabAt w v es) (hm : mapB es = true) (hl : strB s.data.toList = true) (hv : VarsOk w) :
    Calls Tryz.prog 12 #[.agg #[v], .string s] w fun e w' => ∃ g c, e = .returned (.tuple #[.agg #[.slice g (streamE es (linesL s.data.toList)).1.length c], .string ⟨(streamE es (linesL s.data.toList)).2.toArray⟩]) ∧ OwnTab w' w.heap.size (.slice g (streamE es (linesL s.data.toList)).1.length c) (streamE es (linesL s.data.toList)).1 ∧ Below w.heap.size w w' :=
  callsIn_wide.1 (implStream_in 3 (by omega) v es s w hn hs ht hm hl hv)

theorem strA_yes {es : List (Int × Int)} {l : List UInt8} (h : (mapB es && strB l) = true) : strA es l = streamE es (linesL l) := if_pos (by simpa using h)
theorem strA_not {es : List (Int × Int)} {l : List UInt8} (h : (mapB es && strB l) = false) : strA es l = ([], []) := if_neg (by simpa using h)
theorem strA_le (es : List (Int × Int)) (l : List UInt8) : (strA es l).1.length ≤ 6 := by
  by_cases h : (mapB es && strB l) = true
  · rw [strA_yes h]
    exact mapB_le (streamE_ok (by simp at h; exact h.1) _)
  · rw [strA_not (by simpa using h)]
    simp

theorem implStrA (v : Value) (es : List (Int × Int)) (s : ByteArray) (w : World) (hn : es.length ≤ 4194304) (hs : s.size ≤ 2097152) (hwf : wfE es) (ht : TabAt w v es) (hv : VarsOk w) :
    Calls Tryz.prog 12 #[.agg #[v], .string s] w fun e w' => ∃ g c, e = .returned (.tuple #[.agg #[.slice g (strA es s.data.toList).1.length c], .string ⟨(strA es s.data.toList).2.toArray⟩]) ∧ FreshTab w' w.heap.size (.slice g (strA es s.data.toList).1.length c) (strA es s.data.toList).1 ∧ Below w.heap.size w w' := by
  by_cases h : (mapB es && strB s.data.toList) = true
  · rw [strA_yes h]
    simp only [Bool.and_eq_true] at h
    refine (implStream_ok v es s w hn hs ht h.1 h.2 hv).mono ?_
    rintro e w' ⟨g, c, rfl, h1, h2⟩
    exact ⟨_, _, rfl, h1.fresh, h2⟩
  · have h' : (mapB es && strB s.data.toList) = false := by simpa using h
    rw [strA_not h']
    refine (implRwrStream_not v es s w hn hs hwf ht h').mono ?_
    rintro e w' ⟨rfl, h2⟩
    exact ⟨_, _, rfl, FreshTab.nil _ _, h2⟩

end Go.Proofs.YtbhpogddnpaacaaGreatDoor

/- How long a stream is outside. No condition. -/
namespace Go.Proofs.YtbhpogddnpaacaaGreatDoor
open Go.RowKit

theorem strE_len (ls : List (List UInt8)) (n : Nat) (hx : ∀ x ∈ ls, x.length ≤ n) (T : List (Int × Int) × List UInt8) : (ls.foldl strF T).2.length ≤ T.2.length + ls.length * (n + 21) := by
  induction ls generalizing T with
  | nil => simp
  | cons l r ih =>
    have h1 := ih (fun x h => hx x (List.mem_cons_of_mem _ h)) (strF T l)
    have h2 : (strF T l).2.length ≤ T.2.length + (n + 21) := by
      have h3 := lineE_len T.1 l
      have h4 := hx l (List.mem_cons_self ..)
      simp only [strF, List.length_append, List.length_cons, List.length_nil]
      omega
    simp only [List.foldl_cons, List.length_cons]
    rw [Nat.add_mul]
    omega

end Go.Proofs.YtbhpogddnpaacaaGreatDoor

/- How long a stream is outside. No condition. -/
namespace Go.Proofs.YtbhpogddnpaacaaGreatDoor
open Go.RowKit

theorem strA_len (es : List (Int × Int)) (s : List UInt8) : (strA es s).2.length ≤ 2097152 := by
  unfold strA
  split
  · rename_i h
    have h1 : s.length ≤ 120 := by have := h.2; unfold strB at this; simp at this; exact this.1.1
    have hl := lines_len s
    have := strE_len (linesL s) 120 (fun x hx => by have := line_len hx; omega) (es, [])
    unfold streamE
    have h3 : (linesL s).length * (120 + 21) ≤ 120 * (120 + 21) := Nat.mul_le_mul_right _ (by omega)
    simp only [List.length_nil] at this
    omega
  · simp

end Go.Proofs.YtbhpogddnpaacaaGreatDoor

/- What a list of texts reads as, in a world. No condition. -/
namespace Go.Proofs.YtbhpogddnpaacaaGreatDoor
open Go.RowKit

/-- The cells of a row, none of them frozen. -/
def RowAt (w : World) (g : Nat) (xs : List Value) : Prop := ∀ i (hi : i < xs.length), w.cell? ⟨g, i, none⟩ = some xs[i] ∧ w.frozen? ⟨g, i, none⟩ = false
theorem RowAt.below {w w' : World} {B g : Nat} {xs : List Value} (h : RowAt w g xs) (hb : Below B w w') (hg : g < B) : RowAt w' g xs :=
  fun i hi => ⟨(hb.cell (p := ⟨g, i, none⟩) hg).trans (h i hi).1, (hb.frozen (p := ⟨g, i, none⟩) hg).trans (h i hi).2⟩
theorem RowAt.lt {w : World} {g : Nat} {xs : List Value} (h : RowAt w g xs) (hn : 0 < xs.length) : g < w.heap.size := World.block_lt_of_cell? w _ (h 0 hn).1
theorem addr_ne {g i j : Nat} (h : i ≠ j) : (⟨g, i, none⟩ : Addr) ≠ ⟨g, j, none⟩ := by intro e; injection e with _ e2; exact h e2
theorem RowAt.set {w : World} {g i : Nat} {xs : List Value} (h : RowAt w g xs) (hi : i < xs.length) (u : Value) : RowAt (w.setCell ⟨g, i, none⟩ u) g (xs.set i u) := by
  intro j hj
  have hj' : j < xs.length := by simpa using hj
  refine ⟨?_, by rw [World.frozen?_setCell]; exact (h j hj').2⟩
  by_cases e : i = j
  · subst e
    rw [World.cell?_setCell_same _ _ _ (h i hi).1]; simp
  · rw [World.cell?_setCell_other _ _ _ u (addr_ne e), (h j hj').1]
    simp [e]
/-- A slice reads as these cells. -/
def RdV (w : World) (v : Value) (xs : List Value) : Prop := ∃ a cap, v = .slice a xs.length cap ∧ (0 < xs.length → ∃ g, a = some ⟨g, 0, none⟩ ∧ RowAt w g xs)
theorem RdV.below {w w' : World} {v : Value} {xs : List Value} (h : RdV w v xs) (hb : Below w.heap.size w w') : RdV w' v xs := by
  obtain ⟨a, cap, rfl, hr⟩ := h
  refine ⟨a, cap, rfl, fun hn => ?_⟩
  obtain ⟨g, rfl, hrow⟩ := hr hn
  exact ⟨g, rfl, hrow.below hb (hrow.lt hn)⟩
theorem RdV.of_own {w : World} {B n : Nat} {e : TypeId} {v : Value} {xs : List Value} (h : w.ownsRow B e 1 v n xs) : RdV w v xs ∧ xs.length = n := by
  have hl : xs.length = n := by rw [h.1]; omega
  obtain ⟨a, cap, e⟩ := own_form h
  refine ⟨⟨a, cap, by rw [e, hl], fun hn => ?_⟩, hl⟩
  obtain ⟨g, cap', e', _, _, _, hc⟩ := own_cells h (by omega)
  rw [e] at e'
  simp at e'
  exact ⟨g, e'.1, hc⟩
theorem eq_cell {w : World} {g i : Nat} {xs : List Value} (h : RowAt w g xs) (hi : i < xs.length) : w.cell? ⟨g, i, none⟩ = some xs[i] := (h i hi).1

end Go.Proofs.YtbhpogddnpaacaaGreatDoor
