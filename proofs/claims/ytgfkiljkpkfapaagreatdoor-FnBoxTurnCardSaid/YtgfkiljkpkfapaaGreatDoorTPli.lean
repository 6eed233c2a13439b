/- l7Lines of the specification: some text that is not long. Conditions: at most 2^22 ends; at most 121 lines of at most 120 bytes each. (Several texts, joined: SegCutI, SegCutS, GCut, GPlace, Spans, SpMem, MarkSp, SpWith, SBack, SOut, GSet, GLines.) -/
import Derived.Test.YtgfkiljkpkfapaaGreatDoorTPlh
import Derived.Test.YtgfkiljkpkfapaaGreatDoorSegLaw
import Derived.Laws.OwnMore
import Derived.Test.YtgfkiljkpkfapaaGreatDoorTPlc
import Derived.Test.YtgfkiljkpkfapaaGreatDoorGen
import Derived.Test.YtgfkiljkpkfapaaGreatDoorTPla
import Derived.Test.YtgfkiljkpkfapaaGreatDoorFlat
import Derived.Maps.AppendAt
import Derived.Deep.AppendLies
import Derived.Deep.RegionWith
import Derived.Test.YtgfkiljkpkfapaaGreatDoorTPlb

/- SegCut of the program, at every segment, text and place. Conditions: the segment's bytes and the text are at most 2^21 each; the place is a number. -/
namespace Go.Proofs.YtgfkiljkpkfapaaGreatDoor
open Go.RowKit

/-- Twelve bytes of a text from a place on, or as many as there are. -/
def cutS (far : ByteArray) (a : Nat) : ByteArray := ⟨((far.data.toList.drop a).take 12).toArray⟩
theorem cutS_mid (far : ByteArray) (a : Nat) : far.extract a (a + 12) = cutS far a := by
  unfold cutS
  rw [ext_list, List.drop_take, show a + 12 - a = 12 by omega]
theorem cutS_end (far : ByteArray) (a : Nat) (h : far.size ≤ a + 12) : far.extract a far.size = cutS far a := by
  unfold cutS
  rw [ext_list, List.take_of_length_le (by rw [len_list]; omega), List.take_of_length_le (by rw [List.length_drop, len_list]; omega)]

theorem cutS_min (far : ByteArray) (a : Nat) : far.extract a (min ((a : Int) + 12) (far.size : Int)).toNat = cutS far a := by
  by_cases h : a + 12 ≤ far.size
  · rw [show (min ((a : Int) + 12) (far.size : Int)).toNat = a + 12 by omega]; exact cutS_mid far a
  · rw [show (min ((a : Int) + 12) (far.size : Int)).toNat = far.size by omega]; exact cutS_end far a (by omega)

/-- The k-th piece, with its cells. -/
theorem piece_cells (sa sp da dp sq ak : Int) (d far : ByteArray) (f k : Nat) : sgC (pieceL ⟨sa, sp, da, dp, sq, ak, d.data.toList⟩ far.data.toList f k) = [.int .i64 sa, .int .i64 sp, .int .i64 da, .int .i64 dp, .int .i64 ((f + 12 * k : Nat) : Int), .int .i64 ak, .string (cutS far (f + 12 * k))] := rfl

end Go.Proofs.YtgfkiljkpkfapaaGreatDoor

/- SegCut of the specification, at every segment, text and place. Conditions: the segment's bytes and the text are at most 2^21 each; the place is a number. -/
namespace Go.Proofs.YtgfkiljkpkfapaaGreatDoor
open Go.RowKit

theorem made_at7 (w : World) (B b : Nat) (hB : B ≤ w.heap.size) (hb : b = w.heap.size) : (w.alloc (.cells #[] 33)).ownsRow B 33 7 (.slice (some ⟨b, 0, none⟩) 0 0) 0 [] := by
  rw [hb]; exact World.ownsRow_made w #[] 0 hB (Nat.zero_le _) rfl
theorem heap_at (w : World) (o : Obj) (b : Nat) (hb : b = w.heap.size) : (w.alloc o).heap[b]? = some o := by rw [hb]; exact heap_alloc_new w o

end Go.Proofs.YtgfkiljkpkfapaaGreatDoor

/- l5Cut of the specification, of a text of at most 2^21 bytes. Condition: the place is a number. -/
namespace Go.Proofs.YtgfkiljkpkfapaaGreatDoor
open Go.RowKit Go.Sort

set_option maxRecDepth 100000 in
set_option maxHeartbeats 3200000 in
theorem specCut5_anyW (sa sp da dp sq ak : Int) (d far : ByteArray) (a : Nat) (w : World) (hf : far.size ≤ 2097152) (ha : (a : Int) ≤ 9223372036854775807) :
    Calls Tryz.prog 158 #[.agg #[.int .i64 sa, .int .i64 sp, .int .i64 da, .int .i64 dp, .int .i64 sq, .int .i64 ak, .string d], .string far, .int .i64 a] w fun e w' => ∃ v, e = .returned v ∧ OwnSg w' w.heap.size v (cutL ⟨sa, sp, da, dp, sq, ak, d.data.toList⟩ far.data.toList a) ∧ Below w.heap.size w w' := by
  obtain ⟨i0, hi, hz0, hz1, hz2⟩ := info_parts infoSeg
  by_cases hlt : a < far.size
  · obtain ⟨L, hL⟩ : ∃ L, L = cutL ⟨sa, sp, da, dp, sq, ak, d.data.toList⟩ far.data.toList a := ⟨_, rfl⟩
    have hlen : L.length = piecesN far.size a := by rw [hL, cutL_len, len_list, Nat.min_eq_left (by omega)]
    have HP : Hid (∀ k, k < L.length → L.take (k + 1) = L.take k ++ [pieceL ⟨sa, sp, da, dp, sq, ak, d.data.toList⟩ far.data.toList a k]) := fun k hk => by
      have := cutL_take (s := ⟨sa, sp, da, dp, sq, ak, d.data.toList⟩) (far := far.data.toList) (a := a) (k := k) (by rw [← hL]; exact hk)
      rw [len_list, Nat.min_eq_left (by omega)] at this
      rw [hL]; exact this
    have hpos : 1 ≤ L.length := by rw [hlen]; exact pieces_pos _ _
    have HN : Hid (∀ k, k ≤ L.length → (k < L.length ↔ a + 12 * k < far.size)) := fun k _ => by
      rw [hlen]; unfold piecesN; omega
    have hsmall : L.length ≤ 2097152 := by rw [hlen]; unfold piecesN; omega
    rw [← hL]
    clear hL hlen
    have hf2 : (far.size : Int) ≤ 2097152 := by omega
    go_enter Tryz.func158, Tryz.ntmps158
    go_wp2_with fail
    obtain ⟨W1, hW1⟩ : ∃ W1, W1 = (w.alloc (.cells #[.int .i64 sa, .int .i64 sp, .int .i64 da, .int .i64 dp, .int .i64 sq, .int .i64 ak, .string d] 33)).alloc (.cells #[] 33) := ⟨_, rfl⟩
    rw [← hW1]
    have B1 : Hid (Below w.heap.size w W1) := by rw [hW1]; exact ((Below.refl _ _).alloc (Nat.le_refl _) _).alloc (by simp) _
    have s1 : w.heap.size + 1 < W1.heap.size := by rw [hW1]; simp
    have K1 : Hid (Box7 W1 w.heap.size (.int .i64 sa) (.int .i64 sp) (.int .i64 da) (.int .i64 dp) (.int .i64 sq) (.int .i64 ak) (.string d)) := by
      rw [hW1]
      exact (box7_new w _ _ _ _ _ _ _ _).below ((Below.refl _ _).alloc (Nat.le_refl _) _) (by simp)
    have O1 : Hid (OwnSg W1 (w.heap.size + 1) (.slice (some ⟨w.heap.size + 1, 0, none⟩) 0 0) (L.take 0)) := by
      show OwnSg _ _ _ _
      rw [hW1]
      have := World.ownsRow_made (base := w.heap.size + 1) (e := 33) (size := 7) (w.alloc (.cells #[.int .i64 sa, .int .i64 sp, .int .i64 da, .int .i64 dp, .int .i64 sq, .int .i64 ak, .string d] 33)) #[] 0 (by simp) (Nat.zero_le _) rfl
      simpa [OwnSg, flatC] using this
    clear hW1
    go_loopw [2, 7] (fun at' v wr => ∃ (k t : Nat) (u : Value), k ≤ L.length ∧ u = v ∧ at' = .int .i64 t ∧ t = min far.size (a + 12 * k) ∧ OwnSg wr (w.heap.size + 1) u (L.take k) ∧ Below (w.heap.size + 1) W1 wr ∧ W1.heap.size ≤ wr.heap.size) (fun at' _ _ => far.size - (intOf at').toNat)
    case atStart => exact ⟨0, a, _, Nat.zero_le _, rfl, rfl, by omega, O1.out, Below.refl _ _, Nat.le_refl _⟩
    case round =>
      obtain ⟨k, t, v, hk, rfl, rfl, ht, own, hb, hsz⟩ := hrel
      have hiff := HN.out k hk
      have HT := Lib.hid ht
      by_cases hl2 : t < far.size
      · have hkl : k < L.length := hiff.2 (by omega)
        have hte : t = a + 12 * k := by omega
        have HTE := Lib.hid hte
        have hlt2 : (t : Int) < (far.size : Int) := by omega
        have HX := Lib.hid (HP.out k hkl)
        have hlen : (L.take k).length = k := by rw [List.length_take]; omega
        obtain ⟨va, vc, ev⟩ := own.form
        rw [hlen] at ev
        subst ev
        have HOW := Lib.hid own
        have HB := Lib.hid hb
        have KR := K1.out.below hb (by omega)
        obtain ⟨k0, k1, k2, k3, k4, k5, k6⟩ := KR
        have HM : Hid (far.extract t (min (far.size : Int) ((t : Int) + 12)).toNat = cutS far t) := by
          show _ = _
          rw [show min (far.size : Int) ((t : Int) + 12) = min ((t : Int) + 12) (far.size : Int) by omega]
          exact cutS_min far t
        have HO2 : Hid (((wr.alloc (.cells #[.int .i64 sa, .int .i64 sp, .int .i64 da, .int .i64 dp, .int .i64 (t : Int), .int .i64 ak, .string (far.extract t (min (far.size : Int) ((t : Int) + 12)).toNat)] 33)).ownsRow (w.heap.size + 1) 33 7 (.slice va k vc) k (flatC sgC (L.take k)))) := by
          have h1 := HOW.out.below ((Below.refl _ wr).alloc (Nat.le_refl _) (.cells #[.int .i64 sa, .int .i64 sp, .int .i64 da, .int .i64 dp, .int .i64 (t : Int), .int .i64 ak, .string (far.extract t (min (far.size : Int) ((t : Int) + 12)).toNat)] 33))
          unfold OwnSg at h1
          rw [hlen] at h1
          exact h1
        have HLN := Lib.hid hlen
        clear own hb hlen ht hiff hte
        go_wp2_with (at_builtin; refine wpList_append_own _ rfl (.tmp 28) (.tmp 30) 138 rfl (w.heap.size + 1) 33 i0 (.agg #[.int .i64 0, .int .i64 0, .int .i64 0, .int .i64 0, .int .i64 0, .int .i64 0, .string ⟨#[]⟩]) 7 64 Tryz.underlying138 hi hz0 hz1 hz2 rfl (by decide) (.slice va k vc) k (flatC sgC (L.take k)) rfl (World.ownsRow.alloc HO2.out _) ⟨wr.heap.size + 1, 0, none⟩ 1 1 [.int .i64 sa, .int .i64 sp, .int .i64 da, .int .i64 dp, .int .i64 (t : Int), .int .i64 ak, .string (far.extract t (min (far.size : Int) ((t : Int) + 12)).toNat)] rfl rfl ?c1 ?c2 ?c3 ?c4 ?c5 ?_)
        case c1 => exact World.news_of_block (cs := #[.int .i64 sa, .int .i64 sp, .int .i64 da, .int .i64 dp, .int .i64 (t : Int), .int .i64 ak, .string (far.extract t (min (far.size : Int) ((t : Int) + 12)).toNat)]) (t := 33) (by have := heap_alloc_new (wr.alloc (.cells #[.int .i64 sa, .int .i64 sp, .int .i64 da, .int .i64 dp, .int .i64 (t : Int), .int .i64 ak, .string (far.extract t (min (far.size : Int) ((t : Int) + 12)).toNat)] 33)) (.cells #[.int .i64 sa, .int .i64 sp, .int .i64 da, .int .i64 dp, .int .i64 (t : Int), .int .i64 ak, .string (far.extract t (min (far.size : Int) ((t : Int) + 12)).toNat)] 33); rw [show (wr.alloc (.cells #[.int .i64 sa, .int .i64 sp, .int .i64 da, .int .i64 dp, .int .i64 (t : Int), .int .i64 ak, .string (far.extract t (min (far.size : Int) ((t : Int) + 12)).toNat)] 33)).heap.size = wr.heap.size + 1 by simp] at this; exact this)
        case c2 => intro u hu; simp at hu; rcases hu with rfl | rfl | rfl | rfl | rfl | rfl | rfl <;> rfl
        case c3 => unfold maxLen; omega
        case c4 => omega
        case c5 => simp; omega
        intro v' w4 hown hgrow _
        have HW := Lib.hid hown
        have HB4 : Hid (Below (w.heap.size + 1) wr w4) := (((Below.refl _ wr).alloc (by omega) _).alloc (by simp; omega) _).grown hgrow (by simp; omega) (fun k hk => (World.ownsRow.lt HO2.out k hk).1)
        clear hown hgrow k0 k1 k2 k3 k4 k5 k6
        go_wp2_with fail
        go_roundw
        case rel =>
          have h4 := HB4.out
          refine ⟨k + 1, min far.size (t + 12), v', by omega, rfl, congrArg (Value.int .i64) (by omega), by have := HTE.out; omega, ?_, HB.out.trans h4, by have := h4.size; omega⟩
          have h1 := HW.out
          have h2 := HTE.out
          have h3 := HM.out
          unfold OwnSg
          rw [HX.out, flatC_app, List.length_append, HLN.out]
          rw [h3] at h1
          subst h2
          simpa [flatC, piece_cells] using h1
        case measure => simp [intOf]; omega
      · have hke : k = L.length := by
          have : ¬ k < L.length := fun h => hl2 (by have := hiff.1 h; omega)
          omega
        have hk1 : 1 ≤ k := by omega
        have HE : Hid (OwnSg wr (w.heap.size + 1) v L) := by
          rw [List.take_of_length_le (by omega)] at own; exact own
        obtain ⟨va, vc, ev⟩ := HE.out.form
        rw [← hke] at ev
        subst ev
        have HB := Lib.hid hb
        have hk0 : ((k : Int) == 0) = false := by rw [beq_eq_false_iff_ne]; omega
        clear own hb hke ht hiff
        go_wp2_with fail
        go_ret
        exact ⟨_, rfl, HE.out.mono (by omega), B1.out.trans (HB.out.mono (by omega))⟩
  · have hge : ¬ (a : Int) < (far.size : Int) := by omega
    have HL : Hid (cutL ⟨sa, sp, da, dp, sq, ak, d.data.toList⟩ far.data.toList a = [⟨sa, sp, da, dp, far.size, ak, []⟩]) := by
      show _ = _
      unfold cutL
      rw [len_list, Nat.min_eq_right (by omega), pieces_end (Nat.le_refl _)]
      simp [pieceL, List.range_succ, List.drop_of_length_le]
    obtain ⟨L, hL⟩ : ∃ L, L = cutL ⟨sa, sp, da, dp, sq, ak, d.data.toList⟩ far.data.toList a := ⟨_, rfl⟩
    rw [← hL] at HL ⊢
    clear hL
    go_enter Tryz.func158, Tryz.ntmps158
    go_wp2_with fail
    go_loop [2, 7] (fun at' v => at' = .int .i64 a ∧ v = .slice (some ⟨w.heap.size + 1, 0, none⟩) 0 0) (fun _ _ => 0)
    case atStart => exact ⟨rfl, rfl⟩
    case round =>
      obtain ⟨rfl, rfl⟩ := hrel
      go_wp2_with (at_builtin; refine wpList_append_own _ rfl (.tmp 40) (.tmp 42) 138 rfl (w.heap.size + 1) 33 i0 (.agg #[.int .i64 0, .int .i64 0, .int .i64 0, .int .i64 0, .int .i64 0, .int .i64 0, .string ⟨#[]⟩]) 7 64 Tryz.underlying138 hi hz0 hz1 hz2 rfl (by decide) (.slice (some ⟨w.heap.size + 1, 0, none⟩) 0 0) 0 [] rfl ?c0 ⟨w.heap.size + 1 + 1, 0, none⟩ 1 1 [.int .i64 sa, .int .i64 sp, .int .i64 da, .int .i64 dp, .int .i64 (far.size : Int), .int .i64 ak, .string ⟨#[]⟩] rfl rfl ?c1 ?c2 ?c3 ?c4 ?c5 ?_)
      case c0 => exact World.ownsRow.alloc (made_at7 _ _ _ (by simp) (by simp)) _
      case c2 => exact ⟨rfl, rfl, rfl, rfl, rfl, rfl, rfl⟩
      case c3 => unfold maxLen; omega
      intro v' w4 hown hgrow _
      have HW := Lib.hid hown
      have HB4 : Hid (Below w.heap.size w w4) := ((((Below.refl _ w).alloc (Nat.le_refl _) _).alloc (by simp) _).alloc (by simp; omega) _).grown hgrow (by simp; omega) (fun k hk => by simp [Value.ownBlock] at hk; omega)
      clear hown hgrow
      go_wp2_with fail
      go_ret
      refine ⟨_, rfl, OwnSg.mono (B := w.heap.size + 1) ?_ (by omega), HB4.out⟩
      rw [HL.out]
      have := HW.out
      simpa [OwnSg, flatC, sgC] using this

end Go.Proofs.YtgfkiljkpkfapaaGreatDoor

/- l7Place of the specification: where the streams of two ends stand, in a box of the call's own. Condition: fewer than 2^22 streams. -/
namespace Go.Proofs.YtgfkiljkpkfapaaGreatDoor
open Go.RowKit Go.Sort

/-- A slice of the call's own does not lie in a block of another type. -/
theorem own_tyG {w : World} {B k n g : Nat} {t t' : TypeId} {v : Value} {xs l : List Value} (h : w.ownsRow B t k v n xs) (hb : Blk w g t' l) (hne : t' ≠ t) : v.ownBlock ≠ some g := by
  intro e
  rcases h.2 with h2 | ⟨g', cap, cur, hv, hB, hgg, r⟩
  · rw [h2.1] at e; simp [Value.ownBlock] at e
  · subst hv
    simp [Value.ownBlock] at e
    subst e
    rw [hb] at hgg
    injection hgg with h1
    injection h1 with _ h2 _
    exact hne h2
theorem Blk.grownR {w w' : World} {g : Nat} {t : TypeId} {l : List Value} {row : Option Nat} (h : Blk w g t l) (hg : w.grownBy w' row) (hne : row ≠ some g) : Blk w' g t l := (hg.block g h.lt (fun e => hne e.symm)).trans h
theorem grown_setG (w : World) (b i : Nat) (v : Value) : w.grownBy (w.setCell ⟨b, i, none⟩ v) (some b) :=
  ⟨rfl, rfl, rfl, by simp, fun k _ hne => Below.heap_setCell w ⟨b, i, none⟩ v k (fun e => hne (by rw [e]))⟩
theorem own_setR {w : World} {B k n g : Nat} {t t' : TypeId} {v : Value} {xs l : List Value} (h : w.ownsRow B t k v n xs) (hb : Blk w g t' l) (hne : t' ≠ t) (i : Nat) (u : Value) : (w.setCell ⟨g, i, none⟩ u).ownsRow B t k v n xs :=
  h.kept (grown_setG w g i u) (.inr (own_tyG h hb hne))
theorem grown_putR {w w' : World} {row : Option Nat} {b : Nat} (h : w.grownBy w' row) (hb : w.heap.size ≤ b) (i : Nat) (u : Value) : w.grownBy (w'.setCell ⟨b, i, none⟩ u) row :=
  h.andThen (grown_setG w' b i u) (fun j e => by injection e with e; left; omega)
theorem grown_drewG {w w' : World} {row : Option Nat} (h : w.grownBy w' row) : w.grownBy w'.drew row := ⟨h.os, h.tape, h.output, h.size, h.block⟩
theorem grown_ofR {w w' : World} {row : Option Nat} (h : Below w.heap.size w w') : w.grownBy w' row := ⟨h.os, h.tape, h.output, h.size, fun k hk _ => h.block k hk⟩

/-- Where the streams of two ends stand, and the streams then; -1, if there is no room. -/
def placeC (cs : List Cn) (ia ip oa op : Int) : List Cn × Int :=
  if 0 ≤ findCn cs ia ip oa op then (cs, findCn cs ia ip oa op) else if cs.length = 3 then (cs, -1) else (cs ++ [⟨ia, ip, oa, op, ⟨#[]⟩, ⟨#[]⟩, ⟨#[]⟩⟩], (cs.length : Int))

set_option maxRecDepth 100000 in
set_option maxHeartbeats 3200000 in
theorem specPlace_any (B : Nat) (a1 a2 a3 : Option Addr) (n1 c1 n2 c2 c3 : Nat) (cs : List Cn) (ia ip oa op : Int) (w : World) (hn : cs.length ≤ 4194303) (hB : B ≤ w.heap.size) (ho : OwnCn w B (.slice a3 cs.length c3) cs) :
    Calls Tryz.prog 159 #[.agg #[.slice a1 n1 c1, .slice a2 n2 c2, .slice a3 cs.length c3], .agg #[.int .i64 ia, .int .i64 ip], .agg #[.int .i64 oa, .int .i64 op]] w fun e w' => ∃ (a : Option Addr) (c : Nat), e = .returned (.tuple #[.agg #[.slice a1 n1 c1, .slice a2 n2 c2, .slice a (placeC cs ia ip oa op).1.length c], .int .i64 (placeC cs ia ip oa op).2]) ∧ OwnCn w' B (.slice a (placeC cs ia ip oa op).1.length c) (placeC cs ia ip oa op).1 ∧ w.grownBy w' (Value.ownBlock (.slice a3 cs.length c3)) := by
  obtain ⟨i0, hi, hz0, hz1, hz2⟩ := info_parts infoCn
  obtain ⟨W, hW⟩ : ∃ W, W = (((w.alloc (.cells #[.slice a1 n1 c1, .slice a2 n2 c2, .slice a3 cs.length c3] 29)).alloc (.cells #[.int .i64 ia, .int .i64 ip] 31)).alloc (.cells #[.int .i64 oa, .int .i64 op] 31)).alloc (.cells #[.slice none 0 0, .slice none 0 0, .slice none 0 0] 29) := ⟨_, rfl⟩
  have BW : Hid (Below w.heap.size w W) := by
    show Below _ _ _
    rw [hW]; exact ((((Below.refl _ _).alloc (Nat.le_refl _) _).alloc (by simp) _).alloc (by simp <;> omega) _).alloc (by simp <;> omega) _
  have hs : w.heap.size + 4 ≤ W.heap.size := by rw [hW]; simp
  have K0 : Hid (Blk W w.heap.size 29 [.slice a1 n1 c1, .slice a2 n2 c2, .slice a3 cs.length c3]) := by
    show Blk _ _ _ _
    rw [hW]; exact (((three_new w _ _ _ _).alloc _).alloc _).alloc _
  have K1 : Hid (Blk W (w.heap.size + 1) 31 [.int .i64 ia, .int .i64 ip]) := by
    show Blk _ _ _ _
    rw [hW]
    have h : Blk ((w.alloc (.cells #[.slice a1 n1 c1, .slice a2 n2 c2, .slice a3 cs.length c3] 29)).alloc (.cells #[.int .i64 ia, .int .i64 ip] 31)) (w.heap.size + 1) 31 [.int .i64 ia, .int .i64 ip] := heap_at _ _ _ (by simp)
    exact (h.alloc _).alloc _
  have K2 : Hid (Blk W (w.heap.size + 1 + 1) 31 [.int .i64 oa, .int .i64 op]) := by
    show Blk _ _ _ _
    rw [hW]
    have h : Blk (((w.alloc (.cells #[.slice a1 n1 c1, .slice a2 n2 c2, .slice a3 cs.length c3] 29)).alloc (.cells #[.int .i64 ia, .int .i64 ip] 31)).alloc (.cells #[.int .i64 oa, .int .i64 op] 31)) (w.heap.size + 1 + 1) 31 [.int .i64 oa, .int .i64 op] := heap_at _ _ _ (by simp)
    exact h.alloc _
  have K3 : Hid (Blk W (w.heap.size + 1 + 1 + 1) 29 [.slice none 0 0, .slice none 0 0, .slice none 0 0]) := by
    show Blk _ _ _ _
    rw [hW]
    exact heap_at _ _ _ (by simp)
  obtain ⟨q, hq⟩ : ∃ q, q = findCn cs ia ip oa op := ⟨_, rfl⟩
  have HF : Hid (∀ w', Below w.heap.size w w' → Calls Tryz.prog 89 #[.slice a3 cs.length c3, .agg #[.int .i64 ia, .int .i64 ip], .agg #[.int .i64 oa, .int .i64 op]] w' fun e w'' => e = .returned (.int .i64 q) ∧ Below w'.heap.size w' w'') := fun w' h => by
    rw [hq]
    exact specFindCn_any _ cs ia ip oa op w' (by omega) (RdC.below cnC_len (by decide) ho.rd h)
  have HO : Hid (∀ w', Below w.heap.size w w' → w'.ownsRow B 49 7 (.slice a3 cs.length c3) cs.length (flatC cnC cs)) := fun w' h => own_later ho h
  have HP : Hid (placeC cs ia ip oa op = if 0 ≤ q then (cs, q) else if cs.length = 3 then (cs, -1) else (cs ++ [⟨ia, ip, oa, op, ⟨#[]⟩, ⟨#[]⟩, ⟨#[]⟩⟩], (cs.length : Int))) := by rw [hq]; rfl
  obtain ⟨P, hP⟩ : ∃ P, P = placeC cs ia ip oa op := ⟨_, rfl⟩
  rw [← hP] at HP ⊢
  obtain ⟨n, hnn⟩ : ∃ n, n = cs.length := ⟨_, rfl⟩
  have HN := Lib.hid hnn
  rw [← hnn] at hn HO HF HP hW K0 ⊢
  clear hq hP ho hnn
  subst hW
  go_enter Tryz.func159, Tryz.ntmps159
  obtain ⟨⟨p0, p1, p2⟩, -⟩ := three_all K0.out
  have x0 := (K1.out.cell 0 _ rfl).1
  have x1 := (K1.out.cell 1 _ rfl).1
  have y0 := (K2.out.cell 0 _ rfl).1
  have y1 := (K2.out.cell 1 _ rfl).1
  go_upto_region 2 with (go_at_call 89; refine (HF.out _ BW.out).mono ?_; rintro e w1 ⟨rfl, b1⟩; have M0 := Lib.hid (K0.out.below b1); have M1 := Lib.hid (K1.out.below b1); have M2 := Lib.hid (K2.out.below b1); have M3 := Lib.hid (K3.out.below b1); have B1 : Hid (Below w.heap.size w w1) := BW.out.trans (b1.mono BW.out.size); have hs1 := b1.size; clear b1 p0 p1 p2 x0 x1 y0 y1)
  obtain ⟨⟨p0, p1, p2⟩, u0, u1, u2⟩ := three_all M0.out
  obtain ⟨⟨r0, r1, r2⟩, f0, f1, f2⟩ := three_all M3.out
  have x0 := (M1.out.cell 0 _ rfl).1
  have x1 := (M1.out.cell 1 _ rfl).1
  have y0 := (M2.out.cell 0 _ rfl).1
  have y1 := (M2.out.cell 1 _ rfl).1
  clear K0 K1 K2 K3 HF BW
  by_cases h1 : 0 ≤ q
  · have HQ : Hid (P = (cs, q)) := HP.out.trans (if_pos h1)
    clear HP
    go_wp2_with fail
    obtain ⟨⟨z0, z1, z2⟩, -⟩ := three_all (three_set M3.out (.slice a1 n1 c1) (.slice a2 n2 c2) (.slice a3 n c3))
    refine bodyPost_ret (v := .tuple #[.agg #[.slice a1 n1 c1, .slice a2 n2 c2, .slice a3 n c3], .int .i64 q]) (by simp [results, Tryz.results159, go_sem, z0, z1, z2]) rfl ⟨a3, c3, ?_, ?_, ?_⟩
    · rw [HQ.out, HN.out]
    · rw [HQ.out]
      show World.ownsRow _ _ _ _ _ _ _
      rw [← HN.out]
      exact own_setR (own_setR (own_setR (HO.out _ B1.out) M3.out (by decide) _ _) (M3.out.set _ _) (by decide) _ _) ((M3.out.set _ _).set _ _) (by decide) _ _
    · exact grown_putR (grown_putR (grown_putR (grown_ofR B1.out) (by omega) _ _) (by omega) _ _) (by omega) _ _
  · have H1 : Hid (q < 0) := by show q < 0; omega
    by_cases h3 : n = 3
    · have HQ : Hid (P = (cs, -1)) := HP.out.trans ((if_neg h1).trans (if_pos h3))
      clear HP
      subst h3
      go_wp2_with fail
      obtain ⟨⟨z0, z1, z2⟩, -⟩ := three_all (three_set M3.out (.slice a1 n1 c1) (.slice a2 n2 c2) (.slice a3 3 c3))
      refine bodyPost_ret (v := .tuple #[.agg #[.slice a1 n1 c1, .slice a2 n2 c2, .slice a3 3 c3], .int .i64 (-1)]) (by simp [results, Tryz.results159, go_sem, z0, z1, z2]) rfl ⟨a3, c3, ?_, ?_, ?_⟩
      · rw [HQ.out, HN.out]
      · rw [HQ.out]
        show World.ownsRow _ _ _ _ _ _ _
        rw [← HN.out]
        exact own_setR (own_setR (own_setR (HO.out _ B1.out) M3.out (by decide) _ _) (M3.out.set _ _) (by decide) _ _) ((M3.out.set _ _).set _ _) (by decide) _ _
      · exact grown_putR (grown_putR (grown_putR (grown_ofR B1.out) (by omega) _ _) (by omega) _ _) (by omega) _ _
    · have HQ : Hid (P = (cs ++ [⟨ia, ip, oa, op, ⟨#[]⟩, ⟨#[]⟩, ⟨#[]⟩⟩], (n : Int))) := HP.out.trans ((if_neg h1).trans (if_neg h3))
      clear HP
      have h3i : ((n : Int) == 3) = false := by rw [beq_eq_false_iff_ne]; omega
      have HO1 : Hid (∀ x, (w1.alloc x).ownsRow B 49 7 (.slice a3 n c3) n (flatC cnC cs)) := fun x => (HO.out _ B1.out).alloc x
      have hlen : (flatC cnC cs).length = 7 * n := by rw [flatC_len cnC_len, HN.out]; omega
      go_upto_region 7 with (at_builtin; refine wpList_append_own _ rfl (.tmp 24) (.tmp 28) 27 rfl B 49 i0 (.agg #[.int .i64 0, .int .i64 0, .int .i64 0, .int .i64 0, .string ⟨#[]⟩, .string ⟨#[]⟩, .string ⟨#[]⟩]) 7 80 Tryz.underlying27 hi hz0 hz1 hz2 rfl (by decide) (.slice a3 n c3) n (flatC cnC cs) rfl (HO1.out _) ⟨w1.heap.size, 0, none⟩ 1 1 [.int .i64 ia, .int .i64 ip, .int .i64 oa, .int .i64 op, .string ⟨#[]⟩, .string ⟨#[]⟩, .string ⟨#[]⟩] rfl rfl ?c1 ?c2 ?c3 ?c4 ?c5 ?_)
      case c2 => exact ⟨rfl, rfl, rfl, rfl, rfl⟩
      case c3 => unfold maxLen; omega
      case c4 => omega
      case c5 => first | omega | (simp; omega)
      intro v4 w4 hown hgrow hnn
      obtain ⟨a4, c4, ev⟩ : ∃ a c, v4 = .slice a (n + 1) c := by
        rcases hown.2 with ⟨h5, _⟩ | ⟨g, cap, _, h5, _⟩
        · exact absurd h5 hnn
        · exact ⟨_, _, h5⟩
      subst ev
      have HW := Lib.hid hown
      have N0 := Lib.hid ((M0.out.alloc _).grownR hgrow (own_tyG (HO.out _ B1.out) M0.out (by decide)))
      have N3 := Lib.hid ((M3.out.alloc _).grownR hgrow (own_tyG (HO.out _ B1.out) M3.out (by decide)))
      have G4 : Hid (w.grownBy w4 (Value.ownBlock (.slice a3 n c3))) := ((grown_ofR B1.out).trans (World.grownBy_alloc _ _ _)).trans hgrow
      clear hown hgrow hnn HO HO1 M0 M1 M2 M3 B1 p0 p1 p2 u0 u1 u2 r0 r1 r2 f0 f1 f2 x0 x1 y0 y1
      obtain ⟨⟨p0, p1, p2⟩, u0, u1, u2⟩ := three_all N0.out
      obtain ⟨⟨r0, r1, r2⟩, f0, f1, f2⟩ := three_all N3.out
      have hne : w.heap.size ≠ w.heap.size + 1 + 1 + 1 := by omega
      obtain ⟨W5, hW5⟩ : ∃ W5, W5 = w4.setCell ⟨w.heap.size, 2, none⟩ (.slice a4 (n + 1) c4) := ⟨_, rfl⟩
      have L0 : Hid (Blk W5 w.heap.size 29 [.slice a1 n1 c1, .slice a2 n2 c2, .slice a4 (n + 1) c4]) := by rw [hW5]; exact N0.out.set 2 _
      have L3 : Hid (Blk W5 (w.heap.size + 1 + 1 + 1) 29 [.slice none 0 0, .slice none 0 0, .slice none 0 0]) := by
        rw [hW5]
        exact N3.out.grownR (grown_setG _ _ _ _) (by intro e; injection e with e; omega)
      have O5 : Hid (W5.ownsRow B 49 7 (.slice a4 (n + 1) c4) (n + 1) (flatC cnC cs ++ [.int .i64 ia, .int .i64 ip, .int .i64 oa, .int .i64 op, .string ⟨#[]⟩, .string ⟨#[]⟩, .string ⟨#[]⟩])) := by
        rw [hW5]; exact own_setR HW.out N0.out (by decide) _ _
      have G5 : Hid (w.grownBy W5 (Value.ownBlock (.slice a3 n c3))) := by rw [hW5]; exact grown_putR G4.out (Nat.le_refl _) _ _
      go_upto_region 7 with fail
      rw [← hW5]
      clear hW5 p0 p1 p2 u0 u1 u2 r0 r1 r2 f0 f1 f2 N0 N3 HW G4
      obtain ⟨⟨p0, p1, p2⟩, u0, u1, u2⟩ := three_all L0.out
      obtain ⟨⟨r0, r1, r2⟩, f0, f1, f2⟩ := three_all L3.out
      go_region
      all_goals go_wp2_with fail
      all_goals
        have T1 := three_set L3.out (.slice a1 n1 c1) (.slice a2 n2 c2) (.slice a4 (n + 1) c4)
        obtain ⟨⟨z0, z1, z2⟩, -⟩ := three_all T1
        refine bodyPost_ret (v := .tuple #[.agg #[.slice a1 n1 c1, .slice a2 n2 c2, .slice a4 (n + 1) c4], .int .i64 (n : Int)]) (by simp [results, Tryz.results159, go_sem, z0, z1, z2]) rfl ⟨a4, c4, ?_, ?_, ?_⟩
        · rw [HQ.out]; simp [HN.out]
        · rw [HQ.out]
          have h5 := (own_setR (own_setR (own_setR O5.out L3.out (by decide) 0 (.slice a1 n1 c1)) (L3.out.set _ _) (by decide) 1 (.slice a2 n2 c2)) ((L3.out.set _ _).set _ _) (by decide) 2 (.slice a4 (n + 1) c4)).drew
          show World.ownsRow _ _ _ _ _ _ _
          rw [flatC_app, List.length_append]
          simpa [flatC, cnC, HN.out] using h5
        · exact grown_drewG (grown_putR (grown_putR (grown_putR G5.out (by omega) 0 (.slice a1 n1 c1)) (by omega) 1 (.slice a2 n2 c2)) (by omega) 2 (.slice a4 (n + 1) c4))

end Go.Proofs.YtgfkiljkpkfapaaGreatDoor

/- Spans of lines side by side, as data. No condition. -/
namespace Go.Proofs.YtgfkiljkpkfapaaGreatDoor
open Go.RowKit

/-- A line and what it is on the other side. -/
def insL (l : List (List UInt8 × List UInt8)) : Nat := (l.map fun p => p.1.length + 1).sum
def outsL (l : List (List UInt8 × List UInt8)) : Nat := (l.map fun p => p.2.length + 1).sum
theorem insL_app (a b : List (List UInt8 × List UInt8)) : insL (a ++ b) = insL a + insL b := by simp [insL]
theorem outsL_app (a b : List (List UInt8 × List UInt8)) : outsL (a ++ b) = outsL a + outsL b := by simp [outsL]
theorem insL_succ {l : List (List UInt8 × List UInt8)} {k : Nat} (h : k < l.length) : insL (l.take (k + 1)) = insL (l.take k) + (l[k].1.length + 1) := by
  rw [List.take_succ_eq_append_getElem h, insL_app]; simp [insL]
theorem outsL_succ {l : List (List UInt8 × List UInt8)} {k : Nat} (h : k < l.length) : outsL (l.take (k + 1)) = outsL (l.take k) + (l[k].2.length + 1) := by
  rw [List.take_succ_eq_append_getElem h, outsL_app]; simp [outsL]
theorem insL_mono (l : List (List UInt8 × List UInt8)) {a b : Nat} (h : a ≤ b) : insL (l.take a) ≤ insL (l.take b) := by
  obtain ⟨t, ht⟩ := (List.take_prefix_take_left h : l.take a <+: l.take b)
  rw [← ht, insL_app]; omega
theorem outsL_mono (l : List (List UInt8 × List UInt8)) {a b : Nat} (h : a ≤ b) : outsL (l.take a) ≤ outsL (l.take b) := by
  obtain ⟨t, ht⟩ := (List.take_prefix_take_left h : l.take a <+: l.take b)
  rw [← ht, outsL_app]; omega
theorem insL_le (l : List (List UInt8 × List UInt8)) (a : Nat) : insL (l.take a) ≤ insL l := by
  have := insL_mono l (Nat.le_max_left a l.length)
  rw [List.take_of_length_le (Nat.le_max_right a l.length)] at this
  exact this
theorem outsL_le (l : List (List UInt8 × List UInt8)) (a : Nat) : outsL (l.take a) ≤ outsL l := by
  have := outsL_mono l (Nat.le_max_left a l.length)
  rw [List.take_of_length_le (Nat.le_max_right a l.length)] at this
  exact this
theorem sum_flat (xs : List (List UInt8)) : ((xs.map (· ++ [59])).flatten).length = (xs.map fun x => x.length + 1).sum := by
  induction xs with
  | nil => rfl
  | cons x r ih => simp [ih]; omega
theorem lines_sum (s : List UInt8) : ((linesL s).map fun x => x.length + 1).sum ≤ s.length := by
  have h : (flatL (linesF s)).length = s.length := by rw [flatL_lines]
  unfold flatL at h
  rw [List.length_append, sum_flat] at h
  unfold linesL
  omega
theorem zip_ins (xs ys : List (List UInt8)) : insL (xs.zip ys) ≤ (xs.map fun x => x.length + 1).sum := by
  induction xs generalizing ys with
  | nil => simp [insL]
  | cons x r ih =>
    cases ys with
    | nil => simp [insL]
    | cons y t => have := ih t; simp [insL] at this ⊢; omega
theorem zip_outs (xs ys : List (List UInt8)) : outsL (xs.zip ys) ≤ (ys.map fun x => x.length + 1).sum := by
  induction xs generalizing ys with
  | nil => simp [outsL]
  | cons x r ih =>
    cases ys with
    | nil => simp [outsL]
    | cons y t => have := ih t; simp [outsL] at this ⊢; omega

/-- A span: from, to, out at, out to, plain. -/
def spAt (l : List (List UInt8 × List UInt8)) (k : Nat) : Nat × Nat × Nat × Nat × Bool :=
  (insL (l.take k), insL (l.take (k + 1)), outsL (l.take k), outsL (l.take (k + 1)), decide ((l[k]?.getD ([], [])).2 = (l[k]?.getD ([], [])).1))
def spansL (l : List (List UInt8 × List UInt8)) : List (Nat × Nat × Nat × Nat × Bool) := (List.range l.length).map (spAt l)
theorem spansL_len (l : List (List UInt8 × List UInt8)) : (spansL l).length = l.length := by simp [spansL]
theorem spansL_at (l : List (List UInt8 × List UInt8)) (k : Nat) (h : k < (spansL l).length) : (spansL l)[k] = spAt l k := by simp [spansL]
theorem spansL_succ {l : List (List UInt8 × List UInt8)} {k : Nat} (h : k < l.length) : (spansL l).take (k + 1) = (spansL l).take k ++ [spAt l k] := by
  rw [List.take_succ_eq_append_getElem (by rw [spansL_len]; exact h), spansL_at]
/-- The cells of a span. -/
def spC (p : Nat × Nat × Nat × Nat × Bool) : List Value := [.int .i64 p.1, .int .i64 p.2.1, .int .i64 p.2.2.1, .int .i64 p.2.2.2.1, .bool p.2.2.2.2]
theorem spC_len (p : Nat × Nat × Nat × Nat × Bool) : (spC p).length = 5 := rfl
/-- A line lies here. -/
def pairsL (s far : List UInt8) : List (List UInt8 × List UInt8) := (linesL s).zip (linesL far)
theorem pairsL_ins (s far : List UInt8) : insL (pairsL s far) ≤ s.length := Nat.le_trans (zip_ins _ _) (lines_sum s)
theorem pairsL_outs (s far : List UInt8) : outsL (pairsL s far) ≤ far.length := Nat.le_trans (zip_outs _ _) (lines_sum far)
theorem insL_ge (l : List (List UInt8 × List UInt8)) : l.length ≤ insL l := by
  induction l with
  | nil => simp [insL]
  | cons x r ih => simp [insL] at ih ⊢; omega

/-- How many of n places are not yet past what is looked for. -/
theorem count_at (p : Nat → Bool) (n k : Nat) (hk : k ≤ n) (h0 : ∀ i, i < k → p i = false) (h1 : ∀ i, k ≤ i → i < n → p i = true) : (List.range n).countP (fun i => !p i) = k := by
  obtain ⟨d, rfl⟩ : ∃ d, n = k + d := ⟨n - k, by omega⟩
  rw [List.range_add, List.countP_append, List.countP_eq_length.2, List.countP_eq_zero.2]
  · simp
  · intro x hx
    simp only [List.mem_map, List.mem_range] at hx
    obtain ⟨y, hy, rfl⟩ := hx
    rw [h1 (k + y) (by omega) (by omega)]; simp
  · intro x hx
    rw [List.mem_range] at hx
    rw [h0 x hx]; rfl
/-- Which line stands at a place here, and which one at a place there. -/
def pIn (l : List (List UInt8 × List UInt8)) (a : Int) (i : Nat) : Bool := decide (a < ((insL (l.take (i + 1)) : Nat) : Int))
def pOut (l : List (List UInt8 × List UInt8)) (a : Int) (i : Nat) : Bool := decide (a < ((outsL (l.take (i + 1)) : Nat) : Int))
theorem pIn_mono (l : List (List UInt8 × List UInt8)) (a : Int) (n : Nat) : ∀ i j, i ≤ j → j < n → pIn l a i = true → pIn l a j = true := by
  intro i j h _ h1
  have := insL_mono l (show i + 1 ≤ j + 1 by omega)
  simp [pIn] at h1 ⊢; omega
theorem pOut_mono (l : List (List UInt8 × List UInt8)) (a : Int) (n : Nat) : ∀ i j, i ≤ j → j < n → pOut l a i = true → pOut l a j = true := by
  intro i j h _ h1
  have := outsL_mono l (show i + 1 ≤ j + 1 by omega)
  simp [pOut] at h1 ⊢; omega
def kIn (l : List (List UInt8 × List UInt8)) (a : Int) : Nat := (List.range l.length).countP (fun i => !pIn l a i)
def kOut (l : List (List UInt8 × List UInt8)) (a : Int) : Nat := (List.range l.length).countP (fun i => !pOut l a i)
theorem kIn_at {l : List (List UInt8 × List UInt8)} {a : Int} {k : Nat} (hk : k < l.length) (h0 : ∀ i, i < k → pIn l a i = false) (h1 : pIn l a k = true) : kIn l a = k :=
  count_at _ _ _ (by omega) h0 (fun i h h2 => pIn_mono l a l.length k i h h2 h1)
theorem kOut_at {l : List (List UInt8 × List UInt8)} {a : Int} {k : Nat} (hk : k < l.length) (h0 : ∀ i, i < k → pOut l a i = false) (h1 : pOut l a k = true) : kOut l a = k :=
  count_at _ _ _ (by omega) h0 (fun i h h2 => pOut_mono l a l.length k i h h2 h1)
theorem kIn_all {l : List (List UInt8 × List UInt8)} {a : Int} (h0 : ∀ i, i < l.length → pIn l a i = false) : kIn l a = l.length := count_at _ _ _ (Nat.le_refl _) h0 (fun i h h2 => by omega)
theorem kOut_all {l : List (List UInt8 × List UInt8)} {a : Int} (h0 : ∀ i, i < l.length → pOut l a i = false) : kOut l a = l.length := count_at _ _ _ (Nat.le_refl _) h0 (fun i h h2 => by omega)
/-- PosOut by these lines. -/
def outI (l : List (List UInt8 × List UInt8)) (a : Int) : Int := ((outsL (l.take (kIn l a)) : Nat) : Int)
/-- PosBack and PosThere by these lines. -/
def backI (l : List (List UInt8 × List UInt8)) (a : Int) : Int :=
  if kOut l a < l.length ∧ (spAt l (kOut l a)).2.2.2.2 = true ∧ ((outsL (l.take (kOut l a)) : Nat) : Int) < a then ((insL (l.take (kOut l a)) : Nat) : Int) + a - ((outsL (l.take (kOut l a)) : Nat) : Int)
  else ((insL (l.take (kOut l a)) : Nat) : Int)

end Go.Proofs.YtgfkiljkpkfapaaGreatDoor

/- Spans in memory: the last one of some, and one more behind them. Condition: at most 2^22 spans. -/
namespace Go.Proofs.YtgfkiljkpkfapaaGreatDoor
open Go.RowKit

theorem infoSpan : (Tryz.prog.info? 180).map (fun i => (i.zero, i.size, i.bytes)) = some (some (.agg #[.int .i64 0, .int .i64 0, .int .i64 0, .int .i64 0, .bool false]), 5, 40) := by kernel_rfl
/-- A list of spans of the call's own. -/
def OwnSp (w : World) (B : Nat) (v : Value) (xs : List (Nat × Nat × Nat × Nat × Bool)) : Prop := w.ownsRow B 180 5 v xs.length (flatC spC xs)
def RdSp (w : World) (v : Value) (xs : List (Nat × Nat × Nat × Nat × Bool)) : Prop := RdC spC w v xs
theorem OwnSp.rd {w : World} {B : Nat} {v : Value} {xs : List (Nat × Nat × Nat × Nat × Bool)} (h : OwnSp w B v xs) : RdSp w v xs := RdC.of_own spC_len (by decide) h
theorem RdSp.below {w w' : World} {v : Value} {xs : List (Nat × Nat × Nat × Nat × Bool)} (h : RdSp w v xs) (hb : Below w.heap.size w w') : RdSp w' v xs := RdC.below spC_len (by decide) h hb
theorem OwnSp.below {w w' : World} {B : Nat} {v : Value} {xs : List (Nat × Nat × Nat × Nat × Bool)} (h : OwnSp w B v xs) (hb : Below w.heap.size w w') : OwnSp w' B v xs := by
  refine ⟨h.1, ?_⟩
  rcases h.2 with h2 | ⟨g, cap, cur, hv, hB, hg, h2, h3, hs, ht⟩
  · exact Or.inl h2
  · exact Or.inr ⟨g, cap, cur, hv, hB, (hb.block g (Array.getElem?_eq_some_iff.1 hg).1).trans hg, h2, h3, hs, ht⟩
theorem OwnSp.mono {w : World} {B B' : Nat} {v : Value} {xs : List (Nat × Nat × Nat × Nat × Bool)} (h : OwnSp w B v xs) (hB : B' ≤ B) : OwnSp w B' v xs := by
  refine ⟨h.1, ?_⟩
  rcases h.2 with h2 | ⟨g, cap, cur, hv, hb, r⟩
  · exact Or.inl h2
  · exact Or.inr ⟨g, cap, cur, hv, by omega, r⟩
theorem OwnSp.form {w : World} {B : Nat} {v : Value} {xs : List (Nat × Nat × Nat × Nat × Bool)} (h : OwnSp w B v xs) : ∃ a cap, v = .slice a xs.length cap := by
  obtain ⟨a, cap, e, _⟩ := h.rd
  exact ⟨a, cap, e⟩
theorem OwnSp.nil (w : World) (B : Nat) : OwnSp w B (.slice none 0 0) [] := by
  unfold OwnSp
  exact ⟨rfl, Or.inl ⟨rfl, rfl⟩⟩
/-- The last span; nothing, if there are none. -/
def lastS (xs : List (Nat × Nat × Nat × Nat × Bool)) : Nat × Nat × Nat × Nat × Bool := xs.getLast?.getD (0, 0, 0, 0, false)

end Go.Proofs.YtgfkiljkpkfapaaGreatDoor

/- How the law compares lists of spans, marks them and finds the marks again. Conditions: at most 2^22 spans. -/
namespace Go.Proofs.YtgfkiljkpkfapaaGreatDoor
open Go.RowKit

/-- The five cells of an element. -/
theorem RowAt.five {w : World} {g : Nat} {xs : List (Nat × Nat × Nat × Nat × Bool)} (h : RowAt w g (flatC spC xs)) (i : Nat) (hi : i < xs.length) (f t o u : Nat) (p : Bool) (hp : (f, t, o, u, p) = xs[i]) :
    (w.cell? ⟨g, i * 5, none⟩ = some (.int .i64 f) ∧ w.cell? ⟨g, i * 5 + 1, none⟩ = some (.int .i64 t) ∧ w.cell? ⟨g, i * 5 + 2, none⟩ = some (.int .i64 o) ∧ w.cell? ⟨g, i * 5 + 3, none⟩ = some (.int .i64 u) ∧ w.cell? ⟨g, i * 5 + 4, none⟩ = some (.bool p)) ∧
    (w.frozen? ⟨g, i * 5, none⟩ = false ∧ w.frozen? ⟨g, i * 5 + 1, none⟩ = false ∧ w.frozen? ⟨g, i * 5 + 2, none⟩ = false ∧ w.frozen? ⟨g, i * 5 + 3, none⟩ = false ∧ w.frozen? ⟨g, i * 5 + 4, none⟩ = false) := by
  have e0 := h.elem spC_len i hi 0 (by decide) (.int .i64 f) (by rw [← hp]; rfl)
  have e1 := h.elem spC_len i hi 1 (by decide) (.int .i64 t) (by rw [← hp]; rfl)
  have e2 := h.elem spC_len i hi 2 (by decide) (.int .i64 o) (by rw [← hp]; rfl)
  have e3 := h.elem spC_len i hi 3 (by decide) (.int .i64 u) (by rw [← hp]; rfl)
  have e4 := h.elem spC_len i hi 4 (by decide) (.bool p) (by rw [← hp]; rfl)
  exact ⟨⟨e0.1, e1.1, e2.1, e3.1, e4.1⟩, ⟨e0.2, e1.2, e2.2, e3.2, e4.2⟩⟩

/-- n marks of spans, from k on. -/
def marksS (k n : Nat) : List (Nat × Nat × Nat × Nat × Bool) := (List.range n).map fun i => (k + 5 * i, k + 5 * i + 1, k + 5 * i + 2, k + 5 * i + 3, decide ((k + 5 * i + 4) % 3 = 0))
end Go.Proofs.YtgfkiljkpkfapaaGreatDoor

/- One span more behind some. Conditions: at most 2^22 spans, texts of at most 2^21 bytes, places of at most 2^22. -/
namespace Go.Proofs.YtgfkiljkpkfapaaGreatDoor
open Go.RowKit

theorem str_beq (x y : List UInt8) : (((⟨x.toArray⟩ : ByteArray).toList) == ((⟨y.toArray⟩ : ByteArray).toList)) = decide (y = x) := by
  rw [Lib.toList_data, Lib.toList_data]
  by_cases h : y = x
  · subst h; simp
  · rw [decide_eq_false h]
    simp
    intro e; exact h e.symm

theorem spAt_next {l : List (List UInt8 × List UInt8)} {k : Nat} (h : k < l.length) : spAt l k = (insL (l.take k), insL (l.take k) + l[k].1.length + 1, outsL (l.take k), outsL (l.take k) + l[k].2.length + 1, decide (l[k].2 = l[k].1)) := by
  unfold spAt
  rw [insL_succ h, outsL_succ h, List.getElem?_eq_getElem h]
  rfl

end Go.Proofs.YtgfkiljkpkfapaaGreatDoor

/- Places found among spans by the specification: l4Back. Conditions: at most 2^22 spans, places of at most 2^22 in them. -/
namespace Go.Proofs.YtgfkiljkpkfapaaGreatDoor
open Go.RowKit

set_option maxRecDepth 100000 in
set_option maxHeartbeats 3200000 in
theorem specBack4_any (v : Value) (l : List (List UInt8 × List UInt8)) (a : Int) (w : World) (ha : -9223372036854775808 ≤ a ∧ a ≤ 9223372036854775807) (hn : l.length ≤ 4194304) (hi : insL l ≤ 4194304) (ho : outsL l ≤ 4194304) (hr : RdSp w v (spansL l)) :
    Calls Tryz.prog 157 #[v, .int .i64 a] w fun e w' => e = .returned (.int .i64 (backI l a)) ∧ Below w.heap.size w w' := by
  obtain ⟨ad, cap, rfl, hcap, hrow0⟩ := hr
  have HR0 := Lib.hid hrow0
  clear hrow0
  rw [spansL_len] at hcap HR0 ⊢
  go_enter Tryz.func157, Tryz.ntmps157
  go_wp2
  go_loopw [5, 6] (fun nn i wr => ∃ (k b : Nat), k ≤ l.length ∧ i = .int .i64 k ∧ nn = .int .i64 b ∧ b = insL (l.take k) ∧ (∀ i, i < k → pOut l a i = false) ∧ Below w.heap.size w wr) (fun _ i _ => l.length - (intOf i).toNat)
  case atStart => exact ⟨0, 0, Nat.zero_le _, rfl, rfl, rfl, fun i h => by omega, Below.refl _ _⟩
  case round =>
    obtain ⟨k, b, hk, rfl, rfl, hbb, hall, hb⟩ := hrel
    have HA := Lib.hid hall
    have HB := Lib.hid hb
    have HBB := Lib.hid hbb
    have hsz := hb.size
    have hbn : b ≤ 4194304 := by have := insL_le l k; omega
    by_cases hlt : k < l.length
    · obtain ⟨g, rfl, hrow⟩ := HR0.out (by omega)
      have hl : k < (spansL l).length := by rw [spansL_len]; exact hlt
      have hgl : g < w.heap.size := hrow.lt (by rw [flatC_len spC_len, spansL_len]; omega)
      obtain ⟨⟨f, t, o, u, p⟩, hp⟩ : ∃ p, p = (spansL l)[k] := ⟨_, rfl⟩
      obtain ⟨⟨a0, a1, a2, a3, a4⟩, _⟩ := (hrow.below hb hgl).five k hl f t o u p hp
      have hgw : g < wr.heap.size := by omega
      rw [spansL_at] at hp
      have hi1 := insL_le l k
      have hi2 := insL_le l (k + 1)
      have ho1 := outsL_le l k
      have ho2 := outsL_le l (k + 1)
      have e1 : f = insL (l.take k) := by have := congrArg (·.1) hp; exact this
      have e2 : t = insL (l.take (k + 1)) := by have := congrArg (·.2.1) hp; exact this
      have e3 : o = outsL (l.take k) := by have := congrArg (·.2.2.1) hp; exact this
      have e4 : u = outsL (l.take (k + 1)) := by have := congrArg (·.2.2.2.1) hp; exact this
      have e5 : p = (spAt l k).2.2.2.2 := by have := congrArg (·.2.2.2.2) hp; exact this
      have hfn : f ≤ 4194304 := by omega
      have hon : o ≤ 4194304 := by omega
      have hun : u ≤ 4194304 := by omega
      have hP : pOut l a k = decide (a < (u : Int)) := by unfold pOut; rw [← e4]
      have hk2 : (k : Int) ≤ (cap : Int) := by omega
      have K0 : ∀ x, (wr.alloc x).cell? ⟨g, k * 5, none⟩ = some (.int .i64 f) := fun x => by rw [cell_alloc_lt hgw]; exact a0
      have K1 : ∀ x, (wr.alloc x).cell? ⟨g, k * 5 + 1, none⟩ = some (.int .i64 t) := fun x => by rw [cell_alloc_lt hgw]; exact a1
      have K2 : ∀ x, (wr.alloc x).cell? ⟨g, k * 5 + 2, none⟩ = some (.int .i64 o) := fun x => by rw [cell_alloc_lt hgw]; exact a2
      have K3 : ∀ x, (wr.alloc x).cell? ⟨g, k * 5 + 3, none⟩ = some (.int .i64 u) := fun x => by rw [cell_alloc_lt hgw]; exact a3
      have K4 : ∀ x, (wr.alloc x).cell? ⟨g, k * 5 + 4, none⟩ = some (.bool p) := fun x => by rw [cell_alloc_lt hgw]; exact a4
      have HE2 := Lib.hid e2
      by_cases hge : (u : Int) ≤ a
      · have HA2 : Hid (∀ i, i < k + 1 → pOut l a i = false) := by
          intro i hi
          rcases Nat.lt_or_ge i k with h | h
          · exact HA.out i h
          · rw [show i = k by omega, hP]; simp; omega
        clear hrow hp hall hb hbb e1 e2 e3 e4 e5 hP hi1 hi2 ho1 ho2 HR0 hl
        go_wp2
        go_roundw
        case rel => exact ⟨k + 1, t, by omega, by go_num, rfl, HE2.out, HA2.out, HB.out.alloc hsz _⟩
        case measure => simp [intOf]; omega
      · have hkO : kOut l a = k := kOut_at hlt hall (by rw [hP]; simp; omega)
        by_cases hpl : p = true
        · subst hpl
          by_cases hgo : (o : Int) < a
          · have ha2 : a < 4194304 := by omega
            have HV : Hid (backI l a = (f : Int) + a - (o : Int)) := by
              show _ = _
              unfold backI
              rw [hkO, if_pos ⟨hlt, e5.symm, by rw [← e3]; exact hgo⟩, ← e1, ← e3]
            clear hrow hp hall hb hbb e1 e2 e3 e4 e5 hP hi1 hi2 ho1 ho2 HR0 hl hkO
            go_wp2
            go_ret
            exact ⟨ret_int HV.out.symm, HB.out.alloc hsz _⟩
          · have HV : Hid (backI l a = (f : Int)) := by
              show _ = _
              unfold backI
              rw [hkO, if_neg (fun h => hgo (by rw [e3]; exact h.2.2)), ← e1]
            clear hrow hp hall hb hbb e1 e2 e3 e4 e5 hP hi1 hi2 ho1 ho2 HR0 hl hkO
            go_wp2
            go_ret
            exact ⟨ret_int HV.out.symm, HB.out.alloc hsz _⟩
        · have hpf : p = false := by simpa using hpl
          subst hpf
          have HV : Hid (backI l a = (f : Int)) := by
            show _ = _
            unfold backI
            rw [hkO, if_neg (fun h => by rw [← e5] at h; simp at h), ← e1]
          clear hrow hp hall hb hbb e1 e2 e3 e4 e5 hP hi1 hi2 ho1 ho2 HR0 hl hkO
          go_wp2
          go_ret
          exact ⟨ret_int HV.out.symm, HB.out.alloc hsz _⟩
    · have hke : k = l.length := by omega
      have HV : Hid (backI l a = (b : Int)) := by
        show _ = _
        have hk0 : kOut l a = l.length := kOut_all (by rw [← hke]; exact hall)
        unfold backI
        rw [hk0, if_neg (fun h => by omega), hbb, hke]
      clear hall hbb hke HR0
      go_wp2
      go_ret
      exact ⟨ret_int HV.out.symm, HB.out⟩

end Go.Proofs.YtgfkiljkpkfapaaGreatDoor

/- Places found among spans by the specification: l4Out. Conditions: at most 2^22 spans, places of at most 2^22 in them. -/
namespace Go.Proofs.YtgfkiljkpkfapaaGreatDoor
open Go.RowKit

set_option maxRecDepth 100000 in
set_option maxHeartbeats 3200000 in
theorem specOut_any (v : Value) (l : List (List UInt8 × List UInt8)) (a : Int) (w : World) (hn : l.length ≤ 4194304) (hr : RdSp w v (spansL l)) :
    Calls Tryz.prog 155 #[v, .int .i64 a] w fun e w' => e = .returned (.int .i64 (outI l a)) ∧ w = w' := by
  obtain ⟨ad, cap, rfl, hcap, hrow0⟩ := hr
  have HR0 := Lib.hid hrow0
  clear hrow0
  rw [spansL_len] at hcap HR0 ⊢
  go_enter Tryz.func155, Tryz.ntmps155
  go_wp2
  go_loop [5, 6] (fun nn i => ∃ (k b : Nat), k ≤ l.length ∧ i = .int .i64 k ∧ nn = .int .i64 b ∧ b = outsL (l.take k) ∧ (∀ i, i < k → pIn l a i = false)) (fun _ i => l.length - (intOf i).toNat)
  case atStart => exact ⟨0, 0, Nat.zero_le _, rfl, rfl, rfl, fun i h => by omega⟩
  case round =>
    obtain ⟨k, b, hk, rfl, rfl, hbb, hall⟩ := hrel
    have HA := Lib.hid hall
    have HBB := Lib.hid hbb
    by_cases hlt : k < l.length
    · obtain ⟨g, rfl, hrow⟩ := HR0.out (by omega)
      have hl : k < (spansL l).length := by rw [spansL_len]; exact hlt
      obtain ⟨⟨f, t, o, u, p⟩, hp⟩ : ∃ p, p = (spansL l)[k] := ⟨_, rfl⟩
      obtain ⟨⟨_, a1, a2, a3, _⟩, _⟩ := hrow.five k hl f t o u p hp
      rw [spansL_at] at hp
      have e2 : t = insL (l.take (k + 1)) := by have := congrArg (·.2.1) hp; exact this
      have e3 : o = outsL (l.take k) := by have := congrArg (·.2.2.1) hp; exact this
      have e4 : u = outsL (l.take (k + 1)) := by have := congrArg (·.2.2.2.1) hp; exact this
      have hP : pIn l a k = decide (a < (t : Int)) := by unfold pIn; rw [← e2]
      have hk2 : (k : Int) ≤ (cap : Int) := by omega
      have HE4 := Lib.hid e4
      by_cases hge : a < (t : Int)
      · have hkO : kIn l a = k := kIn_at hlt hall (by rw [hP]; simp; omega)
        have HV : Hid (outI l a = (o : Int)) := by
          show _ = _
          unfold outI
          rw [hkO, ← e3]
        clear hrow hp hall hbb e2 e3 e4 hP HR0 hl hkO
        go_wp2
        go_ret
        exact ⟨ret_int HV.out.symm, rfl⟩
      · have HA2 : Hid (∀ i, i < k + 1 → pIn l a i = false) := by
          intro i hi
          rcases Nat.lt_or_ge i k with h | h
          · exact HA.out i h
          · rw [show i = k by omega, hP]; simp; omega
        clear hrow hp hall hbb e2 e3 e4 hP HR0 hl
        go_wp2
        go_round
        case rel => exact ⟨k + 1, u, by omega, by go_num, rfl, HE4.out, HA2.out⟩
        case measure => simp [intOf]; omega
    · have hke : k = l.length := by omega
      have HV : Hid (outI l a = (b : Int)) := by
        show _ = _
        have hk0 : kIn l a = l.length := kIn_all (by rw [← hke]; exact hall)
        unfold outI
        rw [hk0, hbb, hke]
      clear hall hbb hke HR0
      go_wp2
      go_ret
      exact ⟨ret_int HV.out.symm, rfl⟩

end Go.Proofs.YtgfkiljkpkfapaaGreatDoor

/- Writing into rows of the call's own; where streams stand in a box, as numbers. No condition. -/
namespace Go.Proofs.YtgfkiljkpkfapaaGreatDoor
open Go.RowKit Go.Sort

/-- An own row outlives the growth of an own row of another type. -/
theorem own_keptG {w w' : World} {B1 k1 n1 B2 k2 n2 : Nat} {t1 t2 : TypeId} {v1 v2 : Value} {xs1 xs2 : List Value} (h1 : w.ownsRow B1 t1 k1 v1 n1 xs1) (h2 : w.ownsRow B2 t2 k2 v2 n2 xs2) (hne : t1 ≠ t2) (hg : w.grownBy w' v2.ownBlock) : w'.ownsRow B1 t1 k1 v1 n1 xs1 := by
  refine h1.kept hg ?_
  rcases h1.2 with ⟨rfl, _⟩ | ⟨g, cap, cur, rfl, hB, hgg, r⟩
  · exact .inl rfl
  · refine .inr (fun e => ?_)
    rcases h2.2 with ⟨rfl, _⟩ | ⟨g', cap', cur', rfl, hB', hgg', r'⟩
    · simp [Value.ownBlock] at e
    · simp [Value.ownBlock] at e
      subst e
      rw [hgg] at hgg'
      injection hgg' with h3
      injection h3 with _ h4 _
      exact hne h4
/-- Writing one cell of an own row. -/
theorem own_setI {w : World} {B k n g c : Nat} {t : TypeId} {xs : List Value} (h : w.ownsRow B t k (.slice (some ⟨g, 0, none⟩) n c) n xs) (j : Nat) (u : Value) : (w.setCell ⟨g, j, none⟩ u).ownsRow B t k (.slice (some ⟨g, 0, none⟩) n c) n (xs.set j u) := by
  refine ⟨by rw [List.length_set]; exact h.1, ?_⟩
  rcases h.2 with ⟨h0, _⟩ | ⟨g', cap, cur, hv, hB, hg, h2, h3, hs, ht⟩
  · cases h0
  · simp at hv
    obtain ⟨rfl, rfl⟩ := hv
    obtain ⟨L⟩ := cur
    refine .inr ⟨g, c, ⟨L.set j u⟩, rfl, hB, ?_, h2, h3, by simpa using hs, ?_⟩
    · show (w.heap.modify g _)[g]? = _
      rw [Array.getElem?_modify]
      simp [hg]
    · have ht' : L.take (n * k) = xs := ht
      show (L.set j u).take (n * k) = _
      rw [List.take_set, ht']
/-- Seven cells written behind each other. -/
def set7G (l : List Value) (j : Nat) (x0 x1 x2 x3 x4 x5 x6 : Value) : List Value := ((((((l.set j x0).set (j + 1) x1).set (j + 2) x2).set (j + 3) x3).set (j + 4) x4).set (j + 5) x5).set (j + 6) x6
theorem set_behind (a b : List Value) (j : Nat) (u : Value) : (a ++ b).set (a.length + j) u = a ++ b.set j u := by
  rw [List.set_append_right _ _ (by omega)]
  congr 2
  omega
theorem flat_set7 (cs : List Cn) (k : Nat) (hk : k < cs.length) (x : Cn) : set7G (flatC cnC cs) (k * 7) (.int .i64 x.ia) (.int .i64 x.ip) (.int .i64 x.oa) (.int .i64 x.op) (.string x.kn) (.string x.he) (.string x.ne) = flatC cnC (cs.set k x) := by
  induction cs generalizing k with
  | nil => simp at hk
  | cons c r ih =>
    rcases k with _ | k
    · simp [set7G, flatC, cnC]
    · have h := ih k (by simpa using hk)
      have e : flatC cnC (c :: r) = cnC c ++ flatC cnC r := by simp [flatC]
      have e2 : flatC cnC ((c :: r).set (k + 1) x) = cnC c ++ flatC cnC (r.set k x) := by simp [flatC]
      have l7 : (cnC c).length = 7 := rfl
      rw [e2, ← h, e]
      unfold set7G
      rw [show (k + 1) * 7 = (cnC c).length + k * 7 from by rw [l7]; omega]
      simp only [Nat.add_assoc, set_behind]
theorem findCn_lt {cs : List Cn} {ia ip oa op : Int} {k : Int} (h : findCn cs ia ip oa op = k) (h0 : 0 ≤ k) : ∃ m : Nat, k = m ∧ m < cs.length := by
  unfold findCn at h
  split at h
  · rename_i m hm
    exact ⟨m, h.symm, (List.findIdx?_eq_some_iff_getElem.1 hm).1⟩
  · omega
/-- The k that l7Place finds: below 0, or one of the streams. -/
theorem place_k (cs : List Cn) (ia ip oa op : Int) : (placeC cs ia ip oa op).2 = -1 ∨ ∃ m : Nat, (placeC cs ia ip oa op).2 = m ∧ m < (placeC cs ia ip oa op).1.length := by
  unfold placeC
  split
  · rename_i h
    obtain ⟨m, e, hm⟩ := findCn_lt rfl h
    exact .inr ⟨m, e, hm⟩
  · split
    · exact .inl rfl
    · exact .inr ⟨cs.length, rfl, by simp⟩
/-- Streams whose texts are not long, and whose numbers are numbers. -/
def cnOk (cs : List Cn) : Prop := ∀ c ∈ cs, c.kn.size ≤ 120 ∧ c.he.size ≤ 120 ∧ c.ne.size ≤ 240 ∧ cnWf1 c
theorem cnOk.wf {cs : List Cn} (h : cnOk cs) : cnWf cs := fun c hc => (h c hc).2.2.2
theorem place_ok {cs : List Cn} (h : cnOk cs) (ia ip oa op : Int) (hw : ((Lit.int .i64 ia).wf = true ∧ (Lit.int .i64 ip).wf = true) ∧ ((Lit.int .i64 oa).wf = true ∧ (Lit.int .i64 op).wf = true)) : cnOk (placeC cs ia ip oa op).1 ∧ (placeC cs ia ip oa op).1.length ≤ cs.length + 1 := by
  unfold placeC
  split
  · exact ⟨h, by simp⟩
  · split
    · exact ⟨h, by simp⟩
    · refine ⟨fun c hc => ?_, by simp⟩
      rcases List.mem_append.1 hc with h1 | h1
      · exact h c h1
      · simp at h1
        subst h1
        exact ⟨Nat.zero_le _, Nat.zero_le _, Nat.zero_le _, hw⟩
theorem cnOk_set {cs : List Cn} (h : cnOk cs) (k : Nat) {x : Cn} (h1 : x.kn.size ≤ 120) (h2 : x.he.size ≤ 120) (h3 : x.ne.size ≤ 240) (hw : cnWf1 x) : cnOk (cs.set k x) := by
  intro c hc
  rcases List.mem_or_eq_of_mem_set hc with h4 | rfl
  · exact h c h4
  · exact ⟨h1, h2, h3, hw⟩
theorem outI_range (l : List (List UInt8 × List UInt8)) (a : Int) : ∃ n : Nat, outI l a = n ∧ n ≤ outsL l := by
  refine ⟨_, rfl, ?_⟩
  have e : outsL l = outsL (l.take (kIn l a)) + outsL (l.drop (kIn l a)) := by
    unfold outsL
    rw [← List.sum_append, ← List.map_append, List.take_append_drop]
  omega

end Go.Proofs.YtgfkiljkpkfapaaGreatDoor

/- l7Lines of the specification: some text that is not long. Conditions: at most 2^22 ends; at most 121 lines of at most 120 bytes each. -/
namespace Go.Proofs.YtgfkiljkpkfapaaGreatDoor
open Go.RowKit Go.Sort

theorem backE_len (es : List (Int × Int)) (l : List UInt8) : (backE es l).length ≤ l.length + 20 := by
  unfold backE
  rcases boxE l with _ | p
  · simp
  · simp only
    rcases endI es p with _ | ⟨a, q⟩
    · simp
    · have := lpL_len' a q
      simp only
      omega

/-- Lines that lie behind each other, from some place of a block on. -/
def RdL (w : World) (v : Value) (xs : List (List UInt8)) : Prop := ∃ ao cap, v = .slice ao xs.length cap ∧ xs.length ≤ cap ∧ (0 < xs.length → ∃ g off, ao = some ⟨g, off, none⟩ ∧ ∀ k (hk : k < xs.length), w.cell? ⟨g, off + k, none⟩ = some (strV xs[k]) ∧ g < w.heap.size)

set_option maxRecDepth 100000 in
set_option maxHeartbeats 3200000 in
theorem specLines7_some (v1 v2 : Value) (es : List (Int × Int)) (xs : List (List UInt8)) (w : World) (hn : es.length ≤ 4194304) (hx : ∀ x ∈ xs, x.length ≤ 120) (hk : xs.length ≤ 121) (ht : TabAt w v1 es) (hl : RdL w v2 xs) :
    Calls Tryz.prog 154 #[.agg #[v1], v2] w fun e w' => ∃ o : ByteArray, e = .returned (.string o) ∧ o.size ≤ 17061 ∧ Below w.heap.size w w' := by
  have HT := Lib.hid ht
  obtain ⟨ad, cap, rfl, hcap, hr⟩ := ht
  obtain ⟨ao, cl, rfl, hcl, hrow⟩ := hl
  have HR := Lib.hid hrow
  have HX := Lib.hid hx
  have HB : Hid (∀ y : List UInt8, y.length ≤ 120 → ∀ w', Below w.heap.size w w' → Calls Tryz.prog 125 #[.agg #[.slice ad es.length cap], strV y] w' fun e w'' => ∃ z : ByteArray, e = .returned (.string z) ∧ z.size ≤ 140 ∧ Below w'.heap.size w' w'') := fun y hy w' h => by
    refine (specBack_any _ es ⟨y.toArray⟩ w' hn (by show y.toArray.size ≤ _; simp; omega) (HT.out.below h)).mono ?_
    rintro e w'' ⟨rfl, b⟩
    refine ⟨_, rfl, ?_, b⟩
    have := backE_len es y
    show (backE es y).toArray.size ≤ _
    simp
    omega
  obtain ⟨n, hnn⟩ : ∃ n, n = xs.length := ⟨_, rfl⟩
  have HN := Lib.hid hnn
  rw [← hnn] at hcl hk ⊢
  obtain ⟨m, hm⟩ : ∃ m, m = es.length := ⟨_, rfl⟩
  rw [← hm] at HB ⊢
  clear hx hrow hr hcap hnn hm HT hn
  go_enter Tryz.func154, Tryz.ntmps154
  have B0 : Hid (Below w.heap.size w (w.alloc (.cells #[.slice ad m cap] 26))) := (Below.refl _ _).alloc (Nat.le_refl _) _
  have c0 : (w.alloc (.cells #[.slice ad m cap] 26)).cell? ⟨w.heap.size, 0, none⟩ = some (.slice ad m cap) := (cell_new w _ _ 0).1
  obtain ⟨W, hW⟩ : ∃ W, W = w.alloc (.cells #[.slice ad m cap] 26) := ⟨_, rfl⟩
  go_wp2_with fail
  rw [← hW]
  rw [← hW] at B0 c0
  have hsz : w.heap.size + 1 ≤ W.heap.size := by rw [hW]; simp
  clear hW
  go_loopw [5, 6] (fun o i wr => ∃ (k : Nat) (s : ByteArray), k ≤ n ∧ i = .int .i64 k ∧ o = .string s ∧ s.size ≤ k * 141 ∧ Below W.heap.size W wr) (fun _ i _ => n - (intOf i).toNat)
  case atStart => exact ⟨0, ⟨#[]⟩, Nat.zero_le _, rfl, rfl, by decide, Below.refl _ _⟩
  case round =>
    obtain ⟨k, s, hkn, rfl, rfl, hs, hb⟩ := hrel
    have HBW := Lib.hid hb
    have t0 : wr.cell? ⟨w.heap.size, 0, none⟩ = some (.slice ad m cap) := by rw [hb.cell (by show w.heap.size < _; omega)]; exact c0
    by_cases hlt : k < n
    · have hlt2 : k < xs.length := by rw [← HN.out]; exact hlt
      obtain ⟨g, off, rfl, hcell⟩ := HR.out (by omega)
      obtain ⟨q0, hg⟩ := hcell k hlt2
      obtain ⟨y, hy⟩ : ∃ y, y = xs[k] := ⟨_, rfl⟩
      have hyl : y.length ≤ 120 := by rw [hy]; exact HX.out _ (List.getElem_mem hlt2)
      rw [← hy] at q0
      have q1 : wr.cell? ⟨g, off + k, none⟩ = some (strV y) := by rw [(B0.out.trans (hb.mono B0.out.size)).cell (by exact hg)]; exact q0
      have KB : Hid (∀ w', Below wr.heap.size wr w' → w'.cell? ⟨g, off + k, none⟩ = some (strV y) ∧ w'.cell? ⟨w.heap.size, 0, none⟩ = some (.slice ad m cap)) := fun w' h => ⟨box_below q1 h, box_below t0 h⟩
      have BZ : Hid (∀ w', Below wr.heap.size wr w' → Below w.heap.size w w') := fun w' h => (B0.out.trans (HBW.out.mono B0.out.size)).trans (h.mono (by have := HBW.out.size; have := B0.out.size; omega))
      clear hb hy hcell q0
      have hs2 : s.size ≤ 17061 := by omega
      go_upto_region 4 with fail
      go_region_with (go_at_call 125; refine (HB.out y hyl _ (BZ.out _ (by first | exact Below.refl _ _ | exact (Below.refl _ _).drew))).mono ?_; rintro e w2 ⟨z, rfl, hz, b2⟩; have bb : Below wr.heap.size wr w2 := (by first | exact b2 | exact ((Below.refl _ wr).drew).trans b2); obtain ⟨q2, t2⟩ := KB.out _ bb)
      all_goals go_wp2_with fail
      all_goals go_roundw
      all_goals first
        | refine ⟨k + 1, _, by omega, by first | go_num | (congr 1) | (simp; omega), rfl, ?_, HBW.out.trans (bb.mono HBW.out.size)⟩; first | (simp; omega) | (show (s ++ z ++ (⟨#[59]⟩ : ByteArray)).size ≤ _; rw [ByteArray.size_append, ByteArray.size_append]; show s.size + z.size + 1 ≤ _; omega)
        | exact ⟨k + 1, _, by omega, by go_num, rfl, by simp; omega, HBW.out.trans (bb.mono HBW.out.size)⟩
        | exact ⟨k + 1, _, by omega, by go_num, rfl, by simp; omega, HBW.out.trans (bb.drew.mono HBW.out.size)⟩
        | (simp [intOf]; omega)
        | (trace_state; fail)
    · go_wp2_with fail
      go_ret
      exact ⟨s, rfl, by omega, B0.out.trans (HBW.out.mono B0.out.size)⟩

end Go.Proofs.YtgfkiljkpkfapaaGreatDoor
