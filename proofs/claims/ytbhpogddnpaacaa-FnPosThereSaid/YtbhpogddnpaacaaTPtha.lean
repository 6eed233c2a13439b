/- One span more behind some. Conditions: at most 2^22 spans, texts of at most 2^21 bytes, places of at most 2^22. (Several texts, joined: DrawPT, ILin, HaOk, RdV, Flat, Spans, SpMem, SpWith.) -/
import Derived.Test.YtbhpogddnpaacaaDrawPP
import Derived.IntWalk
import Derived.Deep.RegionHeld3
import Derived.Below
import Derived.Test.YtbhpogddnpaacaaGen
import Derived.Test.YtbhpogddnpaacaaLines
import Derived.Maps.AppendAt
import Derived.Deep.AppendLies

/- The two texts and the place that are drawn for the law of PosThere. Condition: the code lies in memory. -/
namespace Go.Proofs.Ytbhpogddnpaacaa
open Go.RowKit Go.Sort

theorem arr_four (k1 far v : Nat) (h1 : k1 < 130) (hf : far ≤ 2097152) (h : v < 4) : ∃ q : Int, ((#[.int .i64 (k1 : Int), .int .i64 (-1), .int .i64 9223372036854775807, .int .i64 (far : Int)]) : Array Value)[v]? = some (.int .i64 q) ∧ (Lit.int .i64 q).wf = true := by
  match v, h with
  | 0, _ => exact ⟨_, rfl, WalkArith.wf_i64 (by omega)⟩
  | 1, _ => exact ⟨_, rfl, WalkArith.wf_i64 (by omega)⟩
  | 2, _ => exact ⟨_, rfl, WalkArith.wf_i64 (by omega)⟩
  | 3, _ => exact ⟨_, rfl, WalkArith.wf_i64 (by omega)⟩
/-- The four numbers lie in block b. -/
def ArrAt (w : World) (b : Nat) (k1 far : Nat) : Prop := b < w.heap.size ∧ ∀ i, w.cell? ⟨b, i, none⟩ = ((#[.int .i64 (k1 : Int), .int .i64 (-1), .int .i64 9223372036854775807, .int .i64 (far : Int)]) : Array Value)[i]?
theorem ArrAt.new (w : World) (k1 far : Nat) (t : TypeId) : ArrAt (w.alloc (.cells #[.int .i64 (k1 : Int), .int .i64 (-1), .int .i64 9223372036854775807, .int .i64 (far : Int)] t)) w.heap.size k1 far :=
  ⟨by simp, fun i => (cell_new w _ t i).1⟩
theorem ArrAt.grown {w w' : World} {b k1 far R : Nat} (h : ArrAt w b k1 far) (hg : w.grownBy w' (some R)) (hne : b ≠ R) : ArrAt w' b k1 far :=
  ⟨Nat.lt_of_lt_of_le h.1 hg.size, fun i => by rw [(gcell hg h.1 hne i).1]; exact h.2 i⟩
theorem ArrAt.below {w w' : World} {b k1 far : Nat} (h : ArrAt w b k1 far) (hb : Below w.heap.size w w') : ArrAt w' b k1 far :=
  ⟨Nat.lt_of_lt_of_le h.1 hb.size, fun i => by rw [hb.cell (p := ⟨b, i, none⟩) h.1]; exact h.2 i⟩

set_option maxRecDepth 100000 in
set_option maxHeartbeats 3200000 in
theorem drawPosThere_any (ao : Option Addr) (n cap : Nat) (w : World) (h : BytesIn w ao n) (hn : n ≤ cap) :
    Calls Try.prog 5 #[.slice ao n cap] w fun e w' => ∃ s far q, e = .returned (.tuple #[.string (s : ByteArray), .string (far : ByteArray), .int .i64 q]) ∧ s.size ≤ 2097152 ∧ far.size ≤ 2097152 ∧ (Lit.int .i64 q).wf = true ∧ Below w.heap.size w w' := by
  have H := Lib.hid h
  clear h
  go_enter Try.func5, Try.ntmps5
  go_wp2_with fail
  (go_at_call 14; refine (drawPosPairs_any ao n cap _ H.out hn).mono ?_; rintro e w1 ⟨s, far, rfl, hs, hf, b1⟩)
  have BW := Lib.hid b1
  have HBI : Hid (∀ w', Below w.heap.size w w' → BytesIn w' ao n) := fun w' hb => H.out.below hb
  have HFR := Lib.hid hf
  clear b1 H
  go_upto_region 2 with fail
  go_region_law (first
    | (have gd := O2; clear gd; go_simp; go_at_call 16; refine (pick_any 4 _ R2 0 _ (by first | exact O2.out | exact rd_drew O2.out | exact rd_alloc O2.out _) (by omega)).mono ?_; rintro e wQ ⟨k2, rfl, hk2, gQ, rQ⟩; have hk4 : k2 < 4 := (by omega); have hk4i : (k2 : Int) < 4 := (by omega); have har := arr_four k1 far.size k2 hk1l HFR.out hk4; obtain ⟨q, hq, hqw⟩ := har; have BQ : Hid (Below w.heap.size w wQ) := (by first | exact B2.out.grown gQ B2.out.size (fun k e => by cases e; exact hR2w.out) | exact (B2.out.alloc B2.out.size _).grown gQ (B2.out.alloc B2.out.size _).size (fun k e => by cases e; exact hR2w.out)); (first | (have hx : wQ.cell? ⟨wP.heap.size, k2, none⟩ = some (.int .i64 q) := ((A2.out.grown gQ hPR2.out).2 k2).trans hq) | (have hx : wQ.cell? ⟨wO.heap.size, k2, none⟩ = some (.int .i64 q) := (((ArrAt.new wO k1 far.size 3).grown gQ hOR2.out).2 k2).trans hq) | (have hx : ∀ t, (wQ.alloc (.cells #[.int .i64 (k1 : Int), .int .i64 (-1), .int .i64 9223372036854775807, .int .i64 (far.size : Int)] t)).cell? ⟨wQ.heap.size, k2, none⟩ = some (.int .i64 q) := fun t => ((ArrAt.new wQ k1 far.size t).2 k2).trans hq)); have HQ := Lib.hid hq; clear rQ gQ hq)
    | (have gd := PD; clear gd; go_simp; go_at_call 15; refine (open_any ao n cap _ (by first | exact HBI.out _ BP.out | exact HBI.out _ BP.out.drew | exact HBI.out _ (BP.out.alloc BP.out.size _)) hn).mono ?_; rintro e wO ⟨R2, rfl, hR2, bO, rO⟩; (try simp only [World.size_alloc] at hR2); (first | (have B2 : Hid (Below w.heap.size w wO) := BP.out.trans (bO.mono BP.out.size)) | (have B2 : Hid (Below w.heap.size w wO) := (BP.out.alloc BP.out.size _).trans (bO.mono (BP.out.alloc BP.out.size _).size))); have hR2w : Hid (w.heap.size ≤ R2) := (by have := BP.out.size; show _ ≤ _; first | omega | exact Nat.le_trans this hR2); (first | (have A2 : Hid (ArrAt wO wP.heap.size k1 far.size) := (ArrAt.new wP k1 far.size 3).below bO; have hPR2 : Hid (wP.heap.size ≠ R2) := (by show _ ≠ _; omega)) | skip); have hOR2 : Hid (wO.heap.size ≠ R2) := (by have := rO.lt; show _ ≠ _; omega); have O2 := Lib.hid rO; clear bO rO)
    | (have gd := RO; clear gd; go_simp; go_at_call 16; refine (pick_any 130 _ R 0 _ (by first | exact RO.out | exact rd_drew RO.out) (by omega)).mono ?_; rintro e wP ⟨k1, rfl, hk1, gP, rP⟩; have hk1l : k1 < 130 := (by omega); have BP : Hid (Below w.heap.size w wP) := BO.out.grown gP BO.out.size (fun k e => by cases e; exact hRw.out); have PD : Hid True := trivial; clear gP rP)
    | (go_simp; go_at_call 15; refine (open_any ao n cap _ (by first | exact HBI.out _ BW.out | exact HBI.out _ BW.out.drew) hn).mono ?_; rintro e wX ⟨R, rfl, hR, bX, rX⟩; have BO : Hid (Below w.heap.size w wX) := BW.out.drew.trans (bX.mono BW.out.drew.size); have hRw : Hid (w.heap.size ≤ R) := Nat.le_trans BW.out.drew.size hR; have RO := Lib.hid rX; clear bX rX))
  all_goals
    clear HBI
    go_wp2_with fail
    first
      | exact bodyPost_ret (v := .tuple #[.string s, .string far, .int .i64 q]) (by simp [results, Try.results5, go_sem]) rfl ⟨s, far, q, rfl, hs, hf, hqw, BQ.out⟩
      | exact bodyPost_ret (v := .tuple #[.string s, .string far, .int .i64 q]) (by simp [results, Try.results5, go_sem]) rfl ⟨s, far, q, rfl, hs, hf, hqw, BQ.out.alloc BQ.out.size _⟩

end Go.Proofs.Ytbhpogddnpaacaa

/- LinOk of the program, at every text. No condition. -/
namespace Go.Proofs.Ytbhpogddnpaacaa
open Go.RowKit

set_option maxRecDepth 100000 in
set_option maxHeartbeats 800000 in
theorem implByte_any (c : UInt8) (w : World) :
    Calls Try.prog 41 #[.int .u8 (c.toNat : Int)] w fun e w' => e = .returned (.bool (byteB c)) ∧ w = w' := by
  by_cases h1 : 97 ≤ c.toNat <;> by_cases h2 : c.toNat ≤ 122 <;> by_cases h3 : 48 ≤ c.toNat <;> by_cases h4 : c.toNat ≤ 57 <;> by_cases h5 : c.toNat = 32 <;>
    first
    | (exfalso; omega)
    | (have h6 : ((c.toNat : Int) == 32) = decide (c.toNat = 32) := by (rw [Bool.eq_iff_iff]; simp; omega)
       simp only [h5, decide_true, decide_false] at h6
       go_enter Try.func41, Try.ntmps41
       go_wp2
       go_ret
       exact ⟨by (simp [byteB, h1, h2, h3, h4, h5] <;> omega), rfl⟩)

set_option maxRecDepth 100000 in
set_option maxHeartbeats 800000 in
theorem implLin_all (s : ByteArray) (w : World) :
    Calls Try.prog 22 #[.string s] w fun e w' => e = .returned (.bool (linB s.data.toList)) ∧ w = w' := by
  by_cases h16 : 16 < s.size
  · go_enter Try.func22, Try.ntmps22
    go_wp2_with fail
    go_ret
    exact ⟨ret_bool (by unfold linB; rw [len_list, decide_eq_false (by omega)]; rfl), rfl⟩
  · go_enter Try.func22, Try.ntmps22
    go_wp2_with fail
    go_loop [9] (fun i => ∃ k : Nat, k ≤ s.size ∧ i = .int .i64 k ∧ (∀ c ∈ s.data.toList.take k, byteB c = true)) (fun i => s.size - (intOf i).toNat)
    case atStart => exact ⟨0, Nat.zero_le _, rfl, by simp⟩
    case round =>
      obtain ⟨k, hk, rfl, hd⟩ := hrel
      have HD := Lib.hid hd
      clear hd
      by_cases hlt : k < s.size
      · have HT : Hid (s.data.toList.take (k + 1) = s.data.toList.take k ++ [s[k]]) := take_snoc s k hlt
        by_cases hb : byteB s[k] = true
        · have HB := Lib.hid hb
          go_wp2_with (go_at_call 41; refine (implByte_any _ _).mono ?_; rintro e w' ⟨rfl, rfl⟩)
          go_round
          case rel =>
            refine ⟨k + 1, by omega, by go_num, ?_⟩
            rw [HT.out]; intro c hc
            rcases List.mem_append.1 hc with hc | hc
            · exact HD.out c hc
            · simp at hc; subst hc; exact HB.out
          case measure => simp [intOf]; omega
        · have HB : Hid (linB s.data.toList = false) := by
            unfold linB
            have : s.data.toList.all byteB = false := by
              rw [List.all_eq_false]; exact ⟨s[k], mem_at s k hlt, hb⟩
            show (_ && _) = false
            rw [this]; simp
          go_wp2_with (go_at_call 41; refine (implByte_any _ _).mono ?_; rintro e w' ⟨rfl, rfl⟩)
          go_ret
          exact ⟨ret_bool HB.out.symm, rfl⟩
      · have HL : Hid (linB s.data.toList = true) := by
          have he : s.data.toList.take k = s.data.toList := List.take_of_length_le (by rw [len_list]; omega)
          show (_ && _) = true
          rw [len_list, decide_eq_true (by omega), ← he, List.all_eq_true.2 HD.out]; rfl
        go_wp2_with fail
        go_ret
        exact ⟨ret_bool HL.out.symm, rfl⟩

theorem implLin_any (s : ByteArray) (w : World) (_ : s.size ≤ 281474976710656) :
    Calls Try.prog 22 #[.string s] w fun e w' => e = .returned (.bool (linB s.data.toList)) ∧ w = w' := implLin_all s w

end Go.Proofs.Ytbhpogddnpaacaa

/- That a line of one letter is a line, which each law asks. No condition. -/
namespace Go.Proofs.Ytbhpogddnpaacaa
open Go.RowKit

theorem haOk_any (w : World) :
    Calls Try.prog 9 #[] w fun e w' => e = .returned (.bool true) ∧ w = w' := by
  have hl : linB (⟨#[97]⟩ : ByteArray).data.toList = true := by decide
  have HL : Hid (∀ w, Calls Try.prog 22 #[.string ⟨#[97]⟩] w fun e w' => e = .returned (.bool true) ∧ w = w') := fun w => by
    have := implLin_all ⟨#[97]⟩ w; rw [hl] at this; exact this
  go_enter Try.func9, Try.ntmps9
  go_wp2_with (go_at_call 22; refine (HL.out _).mono ?_; rintro e w' ⟨rfl, rfl⟩)
  go_ret
  exact ⟨rfl, rfl⟩

end Go.Proofs.Ytbhpogddnpaacaa

/- What a list of texts reads as, in a world. No condition. -/
namespace Go.Proofs.Ytbhpogddnpaacaa
open Go.RowKit

/-- The cells of a row, none of them frozen. -/
def RowAt (w : World) (g : Nat) (xs : List Value) : Prop := ∀ i (hi : i < xs.length), w.cell? ⟨g, i, none⟩ = some xs[i] ∧ w.frozen? ⟨g, i, none⟩ = false
theorem RowAt.below {w w' : World} {B g : Nat} {xs : List Value} (h : RowAt w g xs) (hb : Below B w w') (hg : g < B) : RowAt w' g xs :=
  fun i hi => ⟨(hb.cell (p := ⟨g, i, none⟩) hg).trans (h i hi).1, (hb.frozen (p := ⟨g, i, none⟩) hg).trans (h i hi).2⟩
theorem RowAt.lt {w : World} {g : Nat} {xs : List Value} (h : RowAt w g xs) (hn : 0 < xs.length) : g < w.heap.size := World.block_lt_of_cell? w _ (h 0 hn).1
theorem addr_ne {g i j : Nat} (h : i ≠ j) : (⟨g, i, none⟩ : Addr) ≠ ⟨g, j, none⟩ := by intro e; injection e with _ e2; exact h e2
theorem RowAt.set {w : World} {g i : Nat} {xs : List Value} (h : RowAt w g xs) (hi : i < xs.length) (u : Value) : RowAt (w.setCell ⟨g, i, none⟩ u) g (xs.set i u) := by
  intro j hj
  have hj' : j < xs.length := by simpa using hj
  refine ⟨?_, by rw [World.frozen?_setCell]; exact (h j hj').2⟩
  by_cases e : i = j
  · subst e
    rw [World.cell?_setCell_same _ _ _ (h i hi).1]; simp
  · rw [World.cell?_setCell_other _ _ _ u (addr_ne e), (h j hj').1]
    simp [e]
/-- A slice reads as these cells. -/
def RdV (w : World) (v : Value) (xs : List Value) : Prop := ∃ a cap, v = .slice a xs.length cap ∧ (0 < xs.length → ∃ g, a = some ⟨g, 0, none⟩ ∧ RowAt w g xs)
theorem RdV.below {w w' : World} {v : Value} {xs : List Value} (h : RdV w v xs) (hb : Below w.heap.size w w') : RdV w' v xs := by
  obtain ⟨a, cap, rfl, hr⟩ := h
  refine ⟨a, cap, rfl, fun hn => ?_⟩
  obtain ⟨g, rfl, hrow⟩ := hr hn
  exact ⟨g, rfl, hrow.below hb (hrow.lt hn)⟩
theorem RdV.of_own {w : World} {B n : Nat} {e : TypeId} {v : Value} {xs : List Value} (h : w.ownsRow B e 1 v n xs) : RdV w v xs ∧ xs.length = n := by
  have hl : xs.length = n := by rw [h.1]; omega
  obtain ⟨a, cap, e⟩ := own_form h
  refine ⟨⟨a, cap, by rw [e, hl], fun hn => ?_⟩, hl⟩
  obtain ⟨g, cap', e', _, _, _, hc⟩ := own_cells h (by omega)
  rw [e] at e'
  simp at e'
  exact ⟨g, e'.1, hc⟩
theorem eq_cell {w : World} {g i : Nat} {xs : List Value} (h : RowAt w g xs) (hi : i < xs.length) : w.cell? ⟨g, i, none⟩ = some xs[i] := (h i hi).1

end Go.Proofs.Ytbhpogddnpaacaa

/- Lists of elements that take several cells each, in a world. No condition. -/
namespace Go.Proofs.Ytbhpogddnpaacaa
open Go.RowKit

/-- The cells of a list of elements. -/
def flatC {α : Type} (c : α → List Value) (xs : List α) : List Value := (xs.map c).flatten
theorem flatC_app {α : Type} (c : α → List Value) (xs ys : List α) : flatC c (xs ++ ys) = flatC c xs ++ flatC c ys := by simp [flatC]
theorem flatC_len {α : Type} {c : α → List Value} {k : Nat} (hk : ∀ x, (c x).length = k) (xs : List α) : (flatC c xs).length = xs.length * k := by
  induction xs with
  | nil => simp [flatC]
  | cons x r ih => simp [flatC] at ih ⊢; rw [ih, hk, Nat.add_mul]; omega
theorem flatC_one {α : Type} {c : α → List Value} (h : ∀ x, ∀ u ∈ c x, u.oneCell' = true) (xs : List α) : ∀ u ∈ flatC c xs, u.oneCell' = true := by
  intro u hu
  simp only [flatC, List.mem_flatten, List.mem_map] at hu
  obtain ⟨l, ⟨x, _, rfl⟩, hu⟩ := hu
  exact h x u hu
theorem flatC_at {α : Type} {c : α → List Value} {k : Nat} (hk : ∀ x, (c x).length = k) (xs : List α) (i : Nat) (hi : i < xs.length) (j : Nat) (hj : j < k) : (flatC c xs)[i * k + j]? = (c xs[i])[j]? := by
  induction xs generalizing i with
  | nil => simp at hi
  | cons x r ih =>
    cases i with
    | zero =>
      simp only [flatC, List.map_cons, List.flatten_cons, Nat.zero_mul, Nat.zero_add, List.getElem_cons_zero]
      exact List.getElem?_append_left (by rw [hk]; exact hj)
    | succ i =>
      have := ih i (by simpa using hi)
      simp only [flatC, List.map_cons, List.flatten_cons, List.getElem_cons_succ] at this ⊢
      rw [List.getElem?_append_right (by rw [hk, Nat.add_mul]; omega), ← this]
      congr 1
      rw [hk, Nat.add_mul]; omega
/-- A slice reads as these elements. -/
def RdC {α : Type} (c : α → List Value) (w : World) (v : Value) (xs : List α) : Prop := ∃ a cap, v = .slice a xs.length cap ∧ xs.length ≤ cap ∧ (0 < xs.length → ∃ g, a = some ⟨g, 0, none⟩ ∧ RowAt w g (flatC c xs))
theorem RdC.below {α : Type} {c : α → List Value} {k : Nat} (hk : ∀ x, (c x).length = k) (h0 : 0 < k) {w w' : World} {v : Value} {xs : List α} (h : RdC c w v xs) (hb : Below w.heap.size w w') : RdC c w' v xs := by
  obtain ⟨a, cap, rfl, hc, hr⟩ := h
  refine ⟨a, cap, rfl, hc, fun hn => ?_⟩
  obtain ⟨g, rfl, hrow⟩ := hr hn
  exact ⟨g, rfl, hrow.below hb (hrow.lt (by rw [flatC_len hk]; exact Nat.mul_pos hn h0))⟩
theorem RowAt.of_own {w : World} {B n k : Nat} {e : TypeId} {v : Value} {xs : List Value} (h : w.ownsRow B e k v n xs) (hn : 0 < xs.length) : ∃ g cap, v = .slice (some ⟨g, 0, none⟩) n cap ∧ n ≤ cap ∧ B ≤ g ∧ g < w.heap.size ∧ RowAt w g xs := by
  rcases h.2 with ⟨rfl, h0⟩ | ⟨g, cap, cur, rfl, hB, hg, h2, h3, hs, ht⟩
  · have := h.1; rw [h0] at this; omega
  · refine ⟨g, cap, rfl, h2, hB, (Array.getElem?_eq_some_iff.1 hg).1, fun i hi => ?_⟩
    obtain ⟨l⟩ := cur
    have hlen := h.1
    have f0 : xs[i]? = some xs[i] := List.getElem?_eq_getElem hi
    obtain ⟨u, hu⟩ : ∃ u, u = xs[i] := ⟨_, rfl⟩
    rw [← hu] at f0 ⊢
    clear hu
    rw [← ht] at f0
    rw [List.getElem?_take_of_lt (by omega)] at f0
    exact ⟨by simp [World.cell?, hg]; exact f0, by simp [World.frozen?, hg]⟩
theorem RdC.of_own {α : Type} {c : α → List Value} {k : Nat} (hk : ∀ x, (c x).length = k) (h0 : 0 < k) {w : World} {B : Nat} {e : TypeId} {v : Value} {xs : List α} (h : w.ownsRow B e k v xs.length (flatC c xs)) : RdC c w v xs := by
  by_cases hn : 0 < xs.length
  · obtain ⟨g, cap, rfl, hc, _, _, hr⟩ := RowAt.of_own h (by rw [flatC_len hk]; exact Nat.mul_pos hn h0)
    exact ⟨_, cap, rfl, hc, fun _ => ⟨g, rfl, hr⟩⟩
  · rcases h.2 with ⟨rfl, h1⟩ | ⟨g, cap, cur, rfl, hB, hg, h2, _⟩
    · exact ⟨none, 0, by rw [h1], by omega, fun h => absurd h hn⟩
    · exact ⟨_, cap, rfl, h2, fun h => absurd h hn⟩
/-- The j-th cell of the i-th element. -/
theorem RowAt.elem {α : Type} {c : α → List Value} {k : Nat} (hk : ∀ x, (c x).length = k) {w : World} {g : Nat} {xs : List α} (h : RowAt w g (flatC c xs)) (i : Nat) (hi : i < xs.length) (j : Nat) (hj : j < k) (u : Value) (hu : (c xs[i])[j]? = some u) : w.cell? ⟨g, i * k + j, none⟩ = some u ∧ w.frozen? ⟨g, i * k + j, none⟩ = false := by
  have hl : i * k + j < (flatC c xs).length := by
    rw [flatC_len hk]
    have : (i + 1) * k ≤ xs.length * k := Nat.mul_le_mul_right _ hi
    rw [Nat.add_mul] at this
    omega
  obtain ⟨h1, h2⟩ := h _ hl
  refine ⟨?_, h2⟩
  rw [h1, ← hu, ← flatC_at hk xs i hi j hj, List.getElem?_eq_getElem hl]

end Go.Proofs.Ytbhpogddnpaacaa

/- Spans of lines side by side, as data. No condition. -/
namespace Go.Proofs.Ytbhpogddnpaacaa
open Go.RowKit

/-- A line and what it is on the other side. -/
def insL (l : List (List UInt8 × List UInt8)) : Nat := (l.map fun p => p.1.length + 1).sum
def outsL (l : List (List UInt8 × List UInt8)) : Nat := (l.map fun p => p.2.length + 1).sum
theorem insL_app (a b : List (List UInt8 × List UInt8)) : insL (a ++ b) = insL a + insL b := by simp [insL]
theorem outsL_app (a b : List (List UInt8 × List UInt8)) : outsL (a ++ b) = outsL a + outsL b := by simp [outsL]
theorem insL_succ {l : List (List UInt8 × List UInt8)} {k : Nat} (h : k < l.length) : insL (l.take (k + 1)) = insL (l.take k) + (l[k].1.length + 1) := by
  rw [List.take_succ_eq_append_getElem h, insL_app]; simp [insL]
theorem outsL_succ {l : List (List UInt8 × List UInt8)} {k : Nat} (h : k < l.length) : outsL (l.take (k + 1)) = outsL (l.take k) + (l[k].2.length + 1) := by
  rw [List.take_succ_eq_append_getElem h, outsL_app]; simp [outsL]
theorem insL_mono (l : List (List UInt8 × List UInt8)) {a b : Nat} (h : a ≤ b) : insL (l.take a) ≤ insL (l.take b) := by
  obtain ⟨t, ht⟩ := (List.take_prefix_take_left h : l.take a <+: l.take b)
  rw [← ht, insL_app]; omega
theorem outsL_mono (l : List (List UInt8 × List UInt8)) {a b : Nat} (h : a ≤ b) : outsL (l.take a) ≤ outsL (l.take b) := by
  obtain ⟨t, ht⟩ := (List.take_prefix_take_left h : l.take a <+: l.take b)
  rw [← ht, outsL_app]; omega
theorem insL_le (l : List (List UInt8 × List UInt8)) (a : Nat) : insL (l.take a) ≤ insL l := by
  have := insL_mono l (Nat.le_max_left a l.length)
  rw [List.take_of_length_le (Nat.le_max_right a l.length)] at this
  exact this
theorem outsL_le (l : List (List UInt8 × List UInt8)) (a : Nat) : outsL (l.take a) ≤ outsL l := by
  have := outsL_mono l (Nat.le_max_left a l.length)
  rw [List.take_of_length_le (Nat.le_max_right a l.length)] at this
  exact this
theorem sum_flat (xs : List (List UInt8)) : ((xs.map (· ++ [59])).flatten).length = (xs.map fun x => x.length + 1).sum := by
  induction xs with
  | nil => rfl
  | cons x r ih => simp [ih]; omega
theorem lines_sum (s : List UInt8) : ((linesL s).map fun x => x.length + 1).sum ≤ s.length := by
  have h : (flatL (linesF s)).length = s.length := by rw [flatL_lines]
  unfold flatL at h
  rw [List.length_append, sum_flat] at h
  unfold linesL
  omega
theorem zip_ins (xs ys : List (List UInt8)) : insL (xs.zip ys) ≤ (xs.map fun x => x.length + 1).sum := by
  induction xs generalizing ys with
  | nil => simp [insL]
  | cons x r ih =>
    cases ys with
    | nil => simp [insL]
    | cons y t => have := ih t; simp [insL] at this ⊢; omega
theorem zip_outs (xs ys : List (List UInt8)) : outsL (xs.zip ys) ≤ (ys.map fun x => x.length + 1).sum := by
  induction xs generalizing ys with
  | nil => simp [outsL]
  | cons x r ih =>
    cases ys with
    | nil => simp [outsL]
    | cons y t => have := ih t; simp [outsL] at this ⊢; omega

/-- A span: from, to, out at, out to, plain. -/
def spAt (l : List (List UInt8 × List UInt8)) (k : Nat) : Nat × Nat × Nat × Nat × Bool :=
  (insL (l.take k), insL (l.take (k + 1)), outsL (l.take k), outsL (l.take (k + 1)), decide ((l[k]?.getD ([], [])).2 = (l[k]?.getD ([], [])).1))
def spansL (l : List (List UInt8 × List UInt8)) : List (Nat × Nat × Nat × Nat × Bool) := (List.range l.length).map (spAt l)
theorem spansL_len (l : List (List UInt8 × List UInt8)) : (spansL l).length = l.length := by simp [spansL]
theorem spansL_at (l : List (List UInt8 × List UInt8)) (k : Nat) (h : k < (spansL l).length) : (spansL l)[k] = spAt l k := by simp [spansL]
theorem spansL_succ {l : List (List UInt8 × List UInt8)} {k : Nat} (h : k < l.length) : (spansL l).take (k + 1) = (spansL l).take k ++ [spAt l k] := by
  rw [List.take_succ_eq_append_getElem (by rw [spansL_len]; exact h), spansL_at]
/-- The cells of a span. -/
def spC (p : Nat × Nat × Nat × Nat × Bool) : List Value := [.int .i64 p.1, .int .i64 p.2.1, .int .i64 p.2.2.1, .int .i64 p.2.2.2.1, .bool p.2.2.2.2]
theorem spC_len (p : Nat × Nat × Nat × Nat × Bool) : (spC p).length = 5 := rfl
theorem spC_one (p : Nat × Nat × Nat × Nat × Bool) : ∀ u ∈ spC p, u.oneCell' = true := by
  intro u hu
  simp [spC] at hu
  rcases hu with rfl | rfl | rfl | rfl | rfl <;> rfl
/-- A line lies here. -/
def pairsL (s far : List UInt8) : List (List UInt8 × List UInt8) := (linesL s).zip (linesL far)
theorem pairsL_ins (s far : List UInt8) : insL (pairsL s far) ≤ s.length := Nat.le_trans (zip_ins _ _) (lines_sum s)
theorem pairsL_outs (s far : List UInt8) : outsL (pairsL s far) ≤ far.length := Nat.le_trans (zip_outs _ _) (lines_sum far)
theorem insL_ge (l : List (List UInt8 × List UInt8)) : l.length ≤ insL l := by
  induction l with
  | nil => simp [insL]
  | cons x r ih => simp [insL] at ih ⊢; omega

/-- How many of n places are not yet past what is looked for. -/
theorem count_at (p : Nat → Bool) (n k : Nat) (hk : k ≤ n) (h0 : ∀ i, i < k → p i = false) (h1 : ∀ i, k ≤ i → i < n → p i = true) : (List.range n).countP (fun i => !p i) = k := by
  obtain ⟨d, rfl⟩ : ∃ d, n = k + d := ⟨n - k, by omega⟩
  rw [List.range_add, List.countP_append, List.countP_eq_length.2, List.countP_eq_zero.2]
  · simp
  · intro x hx
    simp only [List.mem_map, List.mem_range] at hx
    obtain ⟨y, hy, rfl⟩ := hx
    rw [h1 (k + y) (by omega) (by omega)]; simp
  · intro x hx
    rw [List.mem_range] at hx
    rw [h0 x hx]; rfl
/-- Which line stands at a place here, and which one at a place there. -/
def pIn (l : List (List UInt8 × List UInt8)) (a : Int) (i : Nat) : Bool := decide (a < ((insL (l.take (i + 1)) : Nat) : Int))
def pOut (l : List (List UInt8 × List UInt8)) (a : Int) (i : Nat) : Bool := decide (a < ((outsL (l.take (i + 1)) : Nat) : Int))
theorem pIn_mono (l : List (List UInt8 × List UInt8)) (a : Int) (n : Nat) : ∀ i j, i ≤ j → j < n → pIn l a i = true → pIn l a j = true := by
  intro i j h _ h1
  have := insL_mono l (show i + 1 ≤ j + 1 by omega)
  simp [pIn] at h1 ⊢; omega
theorem pOut_mono (l : List (List UInt8 × List UInt8)) (a : Int) (n : Nat) : ∀ i j, i ≤ j → j < n → pOut l a i = true → pOut l a j = true := by
  intro i j h _ h1
  have := outsL_mono l (show i + 1 ≤ j + 1 by omega)
  simp [pOut] at h1 ⊢; omega
def kIn (l : List (List UInt8 × List UInt8)) (a : Int) : Nat := (List.range l.length).countP (fun i => !pIn l a i)
def kOut (l : List (List UInt8 × List UInt8)) (a : Int) : Nat := (List.range l.length).countP (fun i => !pOut l a i)
theorem kIn_le (l : List (List UInt8 × List UInt8)) (a : Int) : kIn l a ≤ l.length := by
  have := List.countP_le_length (p := fun i => !pIn l a i) (l := List.range l.length)
  simpa [kIn] using this
theorem kOut_le (l : List (List UInt8 × List UInt8)) (a : Int) : kOut l a ≤ l.length := by
  have := List.countP_le_length (p := fun i => !pOut l a i) (l := List.range l.length)
  simpa [kOut] using this
theorem kIn_at {l : List (List UInt8 × List UInt8)} {a : Int} {k : Nat} (hk : k < l.length) (h0 : ∀ i, i < k → pIn l a i = false) (h1 : pIn l a k = true) : kIn l a = k :=
  count_at _ _ _ (by omega) h0 (fun i h h2 => pIn_mono l a l.length k i h h2 h1)
theorem kOut_at {l : List (List UInt8 × List UInt8)} {a : Int} {k : Nat} (hk : k < l.length) (h0 : ∀ i, i < k → pOut l a i = false) (h1 : pOut l a k = true) : kOut l a = k :=
  count_at _ _ _ (by omega) h0 (fun i h h2 => pOut_mono l a l.length k i h h2 h1)
theorem kIn_all {l : List (List UInt8 × List UInt8)} {a : Int} (h0 : ∀ i, i < l.length → pIn l a i = false) : kIn l a = l.length := count_at _ _ _ (Nat.le_refl _) h0 (fun i h h2 => by omega)
theorem kOut_all {l : List (List UInt8 × List UInt8)} {a : Int} (h0 : ∀ i, i < l.length → pOut l a i = false) : kOut l a = l.length := count_at _ _ _ (Nat.le_refl _) h0 (fun i h h2 => by omega)
/-- PosOut by these lines. -/
def outI (l : List (List UInt8 × List UInt8)) (a : Int) : Int := ((outsL (l.take (kIn l a)) : Nat) : Int)
/-- PosBack and PosThere by these lines. -/
def backI (l : List (List UInt8 × List UInt8)) (a : Int) : Int :=
  if kOut l a < l.length ∧ (spAt l (kOut l a)).2.2.2.2 = true ∧ ((outsL (l.take (kOut l a)) : Nat) : Int) < a then ((insL (l.take (kOut l a)) : Nat) : Int) + a - ((outsL (l.take (kOut l a)) : Nat) : Int)
  else ((insL (l.take (kOut l a)) : Nat) : Int)

end Go.Proofs.Ytbhpogddnpaacaa

/- Spans in memory: the last one of some, and one more behind them. Condition: at most 2^22 spans. -/
namespace Go.Proofs.Ytbhpogddnpaacaa
open Go.RowKit

theorem infoSpan : (Try.prog.info? 29).map (fun i => (i.zero, i.size, i.bytes)) = some (some (.agg #[.int .i64 0, .int .i64 0, .int .i64 0, .int .i64 0, .bool false]), 5, 40) := by kernel_rfl
/-- A list of spans of the call's own. -/
def OwnSp (w : World) (B : Nat) (v : Value) (xs : List (Nat × Nat × Nat × Nat × Bool)) : Prop := w.ownsRow B 29 5 v xs.length (flatC spC xs)
def RdSp (w : World) (v : Value) (xs : List (Nat × Nat × Nat × Nat × Bool)) : Prop := RdC spC w v xs
theorem OwnSp.rd {w : World} {B : Nat} {v : Value} {xs : List (Nat × Nat × Nat × Nat × Bool)} (h : OwnSp w B v xs) : RdSp w v xs := RdC.of_own spC_len (by decide) h
theorem RdSp.below {w w' : World} {v : Value} {xs : List (Nat × Nat × Nat × Nat × Bool)} (h : RdSp w v xs) (hb : Below w.heap.size w w') : RdSp w' v xs := RdC.below spC_len (by decide) h hb
theorem OwnSp.below {w w' : World} {B : Nat} {v : Value} {xs : List (Nat × Nat × Nat × Nat × Bool)} (h : OwnSp w B v xs) (hb : Below w.heap.size w w') : OwnSp w' B v xs := by
  refine ⟨h.1, ?_⟩
  rcases h.2 with h2 | ⟨g, cap, cur, hv, hB, hg, h2, h3, hs, ht⟩
  · exact Or.inl h2
  · exact Or.inr ⟨g, cap, cur, hv, hB, (hb.block g (Array.getElem?_eq_some_iff.1 hg).1).trans hg, h2, h3, hs, ht⟩
theorem OwnSp.mono {w : World} {B B' : Nat} {v : Value} {xs : List (Nat × Nat × Nat × Nat × Bool)} (h : OwnSp w B v xs) (hB : B' ≤ B) : OwnSp w B' v xs := by
  refine ⟨h.1, ?_⟩
  rcases h.2 with h2 | ⟨g, cap, cur, hv, hb, r⟩
  · exact Or.inl h2
  · exact Or.inr ⟨g, cap, cur, hv, by omega, r⟩
theorem OwnSp.form {w : World} {B : Nat} {v : Value} {xs : List (Nat × Nat × Nat × Nat × Bool)} (h : OwnSp w B v xs) : ∃ a cap, v = .slice a xs.length cap := by
  obtain ⟨a, cap, e, _⟩ := h.rd
  exact ⟨a, cap, e⟩
theorem OwnSp.nil (w : World) (B : Nat) : OwnSp w B (.slice none 0 0) [] := by
  unfold OwnSp
  exact ⟨rfl, Or.inl ⟨rfl, rfl⟩⟩
/-- The last span; nothing, if there are none. -/
def lastS (xs : List (Nat × Nat × Nat × Nat × Bool)) : Nat × Nat × Nat × Nat × Bool := xs.getLast?.getD (0, 0, 0, 0, false)

set_option maxRecDepth 100000 in
set_option maxHeartbeats 1600000 in
theorem last_any (v : Value) (xs : List (Nat × Nat × Nat × Nat × Bool)) (w : World) (hn : xs.length ≤ 4194304) (h : RdSp w v xs) :
    Calls Try.prog 35 #[v] w fun e w' => e = .returned (.agg #[.int .i64 (lastS xs).1, .int .i64 (lastS xs).2.1, .int .i64 (lastS xs).2.2.1, .int .i64 (lastS xs).2.2.2.1, .bool (lastS xs).2.2.2.2]) ∧ Below w.heap.size w w' := by
  obtain ⟨a, cap, rfl, hcap, hr⟩ := h
  rcases Nat.eq_zero_or_pos xs.length with h0 | h0
  · have he : xs = [] := List.eq_nil_of_length_eq_zero h0
    subst he
    clear hr h0 hcap hn
    go_enter Try.func35, Try.ntmps35
    go_wp2_with fail
    refine bodyPost_ret (v := .agg #[.int .i64 0, .int .i64 0, .int .i64 0, .int .i64 0, .bool false]) (by simp [results, Try.results35, go_sem]) rfl ⟨rfl, ?_⟩
    exact (Below.refl _ _).alloc (Nat.le_refl _) _
  · obtain ⟨g, rfl, hrow⟩ := hr h0
    obtain ⟨k, hk⟩ : ∃ k, xs.length = k + 1 := ⟨xs.length - 1, by omega⟩
    have hlt : k < xs.length := by omega
    have hl : lastS xs = xs[k] := by
      unfold lastS
      rw [List.getLast?_eq_getElem?, show xs.length - 1 = k by omega, List.getElem?_eq_getElem hlt]; rfl
    obtain ⟨p, hp⟩ : ∃ p, p = xs[k] := ⟨_, rfl⟩
    have q0 := (hrow.elem spC_len k hlt 0 (by decide) (.int .i64 p.1) (by rw [← hp]; rfl)).1
    have q1 := (hrow.elem spC_len k hlt 1 (by decide) (.int .i64 p.2.1) (by rw [← hp]; rfl)).1
    have q2 := (hrow.elem spC_len k hlt 2 (by decide) (.int .i64 p.2.2.1) (by rw [← hp]; rfl)).1
    have q3 := (hrow.elem spC_len k hlt 3 (by decide) (.int .i64 p.2.2.2.1) (by rw [← hp]; rfl)).1
    have q4 := (hrow.elem spC_len k hlt 4 (by decide) (.bool p.2.2.2.2) (by rw [← hp]; rfl)).1
    have hg := World.block_lt_of_cell? w _ q0
    simp only [Nat.add_zero] at q0
    simp only at hg
    rw [hl, ← hp]
    obtain ⟨pf, pt, po, pu, pp⟩ := p
    simp only at q0 q1 q2 q3 q4 ⊢
    have K0 : ∀ o, (w.alloc o).cell? ⟨g, k * 5, none⟩ = some (.int .i64 pf) := fun o => by rw [cell_alloc_lt hg]; exact q0
    have K1 : ∀ o, (w.alloc o).cell? ⟨g, k * 5 + 1, none⟩ = some (.int .i64 pt) := fun o => by rw [cell_alloc_lt hg]; exact q1
    have K2 : ∀ o, (w.alloc o).cell? ⟨g, k * 5 + 2, none⟩ = some (.int .i64 po) := fun o => by rw [cell_alloc_lt hg]; exact q2
    have K3 : ∀ o, (w.alloc o).cell? ⟨g, k * 5 + 3, none⟩ = some (.int .i64 pu) := fun o => by rw [cell_alloc_lt hg]; exact q3
    have K4 : ∀ o, (w.alloc o).cell? ⟨g, k * 5 + 4, none⟩ = some (.bool pp) := fun o => by rw [cell_alloc_lt hg]; exact q4
    have hki : (xs.length : Int) - 1 = (k : Int) := by omega
    have hk0 : ((xs.length : Int) == 0) = false := by rw [beq_eq_false_iff_ne]; omega
    have hk2 : (k : Int) ≤ (cap : Int) := by omega
    have hk3 : (k : Int) < (xs.length : Int) := by omega
    clear hrow hr hp hl q0 q1 q2 q3 q4 hlt
    go_enter Try.func35, Try.ntmps35
    go_wp2_with fail
    refine bodyPost_ret (v := .agg #[.int .i64 pf, .int .i64 pt, .int .i64 po, .int .i64 pu, .bool pp]) (by simp [results, Try.results35, go_sem]) rfl ⟨rfl, ?_⟩
    exact (Below.refl _ _).alloc (Nat.le_refl _) _

end Go.Proofs.Ytbhpogddnpaacaa

/- One span more behind some. Conditions: at most 2^22 spans, texts of at most 2^21 bytes, places of at most 2^22. -/
namespace Go.Proofs.Ytbhpogddnpaacaa
open Go.RowKit

theorem str_beq (x y : List UInt8) : (((⟨x.toArray⟩ : ByteArray).toList) == ((⟨y.toArray⟩ : ByteArray).toList)) = decide (y = x) := by
  rw [Lib.toList_data, Lib.toList_data]
  by_cases h : y = x
  · subst h; simp
  · rw [decide_eq_false h]
    simp
    intro e; exact h e.symm

theorem lastS_take (l : List (List UInt8 × List UInt8)) {k : Nat} (h : k ≤ l.length) : (lastS ((spansL l).take k)).2.1 = insL (l.take k) ∧ (lastS ((spansL l).take k)).2.2.2.1 = outsL (l.take k) := by
  cases k with
  | zero => exact ⟨rfl, rfl⟩
  | succ k =>
    rw [spansL_succ (by omega)]
    unfold lastS
    simp only [List.getLast?_append, List.getLast?_singleton, Option.some_or, Option.getD_some]
    exact ⟨rfl, rfl⟩
theorem spAt_next {l : List (List UInt8 × List UInt8)} {k : Nat} (h : k < l.length) : spAt l k = (insL (l.take k), insL (l.take k) + l[k].1.length + 1, outsL (l.take k), outsL (l.take k) + l[k].2.length + 1, decide (l[k].2 = l[k].1)) := by
  unfold spAt
  rw [insL_succ h, outsL_succ h, List.getElem?_eq_getElem h]
  rfl

set_option maxRecDepth 100000 in
set_option maxHeartbeats 3200000 in
theorem with_any (B : Nat) (v : Value) (xs : List (Nat × Nat × Nat × Nat × Bool)) (x y : ByteArray) (w : World) (hn : xs.length ≤ 4194303) (hB : B ≤ w.heap.size) (ho : OwnSp w B v xs) (hx : x.size ≤ 2097152) (hy : y.size ≤ 2097152) (h1 : (lastS xs).2.1 ≤ 4194304) (h2 : (lastS xs).2.2.2.1 ≤ 4194304) :
    Calls Try.prog 21 #[v, .string x, .string y] w fun e w' => ∃ v', e = .returned v' ∧ OwnSp w' B v' (xs ++ [((lastS xs).2.1, (lastS xs).2.1 + x.size + 1, (lastS xs).2.2.2.1, (lastS xs).2.2.2.1 + y.size + 1, (x.toList == y.toList))]) ∧ Below B w w' := by
  obtain ⟨i0, hi, hz0, hz1, hz2⟩ := info_parts infoSpan
  have HL := Lib.hid (last_any v xs w (by omega) ho.rd)
  obtain ⟨a, cap, rfl⟩ := ho.form
  have HO := Lib.hid ho
  obtain ⟨⟨pf, pt, po, pu, pp⟩, hp⟩ : ∃ p, p = lastS xs := ⟨_, rfl⟩
  rw [← hp] at HL h1 h2 ⊢
  simp only at h1 h2 HL ⊢
  obtain ⟨q, hq⟩ : ∃ q, q = (x.toList == y.toList) := ⟨_, rfl⟩
  rw [← hq]
  have HQ := Lib.hid hq
  clear hp ho hq
  go_enter Try.func21, Try.ntmps21
  go_wp2_with fail
  (go_at_call 35; refine HL.out.mono ?_; rintro e w1 ⟨rfl, b1⟩; have B1 := Lib.hid b1; have O1 := Lib.hid (HO.out.below b1); have z1 := b1.size; clear b1 HL HO)
  go_wp2_with (at_builtin; refine wpList_append_own _ rfl (.tmp 10) (.tmp 31) 46 rfl B 29 i0 (.agg #[.int .i64 0, .int .i64 0, .int .i64 0, .int .i64 0, .bool false]) 5 40 Try.underlying46 hi hz0 hz1 hz2 rfl (by decide) _ _ _ rfl ((O1.out.alloc _).alloc _) ⟨w1.heap.size + 1, 0, none⟩ 1 1 [.int .i64 pt, .int .i64 ((pt : Int) + x.size + 1), .int .i64 pu, .int .i64 ((pu : Int) + y.size + 1), .bool (x.toList == y.toList)] rfl rfl ?c1 ?c2 ?c3 ?c4 ?c5 ?_)
  case c1 => exact World.news_of_block (cs := #[.int .i64 pt, .int .i64 ((pt : Int) + x.size + 1), .int .i64 pu, .int .i64 ((pu : Int) + y.size + 1), .bool (x.toList == y.toList)]) (t := 29) (by have := heap_alloc_new (w1.alloc (.cells #[.int .i64 pf, .int .i64 pt, .int .i64 po, .int .i64 pu, .bool pp] 29)) (.cells #[.int .i64 pt, .int .i64 ((pt : Int) + x.size + 1), .int .i64 pu, .int .i64 ((pu : Int) + y.size + 1), .bool (x.toList == y.toList)] 29); simpa using this)
  case c2 => intro u hu; simp at hu; rcases hu with rfl | rfl | rfl | rfl | rfl <;> rfl
  case c3 => unfold maxLen; omega
  case c4 => omega
  case c5 => simp; omega
  · intro v' w2 hown hgrow _
    have HW := Lib.hid hown
    have HB : Hid (Below B w w2) := (((B1.out.mono hB).alloc (by omega) _).alloc (by simp; omega) _).grown hgrow (by simp; omega) (fun k hk => by obtain ⟨h1, _⟩ := (O1.out.lt k hk); exact h1)
    clear hown hgrow
    go_wp2_with fail
    go_ret
    refine ⟨_, rfl, ?_, HB.out⟩
    have := HW.out
    rw [HQ.out]
    unfold OwnSp
    rw [flatC_app, List.length_append]
    exact this

end Go.Proofs.Ytbhpogddnpaacaa
