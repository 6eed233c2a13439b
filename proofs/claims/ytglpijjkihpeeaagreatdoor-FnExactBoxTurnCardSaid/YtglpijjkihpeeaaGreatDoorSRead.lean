/- EndRead of the specification, by the words of a text. Condition: the text has at most 2^21 bytes. -/
import Derived.Test.YtglpijjkihpeeaaGreatDoorWords
import Derived.Test.YtglpijjkihpeeaaGreatDoorEnd
import Derived.Deep.RegionHeld3
import Derived.Deep.DeepCutAuto
import Derived.Lib.SmallJoins
namespace Go.Proofs.YtglpijjkihpeeaaGreatDoor
open Go.RowKit

/-- The first two cells of a list of the call's own. -/
theorem own_two {w : World} {B : Nat} {e : TypeId} {v a b : Value} (h : w.ownsRow B e 1 v 2 [a, b]) : ∃ g cap, v = .slice (some ⟨g, 0, none⟩) 2 cap ∧ B ≤ g ∧ g < w.heap.size ∧ w.cell? ⟨g, 0, none⟩ = some a ∧ w.cell? ⟨g, 1, none⟩ = some b ∧ 2 ≤ cap := by
  rcases h.2 with ⟨_, h0⟩ | ⟨g, cap, cur, rfl, hB, hg, h2, _, hs, ht⟩
  · omega
  · have hlt := (Array.getElem?_eq_some_iff.1 hg).1
    obtain ⟨l⟩ := cur
    have e0 : l[0]? = some a := by
      have := congrArg (fun l => l[0]?) ht
      simpa using this
    have e1 : l[1]? = some b := by
      have := congrArg (fun l => l[1]?) ht
      simpa using this
    exact ⟨g, cap, rfl, hB, hlt, by simp [World.cell?, hg, e0], by simp [World.cell?, hg, e1], h2⟩

/-- The two cells of a block that was new ahead of a call. -/
theorem fresh_two {W w : World} {x y : Value} {t : TypeId} (h : Below (W.alloc (.cells #[x, y] t)).heap.size (W.alloc (.cells #[x, y] t)) w) : w.cell? ⟨W.heap.size, 0, none⟩ = some x ∧ w.cell? ⟨W.heap.size, 1, none⟩ = some y :=
  ⟨by rw [h.cell (by simp)]; simp, by rw [h.cell (by simp)]; simp⟩

theorem below_re {w w' : World} {o : Obj} {B : Nat} (h : Below B w (w'.alloc o)) (hB : B ≤ w'.heap.size) (hw : w.heap.size ≤ w'.heap.size) (o' : Obj) : Below B w (w'.alloc o') :=
  ⟨h.os, h.tape, h.output, by simp; omega, fun k hk => by
    have h1 := h.block k hk
    rw [Below.heap_alloc _ _ _ (by omega)] at h1 ⊢
    exact h1⟩

/-- What is read where address and port are a and p: them, if they are an end; else nothing. -/
def rdV (a p : Int) : Value := if endB a p = true then .tuple #[.agg #[.int .i64 a, .int .i64 p], .bool true] else .tuple #[.agg #[.int .i64 0, .int .i64 0], .bool false]

set_option maxRecDepth 100000 in
set_option maxHeartbeats 800000 in
theorem specRead_len (s : ByteArray) (w : World) (hs : s.size ≤ 2097152) (h : (wordsL s.data.toList).length ≠ 2) :
    Calls Tryz.prog 189 #[.string s] w fun e w' => e = .returned (.tuple #[.agg #[.int .i64 0, .int .i64 0], .bool false]) ∧ Below w.heap.size w w' := by
  have hne : (((wordsL s.data.toList).length : Int) == 2) = false := by simp; omega
  have hne2 : (((wordsL s.data.toList).length : Int) != 2) = true := by simp; omega
  have H := Lib.hid h
  clear h
  go_enter Tryz.func189, Tryz.ntmps189
  go_wp2_with (go_at_call 196; refine (specWords_any _ _ hs).mono ?_; rintro e w1 ⟨v, rfl, own1, b1⟩; obtain ⟨a1, cap1, rfl⟩ := own_form own1; obtain ⟨c1, f1⟩ := bcell b1; obtain ⟨q0, q1, q2⟩ := set_two (w := w1) (b := w.heap.size) (.int .i64 0) (.int .i64 0) (by rw [c1 _ _ (by simp)]; simp; rfl) (by rw [c1 _ _ (by simp)]; simp; rfl))
  refine bodyPost_ret (v := .tuple #[.agg #[.int .i64 0, .int .i64 0], .bool false]) (by simp [results, Tryz.results189, go_sem, q1, q2]) rfl ⟨rfl, ?_⟩
  exact ((below_box b1).setCell (Nat.le_refl _) _).setCell (Nat.le_refl _) _

set_option maxRecDepth 100000 in
set_option maxHeartbeats 800000 in
theorem specRead_two (s : ByteArray) (x y : List UInt8) (w : World) (hs : s.size ≤ 2097152) (h : wordsL s.data.toList = [x, y]) :
    Calls Tryz.prog 189 #[.string s] w fun e w' => e = .returned (rdV (numL x) (numL y)) ∧ Below w.heap.size w w' := by
  have HW : ∀ w, Calls Tryz.prog 196 #[.string s] w fun e w' => ∃ v, e = .returned v ∧ w'.ownsRow w.heap.size 9 1 v 2 [strV x, strV y] ∧ Below w.heap.size w w' := by
    intro w; have := specWords_any s w hs; rw [h] at this; exact this
  have H := Lib.hid HW
  clear h HW
  go_enter Tryz.func189, Tryz.ntmps189
  go_upto_region 4 with (go_at_call 196; refine (H.out _).mono ?_; rintro e w1 ⟨v, rfl, own1, b1⟩; obtain ⟨g, cap, rfl, gB, gl, k0, k1, hcap⟩ := own_two own1; obtain ⟨c1, f1⟩ := bcell b1)
  clear own1 gB hcap
  have mk : Hid (∀ w', Below w1.heap.size w1 w' → w'.cell? ⟨g, 0, none⟩ = some (strV x) ∧ w'.cell? ⟨g, 1, none⟩ = some (strV y) ∧ Below w1.heap.size w1 w') :=
    fun w' h => ⟨(h.cell gl).trans k0, (h.cell gl).trans k1, h⟩
  clear k0 k1
  go_cut [5] (fun s5 wx => ∃ b : Nat, s5 = .pointer (some ⟨b, 0, none⟩) ∧ wx.cell? ⟨b, 0, none⟩ = some (.int .i64 (numL x)) ∧ wx.cell? ⟨b, 1, none⟩ = some (.int .i64 (numL y)) ∧ Below w1.heap.size w1 wx)
  case first =>
    go_region_held3 (fun w' => w'.cell? ⟨g, 0, none⟩ = some (strV x) ∧ w'.cell? ⟨g, 1, none⟩ = some (strV y) ∧ Below w1.heap.size w1 w')
      (first
        | exact mk.out _ (Below.refl _ _).drew
        | exact mk.out _ B2
        | exact mk.out _ ((‹_ ∧ _ ∧ Below w1.heap.size w1 w2›.2.2).alloc (‹_ ∧ _ ∧ Below w1.heap.size w1 w2›.2.2).size _)
        | exact mk.out _ (below_re (‹_ ∧ _ ∧ Below w1.heap.size w1 (w2.alloc _)›.2.2) B2.size B2.size _)
        | exact mk.out _ (((Below.refl _ _).drew).alloc (Nat.le_refl _) _)
        | exact mk.out _ ((B2.setCell (Nat.le_refl _) _).setCell (Nat.le_refl _) _)
        | exact mk.out _ ((B2.setCell (by have hq := (‹Below w1.drew.heap.size w1.drew _›).size; exact hq) _).setCell (by have hq := (‹Below w1.drew.heap.size w1.drew _›).size; exact hq) _)
        | (trace_state; fail))
      (first | (go_at_call 197; refine (specNum_any _ _).mono ?_; rintro e w2 ⟨rfl, b2⟩; obtain ⟨c2, f2⟩ := bcell b2; have B2 : Below w1.heap.size w1 w2 := (by first | exact ((Below.refl _ w1).drew).trans (b2.mono (Nat.le_refl _)) | exact (‹_ ∧ _ ∧ Below w1.heap.size w1 _›.2.2).trans (b2.mono (‹_ ∧ _ ∧ Below w1.heap.size w1 _›.2.2).size)); try (have z2 : w1.heap.size < w2.heap.size := (by have hq := b2.size; simp at hq; omega))))
    all_goals (go_wp2_with fail; go_meet)
    · exact ⟨w2.heap.size, rfl, by simp, by simp, B2.alloc B2.size _⟩
    · have z := (‹Below w1.drew.heap.size w1.drew _›).size
      obtain ⟨p0, p1⟩ := fresh_two b2
      obtain ⟨q0, q1, q2⟩ := set_two (.int .i64 (numL x)) (.int .i64 (numL y)) p0 p1
      exact ⟨_, rfl, q1, q2, (B2.setCell (by exact z) _).setCell (by exact z) _⟩
    · obtain ⟨p0, p1⟩ := fresh_two ((‹Below (w1.drew.alloc _).heap.size _ _›).trans (b2.mono (‹Below (w1.drew.alloc _).heap.size _ _›).size))
      obtain ⟨q0, q1, q2⟩ := set_two (.int .i64 (numL x)) (.int .i64 (numL y)) p0 p1
      exact ⟨_, rfl, q1, q2, (B2.setCell (Nat.le_refl _) _).setCell (Nat.le_refl _) _⟩
  case rest =>
    obtain ⟨b, rfl, h0, h1, hB⟩ := hcut
    have z1 : w.heap.size < w1.heap.size := by have hq := b1.size; simp at hq; omega
    have zc : w.heap.size < wc.heap.size := by have hq := hB.size; omega
    have zb : b < wc.heap.size := World.block_lt_of_cell? wc _ h0
    obtain ⟨cB, fB⟩ := bcell hB
    clear mk H
    by_cases hb : endB (numL x) (numL y) = true
    · have hv : Hid (rdV (numL x) (numL y) = .tuple #[.agg #[.int .i64 (numL x), .int .i64 (numL y)], .bool true]) := if_pos hb
      go_wp2_with (go_at_call 110; refine (specOk_any _ _ _).mono ?_; rintro e w3 ⟨rfl, b3⟩; obtain ⟨c3, f3⟩ := bcell b3)
      obtain ⟨q0, q1, q2⟩ := set_two (w := w3) (b := w.heap.size) (x := .int .i64 0) (y := .int .i64 0) (.int .i64 (numL x)) (.int .i64 (numL y)) (by rw [c3 _ _ zc, cB _ _ z1, c1 _ _ (by simp)]; simp) (by rw [c3 _ _ zc, cB _ _ z1, c1 _ _ (by simp)]; simp)
      refine bodyPost_ret (v := .tuple #[.agg #[.int .i64 (numL x), .int .i64 (numL y)], .bool true]) (by simp [results, Tryz.results189, go_sem, q1, q2]) rfl ⟨by rw [hv.out], ?_⟩
      exact ((((below_box b1).trans (hB.mono (by omega))).trans (b3.mono (by omega))).setCell (Nat.le_refl _) _).setCell (Nat.le_refl _) _
    · have hv : Hid (rdV (numL x) (numL y) = .tuple #[.agg #[.int .i64 0, .int .i64 0], .bool false]) := if_neg hb
      go_wp2_with (go_at_call 110; refine (specOk_any _ _ _).mono ?_; rintro e w3 ⟨rfl, b3⟩; obtain ⟨c3, f3⟩ := bcell b3)
      obtain ⟨q0, q1, q2⟩ := set_two (w := w3) (b := w.heap.size) (x := .int .i64 0) (y := .int .i64 0) (.int .i64 0) (.int .i64 0) (by rw [c3 _ _ zc, cB _ _ z1, c1 _ _ (by simp)]; simp) (by rw [c3 _ _ zc, cB _ _ z1, c1 _ _ (by simp)]; simp)
      refine bodyPost_ret (v := .tuple #[.agg #[.int .i64 0, .int .i64 0], .bool false]) (by simp [results, Tryz.results189, go_sem, q1, q2]) rfl ⟨by rw [hv.out], ?_⟩
      exact ((((below_box b1).trans (hB.mono (by omega))).trans (b3.mono (by omega))).setCell (Nat.le_refl _) _).setCell (Nat.le_refl _) _

end Go.Proofs.YtglpijjkihpeeaaGreatDoor
