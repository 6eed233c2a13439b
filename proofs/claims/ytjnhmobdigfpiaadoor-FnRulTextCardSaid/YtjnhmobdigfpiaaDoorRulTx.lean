/- RulText of the specification: the word, and six numbers in decimals, each behind a space; nothing of what is not ok. No condition. -/
import Derived.Test.YtjnhmobdigfpiaaDoorRulLaw
import Derived.Test.YtjnhmobdigfpiaaDoorPlain
import Derived.Lib.QuietBelow
import Derived.Deep.RegionWith
namespace Go.Proofs.YtjnhmobdigfpiaaDoor
open Go.RowKit

def wordR (al : Bool) : List UInt8 := if al then [97, 108, 108, 111, 119] else [100, 101, 110, 121]
def spD (n : Nat) : List UInt8 := 32 :: Lib.decDigits n
def numsR (r : Rl) : List Nat := [r.i.toNat, r.it.toNat, r.o.toNat, r.ot.toNat, r.p.toNat, r.pt.toNat]
/-- The text of a rule that is ok; of any. -/
def ruleL (al : Bool) (xs : List Nat) : List UInt8 := wordR al ++ (xs.map spD).flatten
def rulTxL (r : Rl) : List UInt8 := if ruleB r = true then ruleL r.al (numsR r) else []
theorem spD_len {n : Nat} (h : n ≤ 9999) : (spD n).length ≤ 5 := by have := dec_len4 h; simp [spD]; omega
theorem flat_len {xs : List Nat} (h : ∀ x ∈ xs, x ≤ 9999) : ((xs.map spD).flatten).length ≤ 5 * xs.length := by
  induction xs with
  | nil => simp
  | cons x r ih =>
    have h1 := ih (fun y hy => h y (List.mem_cons_of_mem _ hy))
    have h2 := spD_len (h x (List.mem_cons_self ..))
    simp at h1 ⊢; omega
theorem rule_bounds {r : Rl} (h : ruleB r = true) : (1 ≤ r.i ∧ r.i ≤ r.it ∧ r.it ≤ 9) ∧ (100 ≤ r.o ∧ r.o ≤ r.ot ∧ r.ot ≤ 109) ∧ (1 ≤ r.p ∧ r.p ≤ r.pt ∧ r.pt ≤ 999) := by
  unfold ruleB rangeB inB at h
  simp only [Bool.and_eq_true, decide_eq_true_eq] at h
  omega
theorem ruleL_step (al : Bool) (xs : List Nat) (k : Nat) (hk : k < xs.length) : ruleL al (xs.take (k + 1)) = ruleL al (xs.take k) ++ spD xs[k] := by
  unfold ruleL
  rw [List.take_succ_eq_append_getElem hk, List.map_append, List.flatten_append]
  simp
theorem ruleL_len (al : Bool) {xs : List Nat} (h : ∀ x ∈ xs, x ≤ 9999) (k : Nat) : (ruleL al (xs.take k)).length ≤ 5 + 5 * xs.length := by
  have h1 := flat_len (xs := xs.take k) (fun x hx => h x (List.mem_of_mem_take hx))
  have h2 : (xs.take k).length ≤ xs.length := by simp; omega
  have h3 : (wordR al).length ≤ 5 := by cases al <;> decide
  unfold ruleL
  rw [List.length_append]; omega
theorem spD_cat (l : List UInt8) (n : Nat) : (⟨l.toArray⟩ : ByteArray) ++ ⟨#[32]⟩ ++ ⟨(Lib.decDigits n).toArray⟩ = ⟨(l ++ spD n).toArray⟩ := by
  apply ByteArray.ext; simp [spD]
theorem spD_cat2 (l : List UInt8) (n : Nat) : (⟨l.toArray⟩ : ByteArray) ++ (⟨#[32]⟩ ++ ⟨(Lib.decDigits n).toArray⟩) = ⟨(l ++ spD n).toArray⟩ := by
  apply ByteArray.ext; simp [spD]

set_option maxRecDepth 100000 in
set_option maxHeartbeats 400000 in
theorem specRulTx_no (al : Bool) (i it o ot p pt : Int) (w : World) (h : ruleB ⟨al, i, it, o, ot, p, pt⟩ = false) :
    Calls Tryd.prog 21 #[.agg #[.bool al, .int .i64 i, .int .i64 it, .int .i64 o, .int .i64 ot, .int .i64 p, .int .i64 pt]] w fun e w' => e = .returned (.string ⟨#[]⟩) ∧ Below w.heap.size w w' := by
  have HM : Hid (∀ w, Calls Tryd.prog 23 #[.agg #[.bool al, .int .i64 i, .int .i64 it, .int .i64 o, .int .i64 ot, .int .i64 p, .int .i64 pt]] w fun e w' => e = .returned (.bool false) ∧ Below w.heap.size w w') := fun w => by rw [← h]; exact specRulOk_any al i it o ot p pt w
  clear h
  go_enter Tryd.func21, Tryd.ntmps21
  go_wp2_with (go_at_call 23; refine (HM.out _).mono ?_; rintro e w1 ⟨rfl, b1⟩)
  go_ret
  exact ⟨rfl, below_box b1⟩

set_option maxRecDepth 100000 in
set_option maxHeartbeats 1600000 in
theorem specRulTx_yes (al : Bool) (i it o ot p pt : Nat) (w : World) (h : ruleB ⟨al, i, it, o, ot, p, pt⟩ = true) :
    Calls Tryd.prog 21 #[.agg #[.bool al, .int .i64 i, .int .i64 it, .int .i64 o, .int .i64 ot, .int .i64 p, .int .i64 pt]] w fun e w' => e = .returned (.string ⟨(ruleL al [i, it, o, ot, p, pt]).toArray⟩) ∧ Below w.heap.size w w' := by
  have HM : Hid (∀ w, Calls Tryd.prog 23 #[.agg #[.bool al, .int .i64 i, .int .i64 it, .int .i64 o, .int .i64 ot, .int .i64 p, .int .i64 pt]] w fun e w' => e = .returned (.bool true) ∧ Below w.heap.size w w') := fun w => by rw [← h]; exact specRulOk_any al i it o ot p pt w
  obtain ⟨h1, h2, h3⟩ := rule_bounds h
  simp only at h1 h2 h3
  have HB : Hid (∀ x ∈ [i, it, o, ot, p, pt], x ≤ 9999) := by intro x hx; simp at hx; omega
  obtain ⟨xs, hxs⟩ : ∃ xs, xs = [i, it, o, ot, p, pt] := ⟨_, rfl⟩
  have HX := Lib.hid hxs
  have hl6 : Hid (xs.length = 6) := by rw [hxs]; rfl
  rw [← hxs] at HB ⊢
  clear h h1 h2 h3 hxs
  suffices key : ∀ bl, Hid (bl = al) → Calls Tryd.prog 21 #[.agg #[.bool al, .int .i64 i, .int .i64 it, .int .i64 o, .int .i64 ot, .int .i64 p, .int .i64 pt]] w fun e w' => e = .returned (.string ⟨(ruleL bl xs).toArray⟩) ∧ Below w.heap.size w w' from key al rfl
  intro bl HBL
  cases al
  all_goals
    go_enter Tryd.func21, Tryd.ntmps21
    go_wp2_with fail
    (go_at_call 23; refine (HM.out _).mono ?_; rintro e w1 ⟨rfl, b1⟩)
    have s1 : w.heap.size < w1.heap.size := by (have := b1.size; simp at this; omega)
    have B1 : Hid (Below w.heap.size w w1) := below_box b1
    have k0 : w1.cell? ⟨w.heap.size, 0, none⟩ = some (.bool _) := (by rw [b1.cell (by simp)]; exact (cell_new w _ _ 0).1)
    have k1 : w1.cell? ⟨w.heap.size, 1, none⟩ = some (.int .i64 i) := (by rw [b1.cell (by simp)]; exact (cell_new w _ _ 1).1)
    have k2 : w1.cell? ⟨w.heap.size, 2, none⟩ = some (.int .i64 it) := (by rw [b1.cell (by simp)]; exact (cell_new w _ _ 2).1)
    have k3 : w1.cell? ⟨w.heap.size, 3, none⟩ = some (.int .i64 o) := (by rw [b1.cell (by simp)]; exact (cell_new w _ _ 3).1)
    have k4 : w1.cell? ⟨w.heap.size, 4, none⟩ = some (.int .i64 ot) := (by rw [b1.cell (by simp)]; exact (cell_new w _ _ 4).1)
    have k5 : w1.cell? ⟨w.heap.size, 5, none⟩ = some (.int .i64 p) := (by rw [b1.cell (by simp)]; exact (cell_new w _ _ 5).1)
    have k6 : w1.cell? ⟨w.heap.size, 6, none⟩ = some (.int .i64 pt) := (by rw [b1.cell (by simp)]; exact (cell_new w _ _ 6).1)
    clear b1
    go_wp2_with fail
    obtain ⟨W2, hW2⟩ : ∃ W2, W2 = w1.alloc (.cells #[.int .i64 i, .int .i64 it, .int .i64 o, .int .i64 ot, .int .i64 p, .int .i64 pt] 3) := ⟨_, rfl⟩
    have B2 : Hid (Below w.heap.size w W2) := by rw [hW2]; exact B1.out.alloc (by omega) _
    have HR : Hid (∀ k (hk : k < xs.length), W2.cell? ⟨w1.heap.size, k, none⟩ = some (.int .i64 (xs[k] : Nat))) := fun k hk => by
      have hxs := HX.out
      subst hxs
      rw [hW2, (cell_new w1 _ _ k).1]
      match k, hk with
      | 0, _ => rfl
      | 1, _ => rfl
      | 2, _ => rfl
      | 3, _ => rfl
      | 4, _ => rfl
      | 5, _ => rfl
    have hg : w1.heap.size < W2.heap.size := by rw [hW2]; simp
    rw [← hW2]
    clear hW2 k0 k1 k2 k3 k4 k5 k6
    go_loopw [3, 5] (fun s i wr => ∃ k : Nat, k ≤ 6 ∧ i = .int .i64 k ∧ s = .string ⟨(ruleL bl (xs.take k)).toArray⟩ ∧ Below W2.heap.size W2 wr) (fun _ i _ => 6 - (intOf i).toNat)
    case atStart => exact ⟨0, Nat.zero_le _, rfl, by rw [HBL.out]; rfl, Below.refl _ _⟩
    case round =>
      obtain ⟨k, hk, rfl, rfl, hb⟩ := hrel
      have hbs := hb.size
      by_cases hlt : k < 6
      · have hkx : k < xs.length := by rw [hl6.out]; exact hlt
        have hs := ruleL_step bl xs k hkx
        have hL := ruleL_len bl HB.out k
        have hc := (hb.cell (p := ⟨w1.heap.size, k, none⟩) hg).trans (HR.out k hkx)
        have hx9 := HB.out xs[k] (List.getElem_mem _)
        have hd := dec_len4 hx9
        rw [hl6.out] at hL
        obtain ⟨x, hx⟩ : ∃ x, x = xs[k] := ⟨_, rfl⟩
        obtain ⟨L, hLe⟩ : ∃ L, L = ruleL bl (xs.take k) := ⟨_, rfl⟩
        rw [← hx] at hc hx9 hd
        rw [← hLe] at hL ⊢
        have HS : Hid (ruleL bl (xs.take (k + 1)) = L ++ spD x) := by rw [hLe, hx]; exact hs
        have n1 : ¬ 9223372036854775807 < L.length + 1 := by omega
        have n2 : ¬ 9223372036854775807 < L.length + 1 + (Lib.decDigits x).length := by omega
        have hx18 : x ≤ 1000000000000000000 := by omega
        have hk3 : (k : Int) < 6 := by omega
        clear hs hLe hx hL hd
        go_wp2_with (go_at_call 45; refine (specPlain_any x _ hx18).mono ?_; rintro e w3 ⟨rfl, b3⟩)
        go_roundw
        case rel =>
          exact ⟨k + 1, by omega, by go_num, by rw [HS.out, spD_cat], hb.trans (b3.mono hbs)⟩
        case measure => simp [intOf]; omega
      · have hkn : k = 6 := by omega
        subst hkn
        have hT : xs.take 6 = xs := List.take_of_length_le (by rw [hl6.out]; exact Nat.le_refl _)
        rw [hT]
        go_wp2
        go_ret
        exact ⟨rfl, B2.out.trans (hb.mono (by have := B1.out.size; omega))⟩

end Go.Proofs.YtjnhmobdigfpiaaDoor
