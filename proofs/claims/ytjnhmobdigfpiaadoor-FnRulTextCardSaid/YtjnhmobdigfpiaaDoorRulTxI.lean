/- RulText of the program: the word, and six numbers in decimals, each behind a space; nothing of what is not ok; the law of RulText. Condition: the table of powers of ten of the library's Itoa holds what it is laid with. -/
import Derived.Test.YtjnhmobdigfpiaaDoorRulTx
import Derived.Test.YtjnhmobdigfpiaaDoorText
import Derived.Test.YtjnhmobdigfpiaaDoorIdx6
namespace Go.Proofs.YtjnhmobdigfpiaaDoor
open Go.RowKit Go.Sort

set_option maxRecDepth 100000 in
set_option maxHeartbeats 400000 in
theorem implRulTx_no (al : Bool) (i it o ot p pt : Int) (w : World) (h : ruleB ⟨al, i, it, o, ot, p, pt⟩ = false) :
    Calls Tryd.prog 20 #[.agg #[.bool al, .int .i64 i, .int .i64 it, .int .i64 o, .int .i64 ot, .int .i64 p, .int .i64 pt]] w fun e w' => e = .returned (.string ⟨#[]⟩) ∧ Below w.heap.size w w' := by
  have HM : Hid (∀ w, Calls Tryd.prog 22 #[.agg #[.bool al, .int .i64 i, .int .i64 it, .int .i64 o, .int .i64 ot, .int .i64 p, .int .i64 pt]] w fun e w' => e = .returned (.bool false) ∧ Below w.heap.size w w') := fun w => by rw [← h]; exact implRulOk_any al i it o ot p pt w
  clear h
  go_enter Tryd.func20, Tryd.ntmps20
  go_wp2_with (go_at_call 22; refine (HM.out _).mono ?_; rintro e w1 ⟨rfl, b1⟩)
  go_ret
  exact ⟨rfl, below_box b1⟩

set_option maxRecDepth 100000 in
set_option maxHeartbeats 1600000 in
theorem implRulTx_yes (al : Bool) (i it o ot p pt : Nat) (w : World) (h : ruleB ⟨al, i, it, o, ot, p, pt⟩ = true) (ht : TabOk w) :
    Calls Tryd.prog 20 #[.agg #[.bool al, .int .i64 i, .int .i64 it, .int .i64 o, .int .i64 ot, .int .i64 p, .int .i64 pt]] w fun e w' => e = .returned (.string ⟨(ruleL al [i, it, o, ot, p, pt]).toArray⟩) ∧ Below w.heap.size w w' := by
  have HT := Lib.hid ht
  have HM : Hid (∀ w, Calls Tryd.prog 22 #[.agg #[.bool al, .int .i64 i, .int .i64 it, .int .i64 o, .int .i64 ot, .int .i64 p, .int .i64 pt]] w fun e w' => e = .returned (.bool true) ∧ Below w.heap.size w w') := fun w => by rw [← h]; exact implRulOk_any al i it o ot p pt w
  obtain ⟨h1, h2, h3⟩ := rule_bounds h
  simp only at h1 h2 h3
  have HB : Hid (∀ x ∈ [i, it, o, ot, p, pt], x ≤ 9999) := by intro x hx; simp at hx; omega
  obtain ⟨xs, hxs⟩ : ∃ xs, xs = [i, it, o, ot, p, pt] := ⟨_, rfl⟩
  have HX := Lib.hid hxs
  have hl6 : Hid (xs.length = 6) := by rw [hxs]; rfl
  rw [← hxs] at HB ⊢
  clear h h1 h2 h3 hxs ht
  suffices key : ∀ bl, Hid (bl = al) → Calls Tryd.prog 20 #[.agg #[.bool al, .int .i64 i, .int .i64 it, .int .i64 o, .int .i64 ot, .int .i64 p, .int .i64 pt]] w fun e w' => e = .returned (.string ⟨(ruleL bl xs).toArray⟩) ∧ Below w.heap.size w w' from key al rfl
  intro bl HBL
  cases al
  all_goals
    go_enter Tryd.func20, Tryd.ntmps20
    go_wp2_with fail
    (go_at_call 22; refine (HM.out _).mono ?_; rintro e w1 ⟨rfl, b1⟩)
    have s1 : w.heap.size < w1.heap.size := by (have := b1.size; simp at this; omega)
    have B1 : Hid (Below w.heap.size w w1) := below_box b1
    have k0 : w1.cell? ⟨w.heap.size, 0, none⟩ = some (.bool _) := (by rw [b1.cell (by simp)]; exact (cell_new w _ _ 0).1)
    have k1 : w1.cell? ⟨w.heap.size, 1, none⟩ = some (.int .i64 i) := (by rw [b1.cell (by simp)]; exact (cell_new w _ _ 1).1)
    have k2 : w1.cell? ⟨w.heap.size, 2, none⟩ = some (.int .i64 it) := (by rw [b1.cell (by simp)]; exact (cell_new w _ _ 2).1)
    have k3 : w1.cell? ⟨w.heap.size, 3, none⟩ = some (.int .i64 o) := (by rw [b1.cell (by simp)]; exact (cell_new w _ _ 3).1)
    have k4 : w1.cell? ⟨w.heap.size, 4, none⟩ = some (.int .i64 ot) := (by rw [b1.cell (by simp)]; exact (cell_new w _ _ 4).1)
    have k5 : w1.cell? ⟨w.heap.size, 5, none⟩ = some (.int .i64 p) := (by rw [b1.cell (by simp)]; exact (cell_new w _ _ 5).1)
    have k6 : w1.cell? ⟨w.heap.size, 6, none⟩ = some (.int .i64 pt) := (by rw [b1.cell (by simp)]; exact (cell_new w _ _ 6).1)
    clear b1
    go_wp2_with fail
    have HR : Hid (∀ k (hk : k < xs.length), (#[.int .i64 i, .int .i64 it, .int .i64 o, .int .i64 ot, .int .i64 p, .int .i64 pt] : Array Value)[k]? = some (.int .i64 (xs[k] : Nat))) := fun k hk => by
      have hxs := HX.out
      subst hxs
      match k, hk with
      | 0, _ => rfl
      | 1, _ => rfl
      | 2, _ => rfl
      | 3, _ => rfl
      | 4, _ => rfl
      | 5, _ => rfl
    clear k0 k1 k2 k3 k4 k5 k6
    go_loopw [3, 5, 24] (fun s _ i wr => ∃ k : Nat, k ≤ 6 ∧ i = .int .i64 k ∧ s = .string ⟨(ruleL bl (xs.take k)).toArray⟩ ∧ Below w1.heap.size w1 wr) (fun _ _ i _ => 6 - (intOf i).toNat)
    case atStart => exact ⟨0, Nat.zero_le _, rfl, by rw [HBL.out]; rfl, Below.refl _ _⟩
    case round =>
      obtain ⟨k, hk, rfl, rfl, hb⟩ := hrel
      have hbs := hb.size
      by_cases hlt : k < 6
      · have hkx : k < xs.length := by rw [hl6.out]; exact hlt
        have hs := ruleL_step bl xs k hkx
        have hL := ruleL_len bl HB.out k
        have hc := run_idx6 _ k _ wr hlt (HR.out k hkx)
        have hx9 := HB.out xs[k] (List.getElem_mem _)
        have hd := dec_len4 hx9
        rw [hl6.out] at hL
        obtain ⟨x, hx⟩ : ∃ x, x = xs[k] := ⟨_, rfl⟩
        obtain ⟨L, hLe⟩ : ∃ L, L = ruleL bl (xs.take k) := ⟨_, rfl⟩
        rw [← hx] at hc hx9 hd
        rw [← hLe] at hL ⊢
        have HS : Hid (ruleL bl (xs.take (k + 1)) = L ++ spD x) := by rw [hLe, hx]; exact hs
        have n1 : ¬ 9223372036854775807 < 1 + (Lib.decDigits x).length := by omega
        have n2 : ¬ 9223372036854775807 < L.length + (1 + (Lib.decDigits x).length) := by omega
        have hx18 : x ≤ 1000000000000000000 := by omega
        have hk3 : (k : Int) < 6 := by omega
        have T1 : Hid (TabOk wr) := HT.out.below (B1.out.trans (hb.mono (by omega))) (Nat.le_refl _)
        clear hs hLe hx hL hd
        go_wp2_with (go_at_call 44; refine (itoa_any x _ hx18 T1.out).mono ?_; rintro e w3 ⟨rfl, b3⟩)
        go_roundw
        case rel =>
          exact ⟨k + 1, by omega, by go_num, by rw [HS.out, spD_cat2], hb.trans (b3.mono hbs)⟩
        case measure => simp [intOf]; omega
      · have hkn : k = 6 := by omega
        subst hkn
        have hT : xs.take 6 = xs := List.take_of_length_le (by rw [hl6.out]; exact Nat.le_refl _)
        rw [hT]
        go_wp2
        go_ret
        exact ⟨rfl, B1.out.trans (hb.mono (by omega))⟩

/-- Both texts, of what is ok and of what is not. -/
theorem rulTx_any (al : Bool) (i it o ot p pt : Int) :
    ∃ s : ByteArray, (∀ w, Calls Tryd.prog 21 #[.agg #[.bool al, .int .i64 i, .int .i64 it, .int .i64 o, .int .i64 ot, .int .i64 p, .int .i64 pt]] w fun e w' => e = .returned (.string s) ∧ Below w.heap.size w w') ∧
      (∀ w, TabOk w → Calls Tryd.prog 20 #[.agg #[.bool al, .int .i64 i, .int .i64 it, .int .i64 o, .int .i64 ot, .int .i64 p, .int .i64 pt]] w fun e w' => e = .returned (.string s) ∧ Below w.heap.size w w') := by
  by_cases h : ruleB ⟨al, i, it, o, ot, p, pt⟩ = true
  · obtain ⟨h1, h2, h3⟩ := rule_bounds h
    simp only at h1 h2 h3
    obtain ⟨a, rfl⟩ := Int.eq_ofNat_of_zero_le (show 0 ≤ i by omega)
    obtain ⟨b, rfl⟩ := Int.eq_ofNat_of_zero_le (show 0 ≤ it by omega)
    obtain ⟨c, rfl⟩ := Int.eq_ofNat_of_zero_le (show 0 ≤ o by omega)
    obtain ⟨d, rfl⟩ := Int.eq_ofNat_of_zero_le (show 0 ≤ ot by omega)
    obtain ⟨e, rfl⟩ := Int.eq_ofNat_of_zero_le (show 0 ≤ p by omega)
    obtain ⟨f, rfl⟩ := Int.eq_ofNat_of_zero_le (show 0 ≤ pt by omega)
    exact ⟨_, fun w => specRulTx_yes al a b c d e f w h, fun w ht => implRulTx_yes al a b c d e f w h ht⟩
  · exact ⟨_, fun w => specRulTx_no al i it o ot p pt w (by simpa using h), fun w _ => implRulTx_no al i it o ot p pt w (by simpa using h)⟩

end Go.Proofs.YtjnhmobdigfpiaaDoor
