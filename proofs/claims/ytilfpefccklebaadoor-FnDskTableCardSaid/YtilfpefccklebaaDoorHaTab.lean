/- How the laws compare two lists of texts, and two lists of ends: they say whether they are the same. Condition: at most 2^22 of each. -/
import Derived.Test.YtilfpefccklebaaDoorRdV
import Derived.Test.YtilfpefccklebaaDoorTabs
import Derived.Test.YtilfpefccklebaaDoorSMap
import Derived.BigQuiet
namespace Go.Proofs.YtilfpefccklebaaDoor
open Go.RowKit

theorem str_beq (x y : List UInt8) : ((⟨x.toArray⟩ : ByteArray).toList == (⟨y.toArray⟩ : ByteArray).toList) = decide (x = y) := by
  rw [Lib.toList_data, Lib.toList_data]
  by_cases h : x = y
  · subst h; simp
  · simp [h]
theorem take_more {α : Type} {xs ys : List α} {k : Nat} (h1 : k < xs.length) (h2 : k < ys.length) (h : xs.take k = ys.take k) (e : xs[k] = ys[k]) : xs.take (k + 1) = ys.take (k + 1) := by
  rw [List.take_add_one, List.take_add_one, h, List.getElem?_eq_getElem h1, List.getElem?_eq_getElem h2, e]
theorem take_all {α : Type} {xs ys : List α} {n : Nat} (h1 : xs.length = n) (h2 : ys.length = n) (h : xs.take n = ys.take n) : xs = ys := by
  rwa [List.take_of_length_le (by omega), List.take_of_length_le (by omega)] at h

set_option maxRecDepth 100000 in
set_option maxHeartbeats 800000 in
theorem haTexts_any (xs ys : List (List UInt8)) (v1 v2 : Value) (w : World) (hn : xs.length ≤ 4194304) (h1 : RdV w v1 (xs.map strV)) (h2 : RdV w v2 (ys.map strV)) :
    Calls Tryd.prog 23 #[v1, v2] w fun e w' => e = .returned (.bool (decide (xs = ys))) ∧ Below w.heap.size w w' := by
  obtain ⟨a1, cap1, rfl, r1⟩ := h1
  obtain ⟨a2, cap2, rfl, r2⟩ := h2
  simp only [List.length_map] at r1 r2 ⊢
  have R1 := Lib.hid r1
  have R2 := Lib.hid r2
  clear r1 r2
  by_cases hl : xs.length = ys.length
  · have HL := Lib.hid hl
    have hz : (ys.length : Int) = (xs.length : Int) := by omega
    rw [← hl]
    obtain ⟨d, hd⟩ : ∃ d, d = decide (xs = ys) := ⟨_, rfl⟩
    have HD := Lib.hid hd
    rw [← hd]
    clear hl hz hd
    go_enter Tryd.func23, Tryd.ntmps23
    go_wp2
    go_loopw [5] (fun i wr => ∃ k : Nat, k ≤ xs.length ∧ i = .int .i64 k ∧ Below w.heap.size w wr ∧ xs.take k = ys.take k) (fun i _ => xs.length - (intOf i).toNat)
    case atStart => exact ⟨0, Nat.zero_le _, rfl, Below.refl _ _, by simp⟩
    case round =>
      obtain ⟨k, hk, rfl, hb, htk⟩ := hrel
      have HK := Lib.hid htk
      clear htk
      by_cases hlt : k < xs.length
      · have hlt2 : k < ys.length := by rw [← HL.out]; exact hlt
        obtain ⟨g1, rfl, q1⟩ := R1.out (by omega)
        obtain ⟨g2, rfl, q2⟩ := R2.out (by omega)
        have c1 := (hb.cell (p := ⟨g1, k, none⟩) (q1.lt (by simp; omega))).trans (eq_cell q1 (i := k) (by simpa using hlt))
        have c2 := (hb.cell (p := ⟨g2, k, none⟩) (q2.lt (by simp; omega))).trans (eq_cell q2 (i := k) (by simpa using hlt2))
        obtain ⟨x, hx⟩ : ∃ x, x = xs[k] := ⟨_, rfl⟩
        obtain ⟨y, hy⟩ : ∃ y, y = ys[k] := ⟨_, rfl⟩
        simp only [List.getElem_map, ← hx, ← hy, strV] at c1 c2
        have HS : Hid (x = y → xs.take (k + 1) = ys.take (k + 1)) := fun e => take_more hlt hlt2 HK.out (by rw [← hx, ← hy, e])
        have HN : Hid (x ≠ y → d = false) := fun e => by rw [HD.out]; exact decide_eq_false (fun e2 => e (by rw [hx, hy]; simp only [e2]))
        clear hx hy q1 q2 R1 R2 hlt2 HD HK HL
        by_cases hxy : x = y
        · have hq2 : (x == y) = true := by simp [hxy]
          have HT := Lib.hid (HS.out hxy)
          clear hxy HS HN
          go_wp2_with fail
          go_quiet (fail)
          go_wp2
          go_roundw
          case rel => exact ⟨k + 1, by omega, by go_num, hb.trans ⟨rfl, rfl, rfl, Nat.le_refl _, fun _ _ => rfl⟩, HT.out⟩
          case measure => simp [intOf]; omega
        · have hq2 : (x == y) = false := by simp [hxy]
          have HT := Lib.hid (HN.out hxy)
          clear hxy HS HN
          go_wp2_with fail
          go_quiet (fail)
          go_wp2
          go_ret
          exact ⟨by rw [HT.out]; rfl, hb.trans ⟨rfl, rfl, rfl, Nat.le_refl _, fun _ _ => rfl⟩⟩
      · have HT : Hid (d = true) := by rw [HD.out]; exact decide_eq_true (take_all rfl HL.out.symm (by have := HK.out; rwa [show k = xs.length by omega] at this))
        go_wp2
        go_ret
        exact ⟨by rw [HT.out]; rfl, hb⟩
  · have hz : ¬ (xs.length : Int) = (ys.length : Int) := by omega
    have hd : decide (xs = ys) = false := decide_eq_false (fun e => hl (by rw [e]))
    rw [hd]
    clear hd
    go_enter Tryd.func23, Tryd.ntmps23
    go_wp2
    go_ret
    exact ⟨rfl, Below.refl _ _⟩

set_option maxRecDepth 100000 in
set_option maxHeartbeats 1600000 in
theorem haEnds_any (es fs : List (Int × Int)) (v1 v2 : Value) (w : World) (hn : es.length ≤ 4194304) (h1 : TabAt w v1 es) (h2 : TabAt w v2 fs) :
    Calls Tryd.prog 25 #[v1, v2] w fun e w' => e = .returned (.bool (decide (es = fs))) ∧ Below w.heap.size w w' := by
  obtain ⟨a1, cap1, rfl, hc1, r1⟩ := h1
  obtain ⟨a2, cap2, rfl, hc2, r2⟩ := h2
  have R1 := Lib.hid r1
  have R2 := Lib.hid r2
  have hc1' := hc1.1
  have hc2' := hc2.1
  clear r1 r2 hc1 hc2
  by_cases hl : es.length = fs.length
  · have HL := Lib.hid hl
    rw [← hl] at hc2' ⊢
    obtain ⟨d, hd⟩ : ∃ d, d = decide (es = fs) := ⟨_, rfl⟩
    have HD := Lib.hid hd
    rw [← hd]
    clear hl hd
    go_enter Tryd.func25, Tryd.ntmps25
    go_wp2
    go_loopw [5] (fun i wr => ∃ k : Nat, k ≤ es.length ∧ i = .int .i64 k ∧ Below w.heap.size w wr ∧ es.take k = fs.take k) (fun i _ => es.length - (intOf i).toNat)
    case atStart => exact ⟨0, Nat.zero_le _, rfl, Below.refl _ _, by simp⟩
    case round =>
      obtain ⟨k, hk, rfl, hb, htk⟩ := hrel
      have HK := Lib.hid htk
      clear htk
      by_cases hlt : k < es.length
      · have hlt2 : k < fs.length := by rw [← HL.out]; exact hlt
        obtain ⟨g1, rfl, q1⟩ := R1.out (by omega)
        obtain ⟨g2, rfl, q2⟩ := R2.out (by omega)
        obtain ⟨c0, c1⟩ := (q1.below hb (q1.lt (by omega))) k hlt
        obtain ⟨d0, d1⟩ := (q2.below hb (q2.lt (by omega))) k hlt2
        obtain ⟨⟨a, p⟩, hx⟩ : ∃ x, x = es[k] := ⟨_, rfl⟩
        obtain ⟨⟨b, q⟩, hy⟩ : ∃ x, x = fs[k] := ⟨_, rfl⟩
        rw [← hx] at c0 c1
        rw [← hy] at d0 d1
        simp only at c0 c1 d0 d1
        have hk2 : (k : Int) ≤ (cap1 : Int) := by omega
        have hk3 : (k : Int) ≤ (cap2 : Int) := by omega
        have HS : Hid (a = b → p = q → es.take (k + 1) = fs.take (k + 1)) := fun e1 e2 => take_more hlt hlt2 HK.out (by rw [← hx, ← hy, e1, e2])
        have HN : Hid (¬ (a = b ∧ p = q) → d = false) := fun e => by
          rw [HD.out]
          exact decide_eq_false (fun e2 => e (by
            have h3 : (a, p) = (b, q) := by rw [hx, hy]; simp only [e2]
            simpa using h3))
        have HB := Lib.hid hb
        clear hx hy q1 q2 R1 R2 hb hlt2 HD HK HL
        by_cases hxy : a = b ∧ p = q
        · obtain ⟨rfl, rfl⟩ := hxy
          have HT := Lib.hid (HS.out rfl rfl)
          clear HS HN
          go_wp2_with fail
          go_quiet (fail)
          go_wp2
          go_roundw
          case rel => exact ⟨k + 1, by omega, by go_num, HB.out.trans ⟨rfl, rfl, rfl, Nat.le_refl _, fun _ _ => rfl⟩, HT.out⟩
          case measure => simp [intOf]; omega
        · have HT := Lib.hid (HN.out hxy)
          have HX := Lib.hid hxy
          have g3 := eqEnds1
          have g4 := eqEnds2
          clear hxy HS HN
          by_cases h1 : a = b
          · subst h1
            have h2 : ¬ p = q := fun e => HX.out ⟨rfl, e⟩
            go_wp2_with fail
            go_quiet (fail)
            go_wp2
            go_ret
            exact ⟨by rw [HT.out]; rfl, HB.out.trans ⟨rfl, rfl, rfl, Nat.le_refl _, fun _ _ => rfl⟩⟩
          · go_wp2_with fail
            go_quiet (fail)
            go_wp2
            go_ret
            exact ⟨by rw [HT.out]; rfl, HB.out.trans ⟨rfl, rfl, rfl, Nat.le_refl _, fun _ _ => rfl⟩⟩
      · have HT : Hid (d = true) := by rw [HD.out]; exact decide_eq_true (take_all rfl HL.out.symm (by have := HK.out; rwa [show k = es.length by omega] at this))
        go_wp2
        go_ret
        exact ⟨by rw [HT.out]; rfl, hb⟩
  · have hz : ¬ (es.length : Int) = (fs.length : Int) := by omega
    have hd : decide (es = fs) = false := decide_eq_false (fun e => hl (by rw [e]))
    rw [hd]
    clear hd
    go_enter Tryd.func25, Tryd.ntmps25
    go_wp2
    go_ret
    exact ⟨rfl, Below.refl _ _⟩

end Go.Proofs.YtilfpefccklebaaDoor
