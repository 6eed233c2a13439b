/- How the laws compare bytes: true just of equal ones. Condition: at most 2^22 bytes each. -/
import Derived.Test.YtpaodaakoneglaaDoorBytes
import Derived.Deep.QuietTactic
import Derived.BigQuiet
import Derived.LoopTactic
namespace Go.Proofs.YtpaodaakoneglaaDoor
open Go.RowKit

set_option maxRecDepth 100000 in
set_option maxHeartbeats 800000 in
theorem haBytes_same (l : List UInt8) (v1 v2 : Value) (w : World) (hn : l.length ≤ 4194304) (h1 : RdB w v1 l) (h2 : RdB w v2 l) :
    Calls Tryd.prog 8 #[v1, v2] w fun e w' => e = .returned (.bool true) ∧ Below w.heap.size w w' := by
  obtain ⟨a1, cap1, rfl, hc1, r1⟩ := h1
  obtain ⟨a2, cap2, rfl, hc2, r2⟩ := h2
  have R1 := Lib.hid r1
  have R2 := Lib.hid r2
  clear r1 r2
  go_enter Tryd.func8, Tryd.ntmps8
  go_wp2
  go_loopw [5] (fun i wr => ∃ k : Nat, k ≤ l.length ∧ i = .int .i64 k ∧ Below w.heap.size w wr) (fun i _ => l.length - (intOf i).toNat)
  case atStart => exact ⟨0, Nat.zero_le _, rfl, Below.refl _ _⟩
  case round =>
    obtain ⟨k, hk, rfl, hb⟩ := hrel
    by_cases hlt : k < l.length
    · have hne : 0 < l.length := by omega
      obtain ⟨g1, rfl, q1⟩ := R1.out hne
      obtain ⟨g2, rfl, q2⟩ := R2.out hne
      have z1 : g1 < w.heap.size := World.block_lt_of_cell? w _ (q1 k (by rw [byV_len]; omega)).1
      have z2 : g2 < w.heap.size := World.block_lt_of_cell? w _ (q2 k (by rw [byV_len]; omega)).1
      have c1 := (hb.cell (p := ⟨g1, k, none⟩) z1).trans (q1 k (by rw [byV_len]; omega)).1
      have c2 := (hb.cell (p := ⟨g2, k, none⟩) z2).trans (q2 k (by rw [byV_len]; omega)).1
      rw [byV_at] at c1 c2
      obtain ⟨x, hx⟩ : ∃ x, x = l[k] := ⟨_, rfl⟩
      rw [← hx] at c1 c2
      clear hx q1 q2 R1 R2 hne
      go_wp2_with fail
      go_quiet (fail)
      go_wp2
      go_roundw
      case rel => exact ⟨k + 1, by omega, by go_num, hb.trans ⟨rfl, rfl, rfl, Nat.le_refl _, fun _ _ => rfl⟩⟩
      case measure => simp [intOf]; omega
    · go_wp2
      go_ret
      exact ⟨rfl, hb⟩

theorem byte_beq (x y : UInt8) : (((x.toNat : Int)) == ((y.toNat : Int))) = decide (x = y) := by
  rw [Bool.eq_iff_iff]
  simp only [beq_iff_eq, decide_eq_true_eq]
  constructor
  · intro h; exact UInt8.toNat_inj.1 (by omega)
  · rintro rfl; rfl

set_option maxRecDepth 100000 in
set_option maxHeartbeats 1600000 in
theorem haBytes_any (l m : List UInt8) (v1 v2 : Value) (w : World) (hn : l.length ≤ 4194304) (h1 : RdB w v1 l) (h2 : RdB w v2 m) :
    Calls Tryd.prog 8 #[v1, v2] w fun e w' => e = .returned (.bool (decide (l = m))) ∧ Below w.heap.size w w' := by
  by_cases hlen : l.length = m.length
  · obtain ⟨q, hq⟩ : ∃ q, q = decide (l = m) := ⟨_, rfl⟩
    have HQ := Lib.hid hq
    rw [← hq]
    clear hq
    obtain ⟨a1, cap1, rfl, hc1, r1⟩ := h1
    obtain ⟨a2, cap2, rfl, hc2, r2⟩ := h2
    rw [← hlen] at hc2 ⊢
    have HL := Lib.hid hlen
    have R1 := Lib.hid r1
    have R2 := Lib.hid r2
    clear r1 r2 hlen
    go_enter Tryd.func8, Tryd.ntmps8
    go_wp2
    go_loopw [5] (fun i wr => ∃ k : Nat, k ≤ l.length ∧ i = .int .i64 k ∧ Hid (l.take k = m.take k) ∧ Below w.heap.size w wr) (fun i _ => l.length - (intOf i).toNat)
    case atStart => exact ⟨0, Nat.zero_le _, rfl, rfl, Below.refl _ _⟩
    case round =>
      obtain ⟨k, hk, rfl, HT, hb⟩ := hrel
      by_cases hlt : k < l.length
      · have hne : 0 < l.length := by omega
        have hkm : k < m.length := by have := HL.out; omega
        obtain ⟨g1, rfl, q1⟩ := R1.out hne
        obtain ⟨g2, rfl, q2⟩ := R2.out (by omega)
        have z1 : g1 < w.heap.size := World.block_lt_of_cell? w _ (q1 k (by rw [byV_len]; omega)).1
        have z2 : g2 < w.heap.size := World.block_lt_of_cell? w _ (q2 k (by rw [byV_len]; omega)).1
        have c1 := (hb.cell (p := ⟨g1, k, none⟩) z1).trans (q1 k (by rw [byV_len]; omega)).1
        have c2 := (hb.cell (p := ⟨g2, k, none⟩) z2).trans (q2 k (by rw [byV_len]; omega)).1
        rw [byV_at] at c1 c2
        obtain ⟨x, hx⟩ : ∃ x, x = l[k] := ⟨_, rfl⟩
        obtain ⟨y, hy⟩ : ∃ y, y = m[k] := ⟨_, rfl⟩
        rw [← hx] at c1
        rw [← hy] at c2
        by_cases hxy : x = y
        · have HN : Hid (l.take (k + 1) = m.take (k + 1)) := by
            show _ = _
            rw [List.take_succ_eq_append_getElem hlt, List.take_succ_eq_append_getElem hkm, HT.out, ← hx, ← hy, hxy]
          subst hxy
          clear hx hy q1 q2 R1 R2 hne HT hkm
          go_wp2_with fail
          go_quiet (fail)
          go_wp2
          go_roundw
          case rel => exact ⟨k + 1, by omega, by go_num, HN, hb.trans ⟨rfl, rfl, rfl, Nat.le_refl _, fun _ _ => rfl⟩⟩
          case measure => simp [intOf]; omega
        · have HF : Hid (q = false) := by
            show _ = _
            rw [HQ.out]
            exact decide_eq_false (fun e => hxy (by rw [hx, hy]; subst e; rfl))
          have e1 : (((x.toNat : Int)) == ((y.toNat : Int))) = false := by rw [byte_beq]; exact decide_eq_false hxy
          have e2 : (((x.toNat : Int)) != ((y.toNat : Int))) = true := by unfold bne; rw [e1]; rfl
          clear hx hy q1 q2 R1 R2 hne HT hkm hxy
          go_wp2_with fail
          go_quiet (fail)
          go_wp2
          go_ret
          exact ⟨ret_bool HF.out.symm, hb.trans ⟨rfl, rfl, rfl, Nat.le_refl _, fun _ _ => rfl⟩⟩
      · have HF : Hid (q = true) := by
          have h1 := HT.out
          rw [List.take_of_length_le (by omega), List.take_of_length_le (by have := HL.out; omega)] at h1
          show _ = _
          rw [HQ.out]; exact decide_eq_true h1
        go_wp2
        go_ret
        exact ⟨ret_bool HF.out.symm, hb⟩
  · have HF : Hid (decide (l = m) = false) := decide_eq_false (fun e => hlen (by rw [e]))
    obtain ⟨a1, cap1, rfl, hc1, r1⟩ := h1
    obtain ⟨a2, cap2, rfl, hc2, r2⟩ := h2
    have e1 : ((l.length : Int) == (m.length : Int)) = false := by rw [beq_eq_false_iff_ne]; omega
    have e2 : ((l.length : Int) != (m.length : Int)) = true := by unfold bne; rw [e1]; rfl
    clear r1 r2
    go_enter Tryd.func8, Tryd.ntmps8
    go_wp2
    go_ret
    exact ⟨ret_bool HF.out.symm, Below.refl _ _⟩

end Go.Proofs.YtpaodaakoneglaaDoor
