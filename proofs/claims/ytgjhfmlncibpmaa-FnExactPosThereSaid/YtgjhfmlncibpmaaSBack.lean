/- Places found among spans by the specification: l4Back. Conditions: at most 2^22 spans, places of at most 2^22 in them. -/
import Derived.Test.YtgjhfmlncibpmaaMarkSp
import Derived.Test.YtgjhfmlncibpmaaSpWith
namespace Go.Proofs.Ytgjhfmlncibpmaa
open Go.RowKit

theorem pOut_next {l : List (List UInt8 × List UInt8)} {k : Nat} (h : k < l.length) (a : Int) : pOut l a k = decide (a < ((outsL (l.take k) + l[k].2.length + 1 : Nat) : Int)) := by
  unfold pOut
  rw [outsL_succ h]; rfl
theorem pIn_next {l : List (List UInt8 × List UInt8)} {k : Nat} (h : k < l.length) (a : Int) : pIn l a k = decide (a < ((insL (l.take k) + l[k].1.length + 1 : Nat) : Int)) := by
  unfold pIn
  rw [insL_succ h]; rfl

set_option maxRecDepth 100000 in
set_option maxHeartbeats 3200000 in
theorem specBack_any (v : Value) (l : List (List UInt8 × List UInt8)) (a : Int) (w : World) (ha : -9223372036854775808 ≤ a ∧ a ≤ 9223372036854775807) (hn : l.length ≤ 4194304) (hi : insL l ≤ 4194304) (ho : outsL l ≤ 4194304) (hr : RdSp w v (spansL l)) :
    Calls Try.prog 16 #[v, .int .i64 a] w fun e w' => e = .returned (.int .i64 (backI l a)) ∧ Below w.heap.size w w' := by
  obtain ⟨ad, cap, rfl, hcap, hrow0⟩ := hr
  have HR0 := Lib.hid hrow0
  clear hrow0
  rw [spansL_len] at hcap HR0 ⊢
  go_enter Try.func16, Try.ntmps16
  go_wp2
  go_loopw [5, 6] (fun nn i wr => ∃ (k b : Nat), k ≤ l.length ∧ i = .int .i64 k ∧ nn = .int .i64 b ∧ b = insL (l.take k) ∧ (∀ i, i < k → pOut l a i = false) ∧ Below w.heap.size w wr) (fun _ i _ => l.length - (intOf i).toNat)
  case atStart => exact ⟨0, 0, Nat.zero_le _, rfl, rfl, rfl, fun i h => by omega, Below.refl _ _⟩
  case round =>
    obtain ⟨k, b, hk, rfl, rfl, hbb, hall, hb⟩ := hrel
    have HA := Lib.hid hall
    have HB := Lib.hid hb
    have HBB := Lib.hid hbb
    have hsz := hb.size
    have hbn : b ≤ 4194304 := by have := insL_le l k; omega
    by_cases hlt : k < l.length
    · obtain ⟨g, rfl, hrow⟩ := HR0.out (by omega)
      have hl : k < (spansL l).length := by rw [spansL_len]; exact hlt
      have hgl : g < w.heap.size := hrow.lt (by rw [flatC_len spC_len, spansL_len]; omega)
      obtain ⟨⟨f, t, o, u, p⟩, hp⟩ : ∃ p, p = (spansL l)[k] := ⟨_, rfl⟩
      obtain ⟨⟨a0, a1, a2, a3, a4⟩, _⟩ := (hrow.below hb hgl).five k hl f t o u p hp
      have hgw : g < wr.heap.size := by omega
      rw [spansL_at] at hp
      have hi1 := insL_le l k
      have hi2 := insL_le l (k + 1)
      have ho1 := outsL_le l k
      have ho2 := outsL_le l (k + 1)
      have e1 : f = insL (l.take k) := by have := congrArg (·.1) hp; exact this
      have e2 : t = insL (l.take (k + 1)) := by have := congrArg (·.2.1) hp; exact this
      have e3 : o = outsL (l.take k) := by have := congrArg (·.2.2.1) hp; exact this
      have e4 : u = outsL (l.take (k + 1)) := by have := congrArg (·.2.2.2.1) hp; exact this
      have e5 : p = (spAt l k).2.2.2.2 := by have := congrArg (·.2.2.2.2) hp; exact this
      have hfn : f ≤ 4194304 := by omega
      have hon : o ≤ 4194304 := by omega
      have hun : u ≤ 4194304 := by omega
      have hP : pOut l a k = decide (a < (u : Int)) := by unfold pOut; rw [← e4]
      have hk2 : (k : Int) ≤ (cap : Int) := by omega
      have K0 : ∀ x, (wr.alloc x).cell? ⟨g, k * 5, none⟩ = some (.int .i64 f) := fun x => by rw [cell_alloc_lt hgw]; exact a0
      have K1 : ∀ x, (wr.alloc x).cell? ⟨g, k * 5 + 1, none⟩ = some (.int .i64 t) := fun x => by rw [cell_alloc_lt hgw]; exact a1
      have K2 : ∀ x, (wr.alloc x).cell? ⟨g, k * 5 + 2, none⟩ = some (.int .i64 o) := fun x => by rw [cell_alloc_lt hgw]; exact a2
      have K3 : ∀ x, (wr.alloc x).cell? ⟨g, k * 5 + 3, none⟩ = some (.int .i64 u) := fun x => by rw [cell_alloc_lt hgw]; exact a3
      have K4 : ∀ x, (wr.alloc x).cell? ⟨g, k * 5 + 4, none⟩ = some (.bool p) := fun x => by rw [cell_alloc_lt hgw]; exact a4
      have HE2 := Lib.hid e2
      by_cases hge : (u : Int) ≤ a
      · have HA2 : Hid (∀ i, i < k + 1 → pOut l a i = false) := by
          intro i hi
          rcases Nat.lt_or_ge i k with h | h
          · exact HA.out i h
          · rw [show i = k by omega, hP]; simp; omega
        clear hrow hp hall hb hbb e1 e2 e3 e4 e5 hP hi1 hi2 ho1 ho2 HR0 hl
        go_wp2
        go_roundw
        case rel => exact ⟨k + 1, t, by omega, by go_num, rfl, HE2.out, HA2.out, HB.out.alloc hsz _⟩
        case measure => simp [intOf]; omega
      · have hkO : kOut l a = k := kOut_at hlt hall (by rw [hP]; simp; omega)
        by_cases hpl : p = true
        · subst hpl
          by_cases hgo : (o : Int) < a
          · have ha2 : a < 4194304 := by omega
            have HV : Hid (backI l a = (f : Int) + a - (o : Int)) := by
              show _ = _
              unfold backI
              rw [hkO, if_pos ⟨hlt, e5.symm, by rw [← e3]; exact hgo⟩, ← e1, ← e3]
            clear hrow hp hall hb hbb e1 e2 e3 e4 e5 hP hi1 hi2 ho1 ho2 HR0 hl hkO
            go_wp2
            go_ret
            exact ⟨ret_int HV.out.symm, HB.out.alloc hsz _⟩
          · have HV : Hid (backI l a = (f : Int)) := by
              show _ = _
              unfold backI
              rw [hkO, if_neg (fun h => hgo (by rw [e3]; exact h.2.2)), ← e1]
            clear hrow hp hall hb hbb e1 e2 e3 e4 e5 hP hi1 hi2 ho1 ho2 HR0 hl hkO
            go_wp2
            go_ret
            exact ⟨ret_int HV.out.symm, HB.out.alloc hsz _⟩
        · have hpf : p = false := by simpa using hpl
          subst hpf
          have HV : Hid (backI l a = (f : Int)) := by
            show _ = _
            unfold backI
            rw [hkO, if_neg (fun h => by rw [← e5] at h; simp at h), ← e1]
          clear hrow hp hall hb hbb e1 e2 e3 e4 e5 hP hi1 hi2 ho1 ho2 HR0 hl hkO
          go_wp2
          go_ret
          exact ⟨ret_int HV.out.symm, HB.out.alloc hsz _⟩
    · have hke : k = l.length := by omega
      have HV : Hid (backI l a = (b : Int)) := by
        show _ = _
        have hk0 : kOut l a = l.length := kOut_all (by rw [← hke]; exact hall)
        unfold backI
        rw [hk0, if_neg (fun h => by omega), hbb, hke]
      clear hall hbb hke HR0
      go_wp2
      go_ret
      exact ⟨ret_int HV.out.symm, HB.out⟩

end Go.Proofs.Ytgjhfmlncibpmaa
