/- The law that what is there rises: at every code. Condition: the code lies in memory. (Several texts, joined: Search, IThere, SBack, LawThere, PosP, PosB, LwPosThere.) -/
import Derived.Shelf.SlSorted.Search
import Derived.Test.YtbhpogddnpaacaaProg
import Derived.Test.YtbhpogddnpaacaaChecked
import Derived.Test.YtbhpogddnpaacaaTPthb
import Derived.Test.YtbhpogddnpaacaaTPtha
import Derived.RegionTactic
import Derived.Deep.RegionHeld3
import Derived.Deep.DeepCutAuto

/- The laying of the library's sort.Search at this dump. No condition. -/
namespace Go.Proofs
open Go.Shelf
def Try.laysO16_ren : Go.Shelf.Ren := ⟨fun | 16 => 33 | n => n, fun | 3 => 3 | 4 => 4 | 35 => 71 | 38 => 88 | n => n, fun | n => n⟩
theorem Try.laysO16 : SlLaysO.n16 Try.prog Try.laysO16_ren := {
  mixed := by kernel_rfl
  f16 := Try.func33.trans (congrArg some (by kernel_rfl))
  t3 := Try.underlying3
  a3 := Try.isAgg3
  z3 := Try.sizeOf3
  v3 := Try.zeroValue3
  t4 := Try.underlying4
  a4 := Try.isAgg4
  z4 := Try.sizeOf4
  v4 := Try.zeroValue4
  t35 := Try.underlying71
  a35 := Try.isAgg71
  z35 := Try.sizeOf71
  v35 := Try.zeroValue71
  t38 := Try.underlying88
  a38 := Try.isAgg88
  z38 := Try.sizeOf88
  v38 := Try.zeroValue88 }
end Go.Proofs

/- Places found among spans by halves: there of the program. Conditions: at most 2^22 spans, places of at most 2^22 in them. -/
namespace Go.Proofs.Ytbhpogddnpaacaa
open Go.RowKit Go.Shelf Go.Sort

set_option maxRecDepth 100000 in
set_option maxHeartbeats 1600000 in
theorem thereTest_any (ba bx g n cap i : Nat) (a : Int) (u : Nat) (W : World) (hi : i < n) (ha : W.cell? ⟨ba, 0, none⟩ = some (.slice (some ⟨g, 0, none⟩) n cap)) (hx : W.cell? ⟨bx, 0, none⟩ = some (.int .i64 a)) (hc : W.cell? ⟨g, i * 5 + 3, none⟩ = some (.int .i64 u)) :
    Calls Try.prog 34 (#[.int .i64 i] ++ #[.pointer (some ⟨bx, 0, none⟩), .pointer (some ⟨ba, 0, none⟩)]) W fun e w' => e = .returned (.bool (decide (a < (u : Int)))) ∧ ∃ q, w' = W.drewN q := by
  have hiz : (i : Int) < (n : Int) := by omega
  go_enter Try.func34, Try.ntmps34
  go_wp2
  go_region
  all_goals go_wp2
  all_goals go_ret
  all_goals exact ⟨by first | rfl | simp, 1, rfl⟩

theorem search_there (ba bx cap : Nat) (ad : Option Addr) (l : List (List UInt8 × List UInt8)) (a : Int) (W : World) (hn : l.length ≤ 4194304)
    (ha : W.cell? ⟨ba, 0, none⟩ = some (.slice ad l.length cap)) (hx : W.cell? ⟨bx, 0, none⟩ = some (.int .i64 a)) (hr : 0 < l.length → ∃ g, ad = some ⟨g, 0, none⟩ ∧ RowAt W g (flatC spC (spansL l))) :
    Calls Try.prog 33 #[.int .i64 l.length, .func (.func 34) #[] #[.pointer (some ⟨bx, 0, none⟩), .pointer (some ⟨ba, 0, none⟩)]] W fun e w' => e = .returned (.int .i64 (kOut l a : Nat)) ∧ Below W.heap.size W w' := by
  have eg : ∀ args w, (callFunc 34 args).run Try.prog w = .ok (.enter 34 args) w := enters_of Try.func34 (by kernel_rfl) rfl
  have hba : ba < W.heap.size := World.block_lt_of_cell? W _ ha
  have hbx : bx < W.heap.size := World.block_lt_of_cell? W _ hx
  have hS := Any.sort_Search Try.laysO16 34 #[.pointer (some ⟨bx, 0, none⟩), .pointer (some ⟨ba, 0, none⟩)] l.length (pOut l a) W eg (by omega)
    (fun m os i hi => by
      obtain ⟨g, rfl, hc⟩ := hr (by omega)
      have hg : g < W.heap.size := hc.lt (by rw [flatC_len spC_len, spansL_len]; omega)
      exact (thereTest_any ba bx g l.length cap i a (outsL (l.take (i + 1))) _ hi (_root_.Go.cell_grown hba ha m os) (_root_.Go.cell_grown hbx hx m os) (_root_.Go.cell_grown hg ((hc.five i (by rw [spansL_len]; exact hi) (insL (l.take i)) (insL (l.take (i + 1))) (outsL (l.take i)) (outsL (l.take (i + 1))) (spAt l i).2.2.2.2 (by rw [spansL_at]; rfl)).1.2.2.2.1) m os)).mono
        fun _ _ ⟨he, q, hq⟩ => ⟨he, q, #[], by rw [hq, grow_empty]⟩)
    (pOut_mono l a l.length)
  refine hS.mono ?_
  rintro e w' ⟨rfl, q, os, rfl⟩
  exact ⟨rfl, below_grown_sl _ _ _ _ (Nat.le_refl _)⟩

theorem lastS_all (l : List (List UInt8 × List UInt8)) : (lastS (spansL l)).2.1 = insL l ∧ (lastS (spansL l)).2.2.2.1 = outsL l := by
  have := lastS_take l (k := l.length) (Nat.le_refl _)
  rwa [List.take_of_length_le (by rw [spansL_len]; omega), List.take_of_length_le (Nat.le_refl _)] at this

set_option maxRecDepth 100000 in
set_option maxHeartbeats 3200000 in
theorem there_any (v : Value) (l : List (List UInt8 × List UInt8)) (a : Int) (w : World) (ha : -9223372036854775808 ≤ a ∧ a ≤ 9223372036854775807) (hn : l.length ≤ 4194304) (hi : insL l ≤ 4194304) (ho : outsL l ≤ 4194304) (hr : RdSp w v (spansL l)) :
    Calls Try.prog 17 #[v, .int .i64 a] w fun e w' => e = .returned (.int .i64 (backI l a)) ∧ Below w.heap.size w w' := by
  have HR := Lib.hid hr
  obtain ⟨ad, cap, rfl, hcap, hrow0⟩ := hr
  have HS : Hid (∀ ba bx W, W.cell? ⟨ba, 0, none⟩ = some (.slice ad l.length cap) → W.cell? ⟨bx, 0, none⟩ = some (.int .i64 a) → (0 < l.length → ∃ g, ad = some ⟨g, 0, none⟩ ∧ RowAt W g (flatC spC (spansL l))) → Calls Try.prog 33 #[.int .i64 l.length, .func (.func 34) #[] #[.pointer (some ⟨bx, 0, none⟩), .pointer (some ⟨ba, 0, none⟩)]] W fun e w' => e = .returned (.int .i64 (kOut l a : Nat)) ∧ Below W.heap.size W w') := fun ba bx W h1 h2 h3 => search_there ba bx cap ad l a W hn h1 h2 h3
  have hke := kOut_le l a
  have HV : Hid (backI l a = if kOut l a < l.length ∧ (spAt l (kOut l a)).2.2.2.2 = true ∧ ((outsL (l.take (kOut l a)) : Nat) : Int) < a then ((insL (l.take (kOut l a)) : Nat) : Int) + a - ((outsL (l.take (kOut l a)) : Nat) : Int)
  else ((insL (l.take (kOut l a)) : Nat) : Int)) := by show _ = _; rfl
  obtain ⟨k, hk⟩ : ∃ k, k = kOut l a := ⟨_, rfl⟩
  obtain ⟨z, hz⟩ : ∃ z, z = backI l a := ⟨_, rfl⟩
  rw [← hk] at HS hke HV
  rw [← hz] at HV ⊢
  have hkP : k < l.length → a < ((outsL (l.take (k + 1)) : Nat) : Int) := fun h => by
    by_cases hh : pOut l a k = true
    · simpa [pOut] using hh
    · exfalso
      have h1 : k + 1 ≤ kOut l a := by
        unfold kOut
        have hall : ∀ i, i < k + 1 → (!pOut l a i) = true := fun i hi2 => by
          by_cases h3 : pOut l a i = true
          · exact absurd (pOut_mono l a l.length i k (by omega) h h3) hh
          · simpa using h3
        obtain ⟨d, hd⟩ : ∃ d, l.length = (k + 1) + d := ⟨l.length - (k + 1), by omega⟩
        rw [hd, List.range_add, List.countP_append, List.countP_eq_length.2 (fun x hx => hall x (List.mem_range.1 hx))]
        simp
      omega
  clear hrow0 hk hz
  rw [spansL_len] at hcap ⊢
  have HT : Hid (∀ W, RdSp W (.slice ad l.length cap) (spansL l) → Calls Try.prog 35 #[.slice ad l.length cap] W fun e w' => e = .returned (.agg #[.int .i64 (lastS (spansL l)).1, .int .i64 (insL l : Nat), .int .i64 (lastS (spansL l)).2.2.1, .int .i64 (lastS (spansL l)).2.2.2.1, .bool (lastS (spansL l)).2.2.2.2]) ∧ Below W.heap.size W w') := fun W h => by
    have := last_any (.slice ad l.length cap) (spansL l) W (by rw [spansL_len]; exact hn) h
    rwa [(lastS_all l).1] at this
  rw [spansL_len] at HR
  go_enter Try.func17, Try.ntmps17
  have C0 : Hid (∀ W0 : World, W0 = (w.alloc (.cells #[.slice ad l.length cap] 46)).alloc (.cells #[.int .i64 a] 3) → W0.cell? ⟨w.heap.size, 0, none⟩ = some (.slice ad l.length cap) ∧ W0.cell? ⟨w.heap.size + 1, 0, none⟩ = some (.int .i64 a) ∧ Below w.heap.size w W0 ∧ W0.heap.size = w.heap.size + 2) := fun W0 h => by
    subst h
    refine ⟨?_, ?_, ((Below.refl _ _).alloc (Nat.le_refl _) _).alloc (by simp) _, by simp⟩
    · rw [cell_alloc_lt (by simp)]; exact (cell_new w _ _ 0).1
    · simp
  go_wp2_with fail
  (go_at_call 33; obtain ⟨h0, h1, B0, z0⟩ := C0.out _ rfl; refine (HS.out w.heap.size (w.heap.size + 1) _ h0 h1 (fun h => by obtain ⟨ad', cap', e, _, hr⟩ := HR.out.below B0; simp at e; rw [spansL_len] at hr; obtain ⟨g, e2, h3⟩ := hr h; exact ⟨g, e.1.trans e2, h3⟩)).mono ?_; rintro e w1 ⟨rfl, b1⟩; have t0 : w1.cell? ⟨w.heap.size, 0, none⟩ = some (.slice ad l.length cap) := (by rw [b1.cell (by rw [z0]; simp <;> omega)]; exact h0); have p0 : w1.cell? ⟨w.heap.size + 1, 0, none⟩ = some (.int .i64 a) := (by rw [b1.cell (by rw [z0]; simp <;> omega)]; exact h1); have B1 : Hid (Below w.heap.size w w1) := B0.trans (b1.mono (by omega)); have z1 : w.heap.size + 2 ≤ w1.heap.size := (by rw [← z0]; exact b1.size); clear h0 h1 B0 z0 b1 HS C0)
  have HR1 := Lib.hid (HR.out.below B1.out)
  by_cases hkl : k = l.length
  · subst hkl
    have HZ : Hid (z = ((insL l : Nat) : Int)) := by
      show _ = _
      rw [HV.out, if_neg (fun h => by omega), List.take_of_length_le (Nat.le_refl _)]
    clear hkP HV
    have hfd : ∀ (f t o u : Int) (p : Bool) (w : World), (Instr.field 29 (.agg #[.int .i64 f, .int .i64 t, .int .i64 o, .int .i64 u, .bool p]) 1).run Try.prog w = .ok (.int .i64 t) w := fun _ _ _ _ _ _ => by kernel_rfl
    go_wp2_with fail
    (go_at_call 35; refine (HT.out _ HR1.out).mono ?_; rintro e w2 ⟨rfl, b2⟩)
    go_wp2_with fail
    go_ret
    exact ⟨ret_int HZ.out.symm, B1.out.trans (b2.mono (by omega))⟩
  · have hlt : k < l.length := by omega
    have hkb : ((k : Int) == (l.length : Int)) = false := by rw [beq_eq_false_iff_ne]; omega
    obtain ⟨ad', cap', e, _, hr⟩ := HR1.out
    simp [spansL_len] at e
    obtain ⟨rfl, rfl⟩ := e
    obtain ⟨g, e2, hrow⟩ := hr (by rw [spansL_len]; omega)
    subst e2
    have hl : k < (spansL l).length := by rw [spansL_len]; exact hlt
    obtain ⟨⟨f, t, o, u, p⟩, hp⟩ : ∃ p, p = (spansL l)[k] := ⟨_, rfl⟩
    obtain ⟨⟨a0, a1, a2, a3, a4⟩, _⟩ := hrow.five k hl f t o u p hp
    have hgw : g < w1.heap.size := World.block_lt_of_cell? w1 _ a0
    rw [spansL_at] at hp
    have hi1 := insL_le l k
    have hi2 := insL_le l (k + 1)
    have ho1 := outsL_le l k
    have ho2 := outsL_le l (k + 1)
    have e1 : f = insL (l.take k) := by have := congrArg (·.1) hp; exact this
    have e3 : o = outsL (l.take k) := by have := congrArg (·.2.2.1) hp; exact this
    have e5 : p = (spAt l k).2.2.2.2 := by have := congrArg (·.2.2.2.2) hp; exact this
    have hau := hkP hlt
    have ha2 : a < 4194304 := by omega
    have hfn : f ≤ 4194304 := by omega
    have hon : o ≤ 4194304 := by omega
    rw [← e1, ← e3, ← e5] at HV
    have hk2 : (k : Int) ≤ (cap : Int) := by omega
    have hk3 : (k : Int) < (l.length : Int) := by omega
    have K0 : ∀ x, (w1.alloc x).cell? ⟨g, k * 5, none⟩ = some (.int .i64 f) := fun x => by rw [cell_alloc_lt hgw]; exact a0
    have K1 : ∀ x, (w1.alloc x).cell? ⟨g, k * 5 + 1, none⟩ = some (.int .i64 t) := fun x => by rw [cell_alloc_lt hgw]; exact a1
    have K2 : ∀ x, (w1.alloc x).cell? ⟨g, k * 5 + 2, none⟩ = some (.int .i64 o) := fun x => by rw [cell_alloc_lt hgw]; exact a2
    have K3 : ∀ x, (w1.alloc x).cell? ⟨g, k * 5 + 3, none⟩ = some (.int .i64 u) := fun x => by rw [cell_alloc_lt hgw]; exact a3
    have K4 : ∀ x, (w1.alloc x).cell? ⟨g, k * 5 + 4, none⟩ = some (.bool p) := fun x => by rw [cell_alloc_lt hgw]; exact a4
    have P0 : ∀ x, (w1.alloc x).cell? ⟨w.heap.size + 1, 0, none⟩ = some (.int .i64 a) := fun x => by rw [cell_alloc_lt (by omega)]; exact p0
    have BZ : Hid (∀ x, Below w.heap.size w (w1.alloc x)) := fun x => B1.out.alloc (by omega) x
    clear hrow hr hp hl hi1 hi2 ho1 ho2 e1 e3 e5 hkP hau HT HR1 HR
    by_cases hpl : p = true
    · subst hpl
      by_cases hgo : a ≤ (o : Int)
      · have HZ : Hid (z = (f : Int)) := by show _ = _; rw [HV.out, if_neg (fun h => by have := h.2.2; omega)]
        clear HV
        go_wp2_with fail
        go_ret
        exact ⟨ret_int HZ.out.symm, BZ.out _⟩
      · have HZ : Hid (z = (f : Int) + a - (o : Int)) := by show _ = _; rw [HV.out, if_pos ⟨hlt, rfl, by omega⟩]
        clear HV
        go_wp2_with fail
        go_ret
        exact ⟨ret_int HZ.out.symm, BZ.out _⟩
    · have hpf : p = false := by simpa using hpl
      subst hpf
      have HZ : Hid (z = (f : Int)) := by show _ = _; rw [HV.out, if_neg (fun h => by simp at h)]
      clear HV
      go_wp2_with fail
      go_ret
      exact ⟨ret_int HZ.out.symm, BZ.out _⟩

end Go.Proofs.Ytbhpogddnpaacaa

/- Places found among spans by the specification: l4Back. Conditions: at most 2^22 spans, places of at most 2^22 in them. -/
namespace Go.Proofs.Ytbhpogddnpaacaa
open Go.RowKit

theorem pOut_next {l : List (List UInt8 × List UInt8)} {k : Nat} (h : k < l.length) (a : Int) : pOut l a k = decide (a < ((outsL (l.take k) + l[k].2.length + 1 : Nat) : Int)) := by
  unfold pOut
  rw [outsL_succ h]; rfl
theorem pIn_next {l : List (List UInt8 × List UInt8)} {k : Nat} (h : k < l.length) (a : Int) : pIn l a k = decide (a < ((insL (l.take k) + l[k].1.length + 1 : Nat) : Int)) := by
  unfold pIn
  rw [insL_succ h]; rfl

set_option maxRecDepth 100000 in
set_option maxHeartbeats 3200000 in
theorem specBack4_any (v : Value) (l : List (List UInt8 × List UInt8)) (a : Int) (w : World) (ha : -9223372036854775808 ≤ a ∧ a ≤ 9223372036854775807) (hn : l.length ≤ 4194304) (hi : insL l ≤ 4194304) (ho : outsL l ≤ 4194304) (hr : RdSp w v (spansL l)) :
    Calls Try.prog 18 #[v, .int .i64 a] w fun e w' => e = .returned (.int .i64 (backI l a)) ∧ Below w.heap.size w w' := by
  obtain ⟨ad, cap, rfl, hcap, hrow0⟩ := hr
  have HR0 := Lib.hid hrow0
  clear hrow0
  rw [spansL_len] at hcap HR0 ⊢
  go_enter Try.func18, Try.ntmps18
  go_wp2
  go_loopw [5, 6] (fun nn i wr => ∃ (k b : Nat), k ≤ l.length ∧ i = .int .i64 k ∧ nn = .int .i64 b ∧ b = insL (l.take k) ∧ (∀ i, i < k → pOut l a i = false) ∧ Below w.heap.size w wr) (fun _ i _ => l.length - (intOf i).toNat)
  case atStart => exact ⟨0, 0, Nat.zero_le _, rfl, rfl, rfl, fun i h => by omega, Below.refl _ _⟩
  case round =>
    obtain ⟨k, b, hk, rfl, rfl, hbb, hall, hb⟩ := hrel
    have HA := Lib.hid hall
    have HB := Lib.hid hb
    have HBB := Lib.hid hbb
    have hsz := hb.size
    have hbn : b ≤ 4194304 := by have := insL_le l k; omega
    by_cases hlt : k < l.length
    · obtain ⟨g, rfl, hrow⟩ := HR0.out (by omega)
      have hl : k < (spansL l).length := by rw [spansL_len]; exact hlt
      have hgl : g < w.heap.size := hrow.lt (by rw [flatC_len spC_len, spansL_len]; omega)
      obtain ⟨⟨f, t, o, u, p⟩, hp⟩ : ∃ p, p = (spansL l)[k] := ⟨_, rfl⟩
      obtain ⟨⟨a0, a1, a2, a3, a4⟩, _⟩ := (hrow.below hb hgl).five k hl f t o u p hp
      have hgw : g < wr.heap.size := by omega
      rw [spansL_at] at hp
      have hi1 := insL_le l k
      have hi2 := insL_le l (k + 1)
      have ho1 := outsL_le l k
      have ho2 := outsL_le l (k + 1)
      have e1 : f = insL (l.take k) := by have := congrArg (·.1) hp; exact this
      have e2 : t = insL (l.take (k + 1)) := by have := congrArg (·.2.1) hp; exact this
      have e3 : o = outsL (l.take k) := by have := congrArg (·.2.2.1) hp; exact this
      have e4 : u = outsL (l.take (k + 1)) := by have := congrArg (·.2.2.2.1) hp; exact this
      have e5 : p = (spAt l k).2.2.2.2 := by have := congrArg (·.2.2.2.2) hp; exact this
      have hfn : f ≤ 4194304 := by omega
      have hon : o ≤ 4194304 := by omega
      have hun : u ≤ 4194304 := by omega
      have hP : pOut l a k = decide (a < (u : Int)) := by unfold pOut; rw [← e4]
      have hk2 : (k : Int) ≤ (cap : Int) := by omega
      have K0 : ∀ x, (wr.alloc x).cell? ⟨g, k * 5, none⟩ = some (.int .i64 f) := fun x => by rw [cell_alloc_lt hgw]; exact a0
      have K1 : ∀ x, (wr.alloc x).cell? ⟨g, k * 5 + 1, none⟩ = some (.int .i64 t) := fun x => by rw [cell_alloc_lt hgw]; exact a1
      have K2 : ∀ x, (wr.alloc x).cell? ⟨g, k * 5 + 2, none⟩ = some (.int .i64 o) := fun x => by rw [cell_alloc_lt hgw]; exact a2
      have K3 : ∀ x, (wr.alloc x).cell? ⟨g, k * 5 + 3, none⟩ = some (.int .i64 u) := fun x => by rw [cell_alloc_lt hgw]; exact a3
      have K4 : ∀ x, (wr.alloc x).cell? ⟨g, k * 5 + 4, none⟩ = some (.bool p) := fun x => by rw [cell_alloc_lt hgw]; exact a4
      have HE2 := Lib.hid e2
      by_cases hge : (u : Int) ≤ a
      · have HA2 : Hid (∀ i, i < k + 1 → pOut l a i = false) := by
          intro i hi
          rcases Nat.lt_or_ge i k with h | h
          · exact HA.out i h
          · rw [show i = k by omega, hP]; simp; omega
        clear hrow hp hall hb hbb e1 e2 e3 e4 e5 hP hi1 hi2 ho1 ho2 HR0 hl
        go_wp2
        go_roundw
        case rel => exact ⟨k + 1, t, by omega, by go_num, rfl, HE2.out, HA2.out, HB.out.alloc hsz _⟩
        case measure => simp [intOf]; omega
      · have hkO : kOut l a = k := kOut_at hlt hall (by rw [hP]; simp; omega)
        by_cases hpl : p = true
        · subst hpl
          by_cases hgo : (o : Int) < a
          · have ha2 : a < 4194304 := by omega
            have HV : Hid (backI l a = (f : Int) + a - (o : Int)) := by
              show _ = _
              unfold backI
              rw [hkO, if_pos ⟨hlt, e5.symm, by rw [← e3]; exact hgo⟩, ← e1, ← e3]
            clear hrow hp hall hb hbb e1 e2 e3 e4 e5 hP hi1 hi2 ho1 ho2 HR0 hl hkO
            go_wp2
            go_ret
            exact ⟨ret_int HV.out.symm, HB.out.alloc hsz _⟩
          · have HV : Hid (backI l a = (f : Int)) := by
              show _ = _
              unfold backI
              rw [hkO, if_neg (fun h => hgo (by rw [e3]; exact h.2.2)), ← e1]
            clear hrow hp hall hb hbb e1 e2 e3 e4 e5 hP hi1 hi2 ho1 ho2 HR0 hl hkO
            go_wp2
            go_ret
            exact ⟨ret_int HV.out.symm, HB.out.alloc hsz _⟩
        · have hpf : p = false := by simpa using hpl
          subst hpf
          have HV : Hid (backI l a = (f : Int)) := by
            show _ = _
            unfold backI
            rw [hkO, if_neg (fun h => by rw [← e5] at h; simp at h), ← e1]
          clear hrow hp hall hb hbb e1 e2 e3 e4 e5 hP hi1 hi2 ho1 ho2 HR0 hl hkO
          go_wp2
          go_ret
          exact ⟨ret_int HV.out.symm, HB.out.alloc hsz _⟩
    · have hke : k = l.length := by omega
      have HV : Hid (backI l a = (b : Int)) := by
        show _ = _
        have hk0 : kOut l a = l.length := kOut_all (by rw [← hke]; exact hall)
        unfold backI
        rw [hk0, if_neg (fun h => by omega), hbb, hke]
      clear hall hbb hke HR0
      go_wp2
      go_ret
      exact ⟨ret_int HV.out.symm, HB.out⟩

end Go.Proofs.Ytbhpogddnpaacaa

/- PosThere of the program and of the specification, and the law on it, at every two texts and every place. No condition. -/
namespace Go.Proofs.Ytbhpogddnpaacaa
open Go.RowKit

set_option maxRecDepth 100000 in
set_option maxHeartbeats 1600000 in
theorem implThere_any (s far : ByteArray) (a : Int) (w : World) (hs : s.size ≤ 2097152) (hf : far.size ≤ 2097152) (ha : -9223372036854775808 ≤ a ∧ a ≤ 9223372036854775807) :
    Calls Try.prog 6 #[.string s, .string far, .int .i64 a] w fun e w' => e = .returned (.int .i64 (backI (pairsL s.data.toList far.data.toList) a)) ∧ Below w.heap.size w w' := by
  have h1 := insL_ge (pairsL s.data.toList far.data.toList)
  have h2 := pairsL_ins s.data.toList far.data.toList
  have h3 := pairsL_outs s.data.toList far.data.toList
  rw [len_list] at h2 h3
  have HP := Lib.hid (implPairs_any s far w hs hf)
  have HT : Hid (∀ v w, RdSp w v (spansL (pairsL s.data.toList far.data.toList)) → Calls Try.prog 17 #[v, .int .i64 a] w fun e w' => e = .returned (.int .i64 (backI (pairsL s.data.toList far.data.toList) a)) ∧ Below w.heap.size w w') :=
    fun v w h => there_any v _ a w ha (by omega) (by omega) (by omega) h
  obtain ⟨z, hz⟩ : ∃ z, z = backI (pairsL s.data.toList far.data.toList) a := ⟨_, rfl⟩
  obtain ⟨sp, hsp⟩ : ∃ sp, sp = spansL (pairsL s.data.toList far.data.toList) := ⟨_, rfl⟩
  rw [← hz] at HT ⊢
  rw [← hsp] at HT HP
  clear hz hsp h1 h2 h3
  go_enter Try.func6, Try.ntmps6
  go_wp2_with fail
  (go_at_call 8; refine HP.out.mono ?_; rintro e w1 ⟨v1, rfl, own1, b1⟩; have R1 := Lib.hid own1.rd; have B1 := Lib.hid b1; have z1 := b1.size; clear own1 b1)
  go_wp2_with fail
  (go_at_call 17; refine (HT.out v1 _ R1.out).mono ?_; rintro e w2 ⟨rfl, b2⟩)
  go_wp2_with fail
  go_ret
  exact ⟨rfl, B1.out.trans (b2.mono z1)⟩

set_option maxRecDepth 100000 in
set_option maxHeartbeats 1600000 in
theorem specThere_any (s far : ByteArray) (a : Int) (w : World) (hs : s.size ≤ 2097152) (hf : far.size ≤ 2097152) (ha : -9223372036854775808 ≤ a ∧ a ≤ 9223372036854775807) :
    Calls Try.prog 7 #[.string s, .string far, .int .i64 a] w fun e w' => e = .returned (.int .i64 (backI (pairsL s.data.toList far.data.toList) a)) ∧ Below w.heap.size w w' := by
  have h1 := insL_ge (pairsL s.data.toList far.data.toList)
  have h2 := pairsL_ins s.data.toList far.data.toList
  have h3 := pairsL_outs s.data.toList far.data.toList
  rw [len_list] at h2 h3
  have HP := Lib.hid (specBoth_any s far w hs hf)
  have HT : Hid (∀ v w, RdSp w v (spansL (pairsL s.data.toList far.data.toList)) → Calls Try.prog 18 #[v, .int .i64 a] w fun e w' => e = .returned (.int .i64 (backI (pairsL s.data.toList far.data.toList) a)) ∧ Below w.heap.size w w') :=
    fun v w h => specBack4_any v _ a w ha (by omega) (by omega) (by omega) h
  obtain ⟨z, hz⟩ : ∃ z, z = backI (pairsL s.data.toList far.data.toList) a := ⟨_, rfl⟩
  obtain ⟨sp, hsp⟩ : ∃ sp, sp = spansL (pairsL s.data.toList far.data.toList) := ⟨_, rfl⟩
  rw [← hz] at HT ⊢
  rw [← hsp] at HT HP
  clear hz hsp h1 h2 h3
  go_enter Try.func7, Try.ntmps7
  go_wp2_with fail
  (go_at_call 19; refine HP.out.mono ?_; rintro e w1 ⟨v1, rfl, own1, b1⟩; have R1 := Lib.hid own1.rd; have B1 := Lib.hid b1; have z1 := b1.size; clear own1 b1)
  go_wp2_with fail
  (go_at_call 18; refine (HT.out v1 _ R1.out).mono ?_; rintro e w2 ⟨rfl, b2⟩)
  go_wp2_with fail
  go_ret
  exact ⟨rfl, B1.out.trans (b2.mono z1)⟩

end Go.Proofs.Ytbhpogddnpaacaa

/- Places inside and outside, as data. No condition. -/
namespace Go.Proofs.Ytbhpogddnpaacaa
open Go.RowKit

theorem pIn_no {l : List (List UInt8 × List UInt8)} {a : Int} {k : Nat} (h : ((insL (l.take k) : Nat) : Int) ≤ a) : ∀ i, i < k → pIn l a i = false := fun i hi => by
  have := insL_mono l (show i + 1 ≤ k by omega)
  simp [pIn]; omega
theorem pOut_no {l : List (List UInt8 × List UInt8)} {a : Int} {k : Nat} (h : ((outsL (l.take k) : Nat) : Int) ≤ a) : ∀ i, i < k → pOut l a i = false := fun i hi => by
  have := outsL_mono l (show i + 1 ≤ k by omega)
  simp [pOut]; omega
/-- Where a place inside lies in the k-th line. -/
theorem kIn_in {l : List (List UInt8 × List UInt8)} {a : Int} {k : Nat} (hk : k < l.length) (h0 : ((insL (l.take k) : Nat) : Int) ≤ a) (h1 : a < ((insL (l.take (k + 1)) : Nat) : Int)) : kIn l a = k :=
  kIn_at hk (pIn_no h0) (by simp [pIn]; omega)
theorem kOut_in {l : List (List UInt8 × List UInt8)} {a : Int} {k : Nat} (hk : k < l.length) (h0 : ((outsL (l.take k) : Nat) : Int) ≤ a) (h1 : a < ((outsL (l.take (k + 1)) : Nat) : Int)) : kOut l a = k :=
  kOut_at hk (pOut_no h0) (by simp [pOut]; omega)
theorem kOut_end {l : List (List UInt8 × List UInt8)} {a : Int} (h0 : ((outsL l : Nat) : Int) ≤ a) : kOut l a = l.length :=
  kOut_all (fun i hi => pOut_no (k := l.length) (by rw [List.take_length]; exact h0) i hi)
theorem kIn_end {l : List (List UInt8 × List UInt8)} {a : Int} (h0 : ((insL l : Nat) : Int) ≤ a) : kIn l a = l.length :=
  kIn_all (fun i hi => pIn_no (k := l.length) (by rw [List.take_length]; exact h0) i hi)
/-- Where a line begins, and ends, both sides agree. -/
theorem outI_from {l : List (List UInt8 × List UInt8)} {k : Nat} (hk : k < l.length) : outI l (insL (l.take k)) = outsL (l.take k) := by
  have := insL_succ hk
  unfold outI
  rw [kIn_in hk (Int.le_refl _) (by omega)]
theorem outI_last {l : List (List UInt8 × List UInt8)} {k : Nat} (hk : k < l.length) : outI l ((insL (l.take (k + 1)) : Nat) - 1) = outsL (l.take k) := by
  have := insL_succ hk
  unfold outI
  rw [kIn_in hk (by omega) (by omega)]
theorem backI_from {l : List (List UInt8 × List UInt8)} {k : Nat} (hk : k < l.length) : backI l (outsL (l.take k)) = insL (l.take k) := by
  have := outsL_succ hk
  unfold backI
  rw [kOut_in hk (Int.le_refl _) (by omega), if_neg (by intro h; have := h.2.2; omega)]
theorem backI_to {l : List (List UInt8 × List UInt8)} {k : Nat} (hk : k < l.length) : backI l (outsL (l.take (k + 1))) = insL (l.take (k + 1)) := by
  by_cases h : k + 1 < l.length
  · exact backI_from h
  · have he : k + 1 = l.length := by omega
    rw [he, List.take_length]
    unfold backI
    rw [kOut_end (Int.le_refl _), if_neg (by intro h; have := h.1; omega), List.take_length]

end Go.Proofs.Ytbhpogddnpaacaa

/- Places that come back, as data: they rise with what is there, stay among the lines, and go out no farther. No condition. -/
namespace Go.Proofs.Ytbhpogddnpaacaa
open Go.RowKit

theorem kOut_ex (l : List (List UInt8 × List UInt8)) (a : Int) : ∀ n, n ≤ l.length → ∃ k, k ≤ n ∧ (∀ i, i < k → pOut l a i = false) ∧ (k < n → pOut l a k = true)
  | 0, _ => ⟨0, Nat.le_refl _, fun i h => absurd h (Nat.not_lt_zero _), fun h => absurd h (Nat.lt_irrefl _)⟩
  | n + 1, h => by
    obtain ⟨k, h1, h2, h3⟩ := kOut_ex l a n (by omega)
    by_cases hk : k < n
    · exact ⟨k, by omega, h2, fun _ => h3 hk⟩
    · have hkn : k = n := by omega
      subst hkn
      by_cases hp : pOut l a k = true
      · exact ⟨k, by omega, h2, fun _ => hp⟩
      · refine ⟨k + 1, Nat.le_refl _, fun i hi => ?_, fun h => absurd h (Nat.lt_irrefl _)⟩
        by_cases hi2 : i < k
        · exact h2 i hi2
        · have : i = k := by omega
          subst this
          simpa using hp
/-- The line in which a place outside lies. -/
theorem kOut_spec (l : List (List UInt8 × List UInt8)) {a : Int} (ha : 0 ≤ a) : ((outsL (l.take (kOut l a)) : Nat) : Int) ≤ a ∧ (kOut l a < l.length → a < ((outsL (l.take (kOut l a + 1)) : Nat) : Int)) := by
  obtain ⟨k, h1, h2, h3⟩ := kOut_ex l a l.length (Nat.le_refl _)
  have e : kOut l a = k := by
    by_cases hk : k < l.length
    · exact kOut_at hk h2 (h3 hk)
    · have hkl : k = l.length := by omega
      rw [hkl]
      exact kOut_all (fun i hi => h2 i (by omega))
  rw [e]
  constructor
  · rcases k with _ | k
    · simpa [outsL] using ha
    · have := h2 k (by omega)
      simp [pOut] at this
      omega
  · intro hk
    have := h3 hk
    simp [pOut] at this
    omega
theorem kOut_up {l : List (List UInt8 × List UInt8)} {a b : Int} (h : a ≤ b) : kOut l a ≤ kOut l b := by
  unfold kOut
  refine List.countP_mono_left fun i _ hi => ?_
  simp [pOut] at hi ⊢
  omega
/-- Where a place comes back to: in its line. -/
theorem backI_line (l : List (List UInt8 × List UInt8)) {a : Int} (ha : 0 ≤ a) : ((insL (l.take (kOut l a)) : Nat) : Int) ≤ backI l a ∧ (kOut l a < l.length → backI l a < ((insL (l.take (kOut l a + 1)) : Nat) : Int)) ∧ (¬ kOut l a < l.length → backI l a = ((insL l : Nat) : Int)) := by
  obtain ⟨h1, h2⟩ := kOut_spec l ha
  have hle := kOut_le l a
  refine ⟨?_, fun hk => ?_, fun hk => ?_⟩
  · unfold backI
    split
    · rename_i h; have := h.2.2; omega
    · omega
  · have hi := insL_succ hk
    have ho := outsL_succ hk
    have h3 := h2 hk
    unfold backI
    split
    · rename_i h
      have hs := h.2.1
      simp only [spAt, decide_eq_true_eq, List.getElem?_eq_getElem hk, Option.getD_some] at hs
      rw [hs] at ho
      omega
    · omega
  · have hk2 : kOut l a = l.length := by omega
    unfold backI
    rw [if_neg (fun h => hk h.1), hk2, List.take_length]
theorem backI_range (l : List (List UInt8 × List UInt8)) {a : Int} (ha : 0 ≤ a) : 0 ≤ backI l a ∧ backI l a ≤ ((insL l : Nat) : Int) := by
  obtain ⟨h1, h2, h3⟩ := backI_line l ha
  refine ⟨by omega, ?_⟩
  by_cases hk : kOut l a < l.length
  · have := h2 hk
    have := insL_le l (kOut l a + 1)
    omega
  · rw [h3 hk]; exact Int.le_refl _
theorem backI_neg (l : List (List UInt8 × List UInt8)) {a : Int} (ha : a < 0) : backI l a = 0 := by
  have hk : kOut l a = 0 := by
    rcases l with _ | ⟨p, l⟩
    · rfl
    · exact kOut_at (by simp) (fun i h => absurd h (Nat.not_lt_zero _)) (by simp [pOut]; omega)
  unfold backI
  rw [hk, if_neg (by rintro ⟨_, _, h⟩; simp [outsL] at h; omega)]
  simp [insL]
theorem backI_up {l : List (List UInt8 × List UInt8)} {a b : Int} (ha : 0 ≤ a) (h : a ≤ b) : backI l a ≤ backI l b := by
  obtain ⟨a1, a2, a3⟩ := backI_line l ha
  obtain ⟨b1, b2, b3⟩ := backI_line l (show 0 ≤ b by omega)
  have hk := kOut_up (l := l) h
  by_cases he : kOut l a = kOut l b
  · unfold backI
    rw [he]
    split
    · rename_i hc
      rw [if_pos ⟨hc.1, hc.2.1, by omega⟩]
      omega
    · split
      · rename_i hc; have := hc.2.2; omega
      · omega
  · have hlt : kOut l a < kOut l b := by omega
    have := a2 (Nat.lt_of_lt_of_le hlt (kOut_le l b))
    have := insL_mono l (show kOut l a + 1 ≤ kOut l b by omega)
    omega
/-- What comes back to a place lay ahead of it. -/
theorem back_out {l : List (List UInt8 × List UInt8)} {a : Int} (ha : 0 ≤ a) (hl : a < ((outsL l : Nat) : Int)) : outI l (backI l a) ≤ a := by
  obtain ⟨h1, h2, h3⟩ := backI_line l ha
  obtain ⟨g1, g2⟩ := kOut_spec l ha
  have hk : kOut l a < l.length := by
    by_cases hk : kOut l a < l.length
    · exact hk
    · have : kOut l a = l.length := by have := kOut_le l a; omega
      rw [this, List.take_length] at g1
      omega
  unfold outI
  rw [kIn_in hk h1 (h2 hk)]
  exact g1
theorem backI_all (l : List (List UInt8 × List UInt8)) : backI l ((outsL l : Nat) : Int) = ((insL l : Nat) : Int) := by
  unfold backI
  rw [kOut_end (Int.le_refl _), if_neg (fun h => absurd h.1 (Nat.lt_irrefl _)), List.take_length]

end Go.Proofs.Ytbhpogddnpaacaa

/- The law that what is there rises: at every code. Condition: the code lies in memory. -/
namespace Go.Proofs.Ytbhpogddnpaacaa
open Go.RowKit Go.Sort

theorem boxD {w w' : World} {b i : Nat} {v : Value} (h : w.cell? ⟨b, i, none⟩ = some v) (hb : Below w.heap.size w w') : w'.cell? ⟨b, i, none⟩ = some v := by
  rw [hb.cell (p := ⟨b, i, none⟩) (World.block_lt_of_cell? w _ h)]; exact h
theorem SmE.wfE {us : List (Int × Int)} (h : SmE us) : wfE us := fun x hx => (h x hx).wf
theorem backI_zero (l : List (List UInt8 × List UInt8)) : backI l 0 = 0 := by
  rcases l with _ | ⟨p, l⟩
  · rfl
  · have h := backI_from (l := p :: l) (k := 0) (by simp)
    simpa [insL, outsL] using h
theorem backI_end {l : List (List UInt8 × List UInt8)} {a : Int} (h : ((outsL l : Nat) : Int) ≤ a) : backI l a = ((insL l : Nat) : Int) := by
  unfold backI
  rw [kOut_end h, if_neg (fun h => absurd h.1 (Nat.lt_irrefl _)), List.take_length]

set_option maxRecDepth 100000 in
set_option maxHeartbeats 12800000 in
theorem lwPosThere_of (ao : Option Addr) (n cap : Nat) (w : World) (h : BytesIn w ao n) (hn : n ≤ cap) (hb1 : ¬ 1048576 < n) :
    Calls Try.prog 3 #[.slice ao n cap] w fun e w' => e = .returned (.bool true) ∧ Below w.heap.size w w' := by
  have H := Lib.hid h
  clear h
  go_enter Try.func3, Try.ntmps3
  go_wp2_with fail
  (go_at_call 5; refine (drawPosThere_any ao n cap _ H.out hn).mono ?_; rintro e w1 ⟨s, far, q, rfl, hs, hf, hqw, b1⟩)
  have BW := Lib.hid b1
  have hq : -9223372036854775808 ≤ q ∧ q ≤ 9223372036854775807 := by
    simp [Lit.wf, IntKind.min, IntKind.max, IntKind.signed, IntKind.bits] at hqw
    omega
  clear b1 H hqw
  obtain ⟨PL, hPL⟩ : ∃ l, l = pairsL s.data.toList far.data.toList := ⟨_, rfl⟩
  have h2 := pairsL_ins s.data.toList far.data.toList
  have h3 := pairsL_outs s.data.toList far.data.toList
  have h4 := insL_ge (pairsL s.data.toList far.data.toList)
  rw [len_list] at h2 h3
  rw [← hPL] at h2 h3 h4
  obtain ⟨BK, hBK⟩ : ∃ O : Int → Int, O = backI PL := ⟨_, rfl⟩
  obtain ⟨IL, hIL⟩ : ∃ i : Nat, i = insL PL := ⟨_, rfl⟩
  obtain ⟨SP, hSP⟩ : ∃ l, l = spansL PL := ⟨_, rfl⟩
  obtain ⟨KL, hKL⟩ : ∃ i : Nat, i = SP.length := ⟨_, rfl⟩
  have hkp : KL = PL.length := by rw [hKL, hSP, spansL_len]
  have HPI : Hid (∀ a : Int, -9223372036854775808 ≤ a ∧ a ≤ 9223372036854775807 → ∀ w, Calls Try.prog 6 #[.string s, .string far, .int .i64 a] w fun e w' => e = .returned (.int .i64 (BK a)) ∧ Below w.heap.size w w') := fun a ha w => by rw [hBK, hPL]; exact implThere_any s far a w hs hf ha
  have HPS : Hid (∀ w, Calls Try.prog 7 #[.string s, .string far, .int .i64 q] w fun e w' => e = .returned (.int .i64 (BK q)) ∧ Below w.heap.size w w') := fun w => by rw [hBK, hPL]; exact specThere_any s far q w hs hf hq
  have HPP : Hid (∀ w, Calls Try.prog 8 #[.string s, .string far] w fun e w' => ∃ a c, e = .returned (.slice a KL c) ∧ RdSp w' (.slice a KL c) SP ∧ Below w.heap.size w w') := fun w => by
    refine (implPairs_any s far w hs hf).mono ?_
    rintro e w' ⟨v, rfl, ho, hb⟩
    rw [← hPL, ← hSP] at ho
    obtain ⟨a, c, rfl⟩ := ho.form
    rw [← hKL] at ho ⊢
    exact ⟨a, c, rfl, ho.rd, hb⟩
  have HBR : Hid (∀ a : Int, 0 ≤ BK a ∧ BK a ≤ (IL : Int)) := fun a => by
    rw [hIL, hBK]
    by_cases ha : 0 ≤ a
    · exact backI_range PL ha
    · rw [backI_neg PL (by omega)]; omega
  have HBU : Hid (∀ a b : Int, 0 ≤ a → a ≤ b → BK a ≤ BK b) := fun a b => by rw [hBK]; exact backI_up
  have HB0 : Hid (BK 0 = 0) := by rw [hBK]; exact backI_zero PL
  have HBE : Hid (BK (far.size : Int) = (IL : Int)) := by rw [hBK, hIL]; exact backI_end (by omega)
  have HLAST : Hid (0 < KL → SP[KL - 1]? = some (spAt PL (KL - 1)) ∧ insL (PL.take (KL - 1 + 1)) = IL) := fun h0 => by
    refine ⟨?_, ?_⟩
    · rw [List.getElem?_eq_getElem (by rw [← hKL]; omega)]
      subst hSP
      rw [spansL_at]
    · rw [show KL - 1 + 1 = PL.length by omega, List.take_length, hIL]
  have HK0 : Hid (KL = 0 → IL = 0) := fun h0 => by
    rw [hIL, List.eq_nil_of_length_eq_zero (hkp.symm.trans h0)]; rfl
  have HKL := Lib.hid hKL
  have hkl : KL ≤ 2097152 := by omega
  have hil : IL ≤ 2097152 := by omega
  clear hBK hPL hIL hSP hKL hkp h2 h3 h4
  go_wp2_with fail
  (go_at_call 6; refine (HPI.out q hq _).mono ?_; rintro e w1x ⟨rfl, qb⟩)
  have zb := qb.size
  replace BW := Lib.hid (BW.out.trans (qb.mono BW.out.size))
  clear qb zb
  go_wp2_with fail
  (go_at_call 7; refine (HPS.out _).mono ?_; rintro e w2x ⟨rfl, qb⟩)
  have zb := qb.size
  replace BW := Lib.hid (BW.out.trans (qb.mono BW.out.size))
  clear qb zb
  go_wp2_with fail
  (go_at_call 8; refine (HPP.out _).mono ?_; rintro e w3x ⟨a6, c6, rfl, r6, qb⟩)
  have zb := qb.size
  replace BW := Lib.hid (BW.out.trans (qb.mono BW.out.size))
  clear qb zb
  clear HPS HPP
  obtain ⟨E, hE⟩ : ∃ E : Nat, E = IL := ⟨_, rfl⟩
  have HE : Hid ((0 < KL → ∃ g, a6 = some ⟨g, 0, none⟩ ∧ KL ≤ c6 ∧ w3x.cell? ⟨g, (KL - 1) * 5 + 1, none⟩ = some (.int .i64 (IL : Int)))) := fun h0 => by
    obtain ⟨a', c', eg, hcg, hrow⟩ := r6
    simp only [Value.slice.injEq] at eg
    obtain ⟨rfl, -, rfl⟩ := eg
    obtain ⟨g, hag, row⟩ := hrow (by rw [← HKL.out]; exact h0)
    obtain ⟨l1, l2⟩ := HLAST.out h0
    obtain ⟨⟨c0, c1, _⟩, _⟩ := row.five (KL - 1) (by rw [← HKL.out]; omega) (insL (PL.take (KL - 1))) (insL (PL.take (KL - 1 + 1))) (outsL (PL.take (KL - 1))) (outsL (PL.take (KL - 1 + 1))) ((spAt PL (KL - 1)).2.2.2.2) (by exact (Option.some.inj ((List.getElem?_eq_getElem (by rw [← HKL.out]; omega)).symm.trans l1)).symm)
    exact ⟨g, hag, by rw [HKL.out]; exact hcg, by rw [← l2]; exact c1⟩
  clear r6 hE
  go_upto_if 34 with fail
  go_cut [8] (fun s8 wx => s8 = .int .i64 (IL : Int) ∧ wx = w3x)
  case first =>
    by_cases h0 : 0 < KL
    · obtain ⟨g, rfl, hc6, cg⟩ := HE.out h0
      have h0i : (0 : Int) < (KL : Int) := by omega
      have hw : IntKind.wrap .i64 ((KL : Int) - 1) = ((KL - 1 : Nat) : Int) := by rw [show (KL : Int) - 1 = ((KL - 1 : Nat) : Int) by omega]; exact IntWalk.i64_in _ (by omega)
      have hlt : ((KL - 1 : Nat) : Int) < (KL : Int) := by omega
      clear HLAST HK0 HKL HE HBR HBU HB0 HBE HPI
      go_wp2_with fail
      go_meet
      exact ⟨rfl, rfl⟩
    · have hk0 : KL = 0 := by omega
      have hi0 := HK0.out hk0
      subst hk0
      subst hi0
      clear HLAST HK0 HKL HE HBR HBU HB0 HBE HPI
      go_wp2_with fail
      go_meet
      exact ⟨rfl, rfl⟩
  case rest =>
    obtain ⟨rfl, hwx⟩ := hcut
    have hwx2 := hwx.symm
    clear hwx
    subst hwx2
    clear HLAST HK0 HKL HE
    go_wp2_with fail
    go_loopw [9] (fun i wr => ∃ j : Nat, j ≤ far.size ∧ i = .int .i64 j ∧ Below w3x.heap.size w3x wr) (fun i _ => far.size - (intOf i).toNat)
    case atStart => exact ⟨0, Nat.zero_le _, rfl, Below.refl _ _⟩
    case round =>
      obtain ⟨j, hj, rfl, hb⟩ := hrel
      have HB := Lib.hid hb
      have hWz := BW.out.size
      have BX := Lib.hid (BW.out.trans (hb.mono hWz))
      clear hb
      by_cases hlt : j < far.size
      · have hlti : (j : Int) < (far.size : Int) := by omega
        have hw1 : IntKind.wrap .i64 ((j : Int) + 1) = (j : Int) + 1 := IntWalk.i64_in _ (by omega)
        have hup : ¬ BK ((j : Int) + 1) < BK (j : Int) := by
          have := HBU.out (j : Int) ((j : Int) + 1) (by omega) (by omega)
          omega
        go_wp2_with fail
        (go_at_call 6; refine (HPI.out _ (by omega) _).mono ?_; rintro e w2 ⟨rfl, bw2⟩)
        have HB2 := Lib.hid (HB.out.trans (bw2.mono HB.out.size))
        clear bw2
        go_wp2_with fail
        (go_at_call 6; refine (HPI.out _ (by omega) _).mono ?_; rintro e w3 ⟨rfl, bw3⟩)
        have B9 := HB2.out.trans (bw3.mono HB2.out.size)
        clear bw3
        go_wp2_with fail
        go_roundw
        case rel => exact ⟨j + 1, by omega, by go_num, B9⟩
        case measure => simp [intOf]; omega
      · have hje : j = far.size := by omega
        subst hje
        have hn0 := (HBR.out q).1
        have hn1 := (HBR.out q).2
        have hb0 := HB0.out
        have hbe := HBE.out
        go_wp2_with fail
        (go_at_call 6; refine (HPI.out _ (by omega) _).mono ?_; rintro e w4 ⟨rfl, bw4⟩)
        have BY := Lib.hid (BX.out.trans (bw4.mono BX.out.size))
        clear bw4
        go_wp2_with fail
        (go_at_call 6; refine (HPI.out _ (by omega) _).mono ?_; rintro e w5 ⟨rfl, bw5⟩)
        have BZ := Lib.hid (BY.out.trans (bw5.mono BY.out.size))
        clear bw5
        go_wp2_with fail
        (go_at_call 9; refine (haOk_any _).mono ?_; rintro e wl ⟨rfl, rfl⟩)
        go_wp2_with fail
        go_ret
        exact ⟨by simp, BZ.out⟩

set_option maxRecDepth 100000 in
set_option maxHeartbeats 800000 in
theorem lwPosThere_any (ao : Option Addr) (n cap : Nat) (w : World) (h : BytesIn w ao n) (hn : n ≤ cap) :
    Calls Try.prog 3 #[.slice ao n cap] w fun e w' => e = .returned (.bool true) ∧ Below w.heap.size w w' := by
  by_cases hb1 : 1048576 < n
  · clear h
    go_enter Try.func3, Try.ntmps3
    go_wp2_with fail
    go_ret
    exact ⟨rfl, Below.refl _ _⟩
  · exact lwPosThere_of ao n cap w h hn hb1

end Go.Proofs.Ytbhpogddnpaacaa
