/- Places found among spans by halves: there of the program. Conditions: at most 2^22 spans, places of at most 2^22 in them. -/
import Derived.Test.YtgjhfmlncibpmaaMarkSp
import Derived.Test.YtgjhfmlncibpmaaSpWith
import Derived.Test.YtgjhfmlncibpmaaSearch
import Derived.RegionTactic
namespace Go.Proofs.Ytgjhfmlncibpmaa
open Go.RowKit Go.Shelf Go.Sort

set_option maxRecDepth 100000 in
set_option maxHeartbeats 1600000 in
theorem thereTest_any (ba bx g n cap i : Nat) (a : Int) (u : Nat) (W : World) (hi : i < n) (ha : W.cell? ⟨ba, 0, none⟩ = some (.slice (some ⟨g, 0, none⟩) n cap)) (hx : W.cell? ⟨bx, 0, none⟩ = some (.int .i64 a)) (hc : W.cell? ⟨g, i * 5 + 3, none⟩ = some (.int .i64 u)) :
    Calls Try.prog 25 (#[.int .i64 i] ++ #[.pointer (some ⟨bx, 0, none⟩), .pointer (some ⟨ba, 0, none⟩)]) W fun e w' => e = .returned (.bool (decide (a < (u : Int)))) ∧ ∃ q, w' = W.drewN q := by
  have hiz : (i : Int) < (n : Int) := by omega
  go_enter Try.func25, Try.ntmps25
  go_wp2
  go_region
  all_goals go_wp2
  all_goals go_ret
  all_goals exact ⟨by first | rfl | simp, 1, rfl⟩

theorem search_there (ba bx cap : Nat) (ad : Option Addr) (l : List (List UInt8 × List UInt8)) (a : Int) (W : World) (hn : l.length ≤ 4194304)
    (ha : W.cell? ⟨ba, 0, none⟩ = some (.slice ad l.length cap)) (hx : W.cell? ⟨bx, 0, none⟩ = some (.int .i64 a)) (hr : 0 < l.length → ∃ g, ad = some ⟨g, 0, none⟩ ∧ RowAt W g (flatC spC (spansL l))) :
    Calls Try.prog 24 #[.int .i64 l.length, .func (.func 25) #[] #[.pointer (some ⟨bx, 0, none⟩), .pointer (some ⟨ba, 0, none⟩)]] W fun e w' => e = .returned (.int .i64 (kOut l a : Nat)) ∧ Below W.heap.size W w' := by
  have eg : ∀ args w, (callFunc 25 args).run Try.prog w = .ok (.enter 25 args) w := enters_of Try.func25 (by kernel_rfl) rfl
  have hba : ba < W.heap.size := World.block_lt_of_cell? W _ ha
  have hbx : bx < W.heap.size := World.block_lt_of_cell? W _ hx
  have hS := Any.sort_Search Try.laysO16 25 #[.pointer (some ⟨bx, 0, none⟩), .pointer (some ⟨ba, 0, none⟩)] l.length (pOut l a) W eg (by omega)
    (fun m os i hi => by
      obtain ⟨g, rfl, hc⟩ := hr (by omega)
      have hg : g < W.heap.size := hc.lt (by rw [flatC_len spC_len, spansL_len]; omega)
      exact (thereTest_any ba bx g l.length cap i a (outsL (l.take (i + 1))) _ hi (_root_.Go.cell_grown hba ha m os) (_root_.Go.cell_grown hbx hx m os) (_root_.Go.cell_grown hg ((hc.five i (by rw [spansL_len]; exact hi) (insL (l.take i)) (insL (l.take (i + 1))) (outsL (l.take i)) (outsL (l.take (i + 1))) (spAt l i).2.2.2.2 (by rw [spansL_at]; rfl)).1.2.2.2.1) m os)).mono
        fun _ _ ⟨he, q, hq⟩ => ⟨he, q, #[], by rw [hq, grow_empty]⟩)
    (pOut_mono l a l.length)
  refine hS.mono ?_
  rintro e w' ⟨rfl, q, os, rfl⟩
  exact ⟨rfl, below_grown_sl _ _ _ _ (Nat.le_refl _)⟩

theorem lastS_all (l : List (List UInt8 × List UInt8)) : (lastS (spansL l)).2.1 = insL l ∧ (lastS (spansL l)).2.2.2.1 = outsL l := by
  have := lastS_take l (k := l.length) (Nat.le_refl _)
  rwa [List.take_of_length_le (by rw [spansL_len]; omega), List.take_of_length_le (Nat.le_refl _)] at this

set_option maxRecDepth 100000 in
set_option maxHeartbeats 3200000 in
theorem there_any (v : Value) (l : List (List UInt8 × List UInt8)) (a : Int) (w : World) (ha : -9223372036854775808 ≤ a ∧ a ≤ 9223372036854775807) (hn : l.length ≤ 4194304) (hi : insL l ≤ 4194304) (ho : outsL l ≤ 4194304) (hr : RdSp w v (spansL l)) :
    Calls Try.prog 17 #[v, .int .i64 a] w fun e w' => e = .returned (.int .i64 (backI l a)) ∧ Below w.heap.size w w' := by
  have HR := Lib.hid hr
  obtain ⟨ad, cap, rfl, hcap, hrow0⟩ := hr
  have HS : Hid (∀ ba bx W, W.cell? ⟨ba, 0, none⟩ = some (.slice ad l.length cap) → W.cell? ⟨bx, 0, none⟩ = some (.int .i64 a) → (0 < l.length → ∃ g, ad = some ⟨g, 0, none⟩ ∧ RowAt W g (flatC spC (spansL l))) → Calls Try.prog 24 #[.int .i64 l.length, .func (.func 25) #[] #[.pointer (some ⟨bx, 0, none⟩), .pointer (some ⟨ba, 0, none⟩)]] W fun e w' => e = .returned (.int .i64 (kOut l a : Nat)) ∧ Below W.heap.size W w') := fun ba bx W h1 h2 h3 => search_there ba bx cap ad l a W hn h1 h2 h3
  have hke := kOut_le l a
  have HV : Hid (backI l a = if kOut l a < l.length ∧ (spAt l (kOut l a)).2.2.2.2 = true ∧ ((outsL (l.take (kOut l a)) : Nat) : Int) < a then ((insL (l.take (kOut l a)) : Nat) : Int) + a - ((outsL (l.take (kOut l a)) : Nat) : Int)
  else ((insL (l.take (kOut l a)) : Nat) : Int)) := by show _ = _; rfl
  obtain ⟨k, hk⟩ : ∃ k, k = kOut l a := ⟨_, rfl⟩
  obtain ⟨z, hz⟩ : ∃ z, z = backI l a := ⟨_, rfl⟩
  rw [← hk] at HS hke HV
  rw [← hz] at HV ⊢
  have hkP : k < l.length → a < ((outsL (l.take (k + 1)) : Nat) : Int) := fun h => by
    by_cases hh : pOut l a k = true
    · simpa [pOut] using hh
    · exfalso
      have h1 : k + 1 ≤ kOut l a := by
        unfold kOut
        have hall : ∀ i, i < k + 1 → (!pOut l a i) = true := fun i hi2 => by
          by_cases h3 : pOut l a i = true
          · exact absurd (pOut_mono l a l.length i k (by omega) h h3) hh
          · simpa using h3
        obtain ⟨d, hd⟩ : ∃ d, l.length = (k + 1) + d := ⟨l.length - (k + 1), by omega⟩
        rw [hd, List.range_add, List.countP_append, List.countP_eq_length.2 (fun x hx => hall x (List.mem_range.1 hx))]
        simp
      omega
  clear hrow0 hk hz
  rw [spansL_len] at hcap ⊢
  have HT : Hid (∀ W, RdSp W (.slice ad l.length cap) (spansL l) → Calls Try.prog 23 #[.slice ad l.length cap] W fun e w' => e = .returned (.agg #[.int .i64 (lastS (spansL l)).1, .int .i64 (insL l : Nat), .int .i64 (lastS (spansL l)).2.2.1, .int .i64 (lastS (spansL l)).2.2.2.1, .bool (lastS (spansL l)).2.2.2.2]) ∧ Below W.heap.size W w') := fun W h => by
    have := last_any (.slice ad l.length cap) (spansL l) W (by rw [spansL_len]; exact hn) h
    rwa [(lastS_all l).1] at this
  rw [spansL_len] at HR
  go_enter Try.func17, Try.ntmps17
  have C0 : Hid (∀ W0 : World, W0 = (w.alloc (.cells #[.slice ad l.length cap] 32)).alloc (.cells #[.int .i64 a] 3) → W0.cell? ⟨w.heap.size, 0, none⟩ = some (.slice ad l.length cap) ∧ W0.cell? ⟨w.heap.size + 1, 0, none⟩ = some (.int .i64 a) ∧ Below w.heap.size w W0 ∧ W0.heap.size = w.heap.size + 2) := fun W0 h => by
    subst h
    refine ⟨?_, ?_, ((Below.refl _ _).alloc (Nat.le_refl _) _).alloc (by simp) _, by simp⟩
    · rw [cell_alloc_lt (by simp)]; exact (cell_new w _ _ 0).1
    · simp
  go_wp2_with fail
  (go_at_call 24; obtain ⟨h0, h1, B0, z0⟩ := C0.out _ rfl; refine (HS.out w.heap.size (w.heap.size + 1) _ h0 h1 (fun h => by obtain ⟨ad', cap', e, _, hr⟩ := HR.out.below B0; simp at e; rw [spansL_len] at hr; obtain ⟨g, e2, h3⟩ := hr h; exact ⟨g, e.1.trans e2, h3⟩)).mono ?_; rintro e w1 ⟨rfl, b1⟩; have t0 : w1.cell? ⟨w.heap.size, 0, none⟩ = some (.slice ad l.length cap) := (by rw [b1.cell (by rw [z0]; simp <;> omega)]; exact h0); have p0 : w1.cell? ⟨w.heap.size + 1, 0, none⟩ = some (.int .i64 a) := (by rw [b1.cell (by rw [z0]; simp <;> omega)]; exact h1); have B1 : Hid (Below w.heap.size w w1) := B0.trans (b1.mono (by omega)); have z1 : w.heap.size + 2 ≤ w1.heap.size := (by rw [← z0]; exact b1.size); clear h0 h1 B0 z0 b1 HS C0)
  have HR1 := Lib.hid (HR.out.below B1.out)
  by_cases hkl : k = l.length
  · subst hkl
    have HZ : Hid (z = ((insL l : Nat) : Int)) := by
      show _ = _
      rw [HV.out, if_neg (fun h => by omega), List.take_of_length_le (Nat.le_refl _)]
    clear hkP HV
    have hfd : ∀ (f t o u : Int) (p : Bool) (w : World), (Instr.field 36 (.agg #[.int .i64 f, .int .i64 t, .int .i64 o, .int .i64 u, .bool p]) 1).run Try.prog w = .ok (.int .i64 t) w := fun _ _ _ _ _ _ => by kernel_rfl
    go_wp2_with fail
    (go_at_call 23; refine (HT.out _ HR1.out).mono ?_; rintro e w2 ⟨rfl, b2⟩)
    go_wp2_with fail
    go_ret
    exact ⟨ret_int HZ.out.symm, B1.out.trans (b2.mono (by omega))⟩
  · have hlt : k < l.length := by omega
    have hkb : ((k : Int) == (l.length : Int)) = false := by rw [beq_eq_false_iff_ne]; omega
    obtain ⟨ad', cap', e, _, hr⟩ := HR1.out
    simp [spansL_len] at e
    obtain ⟨rfl, rfl⟩ := e
    obtain ⟨g, e2, hrow⟩ := hr (by rw [spansL_len]; omega)
    subst e2
    have hl : k < (spansL l).length := by rw [spansL_len]; exact hlt
    obtain ⟨⟨f, t, o, u, p⟩, hp⟩ : ∃ p, p = (spansL l)[k] := ⟨_, rfl⟩
    obtain ⟨⟨a0, a1, a2, a3, a4⟩, _⟩ := hrow.five k hl f t o u p hp
    have hgw : g < w1.heap.size := World.block_lt_of_cell? w1 _ a0
    rw [spansL_at] at hp
    have hi1 := insL_le l k
    have hi2 := insL_le l (k + 1)
    have ho1 := outsL_le l k
    have ho2 := outsL_le l (k + 1)
    have e1 : f = insL (l.take k) := by have := congrArg (·.1) hp; exact this
    have e3 : o = outsL (l.take k) := by have := congrArg (·.2.2.1) hp; exact this
    have e5 : p = (spAt l k).2.2.2.2 := by have := congrArg (·.2.2.2.2) hp; exact this
    have hau := hkP hlt
    have ha2 : a < 4194304 := by omega
    have hfn : f ≤ 4194304 := by omega
    have hon : o ≤ 4194304 := by omega
    rw [← e1, ← e3, ← e5] at HV
    have hk2 : (k : Int) ≤ (cap : Int) := by omega
    have hk3 : (k : Int) < (l.length : Int) := by omega
    have K0 : ∀ x, (w1.alloc x).cell? ⟨g, k * 5, none⟩ = some (.int .i64 f) := fun x => by rw [cell_alloc_lt hgw]; exact a0
    have K1 : ∀ x, (w1.alloc x).cell? ⟨g, k * 5 + 1, none⟩ = some (.int .i64 t) := fun x => by rw [cell_alloc_lt hgw]; exact a1
    have K2 : ∀ x, (w1.alloc x).cell? ⟨g, k * 5 + 2, none⟩ = some (.int .i64 o) := fun x => by rw [cell_alloc_lt hgw]; exact a2
    have K3 : ∀ x, (w1.alloc x).cell? ⟨g, k * 5 + 3, none⟩ = some (.int .i64 u) := fun x => by rw [cell_alloc_lt hgw]; exact a3
    have K4 : ∀ x, (w1.alloc x).cell? ⟨g, k * 5 + 4, none⟩ = some (.bool p) := fun x => by rw [cell_alloc_lt hgw]; exact a4
    have P0 : ∀ x, (w1.alloc x).cell? ⟨w.heap.size + 1, 0, none⟩ = some (.int .i64 a) := fun x => by rw [cell_alloc_lt (by omega)]; exact p0
    have BZ : Hid (∀ x, Below w.heap.size w (w1.alloc x)) := fun x => B1.out.alloc (by omega) x
    clear hrow hr hp hl hi1 hi2 ho1 ho2 e1 e3 e5 hkP hau HT HR1 HR
    by_cases hpl : p = true
    · subst hpl
      by_cases hgo : a ≤ (o : Int)
      · have HZ : Hid (z = (f : Int)) := by show _ = _; rw [HV.out, if_neg (fun h => by have := h.2.2; omega)]
        clear HV
        go_wp2_with fail
        go_ret
        exact ⟨ret_int HZ.out.symm, BZ.out _⟩
      · have HZ : Hid (z = (f : Int) + a - (o : Int)) := by show _ = _; rw [HV.out, if_pos ⟨hlt, rfl, by omega⟩]
        clear HV
        go_wp2_with fail
        go_ret
        exact ⟨ret_int HZ.out.symm, BZ.out _⟩
    · have hpf : p = false := by simpa using hpl
      subst hpf
      have HZ : Hid (z = (f : Int)) := by show _ = _; rw [HV.out, if_neg (fun h => by simp at h)]
      clear HV
      go_wp2_with fail
      go_ret
      exact ⟨ret_int HZ.out.symm, BZ.out _⟩

end Go.Proofs.Ytgjhfmlncibpmaa
