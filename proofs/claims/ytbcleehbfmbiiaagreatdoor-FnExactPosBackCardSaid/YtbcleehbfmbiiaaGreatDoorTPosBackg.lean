/- PosOut and PosBack of the specification, and of the program. Conditions: at most 2^22 ends; the text has at most 2^21 bytes. (Several texts, joined: Search, IThere, IOut, SBack, SOut, PosOB.) -/
import Derived.Shelf.SlSorted.Search
import Derived.Test.YtbcleehbfmbiiaaGreatDoorProg
import Derived.Test.YtbcleehbfmbiiaaGreatDoorChecked
import Derived.Test.YtbcleehbfmbiiaaGreatDoorTPosBackf
import Derived.RegionTactic

/- The laying of the library's sort.Search at this dump. No condition. -/
namespace Go.Proofs
open Go.Shelf
def Tryz.laysO16_ren : Go.Shelf.Ren := ⟨fun | 16 => 79 | n => n, fun | 3 => 3 | 4 => 4 | 35 => 102 | 38 => 112 | n => n, fun | n => n⟩
theorem Tryz.laysO16 : SlLaysO.n16 Tryz.prog Tryz.laysO16_ren := {
  mixed := by kernel_rfl
  f16 := Tryz.func79.trans (congrArg some (by kernel_rfl))
  t3 := Tryz.underlying3
  a3 := Tryz.isAgg3
  z3 := Tryz.sizeOf3
  v3 := Tryz.zeroValue3
  t4 := Tryz.underlying4
  a4 := Tryz.isAgg4
  z4 := Tryz.sizeOf4
  v4 := Tryz.zeroValue4
  t35 := Tryz.underlying102
  a35 := Tryz.isAgg102
  z35 := Tryz.sizeOf102
  v35 := Tryz.zeroValue102
  t38 := Tryz.underlying112
  a38 := Tryz.isAgg112
  z38 := Tryz.sizeOf112
  v38 := Tryz.zeroValue112 }
end Go.Proofs

/- Places found among spans by halves: there of the program. Conditions: at most 2^22 spans, places of at most 2^22 in them. -/
namespace Go.Proofs.YtbcleehbfmbiiaaGreatDoor
open Go.RowKit Go.Shelf Go.Sort

set_option maxRecDepth 100000 in
set_option maxHeartbeats 1600000 in
theorem thereTest_any (ba bx g n cap i : Nat) (a : Int) (u : Nat) (W : World) (hi : i < n) (ha : W.cell? ⟨ba, 0, none⟩ = some (.slice (some ⟨g, 0, none⟩) n cap)) (hx : W.cell? ⟨bx, 0, none⟩ = some (.int .i64 a)) (hc : W.cell? ⟨g, i * 5 + 3, none⟩ = some (.int .i64 u)) :
    Calls Tryz.prog 82 (#[.int .i64 i] ++ #[.pointer (some ⟨bx, 0, none⟩), .pointer (some ⟨ba, 0, none⟩)]) W fun e w' => e = .returned (.bool (decide (a < (u : Int)))) ∧ ∃ q, w' = W.drewN q := by
  have hiz : (i : Int) < (n : Int) := by omega
  go_enter Tryz.func82, Tryz.ntmps82
  go_wp2
  go_region
  all_goals go_wp2
  all_goals go_ret
  all_goals exact ⟨by first | rfl | simp, 1, rfl⟩

theorem search_there (ba bx cap : Nat) (ad : Option Addr) (l : List (List UInt8 × List UInt8)) (a : Int) (W : World) (hn : l.length ≤ 4194304)
    (ha : W.cell? ⟨ba, 0, none⟩ = some (.slice ad l.length cap)) (hx : W.cell? ⟨bx, 0, none⟩ = some (.int .i64 a)) (hr : 0 < l.length → ∃ g, ad = some ⟨g, 0, none⟩ ∧ RowAt W g (flatC spC (spansL l))) :
    Calls Tryz.prog 79 #[.int .i64 l.length, .func (.func 82) #[] #[.pointer (some ⟨bx, 0, none⟩), .pointer (some ⟨ba, 0, none⟩)]] W fun e w' => e = .returned (.int .i64 (kOut l a : Nat)) ∧ Below W.heap.size W w' := by
  have eg : ∀ args w, (callFunc 82 args).run Tryz.prog w = .ok (.enter 82 args) w := enters_of Tryz.func82 (by kernel_rfl) rfl
  have hba : ba < W.heap.size := World.block_lt_of_cell? W _ ha
  have hbx : bx < W.heap.size := World.block_lt_of_cell? W _ hx
  have hS := Any.sort_Search Tryz.laysO16 82 #[.pointer (some ⟨bx, 0, none⟩), .pointer (some ⟨ba, 0, none⟩)] l.length (pOut l a) W eg (by omega)
    (fun m os i hi => by
      obtain ⟨g, rfl, hc⟩ := hr (by omega)
      have hg : g < W.heap.size := hc.lt (by rw [flatC_len spC_len, spansL_len]; omega)
      exact (thereTest_any ba bx g l.length cap i a (outsL (l.take (i + 1))) _ hi (_root_.Go.cell_grown hba ha m os) (_root_.Go.cell_grown hbx hx m os) (_root_.Go.cell_grown hg ((hc.five i (by rw [spansL_len]; exact hi) (insL (l.take i)) (insL (l.take (i + 1))) (outsL (l.take i)) (outsL (l.take (i + 1))) (spAt l i).2.2.2.2 (by rw [spansL_at]; rfl)).1.2.2.2.1) m os)).mono
        fun _ _ ⟨he, q, hq⟩ => ⟨he, q, #[], by rw [hq, grow_empty]⟩)
    (pOut_mono l a l.length)
  refine hS.mono ?_
  rintro e w' ⟨rfl, q, os, rfl⟩
  exact ⟨rfl, below_grown_sl _ _ _ _ (Nat.le_refl _)⟩

theorem lastS_all (l : List (List UInt8 × List UInt8)) : (lastS (spansL l)).2.1 = insL l ∧ (lastS (spansL l)).2.2.2.1 = outsL l := by
  have := lastS_take l (k := l.length) (Nat.le_refl _)
  rwa [List.take_of_length_le (by rw [spansL_len]; omega), List.take_of_length_le (Nat.le_refl _)] at this

set_option maxRecDepth 100000 in
set_option maxHeartbeats 3200000 in
theorem there_any (v : Value) (l : List (List UInt8 × List UInt8)) (a : Int) (w : World) (ha : -9223372036854775808 ≤ a ∧ a ≤ 9223372036854775807) (hn : l.length ≤ 4194304) (hi : insL l ≤ 4194304) (ho : outsL l ≤ 4194304) (hr : RdSp w v (spansL l)) :
    Calls Tryz.prog 52 #[v, .int .i64 a] w fun e w' => e = .returned (.int .i64 (backI l a)) ∧ Below w.heap.size w w' := by
  have HR := Lib.hid hr
  obtain ⟨ad, cap, rfl, hcap, hrow0⟩ := hr
  have HS : Hid (∀ ba bx W, W.cell? ⟨ba, 0, none⟩ = some (.slice ad l.length cap) → W.cell? ⟨bx, 0, none⟩ = some (.int .i64 a) → (0 < l.length → ∃ g, ad = some ⟨g, 0, none⟩ ∧ RowAt W g (flatC spC (spansL l))) → Calls Tryz.prog 79 #[.int .i64 l.length, .func (.func 82) #[] #[.pointer (some ⟨bx, 0, none⟩), .pointer (some ⟨ba, 0, none⟩)]] W fun e w' => e = .returned (.int .i64 (kOut l a : Nat)) ∧ Below W.heap.size W w') := fun ba bx W h1 h2 h3 => search_there ba bx cap ad l a W hn h1 h2 h3
  have hke := kOut_le l a
  have HV : Hid (backI l a = if kOut l a < l.length ∧ (spAt l (kOut l a)).2.2.2.2 = true ∧ ((outsL (l.take (kOut l a)) : Nat) : Int) < a then ((insL (l.take (kOut l a)) : Nat) : Int) + a - ((outsL (l.take (kOut l a)) : Nat) : Int)
  else ((insL (l.take (kOut l a)) : Nat) : Int)) := by show _ = _; rfl
  obtain ⟨k, hk⟩ : ∃ k, k = kOut l a := ⟨_, rfl⟩
  obtain ⟨z, hz⟩ : ∃ z, z = backI l a := ⟨_, rfl⟩
  rw [← hk] at HS hke HV
  rw [← hz] at HV ⊢
  have hkP : k < l.length → a < ((outsL (l.take (k + 1)) : Nat) : Int) := fun h => by
    by_cases hh : pOut l a k = true
    · simpa [pOut] using hh
    · exfalso
      have h1 : k + 1 ≤ kOut l a := by
        unfold kOut
        have hall : ∀ i, i < k + 1 → (!pOut l a i) = true := fun i hi2 => by
          by_cases h3 : pOut l a i = true
          · exact absurd (pOut_mono l a l.length i k (by omega) h h3) hh
          · simpa using h3
        obtain ⟨d, hd⟩ : ∃ d, l.length = (k + 1) + d := ⟨l.length - (k + 1), by omega⟩
        rw [hd, List.range_add, List.countP_append, List.countP_eq_length.2 (fun x hx => hall x (List.mem_range.1 hx))]
        simp
      omega
  clear hrow0 hk hz
  rw [spansL_len] at hcap ⊢
  have HT : Hid (∀ W, RdSp W (.slice ad l.length cap) (spansL l) → Calls Tryz.prog 81 #[.slice ad l.length cap] W fun e w' => e = .returned (.agg #[.int .i64 (lastS (spansL l)).1, .int .i64 (insL l : Nat), .int .i64 (lastS (spansL l)).2.2.1, .int .i64 (lastS (spansL l)).2.2.2.1, .bool (lastS (spansL l)).2.2.2.2]) ∧ Below W.heap.size W w') := fun W h => by
    have := last_any (.slice ad l.length cap) (spansL l) W (by rw [spansL_len]; exact hn) h
    rwa [(lastS_all l).1] at this
  rw [spansL_len] at HR
  go_enter Tryz.func52, Tryz.ntmps52
  have C0 : Hid (∀ W0 : World, W0 = (w.alloc (.cells #[.slice ad l.length cap] 71)).alloc (.cells #[.int .i64 a] 3) → W0.cell? ⟨w.heap.size, 0, none⟩ = some (.slice ad l.length cap) ∧ W0.cell? ⟨w.heap.size + 1, 0, none⟩ = some (.int .i64 a) ∧ Below w.heap.size w W0 ∧ W0.heap.size = w.heap.size + 2) := fun W0 h => by
    subst h
    refine ⟨?_, ?_, ((Below.refl _ _).alloc (Nat.le_refl _) _).alloc (by simp) _, by simp⟩
    · rw [cell_alloc_lt (by simp)]; exact (cell_new w _ _ 0).1
    · simp
  go_wp2_with fail
  (go_at_call 79; obtain ⟨h0, h1, B0, z0⟩ := C0.out _ rfl; refine (HS.out w.heap.size (w.heap.size + 1) _ h0 h1 (fun h => by obtain ⟨ad', cap', e, _, hr⟩ := HR.out.below B0; simp at e; rw [spansL_len] at hr; obtain ⟨g, e2, h3⟩ := hr h; exact ⟨g, e.1.trans e2, h3⟩)).mono ?_; rintro e w1 ⟨rfl, b1⟩; have t0 : w1.cell? ⟨w.heap.size, 0, none⟩ = some (.slice ad l.length cap) := (by rw [b1.cell (by rw [z0]; simp <;> omega)]; exact h0); have p0 : w1.cell? ⟨w.heap.size + 1, 0, none⟩ = some (.int .i64 a) := (by rw [b1.cell (by rw [z0]; simp <;> omega)]; exact h1); have B1 : Hid (Below w.heap.size w w1) := B0.trans (b1.mono (by omega)); have z1 : w.heap.size + 2 ≤ w1.heap.size := (by rw [← z0]; exact b1.size); clear h0 h1 B0 z0 b1 HS C0)
  have HR1 := Lib.hid (HR.out.below B1.out)
  by_cases hkl : k = l.length
  · subst hkl
    have HZ : Hid (z = ((insL l : Nat) : Int)) := by
      show _ = _
      rw [HV.out, if_neg (fun h => by omega), List.take_of_length_le (Nat.le_refl _)]
    clear hkP HV
    have hfd : ∀ (f t o u : Int) (p : Bool) (w : World), (Instr.field 70 (.agg #[.int .i64 f, .int .i64 t, .int .i64 o, .int .i64 u, .bool p]) 1).run Tryz.prog w = .ok (.int .i64 t) w := fun _ _ _ _ _ _ => by kernel_rfl
    go_wp2_with fail
    (go_at_call 81; refine (HT.out _ HR1.out).mono ?_; rintro e w2 ⟨rfl, b2⟩)
    go_wp2_with fail
    go_ret
    exact ⟨ret_int HZ.out.symm, B1.out.trans (b2.mono (by omega))⟩
  · have hlt : k < l.length := by omega
    have hkb : ((k : Int) == (l.length : Int)) = false := by rw [beq_eq_false_iff_ne]; omega
    obtain ⟨ad', cap', e, _, hr⟩ := HR1.out
    simp [spansL_len] at e
    obtain ⟨rfl, rfl⟩ := e
    obtain ⟨g, e2, hrow⟩ := hr (by rw [spansL_len]; omega)
    subst e2
    have hl : k < (spansL l).length := by rw [spansL_len]; exact hlt
    obtain ⟨⟨f, t, o, u, p⟩, hp⟩ : ∃ p, p = (spansL l)[k] := ⟨_, rfl⟩
    obtain ⟨⟨a0, a1, a2, a3, a4⟩, _⟩ := hrow.five k hl f t o u p hp
    have hgw : g < w1.heap.size := World.block_lt_of_cell? w1 _ a0
    rw [spansL_at] at hp
    have hi1 := insL_le l k
    have hi2 := insL_le l (k + 1)
    have ho1 := outsL_le l k
    have ho2 := outsL_le l (k + 1)
    have e1 : f = insL (l.take k) := by have := congrArg (·.1) hp; exact this
    have e3 : o = outsL (l.take k) := by have := congrArg (·.2.2.1) hp; exact this
    have e5 : p = (spAt l k).2.2.2.2 := by have := congrArg (·.2.2.2.2) hp; exact this
    have hau := hkP hlt
    have ha2 : a < 4194304 := by omega
    have hfn : f ≤ 4194304 := by omega
    have hon : o ≤ 4194304 := by omega
    rw [← e1, ← e3, ← e5] at HV
    have hk2 : (k : Int) ≤ (cap : Int) := by omega
    have hk3 : (k : Int) < (l.length : Int) := by omega
    have K0 : ∀ x, (w1.alloc x).cell? ⟨g, k * 5, none⟩ = some (.int .i64 f) := fun x => by rw [cell_alloc_lt hgw]; exact a0
    have K1 : ∀ x, (w1.alloc x).cell? ⟨g, k * 5 + 1, none⟩ = some (.int .i64 t) := fun x => by rw [cell_alloc_lt hgw]; exact a1
    have K2 : ∀ x, (w1.alloc x).cell? ⟨g, k * 5 + 2, none⟩ = some (.int .i64 o) := fun x => by rw [cell_alloc_lt hgw]; exact a2
    have K3 : ∀ x, (w1.alloc x).cell? ⟨g, k * 5 + 3, none⟩ = some (.int .i64 u) := fun x => by rw [cell_alloc_lt hgw]; exact a3
    have K4 : ∀ x, (w1.alloc x).cell? ⟨g, k * 5 + 4, none⟩ = some (.bool p) := fun x => by rw [cell_alloc_lt hgw]; exact a4
    have P0 : ∀ x, (w1.alloc x).cell? ⟨w.heap.size + 1, 0, none⟩ = some (.int .i64 a) := fun x => by rw [cell_alloc_lt (by omega)]; exact p0
    have BZ : Hid (∀ x, Below w.heap.size w (w1.alloc x)) := fun x => B1.out.alloc (by omega) x
    clear hrow hr hp hl hi1 hi2 ho1 ho2 e1 e3 e5 hkP hau HT HR1 HR
    by_cases hpl : p = true
    · subst hpl
      by_cases hgo : a ≤ (o : Int)
      · have HZ : Hid (z = (f : Int)) := by show _ = _; rw [HV.out, if_neg (fun h => by have := h.2.2; omega)]
        clear HV
        go_wp2_with fail
        go_ret
        exact ⟨ret_int HZ.out.symm, BZ.out _⟩
      · have HZ : Hid (z = (f : Int) + a - (o : Int)) := by show _ = _; rw [HV.out, if_pos ⟨hlt, rfl, by omega⟩]
        clear HV
        go_wp2_with fail
        go_ret
        exact ⟨ret_int HZ.out.symm, BZ.out _⟩
    · have hpf : p = false := by simpa using hpl
      subst hpf
      have HZ : Hid (z = (f : Int)) := by show _ = _; rw [HV.out, if_neg (fun h => by simp at h)]
      clear HV
      go_wp2_with fail
      go_ret
      exact ⟨ret_int HZ.out.symm, BZ.out _⟩

end Go.Proofs.YtbcleehbfmbiiaaGreatDoor

/- Places found among spans by halves: out of the program. Conditions: at most 2^22 spans, places of at most 2^22 in them. -/
namespace Go.Proofs.YtbcleehbfmbiiaaGreatDoor
open Go.RowKit Go.Shelf Go.Sort

set_option maxRecDepth 100000 in
set_option maxHeartbeats 1600000 in
theorem outTest_any (ba bx g n cap i : Nat) (a : Int) (u : Nat) (W : World) (hi : i < n) (ha : W.cell? ⟨ba, 0, none⟩ = some (.slice (some ⟨g, 0, none⟩) n cap)) (hx : W.cell? ⟨bx, 0, none⟩ = some (.int .i64 a)) (hc : W.cell? ⟨g, i * 5 + 1, none⟩ = some (.int .i64 u)) :
    Calls Tryz.prog 80 (#[.int .i64 i] ++ #[.pointer (some ⟨bx, 0, none⟩), .pointer (some ⟨ba, 0, none⟩)]) W fun e w' => e = .returned (.bool (decide (a < (u : Int)))) ∧ ∃ q, w' = W.drewN q := by
  have hiz : (i : Int) < (n : Int) := by omega
  go_enter Tryz.func80, Tryz.ntmps80
  go_wp2
  go_region
  all_goals go_wp2
  all_goals go_ret
  all_goals exact ⟨by first | rfl | simp, 1, rfl⟩

theorem search_out (ba bx cap : Nat) (ad : Option Addr) (l : List (List UInt8 × List UInt8)) (a : Int) (W : World) (hn : l.length ≤ 4194304)
    (ha : W.cell? ⟨ba, 0, none⟩ = some (.slice ad l.length cap)) (hx : W.cell? ⟨bx, 0, none⟩ = some (.int .i64 a)) (hr : 0 < l.length → ∃ g, ad = some ⟨g, 0, none⟩ ∧ RowAt W g (flatC spC (spansL l))) :
    Calls Tryz.prog 79 #[.int .i64 l.length, .func (.func 80) #[] #[.pointer (some ⟨bx, 0, none⟩), .pointer (some ⟨ba, 0, none⟩)]] W fun e w' => e = .returned (.int .i64 (kIn l a : Nat)) ∧ Below W.heap.size W w' := by
  have eg : ∀ args w, (callFunc 80 args).run Tryz.prog w = .ok (.enter 80 args) w := enters_of Tryz.func80 (by kernel_rfl) rfl
  have hba : ba < W.heap.size := World.block_lt_of_cell? W _ ha
  have hbx : bx < W.heap.size := World.block_lt_of_cell? W _ hx
  have hS := Any.sort_Search Tryz.laysO16 80 #[.pointer (some ⟨bx, 0, none⟩), .pointer (some ⟨ba, 0, none⟩)] l.length (pIn l a) W eg (by omega)
    (fun m os i hi => by
      obtain ⟨g, rfl, hc⟩ := hr (by omega)
      have hg : g < W.heap.size := hc.lt (by rw [flatC_len spC_len, spansL_len]; omega)
      exact (outTest_any ba bx g l.length cap i a (insL (l.take (i + 1))) _ hi (_root_.Go.cell_grown hba ha m os) (_root_.Go.cell_grown hbx hx m os) (_root_.Go.cell_grown hg ((hc.five i (by rw [spansL_len]; exact hi) (insL (l.take i)) (insL (l.take (i + 1))) (outsL (l.take i)) (outsL (l.take (i + 1))) (spAt l i).2.2.2.2 (by rw [spansL_at]; rfl)).1.2.1) m os)).mono
        fun _ _ ⟨he, q, hq⟩ => ⟨he, q, #[], by rw [hq, grow_empty]⟩)
    (pIn_mono l a l.length)
  refine hS.mono ?_
  rintro e w' ⟨rfl, q, os, rfl⟩
  exact ⟨rfl, below_grown_sl _ _ _ _ (Nat.le_refl _)⟩

set_option maxRecDepth 100000 in
set_option maxHeartbeats 3200000 in
theorem outOf_any (v : Value) (l : List (List UInt8 × List UInt8)) (a : Int) (w : World) (hn : l.length ≤ 4194304) (hr : RdSp w v (spansL l)) :
    Calls Tryz.prog 50 #[v, .int .i64 a] w fun e w' => e = .returned (.int .i64 (outI l a)) ∧ Below w.heap.size w w' := by
  have HR := Lib.hid hr
  obtain ⟨ad, cap, rfl, hcap, hrow0⟩ := hr
  have HS : Hid (∀ ba bx W, W.cell? ⟨ba, 0, none⟩ = some (.slice ad l.length cap) → W.cell? ⟨bx, 0, none⟩ = some (.int .i64 a) → (0 < l.length → ∃ g, ad = some ⟨g, 0, none⟩ ∧ RowAt W g (flatC spC (spansL l))) → Calls Tryz.prog 79 #[.int .i64 l.length, .func (.func 80) #[] #[.pointer (some ⟨bx, 0, none⟩), .pointer (some ⟨ba, 0, none⟩)]] W fun e w' => e = .returned (.int .i64 (kIn l a : Nat)) ∧ Below W.heap.size W w') := fun ba bx W h1 h2 h3 => search_out ba bx cap ad l a W hn h1 h2 h3
  have hke := kIn_le l a
  have HV : Hid (outI l a = ((outsL (l.take (kIn l a)) : Nat) : Int)) := by show _ = _; rfl
  obtain ⟨k, hk⟩ : ∃ k, k = kIn l a := ⟨_, rfl⟩
  obtain ⟨z, hz⟩ : ∃ z, z = outI l a := ⟨_, rfl⟩
  rw [← hk] at HS hke HV
  rw [← hz] at HV ⊢
  clear hrow0 hk hz
  rw [spansL_len] at hcap ⊢
  have HT : Hid (∀ W, RdSp W (.slice ad l.length cap) (spansL l) → Calls Tryz.prog 81 #[.slice ad l.length cap] W fun e w' => e = .returned (.agg #[.int .i64 (lastS (spansL l)).1, .int .i64 (lastS (spansL l)).2.1, .int .i64 (lastS (spansL l)).2.2.1, .int .i64 (outsL l : Nat), .bool (lastS (spansL l)).2.2.2.2]) ∧ Below W.heap.size W w') := fun W h => by
    have := last_any (.slice ad l.length cap) (spansL l) W (by rw [spansL_len]; exact hn) h
    rwa [(lastS_all l).2] at this
  rw [spansL_len] at HR
  go_enter Tryz.func50, Tryz.ntmps50
  have C0 : Hid (∀ W0 : World, W0 = (w.alloc (.cells #[.slice ad l.length cap] 71)).alloc (.cells #[.int .i64 a] 3) → W0.cell? ⟨w.heap.size, 0, none⟩ = some (.slice ad l.length cap) ∧ W0.cell? ⟨w.heap.size + 1, 0, none⟩ = some (.int .i64 a) ∧ Below w.heap.size w W0 ∧ W0.heap.size = w.heap.size + 2) := fun W0 h => by
    subst h
    refine ⟨?_, ?_, ((Below.refl _ _).alloc (Nat.le_refl _) _).alloc (by simp) _, by simp⟩
    · rw [cell_alloc_lt (by simp)]; exact (cell_new w _ _ 0).1
    · simp
  go_wp2_with fail
  (go_at_call 79; obtain ⟨h0, h1, B0, z0⟩ := C0.out _ rfl; refine (HS.out w.heap.size (w.heap.size + 1) _ h0 h1 (fun h => by obtain ⟨ad', cap', e, _, hr⟩ := HR.out.below B0; simp at e; rw [spansL_len] at hr; obtain ⟨g, e2, h3⟩ := hr h; exact ⟨g, e.1.trans e2, h3⟩)).mono ?_; rintro e w1 ⟨rfl, b1⟩; have t0 : w1.cell? ⟨w.heap.size, 0, none⟩ = some (.slice ad l.length cap) := (by rw [b1.cell (by rw [z0]; simp <;> omega)]; exact h0); have p0 : w1.cell? ⟨w.heap.size + 1, 0, none⟩ = some (.int .i64 a) := (by rw [b1.cell (by rw [z0]; simp <;> omega)]; exact h1); have B1 : Hid (Below w.heap.size w w1) := B0.trans (b1.mono (by omega)); have z1 : w.heap.size + 2 ≤ w1.heap.size := (by rw [← z0]; exact b1.size); clear h0 h1 B0 z0 b1 HS C0)
  have HR1 := Lib.hid (HR.out.below B1.out)
  by_cases hkl : k = l.length
  · subst hkl
    have HZ : Hid (z = ((outsL l : Nat) : Int)) := by
      show _ = _
      rw [HV.out, List.take_of_length_le (Nat.le_refl _)]
    clear HV
    have hfd : ∀ (f t o u : Int) (p : Bool) (w : World), (Instr.field 70 (.agg #[.int .i64 f, .int .i64 t, .int .i64 o, .int .i64 u, .bool p]) 3).run Tryz.prog w = .ok (.int .i64 u) w := fun _ _ _ _ _ _ => by kernel_rfl
    go_wp2_with fail
    (go_at_call 81; refine (HT.out _ HR1.out).mono ?_; rintro e w2 ⟨rfl, b2⟩)
    go_wp2_with fail
    go_ret
    exact ⟨ret_int HZ.out.symm, B1.out.trans (b2.mono (by omega))⟩
  · have hlt : k < l.length := by omega
    have hkb : ((k : Int) == (l.length : Int)) = false := by rw [beq_eq_false_iff_ne]; omega
    obtain ⟨ad', cap', e, _, hr⟩ := HR1.out
    simp [spansL_len] at e
    obtain ⟨rfl, rfl⟩ := e
    obtain ⟨g, e2, hrow⟩ := hr (by rw [spansL_len]; omega)
    subst e2
    have hl : k < (spansL l).length := by rw [spansL_len]; exact hlt
    obtain ⟨⟨f, t, o, u, p⟩, hp⟩ : ∃ p, p = (spansL l)[k] := ⟨_, rfl⟩
    obtain ⟨⟨_, _, a2, _, _⟩, _⟩ := hrow.five k hl f t o u p hp
    rw [spansL_at] at hp
    have e3 : o = outsL (l.take k) := by have := congrArg (·.2.2.1) hp; exact this
    rw [← e3] at HV
    have hk2 : (k : Int) ≤ (cap : Int) := by omega
    have hk3 : (k : Int) < (l.length : Int) := by omega
    clear hrow hr hp hl e3 HT HR1 HR
    go_wp2_with fail
    go_ret
    exact ⟨ret_int HV.out.symm, B1.out⟩

end Go.Proofs.YtbcleehbfmbiiaaGreatDoor

/- Places found among spans by the specification: l4Back. Conditions: at most 2^22 spans, places of at most 2^22 in them. -/
namespace Go.Proofs.YtbcleehbfmbiiaaGreatDoor
open Go.RowKit

theorem pOut_next {l : List (List UInt8 × List UInt8)} {k : Nat} (h : k < l.length) (a : Int) : pOut l a k = decide (a < ((outsL (l.take k) + l[k].2.length + 1 : Nat) : Int)) := by
  unfold pOut
  rw [outsL_succ h]; rfl
theorem pIn_next {l : List (List UInt8 × List UInt8)} {k : Nat} (h : k < l.length) (a : Int) : pIn l a k = decide (a < ((insL (l.take k) + l[k].1.length + 1 : Nat) : Int)) := by
  unfold pIn
  rw [insL_succ h]; rfl

set_option maxRecDepth 100000 in
set_option maxHeartbeats 3200000 in
theorem specBack4_any (v : Value) (l : List (List UInt8 × List UInt8)) (a : Int) (w : World) (ha : -9223372036854775808 ≤ a ∧ a ≤ 9223372036854775807) (hn : l.length ≤ 4194304) (hi : insL l ≤ 4194304) (ho : outsL l ≤ 4194304) (hr : RdSp w v (spansL l)) :
    Calls Tryz.prog 51 #[v, .int .i64 a] w fun e w' => e = .returned (.int .i64 (backI l a)) ∧ Below w.heap.size w w' := by
  obtain ⟨ad, cap, rfl, hcap, hrow0⟩ := hr
  have HR0 := Lib.hid hrow0
  clear hrow0
  rw [spansL_len] at hcap HR0 ⊢
  go_enter Tryz.func51, Tryz.ntmps51
  go_wp2
  go_loopw [5, 6] (fun nn i wr => ∃ (k b : Nat), k ≤ l.length ∧ i = .int .i64 k ∧ nn = .int .i64 b ∧ b = insL (l.take k) ∧ (∀ i, i < k → pOut l a i = false) ∧ Below w.heap.size w wr) (fun _ i _ => l.length - (intOf i).toNat)
  case atStart => exact ⟨0, 0, Nat.zero_le _, rfl, rfl, rfl, fun i h => by omega, Below.refl _ _⟩
  case round =>
    obtain ⟨k, b, hk, rfl, rfl, hbb, hall, hb⟩ := hrel
    have HA := Lib.hid hall
    have HB := Lib.hid hb
    have HBB := Lib.hid hbb
    have hsz := hb.size
    have hbn : b ≤ 4194304 := by have := insL_le l k; omega
    by_cases hlt : k < l.length
    · obtain ⟨g, rfl, hrow⟩ := HR0.out (by omega)
      have hl : k < (spansL l).length := by rw [spansL_len]; exact hlt
      have hgl : g < w.heap.size := hrow.lt (by rw [flatC_len spC_len, spansL_len]; omega)
      obtain ⟨⟨f, t, o, u, p⟩, hp⟩ : ∃ p, p = (spansL l)[k] := ⟨_, rfl⟩
      obtain ⟨⟨a0, a1, a2, a3, a4⟩, _⟩ := (hrow.below hb hgl).five k hl f t o u p hp
      have hgw : g < wr.heap.size := by omega
      rw [spansL_at] at hp
      have hi1 := insL_le l k
      have hi2 := insL_le l (k + 1)
      have ho1 := outsL_le l k
      have ho2 := outsL_le l (k + 1)
      have e1 : f = insL (l.take k) := by have := congrArg (·.1) hp; exact this
      have e2 : t = insL (l.take (k + 1)) := by have := congrArg (·.2.1) hp; exact this
      have e3 : o = outsL (l.take k) := by have := congrArg (·.2.2.1) hp; exact this
      have e4 : u = outsL (l.take (k + 1)) := by have := congrArg (·.2.2.2.1) hp; exact this
      have e5 : p = (spAt l k).2.2.2.2 := by have := congrArg (·.2.2.2.2) hp; exact this
      have hfn : f ≤ 4194304 := by omega
      have hon : o ≤ 4194304 := by omega
      have hun : u ≤ 4194304 := by omega
      have hP : pOut l a k = decide (a < (u : Int)) := by unfold pOut; rw [← e4]
      have hk2 : (k : Int) ≤ (cap : Int) := by omega
      have K0 : ∀ x, (wr.alloc x).cell? ⟨g, k * 5, none⟩ = some (.int .i64 f) := fun x => by rw [cell_alloc_lt hgw]; exact a0
      have K1 : ∀ x, (wr.alloc x).cell? ⟨g, k * 5 + 1, none⟩ = some (.int .i64 t) := fun x => by rw [cell_alloc_lt hgw]; exact a1
      have K2 : ∀ x, (wr.alloc x).cell? ⟨g, k * 5 + 2, none⟩ = some (.int .i64 o) := fun x => by rw [cell_alloc_lt hgw]; exact a2
      have K3 : ∀ x, (wr.alloc x).cell? ⟨g, k * 5 + 3, none⟩ = some (.int .i64 u) := fun x => by rw [cell_alloc_lt hgw]; exact a3
      have K4 : ∀ x, (wr.alloc x).cell? ⟨g, k * 5 + 4, none⟩ = some (.bool p) := fun x => by rw [cell_alloc_lt hgw]; exact a4
      have HE2 := Lib.hid e2
      by_cases hge : (u : Int) ≤ a
      · have HA2 : Hid (∀ i, i < k + 1 → pOut l a i = false) := by
          intro i hi
          rcases Nat.lt_or_ge i k with h | h
          · exact HA.out i h
          · rw [show i = k by omega, hP]; simp; omega
        clear hrow hp hall hb hbb e1 e2 e3 e4 e5 hP hi1 hi2 ho1 ho2 HR0 hl
        go_wp2
        go_roundw
        case rel => exact ⟨k + 1, t, by omega, by go_num, rfl, HE2.out, HA2.out, HB.out.alloc hsz _⟩
        case measure => simp [intOf]; omega
      · have hkO : kOut l a = k := kOut_at hlt hall (by rw [hP]; simp; omega)
        by_cases hpl : p = true
        · subst hpl
          by_cases hgo : (o : Int) < a
          · have ha2 : a < 4194304 := by omega
            have HV : Hid (backI l a = (f : Int) + a - (o : Int)) := by
              show _ = _
              unfold backI
              rw [hkO, if_pos ⟨hlt, e5.symm, by rw [← e3]; exact hgo⟩, ← e1, ← e3]
            clear hrow hp hall hb hbb e1 e2 e3 e4 e5 hP hi1 hi2 ho1 ho2 HR0 hl hkO
            go_wp2
            go_ret
            exact ⟨ret_int HV.out.symm, HB.out.alloc hsz _⟩
          · have HV : Hid (backI l a = (f : Int)) := by
              show _ = _
              unfold backI
              rw [hkO, if_neg (fun h => hgo (by rw [e3]; exact h.2.2)), ← e1]
            clear hrow hp hall hb hbb e1 e2 e3 e4 e5 hP hi1 hi2 ho1 ho2 HR0 hl hkO
            go_wp2
            go_ret
            exact ⟨ret_int HV.out.symm, HB.out.alloc hsz _⟩
        · have hpf : p = false := by simpa using hpl
          subst hpf
          have HV : Hid (backI l a = (f : Int)) := by
            show _ = _
            unfold backI
            rw [hkO, if_neg (fun h => by rw [← e5] at h; simp at h), ← e1]
          clear hrow hp hall hb hbb e1 e2 e3 e4 e5 hP hi1 hi2 ho1 ho2 HR0 hl hkO
          go_wp2
          go_ret
          exact ⟨ret_int HV.out.symm, HB.out.alloc hsz _⟩
    · have hke : k = l.length := by omega
      have HV : Hid (backI l a = (b : Int)) := by
        show _ = _
        have hk0 : kOut l a = l.length := kOut_all (by rw [← hke]; exact hall)
        unfold backI
        rw [hk0, if_neg (fun h => by omega), hbb, hke]
      clear hall hbb hke HR0
      go_wp2
      go_ret
      exact ⟨ret_int HV.out.symm, HB.out⟩

end Go.Proofs.YtbcleehbfmbiiaaGreatDoor

/- Places found among spans by the specification: l4Out. Conditions: at most 2^22 spans, places of at most 2^22 in them. -/
namespace Go.Proofs.YtbcleehbfmbiiaaGreatDoor
open Go.RowKit

set_option maxRecDepth 100000 in
set_option maxHeartbeats 3200000 in
theorem specOut_any (v : Value) (l : List (List UInt8 × List UInt8)) (a : Int) (w : World) (hn : l.length ≤ 4194304) (hr : RdSp w v (spansL l)) :
    Calls Tryz.prog 49 #[v, .int .i64 a] w fun e w' => e = .returned (.int .i64 (outI l a)) ∧ w = w' := by
  obtain ⟨ad, cap, rfl, hcap, hrow0⟩ := hr
  have HR0 := Lib.hid hrow0
  clear hrow0
  rw [spansL_len] at hcap HR0 ⊢
  go_enter Tryz.func49, Tryz.ntmps49
  go_wp2
  go_loop [5, 6] (fun nn i => ∃ (k b : Nat), k ≤ l.length ∧ i = .int .i64 k ∧ nn = .int .i64 b ∧ b = outsL (l.take k) ∧ (∀ i, i < k → pIn l a i = false)) (fun _ i => l.length - (intOf i).toNat)
  case atStart => exact ⟨0, 0, Nat.zero_le _, rfl, rfl, rfl, fun i h => by omega⟩
  case round =>
    obtain ⟨k, b, hk, rfl, rfl, hbb, hall⟩ := hrel
    have HA := Lib.hid hall
    have HBB := Lib.hid hbb
    by_cases hlt : k < l.length
    · obtain ⟨g, rfl, hrow⟩ := HR0.out (by omega)
      have hl : k < (spansL l).length := by rw [spansL_len]; exact hlt
      obtain ⟨⟨f, t, o, u, p⟩, hp⟩ : ∃ p, p = (spansL l)[k] := ⟨_, rfl⟩
      obtain ⟨⟨_, a1, a2, a3, _⟩, _⟩ := hrow.five k hl f t o u p hp
      rw [spansL_at] at hp
      have e2 : t = insL (l.take (k + 1)) := by have := congrArg (·.2.1) hp; exact this
      have e3 : o = outsL (l.take k) := by have := congrArg (·.2.2.1) hp; exact this
      have e4 : u = outsL (l.take (k + 1)) := by have := congrArg (·.2.2.2.1) hp; exact this
      have hP : pIn l a k = decide (a < (t : Int)) := by unfold pIn; rw [← e2]
      have hk2 : (k : Int) ≤ (cap : Int) := by omega
      have HE4 := Lib.hid e4
      by_cases hge : a < (t : Int)
      · have hkO : kIn l a = k := kIn_at hlt hall (by rw [hP]; simp; omega)
        have HV : Hid (outI l a = (o : Int)) := by
          show _ = _
          unfold outI
          rw [hkO, ← e3]
        clear hrow hp hall hbb e2 e3 e4 hP HR0 hl hkO
        go_wp2
        go_ret
        exact ⟨ret_int HV.out.symm, rfl⟩
      · have HA2 : Hid (∀ i, i < k + 1 → pIn l a i = false) := by
          intro i hi
          rcases Nat.lt_or_ge i k with h | h
          · exact HA.out i h
          · rw [show i = k by omega, hP]; simp; omega
        clear hrow hp hall hbb e2 e3 e4 hP HR0 hl
        go_wp2
        go_round
        case rel => exact ⟨k + 1, u, by omega, by go_num, rfl, HE4.out, HA2.out⟩
        case measure => simp [intOf]; omega
    · have hke : k = l.length := by omega
      have HV : Hid (outI l a = (b : Int)) := by
        show _ = _
        have hk0 : kIn l a = l.length := kIn_all (by rw [← hke]; exact hall)
        unfold outI
        rw [hk0, hbb, hke]
      clear hall hbb hke HR0
      go_wp2
      go_ret
      exact ⟨ret_int HV.out.symm, rfl⟩

end Go.Proofs.YtbcleehbfmbiiaaGreatDoor

/- PosOut and PosBack of the specification, and of the program. Conditions: at most 2^22 ends; the text has at most 2^21 bytes. -/
namespace Go.Proofs.YtbcleehbfmbiiaaGreatDoor
open Go.RowKit Go.Sort

set_option maxRecDepth 100000 in
set_option maxHeartbeats 1600000 in
theorem implPosOut_any (v : Value) (es : List (Int × Int)) (s : ByteArray) (a : Int) (w : World) (hn : es.length ≤ 4194304) (hs : s.size ≤ 2097152) (hwf : wfE es) (_ : -9223372036854775808 ≤ a ∧ a ≤ 9223372036854775807) (ht : TabAt w v es) (hv : VarsOk w) :
    Calls Tryz.prog 23 #[.agg #[v], .string s, .int .i64 a] w fun e w' => e = .returned (.int .i64 (outI (posL es s.data.toList) a)) ∧ Below w.heap.size w w' := by
  have h1 := insL_ge (pairsL s.data.toList (strA es s.data.toList).2)
  have h2 := pairsL_ins s.data.toList (strA es s.data.toList).2
  have h3 := pairsL_outs s.data.toList (strA es s.data.toList).2
  have h4 := strA_len es s.data.toList
  rw [len_list] at h2
  have HT := Lib.hid ht
  obtain ⟨ad, cap, rfl, _, _⟩ := ht
  have HP : Hid (∀ w, TabAt w (.slice ad es.length cap) es → VarsOk w → Calls Tryz.prog 18 #[.agg #[.slice ad es.length cap], .string s] w fun e w' => ∃ v, e = .returned v ∧ OwnSp w' w.heap.size v (spansL (posL es s.data.toList)) ∧ Below w.heap.size w w') := fun w h1 h2 => implSpans_any _ es s w hn hs hwf h1 h2
  have HV : Hid (∀ w', Below w.heap.size w w' → VarsOk w') := fun w' h => hv.below h
  have HX : Hid (∀ v w, RdSp w v (spansL (posL es s.data.toList)) → Calls Tryz.prog 50 #[v, .int .i64 a] w fun e w' => e = .returned (.int .i64 (outI (posL es s.data.toList) a)) ∧ Below w.heap.size w w') := fun v w h => by
    unfold posL at h ⊢
    exact outOf_any v _ a w (by omega) h
  obtain ⟨z, hz⟩ : ∃ z, z = outI (posL es s.data.toList) a := ⟨_, rfl⟩
  obtain ⟨sp, hsp⟩ : ∃ sp, sp = spansL (posL es s.data.toList) := ⟨_, rfl⟩
  rw [← hz] at HX ⊢
  rw [← hsp] at HX HP
  clear hz hsp h1 h2 h3 h4 hwf hv
  go_enter Tryz.func23, Tryz.ntmps23
  go_wp2_with fail
  (go_at_call 18; refine (HP.out _ (HT.out.below ((Below.refl _ _).alloc (Nat.le_refl _) _)) (HV.out _ ((Below.refl _ _).alloc (Nat.le_refl _) _))).mono ?_; rintro e w1 ⟨v1, rfl, o1, b1⟩; have R1 := Lib.hid o1.rd; have B1 : Hid (Below w.heap.size w w1) := ((Below.refl _ _).alloc (Nat.le_refl _) _).trans (b1.mono (by simp)); have z1 : w.heap.size + 1 ≤ w1.heap.size := (by have := b1.size; simpa using this); clear o1 b1)
  go_wp2_with fail
  (go_at_call 50; refine (HX.out v1 _ R1.out).mono ?_; rintro e w2 ⟨rfl, b2⟩)
  go_wp2_with fail
  go_ret
  exact ⟨rfl, B1.out.trans (b2.mono (by omega))⟩

set_option maxRecDepth 100000 in
set_option maxHeartbeats 1600000 in
theorem specPosOut_any (B : Nat) (ad : Addr) (cap : Nat) (es : List (Int × Int)) (s : ByteArray) (a : Int) (w : World) (hn : es.length ≤ 4194304) (hs : s.size ≤ 2097152) (_ : -9223372036854775808 ≤ a ∧ a ≤ 9223372036854775807) (hB : B ≤ w.heap.size) (ho : OwnTab w B (.slice (some ad) es.length cap) es) :
    Calls Tryz.prog 22 #[.agg #[.slice (some ad) es.length cap], .string s, .int .i64 a] w fun e w' => e = .returned (.int .i64 (outI (posL es s.data.toList) a)) ∧ Below w.heap.size w w' := by
  have h1 := insL_ge (pairsL s.data.toList (strA es s.data.toList).2)
  have h2 := pairsL_ins s.data.toList (strA es s.data.toList).2
  have h3 := pairsL_outs s.data.toList (strA es s.data.toList).2
  have h4 := strA_len es s.data.toList
  rw [len_list] at h2
  have HT := Lib.hid ho
  have HP : Hid (∀ w, B ≤ w.heap.size → OwnTab w B (.slice (some ad) es.length cap) es → Calls Tryz.prog 17 #[.agg #[.slice (some ad) es.length cap], .string s] w fun e w' => ∃ v, e = .returned v ∧ OwnSp w' w.heap.size v (spansL (posL es s.data.toList)) ∧ Below w.heap.size w w') := fun w h1 h2 => specSpans_any B ad cap es s w hn hs h1 h2
  have HX : Hid (∀ v w, RdSp w v (spansL (posL es s.data.toList)) → Calls Tryz.prog 49 #[v, .int .i64 a] w fun e w' => e = .returned (.int .i64 (outI (posL es s.data.toList) a)) ∧ Below w.heap.size w w') := fun v w h => by
    unfold posL at h ⊢
    exact (specOut_any v _ a w (by omega) h).mono (fun e w' hh => ⟨hh.1, hh.2 ▸ Below.refl _ _⟩)
  obtain ⟨z, hz⟩ : ∃ z, z = outI (posL es s.data.toList) a := ⟨_, rfl⟩
  obtain ⟨sp, hsp⟩ : ∃ sp, sp = spansL (posL es s.data.toList) := ⟨_, rfl⟩
  rw [← hz] at HX ⊢
  rw [← hsp] at HX HP
  clear hz hsp h1 h2 h3 h4 ho
  go_enter Tryz.func22, Tryz.ntmps22
  go_wp2_with fail
  (go_at_call 17; refine (HP.out _ (by simp; omega) (HT.out.below ((Below.refl _ _).alloc (Nat.le_refl _) _))).mono ?_; rintro e w1 ⟨v1, rfl, o1, b1⟩; have R1 := Lib.hid o1.rd; have B1 : Hid (Below w.heap.size w w1) := ((Below.refl _ _).alloc (Nat.le_refl _) _).trans (b1.mono (by simp)); have z1 : w.heap.size + 1 ≤ w1.heap.size := (by have := b1.size; simpa using this); clear o1 b1)
  go_wp2_with fail
  (go_at_call 49; refine (HX.out v1 _ R1.out).mono ?_; rintro e w2 ⟨rfl, b2⟩)
  go_wp2_with fail
  go_ret
  exact ⟨rfl, B1.out.trans (b2.mono (by omega))⟩

set_option maxRecDepth 100000 in
set_option maxHeartbeats 1600000 in
theorem implPosBack_any (v : Value) (es : List (Int × Int)) (s : ByteArray) (a : Int) (w : World) (hn : es.length ≤ 4194304) (hs : s.size ≤ 2097152) (hwf : wfE es) (ha : -9223372036854775808 ≤ a ∧ a ≤ 9223372036854775807) (ht : TabAt w v es) (hv : VarsOk w) :
    Calls Tryz.prog 25 #[.agg #[v], .string s, .int .i64 a] w fun e w' => e = .returned (.int .i64 (backI (posL es s.data.toList) a)) ∧ Below w.heap.size w w' := by
  have h1 := insL_ge (pairsL s.data.toList (strA es s.data.toList).2)
  have h2 := pairsL_ins s.data.toList (strA es s.data.toList).2
  have h3 := pairsL_outs s.data.toList (strA es s.data.toList).2
  have h4 := strA_len es s.data.toList
  rw [len_list] at h2
  have HT := Lib.hid ht
  obtain ⟨ad, cap, rfl, _, _⟩ := ht
  have HP : Hid (∀ w, TabAt w (.slice ad es.length cap) es → VarsOk w → Calls Tryz.prog 18 #[.agg #[.slice ad es.length cap], .string s] w fun e w' => ∃ v, e = .returned v ∧ OwnSp w' w.heap.size v (spansL (posL es s.data.toList)) ∧ Below w.heap.size w w') := fun w h1 h2 => implSpans_any _ es s w hn hs hwf h1 h2
  have HV : Hid (∀ w', Below w.heap.size w w' → VarsOk w') := fun w' h => hv.below h
  have HX : Hid (∀ v w, RdSp w v (spansL (posL es s.data.toList)) → Calls Tryz.prog 52 #[v, .int .i64 a] w fun e w' => e = .returned (.int .i64 (backI (posL es s.data.toList) a)) ∧ Below w.heap.size w w') := fun v w h => by
    unfold posL at h ⊢
    exact there_any v _ a w ha (by omega) (by omega) (by omega) h
  obtain ⟨z, hz⟩ : ∃ z, z = backI (posL es s.data.toList) a := ⟨_, rfl⟩
  obtain ⟨sp, hsp⟩ : ∃ sp, sp = spansL (posL es s.data.toList) := ⟨_, rfl⟩
  rw [← hz] at HX ⊢
  rw [← hsp] at HX HP
  clear hz hsp h1 h2 h3 h4 hwf hv
  go_enter Tryz.func25, Tryz.ntmps25
  go_wp2_with fail
  (go_at_call 18; refine (HP.out _ (HT.out.below ((Below.refl _ _).alloc (Nat.le_refl _) _)) (HV.out _ ((Below.refl _ _).alloc (Nat.le_refl _) _))).mono ?_; rintro e w1 ⟨v1, rfl, o1, b1⟩; have R1 := Lib.hid o1.rd; have B1 : Hid (Below w.heap.size w w1) := ((Below.refl _ _).alloc (Nat.le_refl _) _).trans (b1.mono (by simp)); have z1 : w.heap.size + 1 ≤ w1.heap.size := (by have := b1.size; simpa using this); clear o1 b1)
  go_wp2_with fail
  (go_at_call 52; refine (HX.out v1 _ R1.out).mono ?_; rintro e w2 ⟨rfl, b2⟩)
  go_wp2_with fail
  go_ret
  exact ⟨rfl, B1.out.trans (b2.mono (by omega))⟩

set_option maxRecDepth 100000 in
set_option maxHeartbeats 1600000 in
theorem specPosBack_any (B : Nat) (ad : Addr) (cap : Nat) (es : List (Int × Int)) (s : ByteArray) (a : Int) (w : World) (hn : es.length ≤ 4194304) (hs : s.size ≤ 2097152) (ha : -9223372036854775808 ≤ a ∧ a ≤ 9223372036854775807) (hB : B ≤ w.heap.size) (ho : OwnTab w B (.slice (some ad) es.length cap) es) :
    Calls Tryz.prog 24 #[.agg #[.slice (some ad) es.length cap], .string s, .int .i64 a] w fun e w' => e = .returned (.int .i64 (backI (posL es s.data.toList) a)) ∧ Below w.heap.size w w' := by
  have h1 := insL_ge (pairsL s.data.toList (strA es s.data.toList).2)
  have h2 := pairsL_ins s.data.toList (strA es s.data.toList).2
  have h3 := pairsL_outs s.data.toList (strA es s.data.toList).2
  have h4 := strA_len es s.data.toList
  rw [len_list] at h2
  have HT := Lib.hid ho
  have HP : Hid (∀ w, B ≤ w.heap.size → OwnTab w B (.slice (some ad) es.length cap) es → Calls Tryz.prog 17 #[.agg #[.slice (some ad) es.length cap], .string s] w fun e w' => ∃ v, e = .returned v ∧ OwnSp w' w.heap.size v (spansL (posL es s.data.toList)) ∧ Below w.heap.size w w') := fun w h1 h2 => specSpans_any B ad cap es s w hn hs h1 h2
  have HX : Hid (∀ v w, RdSp w v (spansL (posL es s.data.toList)) → Calls Tryz.prog 51 #[v, .int .i64 a] w fun e w' => e = .returned (.int .i64 (backI (posL es s.data.toList) a)) ∧ Below w.heap.size w w') := fun v w h => by
    unfold posL at h ⊢
    exact specBack4_any v _ a w ha (by omega) (by omega) (by omega) h
  obtain ⟨z, hz⟩ : ∃ z, z = backI (posL es s.data.toList) a := ⟨_, rfl⟩
  obtain ⟨sp, hsp⟩ : ∃ sp, sp = spansL (posL es s.data.toList) := ⟨_, rfl⟩
  rw [← hz] at HX ⊢
  rw [← hsp] at HX HP
  clear hz hsp h1 h2 h3 h4 ho
  go_enter Tryz.func24, Tryz.ntmps24
  go_wp2_with fail
  (go_at_call 17; refine (HP.out _ (by simp; omega) (HT.out.below ((Below.refl _ _).alloc (Nat.le_refl _) _))).mono ?_; rintro e w1 ⟨v1, rfl, o1, b1⟩; have R1 := Lib.hid o1.rd; have B1 : Hid (Below w.heap.size w w1) := ((Below.refl _ _).alloc (Nat.le_refl _) _).trans (b1.mono (by simp)); have z1 : w.heap.size + 1 ≤ w1.heap.size := (by have := b1.size; simpa using this); clear o1 b1)
  go_wp2_with fail
  (go_at_call 51; refine (HX.out v1 _ R1.out).mono ?_; rintro e w2 ⟨rfl, b2⟩)
  go_wp2_with fail
  go_ret
  exact ⟨rfl, B1.out.trans (b2.mono (by omega))⟩

end Go.Proofs.YtbcleehbfmbiiaaGreatDoor
