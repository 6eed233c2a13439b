/- l3Put, l3Line and l3Stream of the specification at any table, nil too; PosSpans, PosOut and PosBack of it. Conditions: at most 2^22 ends; the text has at most 2^21 bytes. (Several texts, joined: MarkSp, Search, IThere, IOut, SBack, SOut, PosOB, SNil.) -/
import Derived.Test.YtbhpogddnpaacaaGreatDoorTPplf
import Derived.Deep.RegionWith
import Derived.Shelf.SlSorted.Search
import Derived.Test.YtbhpogddnpaacaaGreatDoorProg
import Derived.Test.YtbhpogddnpaacaaGreatDoorChecked
import Derived.RegionTactic
import Derived.Test.YtbhpogddnpaacaaGreatDoorSPutN
import Derived.Deep.Upon
import Derived.Deep.AppendSrc

/- How the law compares lists of spans, marks them and finds the marks again. Conditions: at most 2^22 spans. -/
namespace Go.Proofs.YtbhpogddnpaacaaGreatDoor
open Go.RowKit

/-- The five cells of an element. -/
theorem RowAt.five {w : World} {g : Nat} {xs : List (Nat × Nat × Nat × Nat × Bool)} (h : RowAt w g (flatC spC xs)) (i : Nat) (hi : i < xs.length) (f t o u : Nat) (p : Bool) (hp : (f, t, o, u, p) = xs[i]) :
    (w.cell? ⟨g, i * 5, none⟩ = some (.int .i64 f) ∧ w.cell? ⟨g, i * 5 + 1, none⟩ = some (.int .i64 t) ∧ w.cell? ⟨g, i * 5 + 2, none⟩ = some (.int .i64 o) ∧ w.cell? ⟨g, i * 5 + 3, none⟩ = some (.int .i64 u) ∧ w.cell? ⟨g, i * 5 + 4, none⟩ = some (.bool p)) ∧
    (w.frozen? ⟨g, i * 5, none⟩ = false ∧ w.frozen? ⟨g, i * 5 + 1, none⟩ = false ∧ w.frozen? ⟨g, i * 5 + 2, none⟩ = false ∧ w.frozen? ⟨g, i * 5 + 3, none⟩ = false ∧ w.frozen? ⟨g, i * 5 + 4, none⟩ = false) := by
  have e0 := h.elem spC_len i hi 0 (by decide) (.int .i64 f) (by rw [← hp]; rfl)
  have e1 := h.elem spC_len i hi 1 (by decide) (.int .i64 t) (by rw [← hp]; rfl)
  have e2 := h.elem spC_len i hi 2 (by decide) (.int .i64 o) (by rw [← hp]; rfl)
  have e3 := h.elem spC_len i hi 3 (by decide) (.int .i64 u) (by rw [← hp]; rfl)
  have e4 := h.elem spC_len i hi 4 (by decide) (.bool p) (by rw [← hp]; rfl)
  exact ⟨⟨e0.1, e1.1, e2.1, e3.1, e4.1⟩, ⟨e0.2, e1.2, e2.2, e3.2, e4.2⟩⟩

/-- n marks of spans, from k on. -/
def marksS (k n : Nat) : List (Nat × Nat × Nat × Nat × Bool) := (List.range n).map fun i => (k + 5 * i, k + 5 * i + 1, k + 5 * i + 2, k + 5 * i + 3, decide ((k + 5 * i + 4) % 3 = 0))
theorem marksS_len (k n : Nat) : (marksS k n).length = n := by simp [marksS]
theorem marksS_at (k n i : Nat) (h : i < (marksS k n).length) : (marksS k n)[i] = (k + 5 * i, k + 5 * i + 1, k + 5 * i + 2, k + 5 * i + 3, decide ((k + 5 * i + 4) % 3 = 0)) := by simp [marksS]
theorem set_right {α : Type} (X Y : List α) (i : Nat) (v : α) : (X ++ Y).set (X.length + i) v = X ++ Y.set i v := by
  rw [List.set_append_right _ _ (by omega)]; congr 2; omega
theorem flat_set5 (A C : List (Nat × Nat × Nat × Nat × Bool)) (o p : Nat × Nat × Nat × Nat × Bool) :
    (((((flatC spC (A ++ o :: C)).set (A.length * 5) (.int .i64 p.1)).set (A.length * 5 + 1) (.int .i64 p.2.1)).set (A.length * 5 + 2) (.int .i64 p.2.2.1)).set (A.length * 5 + 3) (.int .i64 p.2.2.2.1)).set (A.length * 5 + 4) (.bool p.2.2.2.2) = flatC spC (A ++ p :: C) := by
  have hX := flatC_len spC_len A
  rw [flatC_app, flatC_app]
  obtain ⟨X, hx⟩ : ∃ X, X = flatC spC A := ⟨_, rfl⟩
  rw [← hx] at hX ⊢
  rw [← hX]
  have h0 := set_right X (flatC spC (o :: C)) 0 (.int .i64 p.1)
  simp only [Nat.add_zero] at h0
  rw [h0, set_right, set_right, set_right, set_right]
  rfl
theorem marks_next {k : Nat} {xs : List (Nat × Nat × Nat × Nat × Bool)} {j : Nat} (h : j < xs.length) :
    (marksS k xs.length).take j ++ xs.drop j = (marksS k xs.length).take j ++ xs[j] :: xs.drop (j + 1) ∧
    (marksS k xs.length).take (j + 1) ++ xs.drop (j + 1) = (marksS k xs.length).take j ++ (k + 5 * j, k + 5 * j + 1, k + 5 * j + 2, k + 5 * j + 3, decide ((k + 5 * j + 4) % 3 = 0)) :: xs.drop (j + 1) := by
  refine ⟨by rw [List.drop_eq_getElem_cons h], ?_⟩
  rw [List.take_succ_eq_append_getElem (by rw [marksS_len]; exact h), marksS_at]
  simp

theorem RowAt.mark5 {w : World} {g j : Nat} {A C : List (Nat × Nat × Nat × Nat × Bool)} {o : Nat × Nat × Nat × Nat × Bool} (h : RowAt w g (flatC spC (A ++ o :: C))) (hj : A.length = j) (p : Nat × Nat × Nat × Nat × Bool) (v0 v1 v2 v3 v4 : Value) (hv : spC p = [v0, v1, v2, v3, v4]) :
    RowAt (((((w.setCell ⟨g, j * 5, none⟩ v0).setCell ⟨g, j * 5 + 1, none⟩ v1).setCell ⟨g, j * 5 + 2, none⟩ v2).setCell ⟨g, j * 5 + 3, none⟩ v3).setCell ⟨g, j * 5 + 4, none⟩ v4) g (flatC spC (A ++ p :: C)) := by
  subst hj
  have hl : (flatC spC (A ++ o :: C)).length = (A.length + (C.length + 1)) * 5 := by rw [flatC_len spC_len]; simp
  simp only [spC, List.cons.injEq, and_true] at hv
  obtain ⟨rfl, rfl, rfl, rfl, rfl⟩ := hv
  rw [← flat_set5 A C o p]
  exact ((((h.set (by omega) _).set (by simp only [List.length_set]; omega) _).set (by simp only [List.length_set]; omega) _).set (by simp only [List.length_set]; omega) _).set (by simp only [List.length_set]; omega) _

end Go.Proofs.YtbhpogddnpaacaaGreatDoor

/- The laying of the library's sort.Search at this dump. No condition. -/
namespace Go.Proofs
open Go.Shelf
def Tryz.laysO16_ren : Go.Shelf.Ren := ⟨fun | 16 => 39 | n => n, fun | 3 => 3 | 4 => 4 | 35 => 77 | 38 => 101 | n => n, fun | n => n⟩
theorem Tryz.laysO16 : SlLaysO.n16 Tryz.prog Tryz.laysO16_ren := {
  mixed := by kernel_rfl
  f16 := Tryz.func39.trans (congrArg some (by kernel_rfl))
  t3 := Tryz.underlying3
  a3 := Tryz.isAgg3
  z3 := Tryz.sizeOf3
  v3 := Tryz.zeroValue3
  t4 := Tryz.underlying4
  a4 := Tryz.isAgg4
  z4 := Tryz.sizeOf4
  v4 := Tryz.zeroValue4
  t35 := Tryz.underlying77
  a35 := Tryz.isAgg77
  z35 := Tryz.sizeOf77
  v35 := Tryz.zeroValue77
  t38 := Tryz.underlying101
  a38 := Tryz.isAgg101
  z38 := Tryz.sizeOf101
  v38 := Tryz.zeroValue101 }
end Go.Proofs

/- Places found among spans by halves: there of the program. Conditions: at most 2^22 spans, places of at most 2^22 in them. -/
namespace Go.Proofs.YtbhpogddnpaacaaGreatDoor
open Go.RowKit Go.Shelf Go.Sort

set_option maxRecDepth 100000 in
set_option maxHeartbeats 1600000 in
theorem thereTest_any (ba bx g n cap i : Nat) (a : Int) (u : Nat) (W : World) (hi : i < n) (ha : W.cell? ⟨ba, 0, none⟩ = some (.slice (some ⟨g, 0, none⟩) n cap)) (hx : W.cell? ⟨bx, 0, none⟩ = some (.int .i64 a)) (hc : W.cell? ⟨g, i * 5 + 3, none⟩ = some (.int .i64 u)) :
    Calls Tryz.prog 40 (#[.int .i64 i] ++ #[.pointer (some ⟨bx, 0, none⟩), .pointer (some ⟨ba, 0, none⟩)]) W fun e w' => e = .returned (.bool (decide (a < (u : Int)))) ∧ ∃ q, w' = W.drewN q := by
  have hiz : (i : Int) < (n : Int) := by omega
  go_enter Tryz.func40, Tryz.ntmps40
  go_wp2
  go_region
  all_goals go_wp2
  all_goals go_ret
  all_goals exact ⟨by first | rfl | simp, 1, rfl⟩

theorem search_there (ba bx cap : Nat) (ad : Option Addr) (l : List (List UInt8 × List UInt8)) (a : Int) (W : World) (hn : l.length ≤ 4194304)
    (ha : W.cell? ⟨ba, 0, none⟩ = some (.slice ad l.length cap)) (hx : W.cell? ⟨bx, 0, none⟩ = some (.int .i64 a)) (hr : 0 < l.length → ∃ g, ad = some ⟨g, 0, none⟩ ∧ RowAt W g (flatC spC (spansL l))) :
    Calls Tryz.prog 39 #[.int .i64 l.length, .func (.func 40) #[] #[.pointer (some ⟨bx, 0, none⟩), .pointer (some ⟨ba, 0, none⟩)]] W fun e w' => e = .returned (.int .i64 (kOut l a : Nat)) ∧ Below W.heap.size W w' := by
  have eg : ∀ args w, (callFunc 40 args).run Tryz.prog w = .ok (.enter 40 args) w := enters_of Tryz.func40 (by kernel_rfl) rfl
  have hba : ba < W.heap.size := World.block_lt_of_cell? W _ ha
  have hbx : bx < W.heap.size := World.block_lt_of_cell? W _ hx
  have hS := Any.sort_Search Tryz.laysO16 40 #[.pointer (some ⟨bx, 0, none⟩), .pointer (some ⟨ba, 0, none⟩)] l.length (pOut l a) W eg (by omega)
    (fun m os i hi => by
      obtain ⟨g, rfl, hc⟩ := hr (by omega)
      have hg : g < W.heap.size := hc.lt (by rw [flatC_len spC_len, spansL_len]; omega)
      exact (thereTest_any ba bx g l.length cap i a (outsL (l.take (i + 1))) _ hi (_root_.Go.cell_grown hba ha m os) (_root_.Go.cell_grown hbx hx m os) (_root_.Go.cell_grown hg ((hc.five i (by rw [spansL_len]; exact hi) (insL (l.take i)) (insL (l.take (i + 1))) (outsL (l.take i)) (outsL (l.take (i + 1))) (spAt l i).2.2.2.2 (by rw [spansL_at]; rfl)).1.2.2.2.1) m os)).mono
        fun _ _ ⟨he, q, hq⟩ => ⟨he, q, #[], by rw [hq, grow_empty]⟩)
    (pOut_mono l a l.length)
  refine hS.mono ?_
  rintro e w' ⟨rfl, q, os, rfl⟩
  exact ⟨rfl, below_grown_sl _ _ _ _ (Nat.le_refl _)⟩

theorem lastS_all (l : List (List UInt8 × List UInt8)) : (lastS (spansL l)).2.1 = insL l ∧ (lastS (spansL l)).2.2.2.1 = outsL l := by
  have := lastS_take l (k := l.length) (Nat.le_refl _)
  rwa [List.take_of_length_le (by rw [spansL_len]; omega), List.take_of_length_le (Nat.le_refl _)] at this

set_option maxRecDepth 100000 in
set_option maxHeartbeats 3200000 in
theorem there_any (v : Value) (l : List (List UInt8 × List UInt8)) (a : Int) (w : World) (ha : -9223372036854775808 ≤ a ∧ a ≤ 9223372036854775807) (hn : l.length ≤ 4194304) (hi : insL l ≤ 4194304) (ho : outsL l ≤ 4194304) (hr : RdSp w v (spansL l)) :
    Calls Tryz.prog 15 #[v, .int .i64 a] w fun e w' => e = .returned (.int .i64 (backI l a)) ∧ Below w.heap.size w w' := by
  have HR := Lib.hid hr
  obtain ⟨ad, cap, rfl, hcap, hrow0⟩ := hr
  have HS : Hid (∀ ba bx W, W.cell? ⟨ba, 0, none⟩ = some (.slice ad l.length cap) → W.cell? ⟨bx, 0, none⟩ = some (.int .i64 a) → (0 < l.length → ∃ g, ad = some ⟨g, 0, none⟩ ∧ RowAt W g (flatC spC (spansL l))) → Calls Tryz.prog 39 #[.int .i64 l.length, .func (.func 40) #[] #[.pointer (some ⟨bx, 0, none⟩), .pointer (some ⟨ba, 0, none⟩)]] W fun e w' => e = .returned (.int .i64 (kOut l a : Nat)) ∧ Below W.heap.size W w') := fun ba bx W h1 h2 h3 => search_there ba bx cap ad l a W hn h1 h2 h3
  have hke := kOut_le l a
  have HV : Hid (backI l a = if kOut l a < l.length ∧ (spAt l (kOut l a)).2.2.2.2 = true ∧ ((outsL (l.take (kOut l a)) : Nat) : Int) < a then ((insL (l.take (kOut l a)) : Nat) : Int) + a - ((outsL (l.take (kOut l a)) : Nat) : Int)
  else ((insL (l.take (kOut l a)) : Nat) : Int)) := by show _ = _; rfl
  obtain ⟨k, hk⟩ : ∃ k, k = kOut l a := ⟨_, rfl⟩
  obtain ⟨z, hz⟩ : ∃ z, z = backI l a := ⟨_, rfl⟩
  rw [← hk] at HS hke HV
  rw [← hz] at HV ⊢
  have hkP : k < l.length → a < ((outsL (l.take (k + 1)) : Nat) : Int) := fun h => by
    by_cases hh : pOut l a k = true
    · simpa [pOut] using hh
    · exfalso
      have h1 : k + 1 ≤ kOut l a := by
        unfold kOut
        have hall : ∀ i, i < k + 1 → (!pOut l a i) = true := fun i hi2 => by
          by_cases h3 : pOut l a i = true
          · exact absurd (pOut_mono l a l.length i k (by omega) h h3) hh
          · simpa using h3
        obtain ⟨d, hd⟩ : ∃ d, l.length = (k + 1) + d := ⟨l.length - (k + 1), by omega⟩
        rw [hd, List.range_add, List.countP_append, List.countP_eq_length.2 (fun x hx => hall x (List.mem_range.1 hx))]
        simp
      omega
  clear hrow0 hk hz
  rw [spansL_len] at hcap ⊢
  have HT : Hid (∀ W, RdSp W (.slice ad l.length cap) (spansL l) → Calls Tryz.prog 41 #[.slice ad l.length cap] W fun e w' => e = .returned (.agg #[.int .i64 (lastS (spansL l)).1, .int .i64 (insL l : Nat), .int .i64 (lastS (spansL l)).2.2.1, .int .i64 (lastS (spansL l)).2.2.2.1, .bool (lastS (spansL l)).2.2.2.2]) ∧ Below W.heap.size W w') := fun W h => by
    have := last_any (.slice ad l.length cap) (spansL l) W (by rw [spansL_len]; exact hn) h
    rwa [(lastS_all l).1] at this
  rw [spansL_len] at HR
  go_enter Tryz.func15, Tryz.ntmps15
  have C0 : Hid (∀ W0 : World, W0 = (w.alloc (.cells #[.slice ad l.length cap] 43)).alloc (.cells #[.int .i64 a] 3) → W0.cell? ⟨w.heap.size, 0, none⟩ = some (.slice ad l.length cap) ∧ W0.cell? ⟨w.heap.size + 1, 0, none⟩ = some (.int .i64 a) ∧ Below w.heap.size w W0 ∧ W0.heap.size = w.heap.size + 2) := fun W0 h => by
    subst h
    refine ⟨?_, ?_, ((Below.refl _ _).alloc (Nat.le_refl _) _).alloc (by simp) _, by simp⟩
    · rw [cell_alloc_lt (by simp)]; exact (cell_new w _ _ 0).1
    · simp
  go_wp2_with fail
  (go_at_call 39; obtain ⟨h0, h1, B0, z0⟩ := C0.out _ rfl; refine (HS.out w.heap.size (w.heap.size + 1) _ h0 h1 (fun h => by obtain ⟨ad', cap', e, _, hr⟩ := HR.out.below B0; simp at e; rw [spansL_len] at hr; obtain ⟨g, e2, h3⟩ := hr h; exact ⟨g, e.1.trans e2, h3⟩)).mono ?_; rintro e w1 ⟨rfl, b1⟩; have t0 : w1.cell? ⟨w.heap.size, 0, none⟩ = some (.slice ad l.length cap) := (by rw [b1.cell (by rw [z0]; simp <;> omega)]; exact h0); have p0 : w1.cell? ⟨w.heap.size + 1, 0, none⟩ = some (.int .i64 a) := (by rw [b1.cell (by rw [z0]; simp <;> omega)]; exact h1); have B1 : Hid (Below w.heap.size w w1) := B0.trans (b1.mono (by omega)); have z1 : w.heap.size + 2 ≤ w1.heap.size := (by rw [← z0]; exact b1.size); clear h0 h1 B0 z0 b1 HS C0)
  have HR1 := Lib.hid (HR.out.below B1.out)
  by_cases hkl : k = l.length
  · subst hkl
    have HZ : Hid (z = ((insL l : Nat) : Int)) := by
      show _ = _
      rw [HV.out, if_neg (fun h => by omega), List.take_of_length_le (Nat.le_refl _)]
    clear hkP HV
    have hfd : ∀ (f t o u : Int) (p : Bool) (w : World), (Instr.field 76 (.agg #[.int .i64 f, .int .i64 t, .int .i64 o, .int .i64 u, .bool p]) 1).run Tryz.prog w = .ok (.int .i64 t) w := fun _ _ _ _ _ _ => by kernel_rfl
    go_wp2_with fail
    (go_at_call 41; refine (HT.out _ HR1.out).mono ?_; rintro e w2 ⟨rfl, b2⟩)
    go_wp2_with fail
    go_ret
    exact ⟨ret_int HZ.out.symm, B1.out.trans (b2.mono (by omega))⟩
  · have hlt : k < l.length := by omega
    have hkb : ((k : Int) == (l.length : Int)) = false := by rw [beq_eq_false_iff_ne]; omega
    obtain ⟨ad', cap', e, _, hr⟩ := HR1.out
    simp [spansL_len] at e
    obtain ⟨rfl, rfl⟩ := e
    obtain ⟨g, e2, hrow⟩ := hr (by rw [spansL_len]; omega)
    subst e2
    have hl : k < (spansL l).length := by rw [spansL_len]; exact hlt
    obtain ⟨⟨f, t, o, u, p⟩, hp⟩ : ∃ p, p = (spansL l)[k] := ⟨_, rfl⟩
    obtain ⟨⟨a0, a1, a2, a3, a4⟩, _⟩ := hrow.five k hl f t o u p hp
    have hgw : g < w1.heap.size := World.block_lt_of_cell? w1 _ a0
    rw [spansL_at] at hp
    have hi1 := insL_le l k
    have hi2 := insL_le l (k + 1)
    have ho1 := outsL_le l k
    have ho2 := outsL_le l (k + 1)
    have e1 : f = insL (l.take k) := by have := congrArg (·.1) hp; exact this
    have e3 : o = outsL (l.take k) := by have := congrArg (·.2.2.1) hp; exact this
    have e5 : p = (spAt l k).2.2.2.2 := by have := congrArg (·.2.2.2.2) hp; exact this
    have hau := hkP hlt
    have ha2 : a < 4194304 := by omega
    have hfn : f ≤ 4194304 := by omega
    have hon : o ≤ 4194304 := by omega
    rw [← e1, ← e3, ← e5] at HV
    have hk2 : (k : Int) ≤ (cap : Int) := by omega
    have hk3 : (k : Int) < (l.length : Int) := by omega
    have K0 : ∀ x, (w1.alloc x).cell? ⟨g, k * 5, none⟩ = some (.int .i64 f) := fun x => by rw [cell_alloc_lt hgw]; exact a0
    have K1 : ∀ x, (w1.alloc x).cell? ⟨g, k * 5 + 1, none⟩ = some (.int .i64 t) := fun x => by rw [cell_alloc_lt hgw]; exact a1
    have K2 : ∀ x, (w1.alloc x).cell? ⟨g, k * 5 + 2, none⟩ = some (.int .i64 o) := fun x => by rw [cell_alloc_lt hgw]; exact a2
    have K3 : ∀ x, (w1.alloc x).cell? ⟨g, k * 5 + 3, none⟩ = some (.int .i64 u) := fun x => by rw [cell_alloc_lt hgw]; exact a3
    have K4 : ∀ x, (w1.alloc x).cell? ⟨g, k * 5 + 4, none⟩ = some (.bool p) := fun x => by rw [cell_alloc_lt hgw]; exact a4
    have P0 : ∀ x, (w1.alloc x).cell? ⟨w.heap.size + 1, 0, none⟩ = some (.int .i64 a) := fun x => by rw [cell_alloc_lt (by omega)]; exact p0
    have BZ : Hid (∀ x, Below w.heap.size w (w1.alloc x)) := fun x => B1.out.alloc (by omega) x
    clear hrow hr hp hl hi1 hi2 ho1 ho2 e1 e3 e5 hkP hau HT HR1 HR
    by_cases hpl : p = true
    · subst hpl
      by_cases hgo : a ≤ (o : Int)
      · have HZ : Hid (z = (f : Int)) := by show _ = _; rw [HV.out, if_neg (fun h => by have := h.2.2; omega)]
        clear HV
        go_wp2_with fail
        go_ret
        exact ⟨ret_int HZ.out.symm, BZ.out _⟩
      · have HZ : Hid (z = (f : Int) + a - (o : Int)) := by show _ = _; rw [HV.out, if_pos ⟨hlt, rfl, by omega⟩]
        clear HV
        go_wp2_with fail
        go_ret
        exact ⟨ret_int HZ.out.symm, BZ.out _⟩
    · have hpf : p = false := by simpa using hpl
      subst hpf
      have HZ : Hid (z = (f : Int)) := by show _ = _; rw [HV.out, if_neg (fun h => by simp at h)]
      clear HV
      go_wp2_with fail
      go_ret
      exact ⟨ret_int HZ.out.symm, BZ.out _⟩

end Go.Proofs.YtbhpogddnpaacaaGreatDoor

/- Places found among spans by halves: out of the program. Conditions: at most 2^22 spans, places of at most 2^22 in them. -/
namespace Go.Proofs.YtbhpogddnpaacaaGreatDoor
open Go.RowKit Go.Shelf Go.Sort

end Go.Proofs.YtbhpogddnpaacaaGreatDoor

/- Places found among spans by the specification: l4Back. Conditions: at most 2^22 spans, places of at most 2^22 in them. -/
namespace Go.Proofs.YtbhpogddnpaacaaGreatDoor
open Go.RowKit

theorem pOut_next {l : List (List UInt8 × List UInt8)} {k : Nat} (h : k < l.length) (a : Int) : pOut l a k = decide (a < ((outsL (l.take k) + l[k].2.length + 1 : Nat) : Int)) := by
  unfold pOut
  rw [outsL_succ h]; rfl
theorem pIn_next {l : List (List UInt8 × List UInt8)} {k : Nat} (h : k < l.length) (a : Int) : pIn l a k = decide (a < ((insL (l.take k) + l[k].1.length + 1 : Nat) : Int)) := by
  unfold pIn
  rw [insL_succ h]; rfl

set_option maxRecDepth 100000 in
set_option maxHeartbeats 3200000 in
theorem specBack4_any (v : Value) (l : List (List UInt8 × List UInt8)) (a : Int) (w : World) (ha : -9223372036854775808 ≤ a ∧ a ≤ 9223372036854775807) (hn : l.length ≤ 4194304) (hi : insL l ≤ 4194304) (ho : outsL l ≤ 4194304) (hr : RdSp w v (spansL l)) :
    Calls Tryz.prog 16 #[v, .int .i64 a] w fun e w' => e = .returned (.int .i64 (backI l a)) ∧ Below w.heap.size w w' := by
  obtain ⟨ad, cap, rfl, hcap, hrow0⟩ := hr
  have HR0 := Lib.hid hrow0
  clear hrow0
  rw [spansL_len] at hcap HR0 ⊢
  go_enter Tryz.func16, Tryz.ntmps16
  go_wp2
  go_loopw [5, 6] (fun nn i wr => ∃ (k b : Nat), k ≤ l.length ∧ i = .int .i64 k ∧ nn = .int .i64 b ∧ b = insL (l.take k) ∧ (∀ i, i < k → pOut l a i = false) ∧ Below w.heap.size w wr) (fun _ i _ => l.length - (intOf i).toNat)
  case atStart => exact ⟨0, 0, Nat.zero_le _, rfl, rfl, rfl, fun i h => by omega, Below.refl _ _⟩
  case round =>
    obtain ⟨k, b, hk, rfl, rfl, hbb, hall, hb⟩ := hrel
    have HA := Lib.hid hall
    have HB := Lib.hid hb
    have HBB := Lib.hid hbb
    have hsz := hb.size
    have hbn : b ≤ 4194304 := by have := insL_le l k; omega
    by_cases hlt : k < l.length
    · obtain ⟨g, rfl, hrow⟩ := HR0.out (by omega)
      have hl : k < (spansL l).length := by rw [spansL_len]; exact hlt
      have hgl : g < w.heap.size := hrow.lt (by rw [flatC_len spC_len, spansL_len]; omega)
      obtain ⟨⟨f, t, o, u, p⟩, hp⟩ : ∃ p, p = (spansL l)[k] := ⟨_, rfl⟩
      obtain ⟨⟨a0, a1, a2, a3, a4⟩, _⟩ := (hrow.below hb hgl).five k hl f t o u p hp
      have hgw : g < wr.heap.size := by omega
      rw [spansL_at] at hp
      have hi1 := insL_le l k
      have hi2 := insL_le l (k + 1)
      have ho1 := outsL_le l k
      have ho2 := outsL_le l (k + 1)
      have e1 : f = insL (l.take k) := by have := congrArg (·.1) hp; exact this
      have e2 : t = insL (l.take (k + 1)) := by have := congrArg (·.2.1) hp; exact this
      have e3 : o = outsL (l.take k) := by have := congrArg (·.2.2.1) hp; exact this
      have e4 : u = outsL (l.take (k + 1)) := by have := congrArg (·.2.2.2.1) hp; exact this
      have e5 : p = (spAt l k).2.2.2.2 := by have := congrArg (·.2.2.2.2) hp; exact this
      have hfn : f ≤ 4194304 := by omega
      have hon : o ≤ 4194304 := by omega
      have hun : u ≤ 4194304 := by omega
      have hP : pOut l a k = decide (a < (u : Int)) := by unfold pOut; rw [← e4]
      have hk2 : (k : Int) ≤ (cap : Int) := by omega
      have K0 : ∀ x, (wr.alloc x).cell? ⟨g, k * 5, none⟩ = some (.int .i64 f) := fun x => by rw [cell_alloc_lt hgw]; exact a0
      have K1 : ∀ x, (wr.alloc x).cell? ⟨g, k * 5 + 1, none⟩ = some (.int .i64 t) := fun x => by rw [cell_alloc_lt hgw]; exact a1
      have K2 : ∀ x, (wr.alloc x).cell? ⟨g, k * 5 + 2, none⟩ = some (.int .i64 o) := fun x => by rw [cell_alloc_lt hgw]; exact a2
      have K3 : ∀ x, (wr.alloc x).cell? ⟨g, k * 5 + 3, none⟩ = some (.int .i64 u) := fun x => by rw [cell_alloc_lt hgw]; exact a3
      have K4 : ∀ x, (wr.alloc x).cell? ⟨g, k * 5 + 4, none⟩ = some (.bool p) := fun x => by rw [cell_alloc_lt hgw]; exact a4
      have HE2 := Lib.hid e2
      by_cases hge : (u : Int) ≤ a
      · have HA2 : Hid (∀ i, i < k + 1 → pOut l a i = false) := by
          intro i hi
          rcases Nat.lt_or_ge i k with h | h
          · exact HA.out i h
          · rw [show i = k by omega, hP]; simp; omega
        clear hrow hp hall hb hbb e1 e2 e3 e4 e5 hP hi1 hi2 ho1 ho2 HR0 hl
        go_wp2
        go_roundw
        case rel => exact ⟨k + 1, t, by omega, by go_num, rfl, HE2.out, HA2.out, HB.out.alloc hsz _⟩
        case measure => simp [intOf]; omega
      · have hkO : kOut l a = k := kOut_at hlt hall (by rw [hP]; simp; omega)
        by_cases hpl : p = true
        · subst hpl
          by_cases hgo : (o : Int) < a
          · have ha2 : a < 4194304 := by omega
            have HV : Hid (backI l a = (f : Int) + a - (o : Int)) := by
              show _ = _
              unfold backI
              rw [hkO, if_pos ⟨hlt, e5.symm, by rw [← e3]; exact hgo⟩, ← e1, ← e3]
            clear hrow hp hall hb hbb e1 e2 e3 e4 e5 hP hi1 hi2 ho1 ho2 HR0 hl hkO
            go_wp2
            go_ret
            exact ⟨ret_int HV.out.symm, HB.out.alloc hsz _⟩
          · have HV : Hid (backI l a = (f : Int)) := by
              show _ = _
              unfold backI
              rw [hkO, if_neg (fun h => hgo (by rw [e3]; exact h.2.2)), ← e1]
            clear hrow hp hall hb hbb e1 e2 e3 e4 e5 hP hi1 hi2 ho1 ho2 HR0 hl hkO
            go_wp2
            go_ret
            exact ⟨ret_int HV.out.symm, HB.out.alloc hsz _⟩
        · have hpf : p = false := by simpa using hpl
          subst hpf
          have HV : Hid (backI l a = (f : Int)) := by
            show _ = _
            unfold backI
            rw [hkO, if_neg (fun h => by rw [← e5] at h; simp at h), ← e1]
          clear hrow hp hall hb hbb e1 e2 e3 e4 e5 hP hi1 hi2 ho1 ho2 HR0 hl hkO
          go_wp2
          go_ret
          exact ⟨ret_int HV.out.symm, HB.out.alloc hsz _⟩
    · have hke : k = l.length := by omega
      have HV : Hid (backI l a = (b : Int)) := by
        show _ = _
        have hk0 : kOut l a = l.length := kOut_all (by rw [← hke]; exact hall)
        unfold backI
        rw [hk0, if_neg (fun h => by omega), hbb, hke]
      clear hall hbb hke HR0
      go_wp2
      go_ret
      exact ⟨ret_int HV.out.symm, HB.out⟩

end Go.Proofs.YtbhpogddnpaacaaGreatDoor

/- Places found among spans by the specification: l4Out. Conditions: at most 2^22 spans, places of at most 2^22 in them. -/
namespace Go.Proofs.YtbhpogddnpaacaaGreatDoor
open Go.RowKit

end Go.Proofs.YtbhpogddnpaacaaGreatDoor

/- PosOut and PosBack of the specification, and of the program. Conditions: at most 2^22 ends; the text has at most 2^21 bytes. -/
namespace Go.Proofs.YtbhpogddnpaacaaGreatDoor
open Go.RowKit Go.Sort

set_option maxRecDepth 100000 in
set_option maxHeartbeats 1600000 in
theorem implPosBack_any (v : Value) (es : List (Int × Int)) (s : ByteArray) (a : Int) (w : World) (hn : es.length ≤ 4194304) (hs : s.size ≤ 2097152) (hwf : wfE es) (ha : -9223372036854775808 ≤ a ∧ a ≤ 9223372036854775807) (ht : TabAt w v es) (hv : VarsOk w) :
    Calls Tryz.prog 5 #[.agg #[v], .string s, .int .i64 a] w fun e w' => e = .returned (.int .i64 (backI (posL es s.data.toList) a)) ∧ Below w.heap.size w w' := by
  have h1 := insL_ge (pairsL s.data.toList (strA es s.data.toList).2)
  have h2 := pairsL_ins s.data.toList (strA es s.data.toList).2
  have h3 := pairsL_outs s.data.toList (strA es s.data.toList).2
  have h4 := strA_len es s.data.toList
  rw [len_list] at h2
  have HT := Lib.hid ht
  obtain ⟨ad, cap, rfl, _, _⟩ := ht
  have HP : Hid (∀ w, TabAt w (.slice ad es.length cap) es → VarsOk w → Calls Tryz.prog 14 #[.agg #[.slice ad es.length cap], .string s] w fun e w' => ∃ v, e = .returned v ∧ OwnSp w' w.heap.size v (spansL (posL es s.data.toList)) ∧ Below w.heap.size w w') := fun w h1 h2 => implSpans_any _ es s w hn hs hwf h1 h2
  have HV : Hid (∀ w', Below w.heap.size w w' → VarsOk w') := fun w' h => hv.below h
  have HX : Hid (∀ v w, RdSp w v (spansL (posL es s.data.toList)) → Calls Tryz.prog 15 #[v, .int .i64 a] w fun e w' => e = .returned (.int .i64 (backI (posL es s.data.toList) a)) ∧ Below w.heap.size w w') := fun v w h => by
    unfold posL at h ⊢
    exact there_any v _ a w ha (by omega) (by omega) (by omega) h
  obtain ⟨z, hz⟩ : ∃ z, z = backI (posL es s.data.toList) a := ⟨_, rfl⟩
  obtain ⟨sp, hsp⟩ : ∃ sp, sp = spansL (posL es s.data.toList) := ⟨_, rfl⟩
  rw [← hz] at HX ⊢
  rw [← hsp] at HX HP
  clear hz hsp h1 h2 h3 h4 hwf hv
  go_enter Tryz.func5, Tryz.ntmps5
  go_wp2_with fail
  (go_at_call 14; refine (HP.out _ (HT.out.below ((Below.refl _ _).alloc (Nat.le_refl _) _)) (HV.out _ ((Below.refl _ _).alloc (Nat.le_refl _) _))).mono ?_; rintro e w1 ⟨v1, rfl, o1, b1⟩; have R1 := Lib.hid o1.rd; have B1 : Hid (Below w.heap.size w w1) := ((Below.refl _ _).alloc (Nat.le_refl _) _).trans (b1.mono (by simp)); have z1 : w.heap.size + 1 ≤ w1.heap.size := (by have := b1.size; simpa using this); clear o1 b1)
  go_wp2_with fail
  (go_at_call 15; refine (HX.out v1 _ R1.out).mono ?_; rintro e w2 ⟨rfl, b2⟩)
  go_wp2_with fail
  go_ret
  exact ⟨rfl, B1.out.trans (b2.mono (by omega))⟩

set_option maxRecDepth 100000 in
set_option maxHeartbeats 1600000 in
theorem specPosBack_any (B : Nat) (ad : Addr) (cap : Nat) (es : List (Int × Int)) (s : ByteArray) (a : Int) (w : World) (hn : es.length ≤ 4194304) (hs : s.size ≤ 2097152) (ha : -9223372036854775808 ≤ a ∧ a ≤ 9223372036854775807) (hB : B ≤ w.heap.size) (ho : OwnTab w B (.slice (some ad) es.length cap) es) :
    Calls Tryz.prog 6 #[.agg #[.slice (some ad) es.length cap], .string s, .int .i64 a] w fun e w' => e = .returned (.int .i64 (backI (posL es s.data.toList) a)) ∧ Below w.heap.size w w' := by
  have h1 := insL_ge (pairsL s.data.toList (strA es s.data.toList).2)
  have h2 := pairsL_ins s.data.toList (strA es s.data.toList).2
  have h3 := pairsL_outs s.data.toList (strA es s.data.toList).2
  have h4 := strA_len es s.data.toList
  rw [len_list] at h2
  have HT := Lib.hid ho
  have HP : Hid (∀ w, B ≤ w.heap.size → OwnTab w B (.slice (some ad) es.length cap) es → Calls Tryz.prog 17 #[.agg #[.slice (some ad) es.length cap], .string s] w fun e w' => ∃ v, e = .returned v ∧ OwnSp w' w.heap.size v (spansL (posL es s.data.toList)) ∧ Below w.heap.size w w') := fun w h1 h2 => specSpans_any B ad cap es s w hn hs h1 h2
  have HX : Hid (∀ v w, RdSp w v (spansL (posL es s.data.toList)) → Calls Tryz.prog 16 #[v, .int .i64 a] w fun e w' => e = .returned (.int .i64 (backI (posL es s.data.toList) a)) ∧ Below w.heap.size w w') := fun v w h => by
    unfold posL at h ⊢
    exact specBack4_any v _ a w ha (by omega) (by omega) (by omega) h
  obtain ⟨z, hz⟩ : ∃ z, z = backI (posL es s.data.toList) a := ⟨_, rfl⟩
  obtain ⟨sp, hsp⟩ : ∃ sp, sp = spansL (posL es s.data.toList) := ⟨_, rfl⟩
  rw [← hz] at HX ⊢
  rw [← hsp] at HX HP
  clear hz hsp h1 h2 h3 h4 ho
  go_enter Tryz.func6, Tryz.ntmps6
  go_wp2_with fail
  (go_at_call 17; refine (HP.out _ (by simp; omega) (HT.out.below ((Below.refl _ _).alloc (Nat.le_refl _) _))).mono ?_; rintro e w1 ⟨v1, rfl, o1, b1⟩; have R1 := Lib.hid o1.rd; have B1 : Hid (Below w.heap.size w w1) := ((Below.refl _ _).alloc (Nat.le_refl _) _).trans (b1.mono (by simp)); have z1 : w.heap.size + 1 ≤ w1.heap.size := (by have := b1.size; simpa using this); clear o1 b1)
  go_wp2_with fail
  (go_at_call 16; refine (HX.out v1 _ R1.out).mono ?_; rintro e w2 ⟨rfl, b2⟩)
  go_wp2_with fail
  go_ret
  exact ⟨rfl, B1.out.trans (b2.mono (by omega))⟩

end Go.Proofs.YtbhpogddnpaacaaGreatDoor

/- l3Put, l3Line and l3Stream of the specification at any table, nil too; PosSpans, PosOut and PosBack of it. Conditions: at most 2^22 ends; the text has at most 2^21 bytes. -/
namespace Go.Proofs.YtbhpogddnpaacaaGreatDoor
open Go.RowKit Go.Sort

theorem tab_nil (w : World) : TabAt w (.slice none 0 0) [] := ⟨none, 0, rfl, ⟨Nat.le_refl _, fun _ => rfl⟩, fun h => absurd h (by simp)⟩
/-- append of a nil slice onto a slice of the call's own, at a step of a region that draws its order. -/
theorem step_append_nil {P : Program} (w : World) {ops : Array Oper} {o : Oper} {a : Act} {K : Act → World → Prop} {Q : Exit → Act → World → Prop} {E : Prop} (hgd : o.guard = none) (s x : Operand) (t : TypeId)
    (ho : o.op = .call { callee := .builtin .append, args := #[s, x], argTypes := #[t, t] })
    (base : Nat) (e : TypeId) (i : TypeInfo) (z : Value) (size bytes : Nat) (ht : P.underlying t = some (.slice e)) (hi : P.info? e = some i) (_ : i.zero = some z)
    (_ : i.size = size) (_ : i.bytes = bytes) (_ : z.cells.size = size) (_ : 0 < size)
    (v : Value) (n : Nat) (xs : List Value) (hs : a.eval s = v) (hown : w.ownsRow base e size v n xs) (hne : v ≠ .slice none 0 0)
    (c : Nat) (hx : a.eval x = .slice none 0 c)
    (h : ∀ g cap w', w'.ownsRow base e size (.slice (some ⟨g, 0, none⟩) (n + 0) cap) (n + 0) (xs ++ []) → w.grownBy w' v.ownBlock → base ≤ g → K (a.put o.dst (.slice (some ⟨g, 0, none⟩) (n + 0) cap)) w') :
    if Region.wanted o (yielded ops a.tmps) = true then Oper.wp P o a w K Q else E := by
  have hw : Region.wanted o (yielded ops a.tmps) = true := by simp [Region.wanted, hgd]
  rw [if_pos hw]
  obtain ⟨g, cap, rfl, hb, hc⟩ : ∃ g cap, v = .slice (some ⟨g, 0, none⟩) n cap ∧ base ≤ g ∧ n ≤ cap := by
    rcases hown.2 with ⟨rfl, _⟩ | ⟨g, cap, cur, hv, hB, hg, r⟩
    · exact absurd rfl hne
    · exact ⟨g, cap, hv, hB, r.1⟩
  have hr := run_append_nothing (P := P) w t t o.type e i ht hi (some ⟨g, 0, none⟩) n cap hc (.slice none 0 c) (Src.ofNil w ht c)
  unfold Oper.wp execOp
  simp only [ho, resolve, invoke, builtin, Sem.run_bind, Sem.run_pure, Result.andThen_ok, List.map_toArray, List.map_cons, List.map_nil, hs, hx, hr]
  exact h g cap w (by simpa using hown) (World.grownBy.refl _ _) hb

set_option maxRecDepth 100000 in
set_option maxHeartbeats 3200000 in
/-- l3Put of a table that is nil. -/
theorem specPut_nil (a p : Int) (w : World) :
    Calls Tryz.prog 92 #[.agg #[.slice none 0 0], .agg #[.int .i64 a, .int .i64 p]] w fun e w' => ∃ g c, e = .returned (.tuple #[.agg #[.slice (some g) 1 c], .int .i64 (500)]) ∧ OwnTab w' w.heap.size (.slice (some g) 1 c) ([(a, p)]) ∧ Below w.heap.size w w' := by
  have HP : Hid (∀ w, TabAt w (.slice none 0 0) [] → Calls Tryz.prog 103 #[.agg #[.slice none 0 0], .agg #[.int .i64 a, .int .i64 p]] w fun e w' => e = .returned (.int .i64 0) ∧ Below w.heap.size w w') := fun w h => specPort_any _ [] a p w (by simp) h
  obtain ⟨i0, hi, hz0, hz1, hz2⟩ := info_parts infoEnd
  go_enter Tryz.func92, Tryz.ntmps92
  go_upto_region 6 with (go_at_call 103; refine (HP.out _ (tab_nil _)).mono ?_; rintro e w1 ⟨rfl, b1⟩; obtain ⟨cA, cB, cC, b01, z1⟩ := cell_three b1; have a0 := (cA 0).1; have s0 := (cA 0).2; have e0 := (cB 0).1; have e1 := (cB 1).1; have r0 := (cC 0).1; have g0 := (cC 0).2; simp at a0 e0 e1 r0)
  have own0 : Hid (∀ wx : World, w1.heap.size ≤ wx.heap.size → (wx.alloc (.cells #[] 36)).ownsRow w1.heap.size 36 2 (.slice (some ⟨wx.heap.size, 0, none⟩) 0 0) 0 []) :=
    fun wx h => World.ownsRow_made wx #[] 0 h (Nat.zero_le _) rfl
  have B0 : Hid (Below w.heap.size w w1) := b01
  clear b1 cA cB cC b01
  have a0x : ∀ o, (w1.alloc o).cell? ⟨w.heap.size, 0, none⟩ = some (.slice none 0 0) := fun o => by rw [cell_alloc_lt (by omega)]; exact a0
  have a0y : ∀ o o', ((w1.alloc o).alloc o').cell? ⟨w.heap.size, 0, none⟩ = some (.slice none 0 0) := fun o o' => by rw [cell_alloc_lt (by simp <;> omega), cell_alloc_lt (by omega)]; exact a0
  have e0x : ∀ o, (w1.alloc o).cell? ⟨w.heap.size + 1, 0, none⟩ = some (.int .i64 a) := fun o => by rw [cell_alloc_lt (by omega)]; exact e0
  have e0y : ∀ o o', ((w1.alloc o).alloc o').cell? ⟨w.heap.size + 1, 0, none⟩ = some (.int .i64 a) := fun o o' => by rw [cell_alloc_lt (by simp <;> omega), cell_alloc_lt (by omega)]; exact e0
  have e1x : ∀ o, (w1.alloc o).cell? ⟨w.heap.size + 1, 1, none⟩ = some (.int .i64 p) := fun o => by rw [cell_alloc_lt (by omega)]; exact e1
  have e1y : ∀ o o', ((w1.alloc o).alloc o').cell? ⟨w.heap.size + 1, 1, none⟩ = some (.int .i64 p) := fun o o' => by rw [cell_alloc_lt (by simp <;> omega), cell_alloc_lt (by omega)]; exact e1
  have own1 : Hid (((w1.alloc (.cells #[] 36)).drew).ownsRow w1.heap.size 36 2 (.slice (some ⟨w1.heap.size, 0, none⟩) 0 0) 0 []) := (own0.out w1 (Nat.le_refl _)).drew
  have own2 : Hid (∀ o, (((w1.alloc (.cells #[] 36)).alloc o).drew).ownsRow w1.heap.size 36 2 (.slice (some ⟨w1.heap.size, 0, none⟩) 0 0) 0 []) := fun o => ((own0.out w1 (Nat.le_refl _)).alloc o).drew
  have own3 : Hid (∀ o, (((w1.alloc o).alloc (.cells #[] 36)).drew).ownsRow w1.heap.size 36 2 (.slice (some ⟨w1.heap.size + 1, 0, none⟩) 0 0) 0 []) := fun o => by have := (own0.out (w1.alloc o) (by simp)).drew; simpa using this
  have bl1 : Hid (∀ o, Below w1.heap.size w1 ((w1.alloc o).drew)) := fun o => ((Below.refl _ _).alloc (Nat.le_refl _) _).drew
  have bl2 : Hid (∀ o o', Below w1.heap.size w1 (((w1.alloc o).alloc o').drew)) := fun o o' => ((((Below.refl _ _).alloc (Nat.le_refl _) _).alloc (by simp) _)).drew
  go_cut [] (fun wx => ∃ g c : Nat, wx.cell? ⟨w.heap.size, 0, none⟩ = some (.slice (some ⟨g, 0, none⟩) 1 c) ∧ wx.cell? ⟨w.heap.size + 1 + 1, 0, none⟩ = some (.slice none 0 0) ∧ wx.frozen? ⟨w.heap.size + 1 + 1, 0, none⟩ = false ∧ wx.ownsRow w1.heap.size 36 2 (.slice (some ⟨g, 0, none⟩) 1 c) 1 (flatE ([(a, p)])) ∧ Below w.heap.size w wx)
  case first =>
    go_region_law (first
      | ((refine step_append_nil _ rfl (.tmp 19) (.tmp 21) 23 rfl w1.heap.size 36 i0 (.agg #[.int .i64 0, .int .i64 0]) 2 16 Tryz.underlying23 hi hz0 hz1 hz2 rfl (by decide) (.slice (some ⟨w1.heap.size, 0, none⟩) 0 0) 0 [] (by rfl) (by first | exact own1.out | exact own2.out _ | exact own3.out _) (by simp) 0 (by rfl) ?_)
         intro g1 c1 w2 hown1 hgrow1 hg1
         have hb2 : Below w1.heap.size w1 w2 := by first | exact (bl1.out _).grown hgrow1 (by simp) (fun k hk => by simp [Value.ownBlock] at hk; omega) | exact (bl2.out _ _).grown hgrow1 (by simp <;> omega) (fun k hk => by simp [Value.ownBlock] at hk; omega)
         try (have n5 : ∀ (j : Nat) (u : Value), [Value.int .i64 a, .int .i64 p][j]? = some u → w2.cell? ((⟨w1.heap.size + 1, 0, none⟩ : Addr).add j) = some u := World.news_of_block (cs := #[.int .i64 a, .int .i64 p]) (t := 36) (by rw [hgrow1.block (w1.heap.size + 1) (by simp) (by simp [Value.ownBlock])]; exact heap_lastd _ (by simp)))
         try (have n5 : ∀ (j : Nat) (u : Value), [Value.int .i64 a, .int .i64 p][j]? = some u → w2.cell? ((⟨w1.heap.size, 0, none⟩ : Addr).add j) = some u := World.news_of_block (cs := #[.int .i64 a, .int .i64 p]) (t := 36) (by rw [hgrow1.block w1.heap.size (by simp <;> omega) (by simp [Value.ownBlock])]; exact heap_last2d _ _))
         simp only [Nat.zero_add, List.nil_append] at hown1 ⊢
         have hs2 : w1.heap.size ≤ w2.heap.size := hb2.size
         have a0z : w2.cell? ⟨w.heap.size, 0, none⟩ = some (.slice none 0 0) := by rw [hb2.cell (by simp <;> omega)]; exact a0
         have e0z : w2.cell? ⟨w.heap.size + 1, 0, none⟩ = some (.int .i64 a) := by rw [hb2.cell (by simp <;> omega)]; exact e0
         have e1z : w2.cell? ⟨w.heap.size + 1, 1, none⟩ = some (.int .i64 p) := by rw [hb2.cell (by simp <;> omega)]; exact e1)
      | ((refine step_append_nil _ rfl (.tmp 19) (.tmp 21) 23 rfl w1.heap.size 36 i0 (.agg #[.int .i64 0, .int .i64 0]) 2 16 Tryz.underlying23 hi hz0 hz1 hz2 rfl (by decide) (.slice (some ⟨w1.heap.size + 1, 0, none⟩) 0 0) 0 [] (by rfl) (by first | exact own1.out | exact own2.out _ | exact own3.out _) (by simp) 0 (by rfl) ?_)
         intro g1 c1 w2 hown1 hgrow1 hg1
         have hb2 : Below w1.heap.size w1 w2 := by first | exact (bl1.out _).grown hgrow1 (by simp) (fun k hk => by simp [Value.ownBlock] at hk; omega) | exact (bl2.out _ _).grown hgrow1 (by simp <;> omega) (fun k hk => by simp [Value.ownBlock] at hk; omega)
         try (have n5 : ∀ (j : Nat) (u : Value), [Value.int .i64 a, .int .i64 p][j]? = some u → w2.cell? ((⟨w1.heap.size + 1, 0, none⟩ : Addr).add j) = some u := World.news_of_block (cs := #[.int .i64 a, .int .i64 p]) (t := 36) (by rw [hgrow1.block (w1.heap.size + 1) (by simp) (by simp [Value.ownBlock])]; exact heap_lastd _ (by simp)))
         try (have n5 : ∀ (j : Nat) (u : Value), [Value.int .i64 a, .int .i64 p][j]? = some u → w2.cell? ((⟨w1.heap.size, 0, none⟩ : Addr).add j) = some u := World.news_of_block (cs := #[.int .i64 a, .int .i64 p]) (t := 36) (by rw [hgrow1.block w1.heap.size (by simp <;> omega) (by simp [Value.ownBlock])]; exact heap_last2d _ _))
         simp only [Nat.zero_add, List.nil_append] at hown1 ⊢
         have hs2 : w1.heap.size ≤ w2.heap.size := hb2.size
         have a0z : w2.cell? ⟨w.heap.size, 0, none⟩ = some (.slice none 0 0) := by rw [hb2.cell (by simp <;> omega)]; exact a0
         have e0z : w2.cell? ⟨w.heap.size + 1, 0, none⟩ = some (.int .i64 a) := by rw [hb2.cell (by simp <;> omega)]; exact e0
         have e1z : w2.cell? ⟨w.heap.size + 1, 1, none⟩ = some (.int .i64 p) := by rw [hb2.cell (by simp <;> omega)]; exact e1)
      | ((refine step_append_some _ rfl (.tmp 22) (.tmp 24) 23 rfl w1.heap.size 36 i0 (.agg #[.int .i64 0, .int .i64 0]) 2 16 Tryz.underlying23 hi hz0 hz1 hz2 rfl (by decide) (.slice (some ⟨g1, 0, none⟩) 0 c1) 0 [] (by rfl) (by first | exact hown1 | exact hown1.alloc _) (by simp) _ 1 1 [.int .i64 a, .int .i64 p] (by rfl) rfl (by first | exact n5 | exact World.news_of_block (cs := #[.int .i64 a, .int .i64 p]) (t := 36) (heap_last w2 _)) (by intro u hu; simp at hu; rcases hu with rfl | rfl <;> rfl) (by unfold maxLen; omega) (by omega) (by first | exact hs2 | (simp; omega)) ?_)
         intro g2 c2 w3 hown2 hgrow2 hg2
         have hb3 : Below w1.heap.size w1 w3 := by first | exact hb2.grown hgrow2 hs2 (fun k hk => by simp [Value.ownBlock] at hk; omega) | exact (hb2.alloc hs2 _).grown hgrow2 (by simp <;> omega) (fun k hk => by simp [Value.ownBlock] at hk; omega)
         have a0v : w3.cell? ⟨w.heap.size, 0, none⟩ = some (.slice none 0 0) := by rw [hb3.cell (by simp <;> omega)]; exact a0
         have s0v : w3.frozen? ⟨w.heap.size, 0, none⟩ = false := by rw [hb3.frozen (by simp <;> omega)]; exact s0))
    all_goals
      go_wp2_with fail
      go_meet
      refine ⟨g2, c2, World.cell?_setCell_same _ _ _ a0v, ?_, ?_, ?_, ?_⟩
      · rw [World.cell?_setCell_far w3 ⟨w.heap.size, 0, none⟩ ⟨w.heap.size + 1 + 1, 0, none⟩ _ (by show w.heap.size ≠ w.heap.size + 1 + 1; omega), hb3.cell (by simp; omega)]; exact r0
      · rw [World.frozen?_setCell, hb3.frozen (by simp; omega)]; exact g0
      · exact ownsRow_setCell_below (a := ⟨w.heap.size, 0, none⟩) hown2 (by simp; omega) _
      · exact (B0.out.trans (hb3.mono (by omega))).setCell (by simp) _
  case rest =>
    obtain ⟨g, c, k0, k1, k2, kown, kb⟩ := hcut
    have KO := Lib.hid kown
    have KB := Lib.hid kb
    clear kown kb own1 own2 own3 bl1 bl2 own0 HP
    go_upto_region 7 with fail
    go_region
    all_goals go_wp2_with fail
    all_goals
      refine bodyPost_ret (v := .tuple #[.agg #[.slice (some ⟨g, 0, none⟩) 1 c], .int .i64 (500 + 1 - 1)]) (by simp [results, Tryz.results92, go_sem, World.cell?_setCell_same _ _ _ k1]) rfl ⟨_, _, rfl, ?_, ?_⟩
      · have := (ownsRow_setCell_below (a := ⟨w.heap.size + 1 + 1, 0, none⟩) KO.out (by simp; omega) (.slice (some ⟨g, 0, none⟩) 1 c)).drew
        exact OwnTab.mono (B := w1.heap.size) (by simpa [OwnTab] using this) (by omega)
      · exact (KB.out.setCell (by simp; omega) _).drew

/-- l3Put of any table. -/
theorem specPut_anyG (ad : Option Addr) (cap : Nat) (es : List (Int × Int)) (a p : Int) (w : World) (hn : es.length ≤ 4194304) (ht : TabAt w (.slice ad es.length cap) es) :
    Calls Tryz.prog 92 #[.agg #[.slice ad es.length cap], .agg #[.int .i64 a, .int .i64 p]] w fun e w' => ∃ g c, e = .returned (.tuple #[.agg #[.slice g (putE es (a, p)).1.length c], .int .i64 (putE es (a, p)).2]) ∧ ((g = ad ∧ c = cap ∧ (putE es (a, p)).1 = es) ∨ OwnTab w' w.heap.size (.slice g (putE es (a, p)).1.length c) (putE es (a, p)).1) ∧ Below w.heap.size w w' := by
  rcases ad with _ | ad
  · obtain ⟨a', cap', e, hc, hr⟩ := ht
    simp at e
    obtain ⟨rfl, rfl⟩ := e
    have h0 : es = [] := by
      refine List.eq_nil_of_length_eq_zero ?_
      refine Classical.byContradiction fun hh => ?_
      obtain ⟨g, hg, _⟩ := hr (by omega)
      cases hg
    subst h0
    have hcap : cap = 0 := hc.2 rfl
    subst hcap
    refine (specPut_nil a p w).mono ?_
    rintro e w' ⟨g, c, rfl, ho, hb⟩
    exact ⟨some g, c, rfl, .inr ho, hb⟩
  · refine (specPut_new_or ad cap es a p w hn ht).mono ?_
    rintro e w' ⟨g, c, rfl, ho, hb⟩
    exact ⟨some g, c, rfl, ho.imp (fun h => ⟨by rw [h.1], h.2⟩) id, hb⟩

set_option maxRecDepth 100000 in
set_option maxHeartbeats 1600000 in
theorem specLine_anyG (B : Nat) (ad : Option Addr) (cap : Nat) (es : List (Int × Int)) (s : ByteArray) (w : World) (hn : es.length ≤ 4194304) (hs : s.size ≤ 2097152) (hB : B ≤ w.heap.size) (ho : OwnTab w B (.slice ad es.length cap) es) :
    Calls Tryz.prog 83 #[.agg #[.slice ad es.length cap], .string s] w fun e w' => ∃ g c, e = .returned (.tuple #[.agg #[.slice g (lineE es s.data.toList).1.length c], .string ⟨(lineE es s.data.toList).2.toArray⟩]) ∧ OwnTab w' B (.slice g (lineE es s.data.toList).1.length c) (lineE es s.data.toList).1 ∧ Below w.heap.size w w' := by
  have HO := Lib.hid ho
  clear ho
  rcases hb : saysE s.data.toList with _ | ⟨a, p⟩
  · have HB : Hid (∀ w, Calls Tryz.prog 95 #[.string s] w fun e w' => e = .returned (.tuple #[.agg #[.int .i64 0, .int .i64 0], .bool false]) ∧ Below w.heap.size w w') := fun w => by have := specSays_any s w hs; rw [hb] at this; exact this
    have HE : Hid (lineE es s.data.toList = (es, s.data.toList)) := by show lineE _ _ = _; unfold lineE; rw [hb]
    clear hb
    rw [HE.out, str_same]
    go_enter Tryz.func83, Tryz.ntmps83
    go_wp2_with fail
    (go_at_call 95; refine (HB.out _).mono ?_; rintro e w1 ⟨rfl, b1⟩; obtain ⟨cA, cB, b01, z1⟩ := cell_two b1; have t0 := (cA 0).1; have r0 := (cB 0).1; have g0 := (cB 0).2; simp at t0 r0; have B1 := Lib.hid b01; clear cA cB b1 b01)
    have t1 : (w1.alloc (.cells #[.int .i64 0, .int .i64 0] 36)).cell? ⟨w.heap.size, 0, none⟩ = some (.slice ad es.length cap) := (by rw [cell_alloc_lt (by omega)]; exact t0)
    have r1 : (w1.alloc (.cells #[.int .i64 0, .int .i64 0] 36)).cell? ⟨w.heap.size + 1, 0, none⟩ = some (.slice none 0 0) := (by rw [cell_alloc_lt (by omega)]; exact r0)
    have g1 : (w1.alloc (.cells #[.int .i64 0, .int .i64 0] 36)).frozen? ⟨w.heap.size + 1, 0, none⟩ = false := (by rw [frozen_alloc_lt (by omega)]; exact g0)
    go_wp2_with fail
    refine bodyPost_ret (v := .tuple #[.agg #[.slice ad es.length cap], .string s]) (by simp [results, Tryz.results83, go_sem, World.cell?_setCell_same _ _ _ r1]) rfl ?_
    exact ⟨_, _, rfl, HO.out.below ((B1.out.alloc B1.out.size _).setCell (by simp) _), (B1.out.alloc B1.out.size _).setCell (by simp) _⟩
  · obtain ⟨us, hus⟩ : ∃ us, us = (putE es (a, p)).1 := ⟨_, rfl⟩
    obtain ⟨q, hq⟩ : ∃ q, q = (putE es (a, p)).2 := ⟨_, rfl⟩
    have hP : Hid (∀ (w : World), TabAt w (.slice ad es.length cap) es → Calls Tryz.prog 92 #[.agg #[.slice ad es.length cap], .agg #[.int .i64 a, .int .i64 p]] w fun e w' => ∃ g c, e = .returned (.tuple #[.agg #[.slice g us.length c], .int .i64 q]) ∧ ((g = ad ∧ c = cap ∧ us = es) ∨ OwnTab w' w.heap.size (.slice g us.length c) us) ∧ Below w.heap.size w w') := fun w h => by rw [hus, hq]; exact specPut_anyG ad cap es a p w hn h
    have HB : Hid (∀ w, Calls Tryz.prog 95 #[.string s] w fun e w' => e = .returned (.tuple #[.agg #[.int .i64 a, .int .i64 p], .bool true]) ∧ Below w.heap.size w w') := fun w => by have := specSays_any s w hs; rw [hb] at this; exact this
    by_cases h0 : q = 0
    · have HE : Hid (lineE es s.data.toList = (us, noneL)) := by show lineE _ _ = _; unfold lineE; rw [hb]; simp only; rw [← hq, if_pos h0, hus]
      clear hb hus hq
      subst h0
      rw [HE.out]
      go_enter Tryz.func83, Tryz.ntmps83
      go_wp2_with fail
      (go_at_call 95; refine (HB.out _).mono ?_; rintro e w1 ⟨rfl, b1⟩; obtain ⟨cA, cB, b01, z1⟩ := cell_two b1; have t0 := (cA 0).1; have r0 := (cB 0).1; have g0 := (cB 0).2; simp at t0 r0; have B1 := Lib.hid b01; clear cA cB b1 b01)
      have t1 : (w1.alloc (.cells #[.int .i64 a, .int .i64 p] 36)).cell? ⟨w.heap.size, 0, none⟩ = some (.slice ad es.length cap) := (by rw [cell_alloc_lt (by omega)]; exact t0)
      have r1 : (w1.alloc (.cells #[.int .i64 a, .int .i64 p] 36)).cell? ⟨w.heap.size + 1, 0, none⟩ = some (.slice none 0 0) := (by rw [cell_alloc_lt (by omega)]; exact r0)
      have g1 : (w1.alloc (.cells #[.int .i64 a, .int .i64 p] 36)).frozen? ⟨w.heap.size + 1, 0, none⟩ = false := (by rw [frozen_alloc_lt (by omega)]; exact g0)
      go_wp2_with fail
      (go_at_call 92; refine (hP.out _ (HO.out.tab.below (B1.out.alloc B1.out.size _))).mono ?_; rintro e w2 ⟨g2, c2, rfl, o2, b2⟩; have O2 := Lib.hid o2; have B2 := Lib.hid b2; clear o2 b2)
      have r2 : w2.cell? ⟨w.heap.size + 1, 0, none⟩ = some (.slice none 0 0) := (by rw [B2.out.cell (by simp; omega)]; exact r1)
      have g02 : w2.frozen? ⟨w.heap.size + 1, 0, none⟩ = false := (by rw [B2.out.frozen (by simp; omega)]; exact g1)
      have z2 := B2.out.size
      have z2 : w1.heap.size + 1 ≤ w2.heap.size := by simpa using z2
      have r3 : (w2.alloc (.cells #[.slice g2 us.length c2] 25)).cell? ⟨w.heap.size + 1, 0, none⟩ = some (.slice none 0 0) := (by rw [cell_alloc_lt (by show _ < _; omega)]; exact r2)
      have g03 : (w2.alloc (.cells #[.slice g2 us.length c2] 25)).frozen? ⟨w.heap.size + 1, 0, none⟩ = false := (by rw [frozen_alloc_lt (by show _ < _; omega)]; exact g02)
      go_wp2_with fail
      refine bodyPost_ret (v := .tuple #[.agg #[.slice g2 us.length c2], .string ⟨noneL.toArray⟩]) (by simp [results, Tryz.results83, go_sem, World.cell?_setCell_same _ _ _ r3, noneL]) rfl ?_
      have BF : Below w.heap.size w ((w2.alloc (.cells #[.slice g2 us.length c2] 25)).setCell ⟨w.heap.size + 1, 0, none⟩ (.slice g2 us.length c2)) := (((B1.out.alloc B1.out.size _).trans (B2.out.mono (by simp; omega))).alloc (by omega) _).setCell (by simp) _
      refine ⟨_, _, rfl, ?_, BF⟩
      rcases O2.out with ⟨rfl, rfl, rfl⟩ | o2
      · exact HO.out.below BF
      · exact OwnTab.mono (B := w1.heap.size) (ownsRow_setCell_below (OwnTab.below (OwnTab.mono o2 (by simp)) ((Below.refl _ _).alloc (Nat.le_refl _) _)) (by simp; omega) _) (by omega)
    · have HE : Hid (lineE es s.data.toList = (us, lpL 50 q)) := by show lineE _ _ = _; unfold lineE; rw [hb]; simp only; rw [← hq, if_neg h0, hus]
      clear hb hus hq
      rw [HE.out]
      go_enter Tryz.func83, Tryz.ntmps83
      go_wp2_with fail
      (go_at_call 95; refine (HB.out _).mono ?_; rintro e w1 ⟨rfl, b1⟩; obtain ⟨cA, cB, b01, z1⟩ := cell_two b1; have t0 := (cA 0).1; have r0 := (cB 0).1; have g0 := (cB 0).2; simp at t0 r0; have B1 := Lib.hid b01; clear cA cB b1 b01)
      have t1 : (w1.alloc (.cells #[.int .i64 a, .int .i64 p] 36)).cell? ⟨w.heap.size, 0, none⟩ = some (.slice ad es.length cap) := (by rw [cell_alloc_lt (by omega)]; exact t0)
      have r1 : (w1.alloc (.cells #[.int .i64 a, .int .i64 p] 36)).cell? ⟨w.heap.size + 1, 0, none⟩ = some (.slice none 0 0) := (by rw [cell_alloc_lt (by omega)]; exact r0)
      have g1 : (w1.alloc (.cells #[.int .i64 a, .int .i64 p] 36)).frozen? ⟨w.heap.size + 1, 0, none⟩ = false := (by rw [frozen_alloc_lt (by omega)]; exact g0)
      go_wp2_with fail
      (go_at_call 92; refine (hP.out _ (HO.out.tab.below (B1.out.alloc B1.out.size _))).mono ?_; rintro e w2 ⟨g2, c2, rfl, o2, b2⟩; have O2 := Lib.hid o2; have B2 := Lib.hid b2; clear o2 b2)
      have r2 : w2.cell? ⟨w.heap.size + 1, 0, none⟩ = some (.slice none 0 0) := (by rw [B2.out.cell (by simp; omega)]; exact r1)
      have g02 : w2.frozen? ⟨w.heap.size + 1, 0, none⟩ = false := (by rw [B2.out.frozen (by simp; omega)]; exact g1)
      have z2 := B2.out.size
      have z2 : w1.heap.size + 1 ≤ w2.heap.size := by simpa using z2
      have r3 : (w2.alloc (.cells #[.slice g2 us.length c2] 25)).cell? ⟨w.heap.size + 1, 0, none⟩ = some (.slice none 0 0) := (by rw [cell_alloc_lt (by show _ < _; omega)]; exact r2)
      have g03 : (w2.alloc (.cells #[.slice g2 us.length c2] 25)).frozen? ⟨w.heap.size + 1, 0, none⟩ = false := (by rw [frozen_alloc_lt (by show _ < _; omega)]; exact g02)
      go_wp2_with fail
      have BF : Hid (Below w.heap.size w (w2.alloc (.cells #[.slice g2 us.length c2] 25))) := (((B1.out.alloc B1.out.size _).trans (B2.out.mono (by simp; omega))).alloc (by omega) _)
      have x3 : (w2.alloc (.cells #[.slice g2 us.length c2] 25)).cell? ⟨w2.heap.size, 0, none⟩ = some (.slice g2 us.length c2) := (cell_new _ _ _ 0).1
      have z3 : w2.heap.size + 1 ≤ (w2.alloc (.cells #[.slice g2 us.length c2] 25)).heap.size := by simp
      have O3 : Hid ((g2 = ad ∧ c2 = cap ∧ us = es) ∨ OwnTab (w2.alloc (.cells #[.slice g2 us.length c2] 25)) (w1.heap.size + 1) (.slice g2 us.length c2) us) := O2.out.imp id (fun o2 => OwnTab.below (OwnTab.mono o2 (by simp)) ((Below.refl _ _).alloc (Nat.le_refl _) _))
      obtain ⟨w3, hw3⟩ : ∃ w3, w3 = w2.alloc (.cells #[.slice g2 us.length c2] 25) := ⟨_, rfl⟩
      obtain ⟨k2, hk2⟩ : ∃ k2, k2 = w2.heap.size := ⟨_, rfl⟩
      rw [← hw3] at BF x3 z3 O3 r3 g03
      rw [← hk2] at x3 z3 z2
      rw [← hw3, ← hk2]
      clear hw3 hk2 r2 g02 O2 B2 B1 r0 t0 g0 t1 r1 g1
      go_region_with (go_at_call 96; refine (specLinPort_any 50 q _).mono ?_; rintro e w4 ⟨rfl, b4⟩; have B4 : Hid (Below w3.heap.size w3 w4) := ((Below.refl _ _).drew).trans b4; have x4 : w4.cell? ⟨k2, 0, none⟩ = some (.slice g2 us.length c2) := (by rw [B4.out.cell (by simp; omega)]; exact x3); have r4 : w4.cell? ⟨w.heap.size + 1, 0, none⟩ = some (.slice none 0 0) := (by rw [B4.out.cell (by simp; omega)]; exact r3); have g04 : w4.frozen? ⟨w.heap.size + 1, 0, none⟩ = false := (by rw [B4.out.frozen (by simp; omega)]; exact g03))
      all_goals
        go_wp2_with fail
        refine bodyPost_ret (v := .tuple #[.agg #[.slice g2 us.length c2], .string ⟨(lpL 50 q).toArray⟩]) (by simp [results, Tryz.results83, go_sem, World.cell?_setCell_same _ _ _ r4]) rfl ?_
        have BG : Below w.heap.size w (w4.setCell ⟨w.heap.size + 1, 0, none⟩ (.slice g2 us.length c2)) := (BF.out.trans (B4.out.mono BF.out.size)).setCell (by simp) _
        refine ⟨_, _, rfl, ?_, BG⟩
        rcases O3.out with ⟨rfl, rfl, rfl⟩ | o3
        · exact HO.out.below BG
        · exact OwnTab.mono (B := w1.heap.size) (ownsRow_setCell_below (OwnTab.below (OwnTab.mono o3 (by simp)) B4.out) (by simp; omega) _) (by omega)

set_option maxRecDepth 100000 in
set_option maxHeartbeats 3200000 in
theorem specStream_anyG (B : Nat) (ad : Option Addr) (cap : Nat) (es : List (Int × Int)) (s : ByteArray) (w : World) (hm : mapB es = true) (hs : s.size ≤ 2097152) (hB : B ≤ w.heap.size) (ho : OwnTab w B (.slice ad es.length cap) es) :
    Calls Tryz.prog 66 #[.agg #[.slice ad es.length cap], .string s] w fun e w' => ∃ g c, e = .returned (.tuple #[.agg #[.slice g (streamE es (linesL s.data.toList)).1.length c], .string ⟨(streamE es (linesL s.data.toList)).2.toArray⟩]) ∧ OwnTab w' B (.slice g (streamE es (linesL s.data.toList)).1.length c) (streamE es (linesL s.data.toList)).1 ∧ Below w.heap.size w w' := by
  have HO := Lib.hid ho
  have HM := Lib.hid hm
  have hlz : ∀ x ∈ linesL s.data.toList, x.length ≤ 2097152 := fun x hx => by have := line_len hx; rw [len_list] at this; omega
  have hl0 := lines_len s.data.toList
  rw [len_list] at hl0
  have HL : Hid (∀ w, Calls Tryz.prog 20 #[.string s] w fun e w' => ∃ v, e = .returned (.tuple #[v, .string ⟨(restL s.data.toList).toArray⟩]) ∧ w'.ownsRow w.heap.size 9 1 v (linesL s.data.toList).length ((linesL s.data.toList).map strV) ∧ Below w.heap.size w w') := fun w => specLines_any s w hs
  obtain ⟨ls, hls⟩ : ∃ ls, ls = linesL s.data.toList := ⟨_, rfl⟩
  obtain ⟨rs, hrs⟩ : ∃ rs, rs = (restL s.data.toList).toArray := ⟨_, rfl⟩
  rw [← hls] at HL hlz hl0 ⊢
  rw [← hrs] at HL
  have hln : ls.length ≤ 2097152 := by omega
  have HLZ := Lib.hid hlz
  clear ho hm hls hrs hlz hl0
  go_enter Tryz.func66, Tryz.ntmps66
  go_wp2_with fail
  (go_at_call 20; refine (HL.out _).mono ?_; rintro e w1 ⟨vl, rfl, own1, b1⟩; obtain ⟨cA, cB, b01, z1⟩ := cell_two b1; have t0 := (cA 0).1; have f0 := (cA 0).2; have r0 := (cB 0).1; have g0 := (cB 0).2; simp at t0 r0; have own1 := own_base (B' := w.heap.size + 2) own1 (by simp <;> omega); obtain ⟨al, capl, rfl⟩ := own_form own1; have OWN1 := Lib.hid own1; have B1 := Lib.hid b01; have T0 : Hid (Tag w1 w.heap.size 25) := (⟨_, _, (b1.block w.heap.size (by simp <;> omega)).trans ((Below.heap_alloc _ _ _ (by simp <;> omega)).trans (heap_alloc_new w _))⟩ : Tag w1 w.heap.size 25); have T1 : Hid (Tag w1 (w.heap.size + 1) 25) := (by obtain ⟨cs, fz, hh⟩ := Tag.new (w.alloc (.cells #[.slice ad es.length cap] 25)) #[.slice none 0 0] 25; simp only [World.size_alloc] at hh; exact ⟨cs, fz, (b1.block (w.heap.size + 1) (by simp)).trans hh⟩); clear cA cB b1 b01 own1)
  go_wp2_with fail
  go_loopw [8, 9, 10, 11] (fun o i _ _ wr => ∃ (k : Nat) (us : List (Int × Int)) (x : List UInt8) (g : Option Addr) (c : Nat), k ≤ ls.length ∧ i = .int .i64 k ∧ o = .string ⟨x.toArray⟩ ∧ (us, x) = streamE es (ls.take k) ∧ x.length ≤ k * 2097173 ∧ wr.cell? ⟨w.heap.size, 0, none⟩ = some (.slice g us.length c) ∧ wr.frozen? ⟨w.heap.size, 0, none⟩ = false ∧ Tag wr w.heap.size 25 ∧ Tag wr (w.heap.size + 1) 25 ∧ OwnTab wr B (.slice g us.length c) us ∧ wr.cell? ⟨w.heap.size + 1, 0, none⟩ = some (.slice none 0 0) ∧ wr.frozen? ⟨w.heap.size + 1, 0, none⟩ = false ∧ wr.ownsRow (w.heap.size + 2) 9 1 (.slice al ls.length capl) ls.length (ls.map strV) ∧ Below w.heap.size w wr ∧ w.heap.size + 2 ≤ wr.heap.size) (fun _ i _ _ _ => ls.length - (intOf i).toNat)
  case atStart => exact ⟨0, es, [], ad, cap, Nat.zero_le _, rfl, rfl, rfl, by simp, t0, f0, T0.out, T1.out, HO.out.below B1.out, r0, g0, OWN1.out, B1.out, z1⟩
  case round =>
    obtain ⟨k, us, x, g, c, hk, rfl, rfl, hT, hxk, t2, f2, tg, tg1, ho, r2, g2, own, hb, hz⟩ := hrel
    have HT := Lib.hid hT
    have HO2 := Lib.hid ho
    have HTG := Lib.hid tg
    have HTG1 := Lib.hid tg1
    clear tg1
    have HOW := Lib.hid own
    have HB := Lib.hid hb
    clear hT ho tg hb
    by_cases hlt : k < ls.length
    · obtain ⟨gl, cl, hv, hgB, hgl, hcl, hcells⟩ := own_cells own (by omega)
      simp at hv
      obtain ⟨rfl, rfl⟩ := hv
      obtain ⟨q0, _⟩ := hcells k (by simpa using hlt)
      simp only [List.getElem_map] at q0
      have hx := HLZ.out ls[k] (List.getElem_mem hlt)
      have HTK : Hid (ls.take (k + 1) = ls.take k ++ [ls[k]]) := List.take_succ_eq_append_getElem hlt
      obtain ⟨y, hy⟩ : ∃ y, y = ls[k] := ⟨_, rfl⟩
      rw [← hy] at q0 hx HTK
      have hul : us.length ≤ 6 := by
        have := mapB_le (streamE_ok HM.out (ls.take k))
        rw [← HT.out] at this
        exact this
      obtain ⟨us', hus⟩ : ∃ us', us' = (lineE us y).1 := ⟨_, rfl⟩
      obtain ⟨x', hx'⟩ : ∃ x', x' = (lineE us y).2 := ⟨_, rfl⟩
      have HN : Hid ((us', x ++ x' ++ [59]) = streamE es (ls.take (k + 1))) := by
        show _ = _
        rw [HTK.out, streamE_snoc, ← HT.out, hus, hx']; rfl
      have hxl : x'.length ≤ 2097172 := by have := lineE_len us y; rw [hx']; omega
      have hxb : x.length ≤ 4400000000000 := by have : k * 2097173 ≤ 2097152 * 2097173 := Nat.mul_le_mul_right _ (by omega); omega
      have hxn : (x ++ x' ++ [59]).length ≤ (k + 1) * 2097173 := by simp; omega
      have HXN := Lib.hid hxn
      clear hxn
      have HC : Hid (∀ w0, B ≤ w0.heap.size → OwnTab w0 B (.slice g us.length c) us → Calls Tryz.prog 83 #[.agg #[.slice g us.length c], strV y] w0 fun e w' => ∃ g c, e = .returned (.tuple #[.agg #[.slice g us'.length c], .string ⟨x'.toArray⟩]) ∧ OwnTab w' B (.slice g us'.length c) us' ∧ Below w0.heap.size w0 w') := fun w0 h1 h2 => by
        rw [hus, hx']
        exact specLine_anyG B g c us ⟨y.toArray⟩ w0 (by omega) (by show y.toArray.size ≤ _; simpa using hx) h1 h2
      have hk2 : (k : Int) ≤ (capl : Int) := by omega
      have hk3 : (k : Int) ≤ 2097152 := by omega
      have mk : Hid (∀ w', Below wr.heap.size wr w' → w'.cell? ⟨w.heap.size, 0, none⟩ = some (.slice g us.length c) ∧ w'.cell? ⟨gl, k, none⟩ = some (strV y) ∧ Below wr.heap.size wr w') := fun w' h => ⟨box_below t2 h, box_below q0 h, h⟩
      clear hcells hy own hx hus hx'
      go_upto_region 6 with fail
      go_cut [10, 11] (fun s10 s11 wx => ∃ b g c, s10 = .pointer (some ⟨b, 0, none⟩) ∧ s11 = .string ⟨x'.toArray⟩ ∧ wx.cell? ⟨b, 0, none⟩ = some (.slice g us'.length c) ∧ OwnTab wx B (.slice g us'.length c) us' ∧ Below wr.heap.size wr wx)
      case first =>
        go_region_held3 (fun w' => w'.cell? ⟨w.heap.size, 0, none⟩ = some (.slice g us.length c) ∧ w'.cell? ⟨gl, k, none⟩ = some (strV y) ∧ Below wr.heap.size wr w')
          (first
            | exact mk.out _ (Below.refl _ _).drew
            | exact mk.out _ cc
            | exact mk.out _ (cc.alloc cc.size _)
            | exact mk.out _ (cc.setCell (by first | (simp; done) | (simp; omega)) _)
            | exact mk.out _ (((Below.refl _ _).drew).alloc (Nat.le_refl _) _)
            | (trace_state; fail))
          (first | (go_at_call 83; have hS := (by assumption : _ ∧ _ ∧ Below wr.heap.size wr _); refine (HC.out _ (Nat.le_trans (by omega : B ≤ wr.heap.size) hS.2.2.size) (HO2.out.below hS.2.2)).mono ?_; rintro e wN ⟨gN, cN, rfl, oN, bN⟩; have ON := Lib.hid oN; have cc : Below wr.heap.size wr wN := hS.2.2.trans (bN.mono hS.2.2.size); (first | (have hk := fresh1 bN; obtain ⟨k0, kf⟩ := hk; have kt := fresh1t bN) | (have hk := fresh1d bN; obtain ⟨k0, kf⟩ := hk; have kt := fresh1dt bN) | skip)))
        all_goals (go_wp2_with fail; go_meet)
        all_goals (first | exact ⟨_, _, _, rfl, rfl, by simp, ON.out.below ((Below.refl _ _).alloc (Nat.le_refl _) _), cc.alloc cc.size _⟩ | exact ⟨_, _, _, rfl, rfl, World.cell?_setCell_same _ _ _ k0, ON.out.setTag kt tab_ne _, cc.setCell (by first | (simp; done) | (simp; omega)) _⟩ | (trace_state; fail))
      case rest =>
        obtain ⟨b, gN, cN, rfl, rfl, kN, oN, bN⟩ := hcut
        have ON := Lib.hid oN
        have BN := Lib.hid bN
        have t3 := box_below t2 bN
        have f3 := box_frozen t2 f2 bN
        have r3 := box_below r2 bN
        have g3 := box_frozen r2 g2 bN
        have TG3 := Lib.hid (HTG.out.later bN)
        have OW3 := Lib.hid (own_below HOW.out bN)
        have zN := bN.size
        have HSX : Hid ((⟨x.toArray⟩ : ByteArray) ++ ⟨x'.toArray⟩ ++ ⟨#[59]⟩ = ⟨(x ++ x' ++ [59]).toArray⟩) := by
          show _ = _
          apply ByteArray.ext
          apply Array.ext'
          simp
        clear oN bN t2 f2 r2 g2 q0
        clear hxk
        go_wp2_with fail
        go_roundw
        case rel =>
          refine ⟨k + 1, us', x ++ x' ++ [59], gN, cN, by omega, by go_num, by rw [HSX.out], HN.out, HXN.out, World.cell?_setCell_same _ _ _ t3, by rw [World.frozen?_setCell]; exact f3, TG3.out.setCell _ _, (HTG1.out.later BN.out).setCell _ _, ON.out.setTag TG3.out tab_ne _, ?_, by rw [World.frozen?_setCell]; exact g3, ownsRow_setCell_below OW3.out (by simp) _, ?_, by simp; omega⟩
          · rw [World.cell?_setCell_far _ ⟨w.heap.size, 0, none⟩ ⟨w.heap.size + 1, 0, none⟩ _ (by show w.heap.size ≠ w.heap.size + 1; omega)]; exact r3
          · exact (HB.out.trans (BN.out.mono (by omega))).setCell (by simp) _
        case measure => simp [intOf]; omega
    · have hke : k = ls.length := by omega
      have HTE : Hid ((us, x) = streamE es ls) := by show _ = _; rw [HT.out, hke, List.take_length]
      clear hlt
      go_wp2_with fail
      refine bodyPost_ret (v := .tuple #[.agg #[.slice g us.length c], .string ⟨x.toArray⟩]) (by simp [results, Tryz.results66, go_sem, World.cell?_setCell_same _ _ _ r2]) rfl ?_
      rw [← HTE.out]
      refine ⟨g, c, rfl, HO2.out.setTag HTG1.out tab_ne _, HB.out.setCell (by simp) _⟩

set_option maxRecDepth 100000 in
set_option maxHeartbeats 1600000 in
theorem spec4Spans_anyG (B : Nat) (ad : Option Addr) (cap : Nat) (es : List (Int × Int)) (s : ByteArray) (w : World) (hm : mapB es = true) (hst : strB s.data.toList = true) (hs : s.size ≤ 2097152) (hB : B ≤ w.heap.size) (ho : OwnTab w B (.slice ad es.length cap) es) :
    Calls Tryz.prog 42 #[.agg #[.slice ad es.length cap], .string s] w fun e w' => ∃ v, e = .returned v ∧ OwnSp w' w.heap.size v (spansL (posL es s.data.toList)) ∧ Below w.heap.size w w' := by
  have hlen := strA_len es s.data.toList
  have hstr : strA es s.data.toList = streamE es (linesL s.data.toList) := by unfold strA; rw [if_pos ⟨hm, hst⟩]
  rw [hstr] at hlen
  have HO := Lib.hid ho
  obtain ⟨us, hus⟩ : ∃ us, us = (streamE es (linesL s.data.toList)).1 := ⟨_, rfl⟩
  obtain ⟨far, hfar⟩ : ∃ far : ByteArray, far = ⟨(streamE es (linesL s.data.toList)).2.toArray⟩ := ⟨_, rfl⟩
  have HI : Hid (∀ w, B ≤ w.heap.size → OwnTab w B (.slice ad es.length cap) es → Calls Tryz.prog 66 #[.agg #[.slice ad es.length cap], .string s] w fun e w' => ∃ g c, e = .returned (.tuple #[.agg #[.slice g us.length c], .string far]) ∧ OwnTab w' B (.slice g us.length c) us ∧ Below w.heap.size w w') := fun w h1 h2 => by rw [hus, hfar]; exact specStream_anyG B ad cap es s w hm hs h1 h2
  have hfl : far.data.toList = (streamE es (linesL s.data.toList)).2 := by rw [hfar]
  have hfs : far.size ≤ 2097152 := by rw [← len_list, hfl]; exact hlen
  have HP : Hid (∀ w, Calls Tryz.prog 67 #[.string s, .string far] w fun e w' => ∃ v, e = .returned v ∧ OwnSp w' w.heap.size v (spansL (posL es s.data.toList)) ∧ Below w.heap.size w w') := fun w => by
    have := specBoth_any s far w hs hfs
    rw [hfl, ← posL_ok hm hst] at this
    exact this
  obtain ⟨sp, hsp⟩ : ∃ sp, sp = spansL (posL es s.data.toList) := ⟨_, rfl⟩
  rw [← hsp] at HP ⊢
  clear hsp hus hfar hfl hfs hlen hstr hm hst ho
  go_enter Tryz.func42, Tryz.ntmps42
  go_wp2_with fail
  (go_at_call 66; refine (HI.out _ (by simp; omega) (HO.out.below ((Below.refl _ _).alloc (Nat.le_refl _) _))).mono ?_; rintro e w1 ⟨g, c, rfl, _, b1⟩; have B1 : Hid (Below w.heap.size w w1) := ((Below.refl _ _).alloc (Nat.le_refl _) _).trans (b1.mono (by simp)); have z1 : w.heap.size + 1 ≤ w1.heap.size := (by have := b1.size; simpa using this); clear b1)
  go_wp2_with fail
  (go_at_call 67; refine (HP.out _).mono ?_; rintro e w2 ⟨v2, rfl, o2, b2⟩; have B2 : Hid (Below w.heap.size w w2) := (B1.out.alloc (by omega) _).trans (b2.mono (by simp; omega)); have O2 : Hid (OwnSp w2 w.heap.size v2 sp) := o2.mono (by simp; omega); clear o2 b2)
  go_wp2_with fail
  go_ret
  exact ⟨_, rfl, O2.out, B2.out⟩

set_option maxRecDepth 100000 in
set_option maxHeartbeats 1600000 in
theorem specSpans_anyG (B : Nat) (ad : Option Addr) (cap : Nat) (es : List (Int × Int)) (s : ByteArray) (w : World) (hn : es.length ≤ 4194304) (hs : s.size ≤ 2097152) (hB : B ≤ w.heap.size) (ho : OwnTab w B (.slice ad es.length cap) es) :
    Calls Tryz.prog 17 #[.agg #[.slice ad es.length cap], .string s] w fun e w' => ∃ v, e = .returned v ∧ OwnSp w' w.heap.size v (spansL (posL es s.data.toList)) ∧ Below w.heap.size w w' := by
  have HO := Lib.hid ho
  have hM : Hid (∀ w, OwnTab w B (.slice ad es.length cap) es → Calls Tryz.prog 7 #[.agg #[.slice ad es.length cap]] w fun e w' => e = .returned (.bool (mapB es)) ∧ Below w.heap.size w w') := fun w h => specMapOk_any _ es w hn h.tab
  have hL : Hid (∀ w, Calls Tryz.prog 8 #[.string s] w fun e w' => e = .returned (.bool (strB s.data.toList)) ∧ Below w.heap.size w w') := fun w => specStr_any s w hs
  have HZ : Hid (∀ wx : World, w.heap.size ≤ wx.heap.size → OwnSp (wx.alloc (.cells #[] 76)) w.heap.size (.slice (some ⟨wx.heap.size, 0, none⟩) 0 0) []) := fun wx h => by
    have := World.ownsRow_made (base := w.heap.size) (e := 76) (size := 5) wx #[] 0 h (Nat.zero_le _) rfl
    simpa [OwnSp, flatC] using this
  by_cases hm : mapB es = true
  · by_cases hi : strB s.data.toList = true
    · have HX : Hid (∀ w, B ≤ w.heap.size → OwnTab w B (.slice ad es.length cap) es → Calls Tryz.prog 42 #[.agg #[.slice ad es.length cap], .string s] w fun e w' => ∃ v, e = .returned v ∧ OwnSp w' w.heap.size v (spansL (posL es s.data.toList)) ∧ Below w.heap.size w w') := fun w h1 h2 => spec4Spans_anyG B ad cap es s w hm hi hs h1 h2
      obtain ⟨sp, hsp⟩ : ∃ sp, sp = spansL (posL es s.data.toList) := ⟨_, rfl⟩
      rw [← hsp] at HX ⊢
      rw [hm] at hM
      rw [hi] at hL
      clear hm hi hsp ho HZ
      go_enter Tryz.func17, Tryz.ntmps17
      go_wp2_with fail
      (go_at_call 7; refine (hM.out _ (HO.out.below ((Below.refl _ _).alloc (Nat.le_refl _) _))).mono ?_; rintro e w1 ⟨rfl, b1⟩; have t0 : w1.cell? ⟨w.heap.size, 0, none⟩ = some (.slice ad es.length cap) := (by rw [b1.cell (by simp)]; simp); have B1 : Hid (Below w.heap.size w w1) := ((Below.refl _ _).alloc (Nat.le_refl _) _).trans (b1.mono (by simp)); have z1 : w.heap.size + 1 ≤ w1.heap.size := (by have := b1.size; simpa using this); clear b1)
      go_wp2_with fail
      (go_at_call 8; refine (hL.out _).mono ?_; rintro e w2 ⟨rfl, b2⟩; have t2 := box_below t0 b2; have B2 : Hid (Below w.heap.size w w2) := B1.out.trans (b2.mono (by omega)); have z2 : w.heap.size + 1 ≤ w2.heap.size := (by have := b2.size; omega); clear b2)
      go_wp2_with fail
      (go_at_call 42; refine (HX.out _ (by omega) (HO.out.below B2.out)).mono ?_; rintro e w3 ⟨v3, rfl, o3, b3⟩; have O3 : Hid (OwnSp w3 w.heap.size v3 sp) := o3.mono (by omega); have B3 : Hid (Below w.heap.size w w3) := B2.out.trans (b3.mono (by omega)); clear o3 b3)
      go_wp2_with fail
      go_ret
      exact ⟨_, rfl, O3.out, B3.out⟩
    · have hi' : strB s.data.toList = false := by simpa using hi
      have hp : posL es s.data.toList = [] := posL_not (by rw [hi', Bool.and_false])
      rw [hp]
      show Calls _ _ _ _ fun e w' => ∃ v, e = .returned v ∧ OwnSp w' w.heap.size v [] ∧ Below w.heap.size w w'
      rw [hm] at hM
      rw [hi'] at hL
      clear hm hi hi' hp ho
      go_enter Tryz.func17, Tryz.ntmps17
      go_wp2_with fail
      (go_at_call 7; refine (hM.out _ (HO.out.below ((Below.refl _ _).alloc (Nat.le_refl _) _))).mono ?_; rintro e w1 ⟨rfl, b1⟩; have B1 : Hid (Below w.heap.size w w1) := ((Below.refl _ _).alloc (Nat.le_refl _) _).trans (b1.mono (by simp)); have z1 : w.heap.size + 1 ≤ w1.heap.size := (by have := b1.size; simpa using this); clear b1)
      go_wp2_with fail
      (go_at_call 8; refine (hL.out _).mono ?_; rintro e w2 ⟨rfl, b2⟩; have B2 : Hid (Below w.heap.size w w2) := B1.out.trans (b2.mono (by omega)); have z2 : w.heap.size + 1 ≤ w2.heap.size := (by have := b2.size; omega); clear b2)
      go_wp2_with fail
      go_ret
      exact ⟨_, rfl, HZ.out w2 (by omega), B2.out.alloc (by omega) _⟩
  · have hm' : mapB es = false := by simpa using hm
    have hp : posL es s.data.toList = [] := posL_not (by rw [hm', Bool.false_and])
    rw [hp]
    show Calls _ _ _ _ fun e w' => ∃ v, e = .returned v ∧ OwnSp w' w.heap.size v [] ∧ Below w.heap.size w w'
    rw [hm'] at hM
    clear hm hm' hp ho
    go_enter Tryz.func17, Tryz.ntmps17
    go_wp2_with fail
    (go_at_call 7; refine (hM.out _ (HO.out.below ((Below.refl _ _).alloc (Nat.le_refl _) _))).mono ?_; rintro e w1 ⟨rfl, b1⟩; have B1 : Hid (Below w.heap.size w w1) := ((Below.refl _ _).alloc (Nat.le_refl _) _).trans (b1.mono (by simp)); have z1 : w.heap.size + 1 ≤ w1.heap.size := (by have := b1.size; simpa using this); clear b1)
    go_wp2_with fail
    go_ret
    exact ⟨_, rfl, HZ.out w1 (by omega), B1.out.alloc (by omega) _⟩

set_option maxRecDepth 100000 in
set_option maxHeartbeats 1600000 in
theorem specPosBack_anyG (B : Nat) (ad : Option Addr) (cap : Nat) (es : List (Int × Int)) (s : ByteArray) (a : Int) (w : World) (hn : es.length ≤ 4194304) (hs : s.size ≤ 2097152) (ha : -9223372036854775808 ≤ a ∧ a ≤ 9223372036854775807) (hB : B ≤ w.heap.size) (ho : OwnTab w B (.slice ad es.length cap) es) :
    Calls Tryz.prog 6 #[.agg #[.slice ad es.length cap], .string s, .int .i64 a] w fun e w' => e = .returned (.int .i64 (backI (posL es s.data.toList) a)) ∧ Below w.heap.size w w' := by
  have h1 := insL_ge (pairsL s.data.toList (strA es s.data.toList).2)
  have h2 := pairsL_ins s.data.toList (strA es s.data.toList).2
  have h3 := pairsL_outs s.data.toList (strA es s.data.toList).2
  have h4 := strA_len es s.data.toList
  rw [len_list] at h2
  have HT := Lib.hid ho
  have HP : Hid (∀ w, B ≤ w.heap.size → OwnTab w B (.slice ad es.length cap) es → Calls Tryz.prog 17 #[.agg #[.slice ad es.length cap], .string s] w fun e w' => ∃ v, e = .returned v ∧ OwnSp w' w.heap.size v (spansL (posL es s.data.toList)) ∧ Below w.heap.size w w') := fun w h1 h2 => specSpans_anyG B ad cap es s w hn hs h1 h2
  have HX : Hid (∀ v w, RdSp w v (spansL (posL es s.data.toList)) → Calls Tryz.prog 16 #[v, .int .i64 a] w fun e w' => e = .returned (.int .i64 (backI (posL es s.data.toList) a)) ∧ Below w.heap.size w w') := fun v w h => by
    unfold posL at h ⊢
    exact specBack4_any v _ a w ha (by omega) (by omega) (by omega) h
  obtain ⟨z, hz⟩ : ∃ z, z = backI (posL es s.data.toList) a := ⟨_, rfl⟩
  obtain ⟨sp, hsp⟩ : ∃ sp, sp = spansL (posL es s.data.toList) := ⟨_, rfl⟩
  rw [← hz] at HX ⊢
  rw [← hsp] at HX HP
  clear hz hsp h1 h2 h3 h4 ho
  go_enter Tryz.func6, Tryz.ntmps6
  go_wp2_with fail
  (go_at_call 17; refine (HP.out _ (by simp; omega) (HT.out.below ((Below.refl _ _).alloc (Nat.le_refl _) _))).mono ?_; rintro e w1 ⟨v1, rfl, o1, b1⟩; have R1 := Lib.hid o1.rd; have B1 : Hid (Below w.heap.size w w1) := ((Below.refl _ _).alloc (Nat.le_refl _) _).trans (b1.mono (by simp)); have z1 : w.heap.size + 1 ≤ w1.heap.size := (by have := b1.size; simpa using this); clear o1 b1)
  go_wp2_with fail
  (go_at_call 16; refine (HX.out v1 _ R1.out).mono ?_; rintro e w2 ⟨rfl, b2⟩)
  go_wp2_with fail
  go_ret
  exact ⟨rfl, B1.out.trans (b2.mono (by omega))⟩

end Go.Proofs.YtbhpogddnpaacaaGreatDoor
