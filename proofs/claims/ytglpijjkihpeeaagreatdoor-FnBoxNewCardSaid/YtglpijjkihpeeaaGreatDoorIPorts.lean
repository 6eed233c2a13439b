/- A table's ends are all inside; its two maps. Conditions: at most 2^22 ends, all of whose numbers are ints. -/
import Derived.Test.YtglpijjkihpeeaaGreatDoorIMaps
import Derived.Test.YtglpijjkihpeeaaGreatDoorInside
import Derived.Test.YtglpijjkihpeeaaGreatDoorCell2
namespace Go.Proofs.YtglpijjkihpeeaaGreatDoor
open Go.RowKit Go.Sort

set_option maxRecDepth 100000 in
set_option maxHeartbeats 800000 in
theorem allInside_any (v : Value) (es : List (Int × Int)) (w : World) (hn : es.length ≤ 4194304) (ht : TabAt w v es) :
    Calls Tryz.prog 97 #[v] w fun e w' => e = .returned (.bool (es.all (fun e => insB e.1 e.2))) ∧ Below w.heap.size w w' := by
  obtain ⟨ad, cap, rfl, hcap, hr⟩ := ht
  have HR := Lib.hid hr
  clear hr
  go_enter Tryz.func97, Tryz.ntmps97
  go_wp2_with fail
  go_loopw [7] (fun i wr => ∃ k : Nat, k ≤ es.length ∧ i = .int .i64 k ∧ (∀ x ∈ es.take k, insB x.1 x.2 = true) ∧ Below w.heap.size w wr) (fun i _ => es.length - (intOf i).toNat)
  case atStart => exact ⟨0, Nat.zero_le _, rfl, fun x hx => by simp at hx, Below.refl _ _⟩
  case round =>
    obtain ⟨k, hk, rfl, hd, hb⟩ := hrel
    have HD := Lib.hid hd
    clear hd
    by_cases hlt : k < es.length
    · obtain ⟨g, rfl, hrow⟩ := HR.out (by omega)
      obtain ⟨r0, r1⟩ := (hrow.below hb (hrow.lt (by omega))) k hlt
      obtain ⟨⟨a, p⟩, hap⟩ : ∃ x, x = es[k] := ⟨_, rfl⟩
      rw [← hap] at r0 r1
      simp only at r0 r1
      have HA := Lib.hid hap
      have hk2 : (k : Int) ≤ (cap : Int) := by have := hcap.1; omega
      clear hap hrow HR
      by_cases hi : insB a p = true
      · go_wp2_with (go_at_call 63; refine (implInside_any a p _).mono ?_; rintro e w2 ⟨rfl, b2⟩)
        go_roundw
        case rel =>
          refine ⟨k + 1, by omega, by go_num, fun x hx => ?_, (hb.alloc hb.size _).trans (b2.mono (by simp; have := hb.size; omega))⟩
          rw [take_snocE es k hlt] at hx
          rcases List.mem_append.1 hx with hx | hx
          · exact HD.out x hx
          · rw [List.mem_singleton.1 hx, ← HA.out]; exact hi
        case measure => simp [intOf]; omega
      · have hi' : insB a p = false := by simpa using hi
        have HF : Hid (es.all (fun e => insB e.1 e.2) = false) := by
          show es.all _ = false
          rw [List.all_eq_false]
          exact ⟨es[k], List.getElem_mem hlt, by rw [← HA.out]; exact hi⟩
        clear hi
        go_wp2_with (go_at_call 63; refine (implInside_any a p _).mono ?_; rintro e w2 ⟨rfl, b2⟩)
        go_ret
        exact ⟨ret_bool HF.out.symm, (hb.alloc hb.size _).trans (b2.mono (by simp; have := hb.size; omega))⟩
    · have HF : Hid (es.all (fun e => insB e.1 e.2) = true) := by
        show es.all _ = true
        rw [List.all_eq_true]
        exact fun x hx => HD.out x (by rwa [List.take_of_length_le (by omega)])
      go_wp2_with fail
      go_ret
      exact ⟨ret_bool HF.out.symm, hb⟩

theorem Both.setCell {w : World} {g1 g2 : Nat} {es : List (Int × Int)} (h : Both w g1 g2 es) {a : Addr} (h1 : a.block ≠ g1) (h2 : a.block ≠ g2) (u : Value) : Both (w.setCell a u) g1 g2 es :=
  ⟨h.1.same (Below.heap_setCell _ _ _ _ (Ne.symm h1)), h.2.1.same (Below.heap_setCell _ _ _ _ (Ne.symm h2)), h.2.2⟩

theorem join_at (g1 g2 k : Nat) (es : List (Int × Int)) (a p : Int) (w : World) (hk : es.length = k) (hb : Both w g1 g2 es) (wa : (Lit.int .i64 a).wf = true) (wp : (Lit.int .i64 p).wf = true) (hn : k ≤ 4194304) :
    Calls Tryz.prog 137 #[.agg #[.map (some g1), .map (some g2)], .agg #[.int .i64 a, .int .i64 p], .int .i64 (500 + (k : Int))] w fun e w' => e = .returned (.tuple #[]) ∧ Both w' g1 g2 (es ++ [(a, p)]) ∧ Two g1 g2 w w' := by
  subst hk
  exact join_any g1 g2 es a p w hb wa wp hn

set_option maxRecDepth 100000 in
set_option maxHeartbeats 1600000 in
theorem portsOf_any (v : Value) (es : List (Int × Int)) (w : World) (hn : es.length ≤ 4194304) (hwf : wfE es) (ht : TabAt w v es) :
    Calls Tryz.prog 98 #[.agg #[v]] w fun e w' => ∃ g1 g2, e = .returned (.agg #[.map (some g1), .map (some g2)]) ∧ w.heap.size ≤ g1 ∧ w.heap.size ≤ g2 ∧ Both w' g1 g2 es ∧ Below w.heap.size w w' := by
  obtain ⟨ad, cap, rfl, hcap, hr⟩ := ht
  have HR := Lib.hid hr
  have HW := Lib.hid hwf
  clear hr hwf
  go_enter Tryz.func98, Tryz.ntmps98
  go_wp2_with fail
  (go_at_call 136; refine (newBoth_any _).mono ?_; rintro e w1 ⟨g1, g2, rfl, hg1, hg2, hb, b1⟩; obtain ⟨cA, cB, b01, z1⟩ := cell_two b1; have t0 := (cA 0).1; have r0 := (cB 0).1; have r1 := (cB 1).1; have f0 := (cB 0).2; have f1 := (cB 1).2; simp at t0 r0 r1 hg1 hg2; have l1 := hb.lt.1; have l2 := hb.lt.2; have HB := Lib.hid hb; have B1 := Lib.hid b01; have t1 : ∀ o, (w1.alloc o).cell? ⟨w.heap.size, 0, none⟩ = some (.slice ad es.length cap) := (fun o => by rw [cell_alloc_lt (by omega)]; exact t0); clear hb b01 cA cB b1)
  go_wp2_with fail
  obtain ⟨W3, hW3⟩ : ∃ W3, W3 = w1.alloc (.cells #[.map (some g1), .map (some g2)] 138) := ⟨_, rfl⟩
  obtain ⟨b3, hb3⟩ : ∃ b3, b3 = w1.heap.size := ⟨_, rfl⟩
  have p0 : W3.cell? ⟨b3, 0, none⟩ = some (.map (some g1)) := by rw [hW3, hb3]; exact (cell_new w1 _ _ 0).1
  have p1 : W3.cell? ⟨b3, 1, none⟩ = some (.map (some g2)) := by rw [hW3, hb3]; exact (cell_new w1 _ _ 1).1
  have r30 : W3.cell? ⟨w.heap.size + 1, 0, none⟩ = some (.map none) := by rw [hW3, cell_alloc_lt (by omega)]; exact r0
  have r31 : W3.cell? ⟨w.heap.size + 1, 1, none⟩ = some (.map none) := by rw [hW3, cell_alloc_lt (by omega)]; exact r1
  have f30 : W3.frozen? ⟨w.heap.size + 1, 0, none⟩ = false := by rw [hW3, frozen_alloc_lt (by omega)]; exact f0
  have f31 : W3.frozen? ⟨w.heap.size + 1, 1, none⟩ = false := by rw [hW3, frozen_alloc_lt (by omega)]; exact f1
  have HB3 : Hid (Both W3 g1 g2 []) := by rw [hW3]; exact HB.out.later ((Below.refl _ _).alloc (Nat.le_refl _) _)
  have B3 : Hid (Below w.heap.size w W3) := by rw [hW3]; exact B1.out.alloc B1.out.size _
  have z3 : b3 < W3.heap.size := by rw [hW3, hb3]; simp
  rw [← hW3, ← hb3]
  rw [← hb3] at z1 l1 l2
  clear hW3 hb3 HB B1 t0 t1 r0 r1 f0 f1
  go_loopw [10] (fun i wr => ∃ k : Nat, k ≤ es.length ∧ i = .int .i64 k ∧ Both wr g1 g2 (es.take k) ∧ Two g1 g2 W3 wr) (fun i _ => es.length - (intOf i).toNat)
  case atStart => exact ⟨0, Nat.zero_le _, rfl, HB3.out, Two.refl _ _ _⟩
  case round =>
    obtain ⟨k, hk, rfl, hb, h2⟩ := hrel
    have HB := Lib.hid hb
    have H2 := Lib.hid h2
    have zr := h2.size
    have q0 : wr.cell? ⟨b3, 0, none⟩ = some (.map (some g1)) := (h2.cell z3 (by omega) (by omega)).trans p0
    have q1 : wr.cell? ⟨b3, 1, none⟩ = some (.map (some g2)) := (h2.cell z3 (by omega) (by omega)).trans p1
    have BW : Hid (Below w.heap.size w wr) := B3.out.trans (h2.below B3.out.size (by omega) (by omega))
    clear hb
    by_cases hlt : k < es.length
    · obtain ⟨g, rfl, hrow⟩ := HR.out (by omega)
      obtain ⟨s0, s1⟩ := (hrow.below BW.out (hrow.lt (by omega))) k hlt
      have hw := HW.out es[k] (List.getElem_mem hlt)
      have HT : Hid (es.take (k + 1) = es.take k ++ [es[k]]) := take_snocE es k hlt
      obtain ⟨⟨a, p⟩, hap⟩ : ∃ x, x = es[k] := ⟨_, rfl⟩
      rw [← hap] at s0 s1 hw HT
      simp only at s0 s1 hw
      have HWF := Lib.hid hw
      have hk2 : (k : Int) ≤ (cap : Int) := by have := hcap.1; omega
      have hk3 : (k : Int) ≤ 4194304 := by omega
      have q0' : ∀ o, (wr.alloc o).cell? ⟨b3, 0, none⟩ = some (.map (some g1)) := fun o => by rw [cell_alloc_lt (by omega)]; exact q0
      have q1' : ∀ o, (wr.alloc o).cell? ⟨b3, 1, none⟩ = some (.map (some g2)) := fun o => by rw [cell_alloc_lt (by omega)]; exact q1
      clear hap hrow HR hw h2
      go_wp2_with (go_at_call 137; refine (join_at g1 g2 k (es.take k) a p _ (by simp; omega) (HB.out.later ((Below.refl _ _).alloc (Nat.le_refl _) _)) HWF.out.1 HWF.out.2 (by omega)).mono ?_; rintro e w2 ⟨rfl, hb2, t2⟩; have HB2 := Lib.hid hb2; clear hb2)
      go_roundw
      case rel => exact ⟨k + 1, by omega, by go_num, by rw [HT.out]; exact HB2.out, (H2.out.alloc _).trans t2⟩
      case measure => simp [intOf]; omega
    · have HT : Hid (es.take k = es) := List.take_of_length_le (by omega)
      have r0 : wr.cell? ⟨w.heap.size + 1, 0, none⟩ = some (.map none) := (h2.cell (by omega) (by omega) (by omega)).trans r30
      have r1 : wr.cell? ⟨w.heap.size + 1, 1, none⟩ = some (.map none) := (h2.cell (by omega) (by omega) (by omega)).trans r31
      have f0 : wr.frozen? ⟨w.heap.size + 1, 0, none⟩ = false := (h2.frozen (by omega) (by omega) (by omega)).trans f30
      have f1 : wr.frozen? ⟨w.heap.size + 1, 1, none⟩ = false := (h2.frozen (by omega) (by omega) (by omega)).trans f31
      obtain ⟨e0, e1, e2⟩ := set_two (.map (some g1)) (.map (some g2)) r0 r1
      have E1 := Lib.hid e1
      have E2 := Lib.hid e2
      clear h2 e1 e2
      go_wp2_with fail
      refine bodyPost_ret (v := .agg #[.map (some g1), .map (some g2)]) (by simp [results, Tryz.results98, go_sem, E1.out, E2.out]) rfl ⟨g1, g2, rfl, by omega, by omega, ?_, (BW.out.setCell (by simp) _).setCell (by simp) _⟩
      have hb := HB.out
      rw [HT.out] at hb
      exact (hb.setCell (by simp; omega) (by simp; omega) _).setCell (by simp; omega) (by simp; omega) _

end Go.Proofs.YtglpijjkihpeeaaGreatDoor
