/- SegRead of the specification, at all bytes that lie from a block's beginning on. Condition: at most 2^22 bytes. -/
import Derived.Test.YtpaodaakoneglaaDoorSegOk
import Derived.Test.YtpaodaakoneglaaDoorSegSum
import Derived.Test.YtpaodaakoneglaaDoorSegLaw
import Derived.Deep.QuietTactic
import Derived.BigQuiet
import Derived.Deep.RegionHeld3
import Derived.Deep.DeepCutAuto
namespace Go.Proofs.YtpaodaakoneglaaDoor
open Go.RowKit Go.Sort

theorem num5_nat {l : List UInt8} {i : Nat} (h : i + 2 ≤ l.length) : numAt l i = (l[i]'(by omega)).toNat * 256 + (l[i + 1]'(by omega)).toNat := by
  unfold numAt
  rw [List.getElem?_eq_getElem (by omega), List.getElem?_eq_getElem (by omega)]; rfl

set_option maxRecDepth 100000 in
set_option maxHeartbeats 800000 in
theorem num5_any (g N cap i : Nat) (l : List UInt8) (w : World) (hN : N = l.length) (hl : l.length ≤ 4194304) (hi : i + 2 ≤ l.length) (hr : RowAt w g (byV l)) :
    Calls Tryd.prog 33 #[.slice (some ⟨g, 0, none⟩) N cap, .int .i64 i] w fun e w' => e = .returned (.int .i64 (numAt l i)) ∧ ∃ n, w' = w.drewN n := by
  have c0 := (hr i (by rw [byV_len]; omega)).1
  have c1 := (hr (i + 1) (by rw [byV_len]; omega)).1
  rw [byV_at] at c0 c1
  have HN := Lib.hid (num5_nat hi)
  obtain ⟨a, ha⟩ : ∃ a, a = l[i]'(by omega) := ⟨_, rfl⟩
  obtain ⟨b, hb⟩ : ∃ b, b = l[i + 1]'(by omega) := ⟨_, rfl⟩
  rw [← ha] at c0 HN
  rw [← hb] at c1 HN
  have ha2 := a.toNat_lt
  have hb2 := b.toNat_lt
  have hi1 : (i : Int) < (N : Int) := by omega
  have hi2 : (i : Int) + 1 < (N : Int) := by omega
  have hNl : N ≤ 4194304 := by omega
  have e1 : IntKind.i64.wrap ((i : Int) + 1) = (i : Int) + 1 := IntWalk.i64_in _ (by omega)
  have e2 : ((i : Int) + 1).toNat = i + 1 := by omega
  have e3 : (0 : Int) ≤ (i : Int) + 1 := by omega
  have HR : Hid (IntKind.i64.wrap (IntKind.i64.wrap (IntKind.i64.wrap (a.toNat : Int) * 256) + IntKind.i64.wrap (b.toNat : Int)) = ((numAt l i : Nat) : Int)) := by
    show _ = _
    rw [HN.out, IntWalk.i64_in (a.toNat : Int) (by omega), IntWalk.i64_in (b.toNat : Int) (by omega), IntWalk.i64_in ((a.toNat : Int) * 256) (by omega), IntWalk.i64_in ((a.toNat : Int) * 256 + (b.toNat : Int)) (by omega)]
    omega
  clear hr ha hb hN HN hi
  go_enter Tryd.func33, Tryd.ntmps33
  go_wp2_with fail
  go_quiet (fail)
  go_wp2
  go_ret
  exact ⟨ret_int (by rw [← HR.out, IntWalk.i64_in (a.toNat : Int) (by omega), IntWalk.i64_in (b.toNat : Int) (by omega), IntWalk.i64_in ((a.toNat : Int) * 256) (by omega), IntWalk.i64_in ((a.toNat : Int) * 256 + (b.toNat : Int)) (by omega)]), _, rfl⟩

/-- A block of seven cells that hold nothing yet. -/
def Fresh7 (w : World) (b : Nat) : Prop := w.heap[b]? = some (.cells #[.int .i64 0, .int .i64 0, .int .i64 0, .int .i64 0, .int .i64 0, .int .i64 0, .string ⟨#[]⟩] 26)
theorem Fresh7.later {w w' : World} {b : Nat} (h : Fresh7 w b) (hb : Below w.heap.size w w') : Fresh7 w' b := (hb.block b (Array.getElem?_eq_some_iff.1 h).1).trans h
theorem fresh7_alloc {w w' : World} (hb : Below (w.alloc (.cells #[.int .i64 0, .int .i64 0, .int .i64 0, .int .i64 0, .int .i64 0, .int .i64 0, .string ⟨#[]⟩] 26)).heap.size (w.alloc (.cells #[.int .i64 0, .int .i64 0, .int .i64 0, .int .i64 0, .int .i64 0, .int .i64 0, .string ⟨#[]⟩] 26)) w') : Fresh7 w' w.heap.size := (hb.block _ (by simp)).trans (heap_alloc_new w _)
theorem Fresh7.open {w : World} {b : Nat} (h : Fresh7 w b) : Box7 w b (.int .i64 0) (.int .i64 0) (.int .i64 0) (.int .i64 0) (.int .i64 0) (.int .i64 0) (.string ⟨#[]⟩) ∧ (w.frozen? ⟨b, 0, none⟩ = false ∧ w.frozen? ⟨b, 1, none⟩ = false ∧ w.frozen? ⟨b, 2, none⟩ = false ∧ w.frozen? ⟨b, 3, none⟩ = false ∧ w.frozen? ⟨b, 4, none⟩ = false ∧ w.frozen? ⟨b, 5, none⟩ = false ∧ w.frozen? ⟨b, 6, none⟩ = false) := by
  unfold Fresh7 at h
  refine ⟨⟨?_, ?_, ?_, ?_, ?_, ?_, ?_⟩, ?_, ?_, ?_, ?_, ?_, ?_, ?_⟩ <;> simp [World.cell?, World.frozen?, h]
theorem below_draw {w w' : World} {B : Nat} (k : Nat) (h : Below B w w') : Below B w (w'.drewN k) := h.trans ⟨rfl, rfl, rfl, Nat.le_refl _, fun _ _ => rfl⟩
theorem below_nq {w w' : World} (k : Nat) (h : Below w.heap.size w w') : Below w.heap.size w (w'.drewN k) := h.trans ⟨rfl, rfl, rfl, Nat.le_refl _, fun _ _ => rfl⟩
/-- What is answered of bytes. -/
def rdAns5 (l : List UInt8) : Value := match readL l with
  | some s => .tuple #[.agg #[.int .i64 s.sa, .int .i64 s.sp, .int .i64 s.da, .int .i64 s.dp, .int .i64 s.seq, .int .i64 s.ack, .string ⟨s.data.toArray⟩], .bool true]
  | none => .tuple #[.agg #[.int .i64 0, .int .i64 0, .int .i64 0, .int .i64 0, .int .i64 0, .int .i64 0, .string ⟨#[]⟩], .bool false]
theorem rdAns5_form (l : List UInt8) : ∃ (sa sp da dp sq ak : Int) (d : ByteArray) (b : Bool), rdAns5 l = .tuple #[.agg #[.int .i64 sa, .int .i64 sp, .int .i64 da, .int .i64 dp, .int .i64 sq, .int .i64 ak, .string d], .bool b] := by
  unfold rdAns5
  cases readL l with
  | none => exact ⟨0, 0, 0, 0, 0, 0, ⟨#[]⟩, false, rfl⟩
  | some s => exact ⟨s.sa, s.sp, s.da, s.dp, s.seq, s.ack, ⟨s.data.toArray⟩, true, rfl⟩
theorem rdAns5_none {l : List UInt8} (h : ¬ (fitB l = true ∧ segOkB (sayL l) = true)) : rdAns5 l = .tuple #[.agg #[.int .i64 0, .int .i64 0, .int .i64 0, .int .i64 0, .int .i64 0, .int .i64 0, .string ⟨#[]⟩], .bool false] := by
  unfold rdAns5 readL; rw [if_neg h]

set_option maxRecDepth 100000 in
set_option maxHeartbeats 1600000 in
theorem specRead5_short (g cap N : Nat) (l : List UInt8) (w : World) (hN : N = l.length) (hl : l.length ≤ 2097152) (h : l.length < 15 ∨ 27 < l.length) :
    Calls Tryd.prog 17 #[.slice (some ⟨g, 0, none⟩) N cap] w fun e w' => e = .returned (rdAns5 l) ∧ Below w.heap.size w w' := by
  have HA : Hid (rdAns5 l = .tuple #[.agg #[.int .i64 0, .int .i64 0, .int .i64 0, .int .i64 0, .int .i64 0, .int .i64 0, .string ⟨#[]⟩], .bool false]) := rdAns5_none (fun hc => by
    have := hc.1
    unfold fitB at this
    simp only [Bool.and_eq_true, decide_eq_true_eq] at this
    omega)
  rw [HA.out]
  clear HA
  rcases h with h | h
  · have h1 : (N : Int) - 15 < 0 := by omega
    have h2 : IntKind.i64.wrap ((N : Int) - 15) = (N : Int) - 15 := IntWalk.i64_in _ (by omega)
    clear hN hl h
    go_enter Tryd.func17, Tryd.ntmps17
    go_wp2_with fail
    go_quiet (fail)
    go_wp2_with fail
    obtain ⟨z0, z1, z2, z3, z4, z5, z6⟩ : Box7 ((w.alloc (.cells #[.int .i64 0, .int .i64 0, .int .i64 0, .int .i64 0, .int .i64 0, .int .i64 0, .string ⟨#[]⟩] 26)).drewN nq) w.heap.size (.int .i64 0) (.int .i64 0) (.int .i64 0) (.int .i64 0) (.int .i64 0) (.int .i64 0) (.string ⟨#[]⟩) := box7_new w _ _ _ _ _ _ _ _
    obtain ⟨q0, q1, q2, q3, q4, q5, q6⟩ := set_seven (w := ((w.alloc (.cells #[.int .i64 0, .int .i64 0, .int .i64 0, .int .i64 0, .int .i64 0, .int .i64 0, .string ⟨#[]⟩] 26)).drewN nq)) (b := w.heap.size) (.int .i64 0) (.int .i64 0) (.int .i64 0) (.int .i64 0) (.int .i64 0) (.int .i64 0) (.string ⟨#[]⟩) z0 z1 z2 z3 z4 z5 z6
    refine bodyPost_ret (v := .tuple #[.agg #[.int .i64 0, .int .i64 0, .int .i64 0, .int .i64 0, .int .i64 0, .int .i64 0, .string ⟨#[]⟩], .bool false]) (by simp [results, Tryd.results17, go_sem, q0, q1, q2, q3, q4, q5, q6]) rfl ⟨rfl, ?_⟩
    exact ((((((((below_nq nq ((Below.refl _ w).alloc (Nat.le_refl _) _)).setCell (Nat.le_refl _) _).setCell (Nat.le_refl _) _).setCell (Nat.le_refl _) _).setCell (Nat.le_refl _) _).setCell (Nat.le_refl _) _).setCell (Nat.le_refl _) _).setCell (Nat.le_refl _) _)
  · have h0 : decide ((N : Int) - 15 < 0) = false := decide_eq_false (by omega)
    have h1 : decide ((12 : Int) < (N : Int) - 15) = true := decide_eq_true (by omega)
    have h2 : IntKind.i64.wrap ((N : Int) - 15) = (N : Int) - 15 := IntWalk.i64_in _ (by omega)
    clear hN hl h
    go_enter Tryd.func17, Tryd.ntmps17
    go_wp2_with fail
    go_quiet (fail)
    go_wp2_with fail
    obtain ⟨z0, z1, z2, z3, z4, z5, z6⟩ : Box7 ((w.alloc (.cells #[.int .i64 0, .int .i64 0, .int .i64 0, .int .i64 0, .int .i64 0, .int .i64 0, .string ⟨#[]⟩] 26)).drewN nq) w.heap.size (.int .i64 0) (.int .i64 0) (.int .i64 0) (.int .i64 0) (.int .i64 0) (.int .i64 0) (.string ⟨#[]⟩) := box7_new w _ _ _ _ _ _ _ _
    obtain ⟨q0, q1, q2, q3, q4, q5, q6⟩ := set_seven (w := ((w.alloc (.cells #[.int .i64 0, .int .i64 0, .int .i64 0, .int .i64 0, .int .i64 0, .int .i64 0, .string ⟨#[]⟩] 26)).drewN nq)) (b := w.heap.size) (.int .i64 0) (.int .i64 0) (.int .i64 0) (.int .i64 0) (.int .i64 0) (.int .i64 0) (.string ⟨#[]⟩) z0 z1 z2 z3 z4 z5 z6
    refine bodyPost_ret (v := .tuple #[.agg #[.int .i64 0, .int .i64 0, .int .i64 0, .int .i64 0, .int .i64 0, .int .i64 0, .string ⟨#[]⟩], .bool false]) (by simp [results, Tryd.results17, go_sem, q0, q1, q2, q3, q4, q5, q6]) rfl ⟨rfl, ?_⟩
    exact ((((((((below_nq nq ((Below.refl _ w).alloc (Nat.le_refl _) _)).setCell (Nat.le_refl _) _).setCell (Nat.le_refl _) _).setCell (Nat.le_refl _) _).setCell (Nat.le_refl _) _).setCell (Nat.le_refl _) _).setCell (Nat.le_refl _) _).setCell (Nat.le_refl _) _)

set_option maxRecDepth 100000 in
set_option maxHeartbeats 1600000 in
theorem specRead5_size (g cap N n : Nat) (l : List UInt8) (w : World) (hN : N = l.length) (hn : N = 15 + n) (hn2 : n ≤ 12) (hg : g < w.heap.size) (hr : RowAt w g (byV l)) (h : (l[12]?.getD 0).toNat ≠ n) :
    Calls Tryd.prog 17 #[.slice (some ⟨g, 0, none⟩) N cap] w fun e w' => e = .returned (rdAns5 l) ∧ Below w.heap.size w w' := by
  have HA : Hid (rdAns5 l = .tuple #[.agg #[.int .i64 0, .int .i64 0, .int .i64 0, .int .i64 0, .int .i64 0, .int .i64 0, .string ⟨#[]⟩], .bool false]) := rdAns5_none (fun hc => by
    have := hc.1
    unfold fitB at this
    simp only [Bool.and_eq_true, decide_eq_true_eq] at this
    omega)
  rw [HA.out]
  have h0 : decide ((n : Int) < 0) = false := decide_eq_false (by omega)
  have h00 : decide ((12 : Int) < (n : Int)) = false := decide_eq_false (by omega)
  have hsub : (N : Int) - 15 = (n : Int) := by omega
  have h2 : IntKind.i64.wrap ((N : Int) - 15) = (n : Int) := by rw [IntWalk.i64_in _ (by omega)]; omega
  have hn3 : (n : Int) ≤ 12 := by omega
  have hN12 : (12 : Int) < (N : Int) := by omega
  have c0 := (hr 12 (by rw [byV_len]; omega)).1
  rw [byV_at] at c0
  rw [List.getElem?_eq_getElem (by omega)] at h
  obtain ⟨c, hc12⟩ : ∃ c, c = l[12]'(by omega) := ⟨_, rfl⟩
  rw [← hc12] at c0
  have hne : (((c.toNat : Nat) : Int) == (n : Int)) = false := by
    rw [beq_eq_false_iff_ne]
    intro e
    apply h
    simp only [Option.getD_some, ← hc12]
    omega
  have hne2 : (((c.toNat : Nat) : Int) != (n : Int)) = true := by unfold bne; rw [hne]; rfl
  have hcc := c.toNat_lt
  have C0 : ∀ o, (w.alloc o).cell? ⟨g, 12, none⟩ = some (.int .u8 (c.toNat : Int)) := fun o => by rw [cell_alloc_lt hg]; exact c0
  clear HA hr h hc12 c0 hN hn
  go_enter Tryd.func17, Tryd.ntmps17
  go_wp2_with fail
  go_quiet (fail)
  go_wp2_with fail
  obtain ⟨z0, z1, z2, z3, z4, z5, z6⟩ : Box7 ((w.alloc (.cells #[.int .i64 0, .int .i64 0, .int .i64 0, .int .i64 0, .int .i64 0, .int .i64 0, .string ⟨#[]⟩] 26)).drewN nq) w.heap.size (.int .i64 0) (.int .i64 0) (.int .i64 0) (.int .i64 0) (.int .i64 0) (.int .i64 0) (.string ⟨#[]⟩) := box7_new w _ _ _ _ _ _ _ _
  obtain ⟨q0, q1, q2, q3, q4, q5, q6⟩ := set_seven (w := ((w.alloc (.cells #[.int .i64 0, .int .i64 0, .int .i64 0, .int .i64 0, .int .i64 0, .int .i64 0, .string ⟨#[]⟩] 26)).drewN nq)) (b := w.heap.size) (.int .i64 0) (.int .i64 0) (.int .i64 0) (.int .i64 0) (.int .i64 0) (.int .i64 0) (.string ⟨#[]⟩) z0 z1 z2 z3 z4 z5 z6
  refine bodyPost_ret (v := .tuple #[.agg #[.int .i64 0, .int .i64 0, .int .i64 0, .int .i64 0, .int .i64 0, .int .i64 0, .string ⟨#[]⟩], .bool false]) (by simp [results, Tryd.results17, go_sem, q0, q1, q2, q3, q4, q5, q6]) rfl ⟨rfl, ?_⟩
  exact ((((((((below_nq nq ((Below.refl _ w).alloc (Nat.le_refl _) _)).setCell (Nat.le_refl _) _).setCell (Nat.le_refl _) _).setCell (Nat.le_refl _) _).setCell (Nat.le_refl _) _).setCell (Nat.le_refl _) _).setCell (Nat.le_refl _) _).setCell (Nat.le_refl _) _)

set_option maxRecDepth 100000 in
set_option maxHeartbeats 1600000 in
theorem specRead5_sum (g cap N n : Nat) (l : List UInt8) (w : World) (hN : N = l.length) (hc : N ≤ cap) (hn : N = 15 + n) (hn2 : n ≤ 12) (hg : g < w.heap.size) (hr : RowAt w g (byV l)) (h12 : (l[12]?.getD 0).toNat = n) (h : numAt l (13 + n) ≠ sumL (l.take (13 + n))) :
    Calls Tryd.prog 17 #[.slice (some ⟨g, 0, none⟩) N cap] w fun e w' => e = .returned (rdAns5 l) ∧ Below w.heap.size w w' := by
  have HA : Hid (rdAns5 l = .tuple #[.agg #[.int .i64 0, .int .i64 0, .int .i64 0, .int .i64 0, .int .i64 0, .int .i64 0, .string ⟨#[]⟩], .bool false]) := rdAns5_none (fun hc => by
    have := hc.1
    unfold fitB at this
    simp only [Bool.and_eq_true, decide_eq_true_eq] at this
    apply h
    have h2 := this.2
    rw [show l.length - 2 = 13 + n by omega] at h2
    exact h2)
  rw [HA.out]
  have h0 : decide ((n : Int) < 0) = false := decide_eq_false (by omega)
  have h00 : decide ((12 : Int) < (n : Int)) = false := decide_eq_false (by omega)
  have hsub : (N : Int) - 15 = (n : Int) := by omega
  have h2 : IntKind.i64.wrap ((N : Int) - 15) = (n : Int) := by rw [IntWalk.i64_in _ (by omega)]; omega
  have hn3 : (n : Int) ≤ 12 := by omega
  have hN12 : (12 : Int) < (N : Int) := by omega
  have c0 := (hr 12 (by rw [byV_len]; omega)).1
  rw [byV_at] at c0
  rw [List.getElem?_eq_getElem (by omega), Option.getD_some] at h12
  rw [h12] at c0
  have hne : (((n : Nat) : Int) == (n : Int)) = true := by simp
  have hne2 : (((n : Nat) : Int) != (n : Int)) = false := by simp
  have C0 : ∀ o, (w.alloc o).cell? ⟨g, 12, none⟩ = some (.int .u8 (n : Int)) := fun o => by rw [cell_alloc_lt hg]; exact c0
  obtain ⟨m, hm⟩ : ∃ m, m = 13 + n := ⟨_, rfl⟩
  rw [← hm] at h
  have hw1 : IntKind.i64.wrap (13 + (n : Int)) = (m : Int) := by rw [IntWalk.i64_in _ (by omega)]; omega
  have hmc : (m : Int) ≤ (cap : Int) := by omega
  obtain ⟨a, ha⟩ : ∃ a, a = numAt l m := ⟨_, rfl⟩
  obtain ⟨b, hb⟩ : ∃ b, b = sumL (l.take m) := ⟨_, rfl⟩
  rw [← ha, ← hb] at h
  have hne3 : ((a : Int) == (b : Int)) = false := by rw [beq_eq_false_iff_ne]; omega
  have hne4 : ((a : Int) != (b : Int)) = true := by unfold bne; rw [hne3]; rfl
  have HNum : Hid (∀ o k, Calls Tryd.prog 33 #[.slice (some ⟨g, 0, none⟩) N cap, .int .i64 (m : Int)] ((w.alloc o).drewN k) fun e w' => e = .returned (.int .i64 (a : Nat)) ∧ ∃ j, w' = ((w.alloc o).drewN k).drewN j) := fun o k => by
    have hrr : RowAt ((w.alloc o).drewN k) g (byV l) := (hr.below (below_nq k ((Below.refl _ w).alloc (Nat.le_refl _) o)) hg)
    rw [ha]
    exact num5_any g N cap m l _ hN (by omega) (by omega) hrr
  have HSum : Hid (∀ o k, Calls Tryd.prog 13 #[.slice (some ⟨g, 0, none⟩) m cap] ((w.alloc o).drewN k) fun e w' => e = .returned (.int .i64 (b : Nat)) ∧ w' = (w.alloc o).drewN k) := fun o k => by
    have hrr : RowAt ((w.alloc o).drewN k) g (byV l) := (hr.below (below_nq k ((Below.refl _ w).alloc (Nat.le_refl _) o)) hg)
    have hl : (l.take m).length = m := by rw [List.length_take]; omega
    rw [hb]
    refine (specSum_any (.slice (some ⟨g, 0, none⟩) m cap) (l.take m) _ (by omega) ⟨some ⟨g, 0, none⟩, cap, by rw [hl], by omega, fun _ => ⟨g, rfl, fun i hi => ?_⟩⟩).mono (fun e w' ⟨h1, h2⟩ => ⟨h1, h2.symm⟩)
    rw [byV_len] at hi
    have h1 := hrr i (by rw [byV_len]; omega)
    rw [byV_at] at h1 ⊢
    simpa using h1
  clear HA hr h h12 c0 hN hn hm ha hb
  go_enter Tryd.func17, Tryd.ntmps17
  go_wp2_with fail
  go_quiet (first | (go_at_call 33; exact Calls.quiet_of (HNum.out _ _)) | (go_at_call 13; exact Calls.quiet_of_same (HSum.out _ _)))
  go_wp2_with fail
  obtain ⟨z0, z1, z2, z3, z4, z5, z6⟩ : Box7 ((w.alloc (.cells #[.int .i64 0, .int .i64 0, .int .i64 0, .int .i64 0, .int .i64 0, .int .i64 0, .string ⟨#[]⟩] 26)).drewN nq) w.heap.size (.int .i64 0) (.int .i64 0) (.int .i64 0) (.int .i64 0) (.int .i64 0) (.int .i64 0) (.string ⟨#[]⟩) := box7_new w _ _ _ _ _ _ _ _
  obtain ⟨q0, q1, q2, q3, q4, q5, q6⟩ := set_seven (w := ((w.alloc (.cells #[.int .i64 0, .int .i64 0, .int .i64 0, .int .i64 0, .int .i64 0, .int .i64 0, .string ⟨#[]⟩] 26)).drewN nq)) (b := w.heap.size) (.int .i64 0) (.int .i64 0) (.int .i64 0) (.int .i64 0) (.int .i64 0) (.int .i64 0) (.string ⟨#[]⟩) z0 z1 z2 z3 z4 z5 z6
  refine bodyPost_ret (v := .tuple #[.agg #[.int .i64 0, .int .i64 0, .int .i64 0, .int .i64 0, .int .i64 0, .int .i64 0, .string ⟨#[]⟩], .bool false]) (by simp [results, Tryd.results17, go_sem, q0, q1, q2, q3, q4, q5, q6]) rfl ⟨rfl, ?_⟩
  exact ((((((((below_nq nq ((Below.refl _ w).alloc (Nat.le_refl _) _)).setCell (Nat.le_refl _) _).setCell (Nat.le_refl _) _).setCell (Nat.le_refl _) _).setCell (Nat.le_refl _) _).setCell (Nat.le_refl _) _).setCell (Nat.le_refl _) _).setCell (Nat.le_refl _) _)

theorem bel1 (W : World) (k : Nat) : Below W.heap.size W (W.drewN k) := below_draw _ (Below.refl _ _)
theorem bel2 (W : World) (k : Nat) (o : Obj) : Below W.heap.size W ((W.drewN k).alloc o) := (bel1 W k).alloc (Nat.le_refl _) _
theorem bel3 (W : World) (k j : Nat) (o : Obj) : Below W.heap.size W (((W.drewN k).alloc o).drewN j) := below_draw _ (bel2 W k o)
theorem bel4 (W : World) (o : Obj) : Below W.heap.size W (W.drew.alloc o) := bel2 W 1 o
theorem bel5 (W : World) (j : Nat) (o : Obj) : Below W.heap.size W ((W.drew.alloc o).drewN j) := below_draw _ (bel4 W o)
theorem below7 {B : Nat} {w X : World} {b : Nat} (h : Below B w X) (hb : B ≤ b) (v0 v1 v2 v3 v4 v5 v6 : Value) : Below B w (((((((X.setCell ⟨b, 0, none⟩ v0).setCell ⟨b, 1, none⟩ v1).setCell ⟨b, 2, none⟩ v2).setCell ⟨b, 3, none⟩ v3).setCell ⟨b, 4, none⟩ v4).setCell ⟨b, 5, none⟩ v5).setCell ⟨b, 6, none⟩ v6) := ((((((h.setCell hb _).setCell hb _).setCell hb _).setCell hb _).setCell hb _).setCell hb _).setCell hb _
theorem bel8 (W : World) (o : Obj) : Below W.heap.size W (W.alloc o) := (Below.refl _ _).alloc (Nat.le_refl _) _
theorem bel9 (W : World) (k : Nat) (o : Obj) : Below W.heap.size W ((W.alloc o).drewN k) := below_draw _ (bel8 W o)
theorem belDr {B : Nat} {W X : World} (h : Below B W X) : Below B W X.drew := below_draw 1 h
theorem belA {W X : World} (h : Below W.heap.size W X) (o : Obj) : Below W.heap.size W (X.alloc o) := h.alloc h.size o
theorem bel6 (W : World) : Below W.heap.size W W.drew := bel1 W 1

set_option maxRecDepth 100000 in
set_option maxHeartbeats 3200000 in
theorem specRead5_fit (g cap N n : Nat) (l : List UInt8) (w : World) (hN : N = l.length) (hc : N ≤ cap) (hn : N = 15 + n) (hn2 : n ≤ 12) (hg : g < w.heap.size) (hr : RowAt w g (byV l)) (h12 : (l[12]?.getD 0).toNat = n) (h : numAt l (13 + n) = sumL (l.take (13 + n))) :
    Calls Tryd.prog 17 #[.slice (some ⟨g, 0, none⟩) N cap] w fun e w' => e = .returned (rdAns5 l) ∧ Below w.heap.size w w' := by
  have h0 : decide ((n : Int) < 0) = false := decide_eq_false (by omega)
  have h00 : decide ((12 : Int) < (n : Int)) = false := decide_eq_false (by omega)
  have hsub : (N : Int) - 15 = (n : Int) := by omega
  have h2 : IntKind.i64.wrap ((N : Int) - 15) = (n : Int) := by rw [IntWalk.i64_in _ (by omega)]; omega
  have hn3 : (n : Int) ≤ 12 := by omega
  have hN12 : (12 : Int) < (N : Int) := by omega
  have c0 := (hr 12 (by rw [byV_len]; omega)).1
  rw [byV_at] at c0
  rw [List.getElem?_eq_getElem (by omega), Option.getD_some] at h12
  rw [h12] at c0
  have hne : (((n : Nat) : Int) == (n : Int)) = true := by simp
  have hne2 : (((n : Nat) : Int) != (n : Int)) = false := by simp
  have C0 : ∀ o, (w.alloc o).cell? ⟨g, 12, none⟩ = some (.int .u8 (n : Int)) := fun o => by rw [cell_alloc_lt hg]; exact c0
  obtain ⟨m, hm⟩ : ∃ m, m = 13 + n := ⟨_, rfl⟩
  rw [← hm] at h
  have hw1 : IntKind.i64.wrap (13 + (n : Int)) = (m : Int) := by rw [IntWalk.i64_in _ (by omega)]; omega
  have hmc : (m : Int) ≤ (cap : Int) := by omega
  obtain ⟨a, ha⟩ : ∃ a, a = numAt l m := ⟨_, rfl⟩
  have hb : a = sumL (l.take m) := by rw [ha]; exact h
  have hne3 : ((a : Int) == (a : Int)) = true := by simp
  have hne4 : ((a : Int) != (a : Int)) = false := by simp
  have HNum : Hid (∀ o k, Calls Tryd.prog 33 #[.slice (some ⟨g, 0, none⟩) N cap, .int .i64 (m : Int)] ((w.alloc o).drewN k) fun e w' => e = .returned (.int .i64 (a : Nat)) ∧ ∃ j, w' = ((w.alloc o).drewN k).drewN j) := fun o k => by
    have hrr : RowAt ((w.alloc o).drewN k) g (byV l) := (hr.below (below_nq k ((Below.refl _ w).alloc (Nat.le_refl _) o)) hg)
    rw [ha]
    exact num5_any g N cap m l _ hN (by omega) (by omega) hrr
  have HSum : Hid (∀ o k, Calls Tryd.prog 13 #[.slice (some ⟨g, 0, none⟩) m cap] ((w.alloc o).drewN k) fun e w' => e = .returned (.int .i64 (a : Nat)) ∧ w' = (w.alloc o).drewN k) := fun o k => by
    have hrr : RowAt ((w.alloc o).drewN k) g (byV l) := (hr.below (below_nq k ((Below.refl _ w).alloc (Nat.le_refl _) o)) hg)
    have hl : (l.take m).length = m := by rw [List.length_take]; omega
    rw [hb]
    refine (specSum_any (.slice (some ⟨g, 0, none⟩) m cap) (l.take m) _ (by omega) ⟨some ⟨g, 0, none⟩, cap, by rw [hl], by omega, fun _ => ⟨g, rfl, fun i hi => ?_⟩⟩).mono (fun e w' ⟨h1, h2⟩ => ⟨h1, h2.symm⟩)
    rw [byV_len] at hi
    have h1 := hrr i (by rw [byV_len]; omega)
    rw [byV_at] at h1 ⊢
    simpa using h1
  obtain ⟨D, hD⟩ : ∃ D : ByteArray, D = ⟨((l.drop 13).take n).toArray⟩ := ⟨_, rfl⟩
  have HG : Hid (∀ (z : Int) (wx : World), Below w.heap.size w wx → 0 ≤ z → z + 2 ≤ N → Calls Tryd.prog 33 #[.slice (some ⟨g, 0, none⟩) N cap, .int .i64 z] wx fun e w' => e = .returned (.int .i64 (numAt l z.toNat : Nat)) ∧ ∃ j, w' = wx.drewN j) := fun z wx hb hz0 hz1 => by
    obtain ⟨i, rfl⟩ : ∃ i : Nat, z = i := ⟨z.toNat, by omega⟩
    exact num5_any g N cap i l wx hN (by omega) (by omega) (hr.below hb hg)
  have HCv : Hid (∀ wx : World, Below w.heap.size w wx → (convert 22 9 (.slice (some ⟨g, 13, none⟩) n (cap - 13))).run Tryd.prog wx = .ok (.string D) wx) := fun wx hb => by
    have hl : ((l.drop 13).take n).length = n := by rw [List.length_take, List.length_drop]; omega
    have := run_convert_bytes_back (P := Tryd.prog) wx 22 9 5 ⟨g, 13, none⟩ (cap - 13) ((l.drop 13).take n) Tryd.underlying22 Tryd.underlying5 Tryd.underlying9 (fun j hj => by
      have hj2 : 13 + j < (byV l).length := by rw [byV_len]; omega
      have hcell := ((hr.below hb hg) _ hj2).1
      rw [byV_at] at hcell
      have : (⟨g, 13, none⟩ : Addr).add j = ⟨g, 13 + j, none⟩ := by unfold Addr.add; split <;> simp_all
      rw [this, hcell]
      simp only [List.getElem_take, List.getElem_drop])
    rw [hl] at this
    rw [hD]; exact this
  have hfit : fitB l = true := by
    unfold fitB
    rw [List.getElem?_eq_getElem (by omega), Option.getD_some, h12, ← hN, hn, show 15 + n - 2 = m by omega, ← hb, ← ha]
    simp
    omega
  have hsay : sayL l = ⟨numAt l 0, numAt l 2, numAt l 4, numAt l 6, numAt l 8, numAt l 10, D.data.toList⟩ := by
    unfold sayL
    rw [hD, ← hN, hn, show 15 + n - 15 = n by omega]
  have hm1 : (13 : Int) ≤ (m : Int) := by omega
  have hm2 : (m : Int).toNat - 13 = n := by omega
  have hm3 : m - 13 = n := by omega
  have hcap : ¬ cap = 13 := by omega
  have hN15 : 15 ≤ (N : Int) := by omega
  have hDs : D.size ≤ 12 := by
    rw [hD]
    show ((l.drop 13).take n).length ≤ 12
    rw [List.length_take]; omega
  clear hr h h12 c0 hN hn hm ha hb hD
  go_enter Tryd.func17, Tryd.ntmps17
  go_wp2_with fail
  go_quiet (first | (go_at_call 33; exact Calls.quiet_of (HNum.out _ _)) | (go_at_call 13; exact Calls.quiet_of_same (HSum.out _ _)))
  go_wp2_with fail
  obtain ⟨W2, hW2⟩ : ∃ W2, W2 = (w.alloc (.cells #[.int .i64 0, .int .i64 0, .int .i64 0, .int .i64 0, .int .i64 0, .int .i64 0, .string ⟨#[]⟩] 26)).drewN nq := ⟨_, rfl⟩
  have B2 : Hid (Below w.heap.size w W2) := by rw [hW2]; exact below_nq nq ((Below.refl _ w).alloc (Nat.le_refl _) _)
  rw [← hW2]
  have HW2 := Lib.hid hW2
  clear hW2
  have mk : Hid (∀ w', Below W2.heap.size W2 w' → (convert 22 9 (.slice (some ⟨g, 13, none⟩) n (cap - 13))).run Tryd.prog w' = .ok (.string D) w' ∧ Below W2.heap.size W2 w') := fun w' hb => ⟨HCv.out w' (B2.out.trans (hb.mono B2.out.size)), hb⟩
  go_cut [5] (fun s5 wx => ∃ b : Nat, s5 = .pointer (some ⟨b, 0, none⟩) ∧ W2.heap.size ≤ b ∧ Box7 wx b (.int .i64 (numAt l 0 : Nat)) (.int .i64 (numAt l 2 : Nat)) (.int .i64 (numAt l 4 : Nat)) (.int .i64 (numAt l 6 : Nat)) (.int .i64 (numAt l 8 : Nat)) (.int .i64 (numAt l 10 : Nat)) (.string D) ∧ Below W2.heap.size W2 wx)
  case first =>
    have zc0 : ∀ k, ((W2.drewN k).alloc (.cells #[.int .i64 0, .int .i64 0, .int .i64 0, .int .i64 0, .int .i64 0, .int .i64 0, .string ⟨#[]⟩] 26)).cell? ⟨W2.heap.size, 0, none⟩ = some (.int .i64 0) := fun k => (cell_new (W2.drewN k) _ _ 0).1
    have zf0 : ∀ k, ((W2.drewN k).alloc (.cells #[.int .i64 0, .int .i64 0, .int .i64 0, .int .i64 0, .int .i64 0, .int .i64 0, .string ⟨#[]⟩] 26)).frozen? ⟨W2.heap.size, 0, none⟩ = false := fun k => (cell_new (W2.drewN k) _ _ 0).2
    have yc0 : (W2.drew.alloc (.cells #[.int .i64 0, .int .i64 0, .int .i64 0, .int .i64 0, .int .i64 0, .int .i64 0, .string ⟨#[]⟩] 26)).cell? ⟨W2.heap.size, 0, none⟩ = some (.int .i64 0) := (cell_new W2.drew _ _ 0).1
    have yf0 : (W2.drew.alloc (.cells #[.int .i64 0, .int .i64 0, .int .i64 0, .int .i64 0, .int .i64 0, .int .i64 0, .string ⟨#[]⟩] 26)).frozen? ⟨W2.heap.size, 0, none⟩ = false := (cell_new W2.drew _ _ 0).2
    have zc1 : ∀ k, ((W2.drewN k).alloc (.cells #[.int .i64 0, .int .i64 0, .int .i64 0, .int .i64 0, .int .i64 0, .int .i64 0, .string ⟨#[]⟩] 26)).cell? ⟨W2.heap.size, 1, none⟩ = some (.int .i64 0) := fun k => (cell_new (W2.drewN k) _ _ 1).1
    have zf1 : ∀ k, ((W2.drewN k).alloc (.cells #[.int .i64 0, .int .i64 0, .int .i64 0, .int .i64 0, .int .i64 0, .int .i64 0, .string ⟨#[]⟩] 26)).frozen? ⟨W2.heap.size, 1, none⟩ = false := fun k => (cell_new (W2.drewN k) _ _ 1).2
    have yc1 : (W2.drew.alloc (.cells #[.int .i64 0, .int .i64 0, .int .i64 0, .int .i64 0, .int .i64 0, .int .i64 0, .string ⟨#[]⟩] 26)).cell? ⟨W2.heap.size, 1, none⟩ = some (.int .i64 0) := (cell_new W2.drew _ _ 1).1
    have yf1 : (W2.drew.alloc (.cells #[.int .i64 0, .int .i64 0, .int .i64 0, .int .i64 0, .int .i64 0, .int .i64 0, .string ⟨#[]⟩] 26)).frozen? ⟨W2.heap.size, 1, none⟩ = false := (cell_new W2.drew _ _ 1).2
    have zc2 : ∀ k, ((W2.drewN k).alloc (.cells #[.int .i64 0, .int .i64 0, .int .i64 0, .int .i64 0, .int .i64 0, .int .i64 0, .string ⟨#[]⟩] 26)).cell? ⟨W2.heap.size, 2, none⟩ = some (.int .i64 0) := fun k => (cell_new (W2.drewN k) _ _ 2).1
    have zf2 : ∀ k, ((W2.drewN k).alloc (.cells #[.int .i64 0, .int .i64 0, .int .i64 0, .int .i64 0, .int .i64 0, .int .i64 0, .string ⟨#[]⟩] 26)).frozen? ⟨W2.heap.size, 2, none⟩ = false := fun k => (cell_new (W2.drewN k) _ _ 2).2
    have yc2 : (W2.drew.alloc (.cells #[.int .i64 0, .int .i64 0, .int .i64 0, .int .i64 0, .int .i64 0, .int .i64 0, .string ⟨#[]⟩] 26)).cell? ⟨W2.heap.size, 2, none⟩ = some (.int .i64 0) := (cell_new W2.drew _ _ 2).1
    have yf2 : (W2.drew.alloc (.cells #[.int .i64 0, .int .i64 0, .int .i64 0, .int .i64 0, .int .i64 0, .int .i64 0, .string ⟨#[]⟩] 26)).frozen? ⟨W2.heap.size, 2, none⟩ = false := (cell_new W2.drew _ _ 2).2
    have zc3 : ∀ k, ((W2.drewN k).alloc (.cells #[.int .i64 0, .int .i64 0, .int .i64 0, .int .i64 0, .int .i64 0, .int .i64 0, .string ⟨#[]⟩] 26)).cell? ⟨W2.heap.size, 3, none⟩ = some (.int .i64 0) := fun k => (cell_new (W2.drewN k) _ _ 3).1
    have zf3 : ∀ k, ((W2.drewN k).alloc (.cells #[.int .i64 0, .int .i64 0, .int .i64 0, .int .i64 0, .int .i64 0, .int .i64 0, .string ⟨#[]⟩] 26)).frozen? ⟨W2.heap.size, 3, none⟩ = false := fun k => (cell_new (W2.drewN k) _ _ 3).2
    have yc3 : (W2.drew.alloc (.cells #[.int .i64 0, .int .i64 0, .int .i64 0, .int .i64 0, .int .i64 0, .int .i64 0, .string ⟨#[]⟩] 26)).cell? ⟨W2.heap.size, 3, none⟩ = some (.int .i64 0) := (cell_new W2.drew _ _ 3).1
    have yf3 : (W2.drew.alloc (.cells #[.int .i64 0, .int .i64 0, .int .i64 0, .int .i64 0, .int .i64 0, .int .i64 0, .string ⟨#[]⟩] 26)).frozen? ⟨W2.heap.size, 3, none⟩ = false := (cell_new W2.drew _ _ 3).2
    have zc4 : ∀ k, ((W2.drewN k).alloc (.cells #[.int .i64 0, .int .i64 0, .int .i64 0, .int .i64 0, .int .i64 0, .int .i64 0, .string ⟨#[]⟩] 26)).cell? ⟨W2.heap.size, 4, none⟩ = some (.int .i64 0) := fun k => (cell_new (W2.drewN k) _ _ 4).1
    have zf4 : ∀ k, ((W2.drewN k).alloc (.cells #[.int .i64 0, .int .i64 0, .int .i64 0, .int .i64 0, .int .i64 0, .int .i64 0, .string ⟨#[]⟩] 26)).frozen? ⟨W2.heap.size, 4, none⟩ = false := fun k => (cell_new (W2.drewN k) _ _ 4).2
    have yc4 : (W2.drew.alloc (.cells #[.int .i64 0, .int .i64 0, .int .i64 0, .int .i64 0, .int .i64 0, .int .i64 0, .string ⟨#[]⟩] 26)).cell? ⟨W2.heap.size, 4, none⟩ = some (.int .i64 0) := (cell_new W2.drew _ _ 4).1
    have yf4 : (W2.drew.alloc (.cells #[.int .i64 0, .int .i64 0, .int .i64 0, .int .i64 0, .int .i64 0, .int .i64 0, .string ⟨#[]⟩] 26)).frozen? ⟨W2.heap.size, 4, none⟩ = false := (cell_new W2.drew _ _ 4).2
    have zc5 : ∀ k, ((W2.drewN k).alloc (.cells #[.int .i64 0, .int .i64 0, .int .i64 0, .int .i64 0, .int .i64 0, .int .i64 0, .string ⟨#[]⟩] 26)).cell? ⟨W2.heap.size, 5, none⟩ = some (.int .i64 0) := fun k => (cell_new (W2.drewN k) _ _ 5).1
    have zf5 : ∀ k, ((W2.drewN k).alloc (.cells #[.int .i64 0, .int .i64 0, .int .i64 0, .int .i64 0, .int .i64 0, .int .i64 0, .string ⟨#[]⟩] 26)).frozen? ⟨W2.heap.size, 5, none⟩ = false := fun k => (cell_new (W2.drewN k) _ _ 5).2
    have yc5 : (W2.drew.alloc (.cells #[.int .i64 0, .int .i64 0, .int .i64 0, .int .i64 0, .int .i64 0, .int .i64 0, .string ⟨#[]⟩] 26)).cell? ⟨W2.heap.size, 5, none⟩ = some (.int .i64 0) := (cell_new W2.drew _ _ 5).1
    have yf5 : (W2.drew.alloc (.cells #[.int .i64 0, .int .i64 0, .int .i64 0, .int .i64 0, .int .i64 0, .int .i64 0, .string ⟨#[]⟩] 26)).frozen? ⟨W2.heap.size, 5, none⟩ = false := (cell_new W2.drew _ _ 5).2
    have zc6 : ∀ k, ((W2.drewN k).alloc (.cells #[.int .i64 0, .int .i64 0, .int .i64 0, .int .i64 0, .int .i64 0, .int .i64 0, .string ⟨#[]⟩] 26)).cell? ⟨W2.heap.size, 6, none⟩ = some (.string ⟨#[]⟩) := fun k => (cell_new (W2.drewN k) _ _ 6).1
    have zf6 : ∀ k, ((W2.drewN k).alloc (.cells #[.int .i64 0, .int .i64 0, .int .i64 0, .int .i64 0, .int .i64 0, .int .i64 0, .string ⟨#[]⟩] 26)).frozen? ⟨W2.heap.size, 6, none⟩ = false := fun k => (cell_new (W2.drewN k) _ _ 6).2
    have yc6 : (W2.drew.alloc (.cells #[.int .i64 0, .int .i64 0, .int .i64 0, .int .i64 0, .int .i64 0, .int .i64 0, .string ⟨#[]⟩] 26)).cell? ⟨W2.heap.size, 6, none⟩ = some (.string ⟨#[]⟩) := (cell_new W2.drew _ _ 6).1
    have yf6 : (W2.drew.alloc (.cells #[.int .i64 0, .int .i64 0, .int .i64 0, .int .i64 0, .int .i64 0, .int .i64 0, .string ⟨#[]⟩] 26)).frozen? ⟨W2.heap.size, 6, none⟩ = false := (cell_new W2.drew _ _ 6).2
    go_region_held3 (fun w' => (convert 22 9 (.slice (some ⟨g, 13, none⟩) n (cap - 13))).run Tryd.prog w' = .ok (.string D) w' ∧ Below W2.heap.size W2 w')
      ((refine mk.out _ ?_; repeat (first
        | (with_reducible exact Below.refl _ _)
        | (with_reducible refine below_draw _ ?_)
        | (with_reducible refine belDr ?_)
        | (with_reducible refine belA ?_ _)
        | (with_reducible refine below7 ?_ (Nat.le_refl _) _ _ _ _ _ _ _))))
      ((go_at_call 33; have hS := (by assumption : _ ∧ Below W2.heap.size W2 _); refine (HG.out _ _ (B2.out.trans (hS.2.mono B2.out.size)) (by decide) (by omega)).mono ?_; rintro e wN ⟨rfl, jN, rfl⟩; have cc := below_draw jN hS.2))
    all_goals
      go_wp2_with fail
      go_meet
      refine ⟨_, rfl, Nat.le_refl _, set_seven (x0 := .int .i64 0) (x1 := .int .i64 0) (x2 := .int .i64 0) (x3 := .int .i64 0) (x4 := .int .i64 0) (x5 := .int .i64 0) (x6 := .string ⟨#[]⟩) _ _ _ _ _ _ _ ?_ ?_ ?_ ?_ ?_ ?_ ?_, (‹_ ∧ Below W2.heap.size W2 _›).2⟩
      · simp [zc0]
      · simp [zc1]
      · simp [zc2]
      · simp [zc3]
      · simp [zc4]
      · simp [zc5]
      · simp [zc6]
  case rest =>
    obtain ⟨b, rfl, hb0, hx, hB⟩ := hcut
    have zb : b < wc.heap.size := World.block_lt_of_cell? wc _ hx.1
    have zw : w.heap.size < W2.heap.size := by rw [HW2.out]; exact Nat.lt_of_lt_of_le (Nat.lt_succ_self _) (by simp)
    obtain ⟨cB, fB⟩ := bcell hB
    have zx : w.heap.size < wc.heap.size := Nat.lt_of_lt_of_le zw hB.size
    obtain ⟨q, hq⟩ : ∃ q, q = segOkB (sayL l) := ⟨_, rfl⟩
    have HO : Hid (∀ wx, Calls Tryd.prog 11 #[.agg #[.int .i64 (numAt l 0 : Nat), .int .i64 (numAt l 2 : Nat), .int .i64 (numAt l 4 : Nat), .int .i64 (numAt l 6 : Nat), .int .i64 (numAt l 8 : Nat), .int .i64 (numAt l 10 : Nat), .string D]] wx fun e w' => e = .returned (.bool q) ∧ Below wx.heap.size wx w') := fun wx => by
      rw [hq, hsay]; exact specSegOk_any _ _ _ _ _ _ D wx (by omega)
    have hBB : Hid (Below W2.heap.size W2 wc) := hB
    obtain ⟨x0, x1, x2, x3, x4, x5, x6⟩ := hx
    have HX : Hid (Box7 wc b (.int .i64 (numAt l 0 : Nat)) (.int .i64 (numAt l 2 : Nat)) (.int .i64 (numAt l 4 : Nat)) (.int .i64 (numAt l 6 : Nat)) (.int .i64 (numAt l 8 : Nat)) (.int .i64 (numAt l 10 : Nat)) (.string D)) := ⟨x0, x1, x2, x3, x4, x5, x6⟩
    go_wp2_with fail
    (go_at_call 11; refine (HO.out _).mono ?_; rintro e w3 ⟨rfl, b3⟩)
    obtain ⟨c3, f3⟩ := bcell b3
    have y : ∀ i, W2.cell? ⟨w.heap.size, i, none⟩ = (w.alloc (.cells #[.int .i64 0, .int .i64 0, .int .i64 0, .int .i64 0, .int .i64 0, .int .i64 0, .string ⟨#[]⟩] 26)).cell? ⟨w.heap.size, i, none⟩ := fun i => by rw [HW2.out]; rfl
    have yf : ∀ i, W2.frozen? ⟨w.heap.size, i, none⟩ = (w.alloc (.cells #[.int .i64 0, .int .i64 0, .int .i64 0, .int .i64 0, .int .i64 0, .int .i64 0, .string ⟨#[]⟩] 26)).frozen? ⟨w.heap.size, i, none⟩ := fun i => by rw [HW2.out]; rfl
    obtain ⟨n0, n1, n2, n3, n4, n5, n6⟩ := box7_new w (.int .i64 0) (.int .i64 0) (.int .i64 0) (.int .i64 0) (.int .i64 0) (.int .i64 0) (.string ⟨#[]⟩) 26
    have k0 := (c3 _ _ zx).trans ((cB _ _ zw).trans ((y 0).trans n0))
    have g0 : w3.frozen? ⟨w.heap.size, 0, none⟩ = false := (f3 _ _ zx).trans ((fB _ _ zw).trans ((yf 0).trans (cell_new w _ 26 0).2))
    have k1 := (c3 _ _ zx).trans ((cB _ _ zw).trans ((y 1).trans n1))
    have g1 : w3.frozen? ⟨w.heap.size, 1, none⟩ = false := (f3 _ _ zx).trans ((fB _ _ zw).trans ((yf 1).trans (cell_new w _ 26 1).2))
    have k2 := (c3 _ _ zx).trans ((cB _ _ zw).trans ((y 2).trans n2))
    have g2 : w3.frozen? ⟨w.heap.size, 2, none⟩ = false := (f3 _ _ zx).trans ((fB _ _ zw).trans ((yf 2).trans (cell_new w _ 26 2).2))
    have k3 := (c3 _ _ zx).trans ((cB _ _ zw).trans ((y 3).trans n3))
    have g3 : w3.frozen? ⟨w.heap.size, 3, none⟩ = false := (f3 _ _ zx).trans ((fB _ _ zw).trans ((yf 3).trans (cell_new w _ 26 3).2))
    have k4 := (c3 _ _ zx).trans ((cB _ _ zw).trans ((y 4).trans n4))
    have g4 : w3.frozen? ⟨w.heap.size, 4, none⟩ = false := (f3 _ _ zx).trans ((fB _ _ zw).trans ((yf 4).trans (cell_new w _ 26 4).2))
    have k5 := (c3 _ _ zx).trans ((cB _ _ zw).trans ((y 5).trans n5))
    have g5 : w3.frozen? ⟨w.heap.size, 5, none⟩ = false := (f3 _ _ zx).trans ((fB _ _ zw).trans ((yf 5).trans (cell_new w _ 26 5).2))
    have k6 := (c3 _ _ zx).trans ((cB _ _ zw).trans ((y 6).trans n6))
    have g6 : w3.frozen? ⟨w.heap.size, 6, none⟩ = false := (f3 _ _ zx).trans ((fB _ _ zw).trans ((yf 6).trans (cell_new w _ 26 6).2))
    obtain ⟨r0, r1, r2, r3, r4, r5, r6⟩ := HX.out.below b3 zb
    have BF : Hid (Below w.heap.size w w3) := (B2.out.trans (hB.mono (by omega))).trans (b3.mono (by omega))
    clear x0 x1 x2 x3 x4 x5 x6 n0 n1 n2 n3 n4 n5 n6 c3 f3 cB fB y yf b3 hB HX HO
    cases q
    · have HA : Hid (rdAns5 l = .tuple #[.agg #[.int .i64 0, .int .i64 0, .int .i64 0, .int .i64 0, .int .i64 0, .int .i64 0, .string ⟨#[]⟩], .bool false]) := rdAns5_none (fun hc => by have := hc.2; rw [← hq] at this; cases this)
      clear hq
      go_wp2_with fail
      obtain ⟨q0, q1, q2, q3, q4, q5, q6⟩ := set_seven (w := w3) (b := w.heap.size) (.int .i64 0) (.int .i64 0) (.int .i64 0) (.int .i64 0) (.int .i64 0) (.int .i64 0) (.string ⟨#[]⟩) k0 k1 k2 k3 k4 k5 k6
      refine bodyPost_ret (v := .tuple #[.agg #[.int .i64 0, .int .i64 0, .int .i64 0, .int .i64 0, .int .i64 0, .int .i64 0, .string ⟨#[]⟩], .bool false]) (by simp [results, Tryd.results17, go_sem, q0, q1, q2, q3, q4, q5, q6]) rfl ⟨by rw [HA.out], ?_⟩
      exact ((((((BF.out.setCell (Nat.le_refl _) _).setCell (Nat.le_refl _) _).setCell (Nat.le_refl _) _).setCell (Nat.le_refl _) _).setCell (Nat.le_refl _) _).setCell (Nat.le_refl _) _).setCell (Nat.le_refl _) _
    · have HA : Hid (rdAns5 l = .tuple #[.agg #[.int .i64 (numAt l 0 : Nat), .int .i64 (numAt l 2 : Nat), .int .i64 (numAt l 4 : Nat), .int .i64 (numAt l 6 : Nat), .int .i64 (numAt l 8 : Nat), .int .i64 (numAt l 10 : Nat), .string D], .bool true]) := by
        show _ = _
        unfold rdAns5 readL
        rw [if_pos ⟨hfit, hq.symm⟩, hsay]
      clear hq hsay hfit
      go_wp2_with fail
      obtain ⟨q0, q1, q2, q3, q4, q5, q6⟩ := set_seven (w := w3) (b := w.heap.size) (.int .i64 (numAt l 0 : Nat)) (.int .i64 (numAt l 2 : Nat)) (.int .i64 (numAt l 4 : Nat)) (.int .i64 (numAt l 6 : Nat)) (.int .i64 (numAt l 8 : Nat)) (.int .i64 (numAt l 10 : Nat)) (.string D) k0 k1 k2 k3 k4 k5 k6
      refine bodyPost_ret (v := .tuple #[.agg #[.int .i64 (numAt l 0 : Nat), .int .i64 (numAt l 2 : Nat), .int .i64 (numAt l 4 : Nat), .int .i64 (numAt l 6 : Nat), .int .i64 (numAt l 8 : Nat), .int .i64 (numAt l 10 : Nat), .string D], .bool true]) (by simp [results, Tryd.results17, go_sem, q0, q1, q2, q3, q4, q5, q6]) rfl ⟨by rw [HA.out], ?_⟩
      exact ((((((BF.out.setCell (Nat.le_refl _) _).setCell (Nat.le_refl _) _).setCell (Nat.le_refl _) _).setCell (Nat.le_refl _) _).setCell (Nat.le_refl _) _).setCell (Nat.le_refl _) _).setCell (Nat.le_refl _) _

end Go.Proofs.YtpaodaakoneglaaDoor
