/- read of the program's forms of lines: what the numbers behind a line's word say. Condition: at most 1000 words. -/
import Derived.Test.YtilfpefccklebaaDoorEvN
import Derived.Test.YtilfpefccklebaaDoorBox5
import Derived.Test.YtilfpefccklebaaDoorFlat
import Derived.Laws.CopyOwn
namespace Go.Proofs.YtilfpefccklebaaDoor
open Go.RowKit


set_option maxRecDepth 100000 in
set_option maxHeartbeats 1600000 in
theorem read_no (nm : ByteArray) (K f l : Nat) (r : List (List UInt8)) (g o cap : Nat) (w : World) (hf : f ≤ l) (hl : l ≤ 3) (hr : r.length ≤ 1000) (hcap : r.length ≤ cap) (hg : g < w.heap.size) (row : ∀ j (hj : j < r.length), w.cell? ⟨g, o + j, none⟩ = some (strV r[j])) (hsz : ∀ x ∈ r, x.length ≤ 1000000) (h : ¬ (r.length = l - f + 1 ∧ allN r = true)) :
    Calls Tryd.prog 31 #[.agg #[.string nm, .int .i64 (K : Nat), .int .i64 (f : Nat), .int .i64 (l : Nat)], .slice (some ⟨g, o, none⟩) r.length cap] w fun e w' => e = .returned (.tuple #[.agg #[.int .i64 0, .int .i64 0, .int .i64 0, .int .i64 0, .int .i64 0], .bool false]) ∧ Below w.heap.size w w' := by
  have HN : Hid (∀ w', Below w.heap.size w w' → Calls Tryd.prog 55 #[.slice (some ⟨g, o, none⟩) r.length cap] w' fun e w'' => ∃ v, e = .returned v ∧ w''.ownsRow w'.heap.size 3 1 v (leadN r).length ((leadN r).map numV) ∧ Below w'.heap.size w' w'') := fun w' hb => readNumbers_any r g o cap w' hr hcap (Nat.lt_of_lt_of_le hg hb.size) (fun j hj => (hb.cell (p := ⟨g, o + j, none⟩) hg).trans (row j hj)) hsz
  obtain ⟨m, hm⟩ : ∃ m, m = (leadN r).length := ⟨_, rfl⟩
  have hml := leadN_len r
  have hcase : (m = r.length ∧ r.length ≠ l - f + 1) ∨ m ≠ r.length := by
    by_cases ha : allN r = true
    · left
      have := hm
      rw [leadN_all ha] at this
      exact ⟨this, fun e => h ⟨e, ha⟩⟩
    · right
      have := leadN_not (r := r) (by simpa using ha)
      omega
  rw [← hm] at HN hml
  have hm2 : m ≤ 1000 := by omega
  clear row hsz h hm
  obtain ⟨n, hn⟩ : ∃ n, n = r.length := ⟨_, rfl⟩
  rw [← hn] at HN hcase hml hr hcap ⊢
  clear hn
  go_enter Tryd.func31, Tryd.ntmps31
  go_wp2_with fail
  generalize hW : World.alloc (World.alloc w _) _ = W
  have sW : W.heap.size = w.heap.size + 2 := by rw [← hW]; simp
  have BW : Hid (Below w.heap.size w W) := by rw [← hW]; exact ((Below.refl _ _).alloc (Nat.le_refl _) _).alloc (by simp) _
  have ZW : Box5 W (w.heap.size + 1) (.int .i64 0) (.int .i64 0) (.int .i64 0) (.int .i64 0) (.int .i64 0) := by
    rw [← hW]
    have := box5_new (w.alloc (.cells #[.string nm, .int .i64 (K : Nat), .int .i64 (f : Nat), .int .i64 (l : Nat)] 59)) (.int .i64 0) (.int .i64 0) (.int .i64 0) (.int .i64 0) (.int .i64 0) 23
    rw [show (w.alloc (.cells #[.string nm, .int .i64 (K : Nat), .int .i64 (f : Nat), .int .i64 (l : Nat)] 59)).heap.size = w.heap.size + 1 by simp] at this
    exact this
  have FW : Fz W (w.heap.size + 1) := by
    rw [← hW]
    have := fz_new (w.alloc (.cells #[.string nm, .int .i64 (K : Nat), .int .i64 (f : Nat), .int .i64 (l : Nat)] 59)) #[.int .i64 0, .int .i64 0, .int .i64 0, .int .i64 0, .int .i64 0] 23
    rw [show (w.alloc (.cells #[.string nm, .int .i64 (K : Nat), .int .i64 (f : Nat), .int .i64 (l : Nat)] 59)).heap.size = w.heap.size + 1 by simp] at this
    exact this
  have c1 : W.cell? ⟨w.heap.size, 1, none⟩ = some (.int .i64 (K : Nat)) := by rw [← hW]; simp
  have c2 : W.cell? ⟨w.heap.size, 2, none⟩ = some (.int .i64 (f : Nat)) := by rw [← hW]; simp
  have c3 : W.cell? ⟨w.heap.size, 3, none⟩ = some (.int .i64 (l : Nat)) := by rw [← hW]; simp
  clear hW
  (go_at_call 55; refine (HN.out _ BW.out).mono ?_; rintro e w1 ⟨v, rfl, own1, b1⟩; have ZR := ZW.below b1 (by omega); have FR := FW.below b1 (by omega); have c1 := (b1.cell (p := ⟨w.heap.size, 1, none⟩) (by simp; omega)).trans c1; have c2 := (b1.cell (p := ⟨w.heap.size, 2, none⟩) (by simp; omega)).trans c2; have c3 := (b1.cell (p := ⟨w.heap.size, 3, none⟩) (by simp; omega)).trans c3; have B1 : Hid (Below w.heap.size w w1) := BW.out.trans (b1.mono (by omega)); have s1 : W.heap.size ≤ w1.heap.size := b1.size)
  clear b1 ZW FW
  obtain ⟨av, cv, rfl⟩ := own_form own1
  clear own1
  have HZ := Lib.hid ZR
  obtain ⟨r0, r1, r2, r3, r4⟩ := ZR
  have f0 := FR 0
  have f1 := FR 1
  have f2 := FR 2
  have f3 := FR 3
  have f4 := FR 4
  clear FR
  rcases hcase with ⟨rfl, hne⟩ | hne
  · have e2 : ((m : Int) == (l : Int) - (f : Int) + 1) = false := beq_eq_false_iff_ne.2 (by omega)
    clear hne
    go_wp2_with fail
    obtain ⟨q0, q1, q2, q3, q4⟩ := HZ.out.all (.int .i64 0) (.int .i64 0) (.int .i64 0) (.int .i64 0) (.int .i64 0)
    refine bodyPost_ret (v := .tuple #[.agg #[.int .i64 0, .int .i64 0, .int .i64 0, .int .i64 0, .int .i64 0], .bool false]) (by simp [results, Tryd.results31, go_sem, q0, q1, q2, q3, q4]) rfl ⟨rfl, ?_⟩
    exact ((((B1.out.setCell (Nat.le_succ _) _).setCell (Nat.le_succ _) _).setCell (Nat.le_succ _) _).setCell (Nat.le_succ _) _).setCell (Nat.le_succ _) _
  · have e1 : ((m : Int) == (n : Int)) = false := beq_eq_false_iff_ne.2 (by omega)
    clear hne
    go_wp2_with fail
    obtain ⟨q0, q1, q2, q3, q4⟩ := HZ.out.all (.int .i64 0) (.int .i64 0) (.int .i64 0) (.int .i64 0) (.int .i64 0)
    refine bodyPost_ret (v := .tuple #[.agg #[.int .i64 0, .int .i64 0, .int .i64 0, .int .i64 0, .int .i64 0], .bool false]) (by simp [results, Tryd.results31, go_sem, q0, q1, q2, q3, q4]) rfl ⟨rfl, ?_⟩
    exact ((((B1.out.setCell (Nat.le_succ _) _).setCell (Nat.le_succ _) _).setCell (Nat.le_succ _) _).setCell (Nat.le_succ _) _).setCell (Nat.le_succ _) _

set_option maxRecDepth 100000 in
set_option maxHeartbeats 1600000 in
theorem read_yes02 (nm : ByteArray) (K a b c : Nat) (r : List (List UInt8)) (g o cap : Nat) (w : World) (hlen : r.length = 3) (hall : allN r = true) (hm : r.map numV = [.int .i64 (a : Nat), .int .i64 (b : Nat), .int .i64 (c : Nat)]) (hr : r.length ≤ 1000) (hcap : r.length ≤ cap) (hg : g < w.heap.size) (row : ∀ j (hj : j < r.length), w.cell? ⟨g, o + j, none⟩ = some (strV r[j])) (hsz : ∀ x ∈ r, x.length ≤ 1000000) :
    Calls Tryd.prog 31 #[.agg #[.string nm, .int .i64 (K : Nat), .int .i64 0, .int .i64 2], .slice (some ⟨g, o, none⟩) 3 cap] w fun e w' => e = .returned (.tuple #[.agg #[.int .i64 (K : Nat), .int .i64 (a : Nat), .int .i64 (b : Nat), .int .i64 (c : Nat), .int .i64 0], .bool true]) ∧ Below w.heap.size w w' := by
  have HN : Hid (∀ w', Below w.heap.size w w' → Calls Tryd.prog 55 #[.slice (some ⟨g, o, none⟩) 3 cap] w' fun e w'' => ∃ v, e = .returned v ∧ w''.ownsRow w'.heap.size 3 1 v 3 [.int .i64 (a : Nat), .int .i64 (b : Nat), .int .i64 (c : Nat)] ∧ Below w'.heap.size w' w'') := fun w' hb => by
    have := readNumbers_any r g o cap w' hr hcap (Nat.lt_of_lt_of_le hg hb.size) (fun j hj => (hb.cell (p := ⟨g, o + j, none⟩) hg).trans (row j hj)) hsz
    rw [leadN_all hall, hlen, hm] at this
    exact this
  clear row hsz hall hm hr hlen hcap
  go_enter Tryd.func31, Tryd.ntmps31
  go_wp2_with fail
  generalize hW : World.alloc (World.alloc w _) _ = W
  have sW : W.heap.size = w.heap.size + 2 := by rw [← hW]; simp
  have BW : Hid (Below w.heap.size w W) := by rw [← hW]; exact ((Below.refl _ _).alloc (Nat.le_refl _) _).alloc (by simp) _
  have ZW : Box5 W (w.heap.size + 1) (.int .i64 0) (.int .i64 0) (.int .i64 0) (.int .i64 0) (.int .i64 0) := by
    rw [← hW]
    have := box5_new (w.alloc (.cells #[.string nm, .int .i64 (K : Nat), .int .i64 0, .int .i64 2] 59)) (.int .i64 0) (.int .i64 0) (.int .i64 0) (.int .i64 0) (.int .i64 0) 23
    rw [show (w.alloc (.cells #[.string nm, .int .i64 (K : Nat), .int .i64 0, .int .i64 2] 59)).heap.size = w.heap.size + 1 by simp] at this
    exact this
  have FW : Fz W (w.heap.size + 1) := by
    rw [← hW]
    have := fz_new (w.alloc (.cells #[.string nm, .int .i64 (K : Nat), .int .i64 0, .int .i64 2] 59)) #[.int .i64 0, .int .i64 0, .int .i64 0, .int .i64 0, .int .i64 0] 23
    rw [show (w.alloc (.cells #[.string nm, .int .i64 (K : Nat), .int .i64 0, .int .i64 2] 59)).heap.size = w.heap.size + 1 by simp] at this
    exact this
  have c1 : W.cell? ⟨w.heap.size, 1, none⟩ = some (.int .i64 (K : Nat)) := by rw [← hW]; simp
  have c2 : W.cell? ⟨w.heap.size, 2, none⟩ = some (.int .i64 0) := by rw [← hW]; simp
  have c3 : W.cell? ⟨w.heap.size, 3, none⟩ = some (.int .i64 2) := by rw [← hW]; simp
  clear hW
  (go_at_call 55; refine (HN.out _ BW.out).mono ?_; rintro e w1 ⟨v, rfl, own1, b1⟩; have ZR := ZW.below b1 (by omega); have FR := FW.below b1 (by omega); have c1 := (b1.cell (p := ⟨w.heap.size, 1, none⟩) (by simp; omega)).trans c1; have c2 := (b1.cell (p := ⟨w.heap.size, 2, none⟩) (by simp; omega)).trans c2; have c3 := (b1.cell (p := ⟨w.heap.size, 3, none⟩) (by simp; omega)).trans c3; have B1 : Hid (Below w.heap.size w w1) := BW.out.trans (b1.mono (by omega)); have s1 : W.heap.size ≤ w1.heap.size := b1.size)
  clear b1 ZW FW
  obtain ⟨gn, cn, rfl, hcn, gnB, gnl, rown⟩ := RowAt.of_own own1 (by simp)
  have n0 : w1.cell? ⟨gn, 0, none⟩ = some (.int .i64 (a : Nat)) := (rown 0 (by simp)).1
  have n1 : w1.cell? ⟨gn, 1, none⟩ = some (.int .i64 (b : Nat)) := (rown 1 (by simp)).1
  have n2 : w1.cell? ⟨gn, 2, none⟩ = some (.int .i64 (c : Nat)) := (rown 2 (by simp)).1
  clear own1 rown
  have HZ0 := Lib.hid ZR
  have HF0 := Lib.hid FR
  clear ZR FR
  have hcn3 : (3 : Int) ≤ (cn : Int) := by omega
  have hw1 : w.heap.size < w1.heap.size := by omega
  have hne3 : ¬ w.heap.size = w1.heap.size := by omega
  have hne : ¬ w1.heap.size = gn := by omega
  have hne2 : ¬ gn = w1.heap.size := by omega
  have hxn : (w1.alloc (.cells #[.int .i64 0, .int .i64 0, .int .i64 0, .int .i64 0] 80)).heap[w1.heap.size]? = some (.cells ([.int .i64 0, .int .i64 0, .int .i64 0, .int .i64 0] : List Value).toArray 80 (0, 0)) := heap_alloc_new w1 _
  have HC : ∀ j u, ([.int .i64 (a : Nat), .int .i64 (b : Nat), .int .i64 (c : Nat)] : List Value)[j]? = some u → (w1.alloc (.cells #[.int .i64 0, .int .i64 0, .int .i64 0, .int .i64 0] 80)).cell? ((⟨gn, 0, none⟩ : Addr).add j) = some u := by
    intro j u hu
    rw [show (⟨gn, 0, none⟩ : Addr).add j = ⟨gn, j, none⟩ by unfold Addr.add; split <;> simp_all, cell_alloc_lt gnl]
    match j, hu with
    | 0, hu => simp at hu; subst hu; exact n0
    | 1, hu => simp at hu; subst hu; exact n1
    | 2, hu => simp at hu; subst hu; exact n2
  obtain ⟨W2, hrun, hc2, hB2⟩ : ∃ W2, (Builtin.copy_ #[53, 53] 3 #[.slice (some ⟨w1.heap.size, 0, none⟩) 4 4, .slice (some ⟨gn, 0, none⟩) 3 cn]).run Tryd.prog (w1.alloc (.cells #[.int .i64 0, .int .i64 0, .int .i64 0, .int .i64 0] 80)) = .ok (goInt 3) W2 ∧ W2.heap[w1.heap.size]? = some (.cells #[.int .i64 (a : Nat), .int .i64 (b : Nat), .int .i64 (c : Nat), .int .i64 0] 80 (0, 0)) ∧ Below w1.heap.size w1 W2 := by
    refine ⟨_, run_copy_row (P := Tryd.prog) _ _ _ _ 3 _ _ _ _ ⟨gn, 0, none⟩ _ _ #[.int .i64 0, .int .i64 0, .int .i64 0, .int .i64 0] 80 [.int .i64 (a : Nat), .int .i64 (b : Nat), .int .i64 (c : Nat)] Tryd.underlying53 (by kernel_rfl) hxn rfl HC (by simp) (by intro v hv; simp at hv; rcases hv with rfl | rfl | rfl <;> rfl), ?_, ?_⟩
    · exact setRow_heap _ _ _ _ _ _ hxn
    · exact below_setRow ((Below.refl _ _).alloc (Nat.le_refl _) _) (Nat.le_refl _) _
  clear hxn HC
  have m0 : W2.cell? ⟨w1.heap.size, 0, none⟩ = some (.int .i64 (a : Nat)) := by simp [World.cell?, hc2]
  have m1 : W2.cell? ⟨w1.heap.size, 1, none⟩ = some (.int .i64 (b : Nat)) := by simp [World.cell?, hc2]
  have m2 : W2.cell? ⟨w1.heap.size, 2, none⟩ = some (.int .i64 (c : Nat)) := by simp [World.cell?, hc2]
  have m3 : W2.cell? ⟨w1.heap.size, 3, none⟩ = some (.int .i64 0) := by simp [World.cell?, hc2]
  have d1 := (hB2.cell (p := ⟨w.heap.size, 1, none⟩) hw1).trans c1
  have hw11 : w.heap.size + 1 < w1.heap.size := by omega
  have ZR := HZ0.out.below hB2 hw11
  have FR := HF0.out.below hB2 hw11
  have BB : Hid (Below w.heap.size w W2) := B1.out.trans (hB2.mono (by omega))
  have HZ := Lib.hid ZR
  obtain ⟨r0, r1, r2, r3, r4⟩ := ZR
  have f0 := FR 0
  have f1 := FR 1
  have f2 := FR 2
  have f3 := FR 3
  have f4 := FR 4
  clear FR hc2 hB2
  go_wp2_with fail
  obtain ⟨q0, q1, q2, q3, q4⟩ := HZ.out.all (.int .i64 (K : Nat)) (.int .i64 (a : Nat)) (.int .i64 (b : Nat)) (.int .i64 (c : Nat)) (.int .i64 0)
  refine bodyPost_ret (v := .tuple #[.agg #[.int .i64 (K : Nat), .int .i64 (a : Nat), .int .i64 (b : Nat), .int .i64 (c : Nat), .int .i64 0], .bool true]) (by simp [results, Tryd.results31, go_sem, q0, q1, q2, q3, q4]) rfl ⟨rfl, ?_⟩
  exact ((((BB.out.setCell (Nat.le_succ _) _).setCell (Nat.le_succ _) _).setCell (Nat.le_succ _) _).setCell (Nat.le_succ _) _).setCell (Nat.le_succ _) _

set_option maxRecDepth 100000 in
set_option maxHeartbeats 1600000 in
theorem read_yes01 (nm : ByteArray) (K a b : Nat) (r : List (List UInt8)) (g o cap : Nat) (w : World) (hlen : r.length = 2) (hall : allN r = true) (hm : r.map numV = [.int .i64 (a : Nat), .int .i64 (b : Nat)]) (hr : r.length ≤ 1000) (hcap : r.length ≤ cap) (hg : g < w.heap.size) (row : ∀ j (hj : j < r.length), w.cell? ⟨g, o + j, none⟩ = some (strV r[j])) (hsz : ∀ x ∈ r, x.length ≤ 1000000) :
    Calls Tryd.prog 31 #[.agg #[.string nm, .int .i64 (K : Nat), .int .i64 0, .int .i64 1], .slice (some ⟨g, o, none⟩) 2 cap] w fun e w' => e = .returned (.tuple #[.agg #[.int .i64 (K : Nat), .int .i64 (a : Nat), .int .i64 (b : Nat), .int .i64 0, .int .i64 0], .bool true]) ∧ Below w.heap.size w w' := by
  have HN : Hid (∀ w', Below w.heap.size w w' → Calls Tryd.prog 55 #[.slice (some ⟨g, o, none⟩) 2 cap] w' fun e w'' => ∃ v, e = .returned v ∧ w''.ownsRow w'.heap.size 3 1 v 2 [.int .i64 (a : Nat), .int .i64 (b : Nat)] ∧ Below w'.heap.size w' w'') := fun w' hb => by
    have := readNumbers_any r g o cap w' hr hcap (Nat.lt_of_lt_of_le hg hb.size) (fun j hj => (hb.cell (p := ⟨g, o + j, none⟩) hg).trans (row j hj)) hsz
    rw [leadN_all hall, hlen, hm] at this
    exact this
  clear row hsz hall hm hr hlen hcap
  go_enter Tryd.func31, Tryd.ntmps31
  go_wp2_with fail
  generalize hW : World.alloc (World.alloc w _) _ = W
  have sW : W.heap.size = w.heap.size + 2 := by rw [← hW]; simp
  have BW : Hid (Below w.heap.size w W) := by rw [← hW]; exact ((Below.refl _ _).alloc (Nat.le_refl _) _).alloc (by simp) _
  have ZW : Box5 W (w.heap.size + 1) (.int .i64 0) (.int .i64 0) (.int .i64 0) (.int .i64 0) (.int .i64 0) := by
    rw [← hW]
    have := box5_new (w.alloc (.cells #[.string nm, .int .i64 (K : Nat), .int .i64 0, .int .i64 1] 59)) (.int .i64 0) (.int .i64 0) (.int .i64 0) (.int .i64 0) (.int .i64 0) 23
    rw [show (w.alloc (.cells #[.string nm, .int .i64 (K : Nat), .int .i64 0, .int .i64 1] 59)).heap.size = w.heap.size + 1 by simp] at this
    exact this
  have FW : Fz W (w.heap.size + 1) := by
    rw [← hW]
    have := fz_new (w.alloc (.cells #[.string nm, .int .i64 (K : Nat), .int .i64 0, .int .i64 1] 59)) #[.int .i64 0, .int .i64 0, .int .i64 0, .int .i64 0, .int .i64 0] 23
    rw [show (w.alloc (.cells #[.string nm, .int .i64 (K : Nat), .int .i64 0, .int .i64 1] 59)).heap.size = w.heap.size + 1 by simp] at this
    exact this
  have c1 : W.cell? ⟨w.heap.size, 1, none⟩ = some (.int .i64 (K : Nat)) := by rw [← hW]; simp
  have c2 : W.cell? ⟨w.heap.size, 2, none⟩ = some (.int .i64 0) := by rw [← hW]; simp
  have c3 : W.cell? ⟨w.heap.size, 3, none⟩ = some (.int .i64 1) := by rw [← hW]; simp
  clear hW
  (go_at_call 55; refine (HN.out _ BW.out).mono ?_; rintro e w1 ⟨v, rfl, own1, b1⟩; have ZR := ZW.below b1 (by omega); have FR := FW.below b1 (by omega); have c1 := (b1.cell (p := ⟨w.heap.size, 1, none⟩) (by simp; omega)).trans c1; have c2 := (b1.cell (p := ⟨w.heap.size, 2, none⟩) (by simp; omega)).trans c2; have c3 := (b1.cell (p := ⟨w.heap.size, 3, none⟩) (by simp; omega)).trans c3; have B1 : Hid (Below w.heap.size w w1) := BW.out.trans (b1.mono (by omega)); have s1 : W.heap.size ≤ w1.heap.size := b1.size)
  clear b1 ZW FW
  obtain ⟨gn, cn, rfl, hcn, gnB, gnl, rown⟩ := RowAt.of_own own1 (by simp)
  have n0 : w1.cell? ⟨gn, 0, none⟩ = some (.int .i64 (a : Nat)) := (rown 0 (by simp)).1
  have n1 : w1.cell? ⟨gn, 1, none⟩ = some (.int .i64 (b : Nat)) := (rown 1 (by simp)).1
  clear own1 rown
  have HZ0 := Lib.hid ZR
  have HF0 := Lib.hid FR
  clear ZR FR
  have hcn3 : (2 : Int) ≤ (cn : Int) := by omega
  have hw1 : w.heap.size < w1.heap.size := by omega
  have hne3 : ¬ w.heap.size = w1.heap.size := by omega
  have hne : ¬ w1.heap.size = gn := by omega
  have hne2 : ¬ gn = w1.heap.size := by omega
  have hxn : (w1.alloc (.cells #[.int .i64 0, .int .i64 0, .int .i64 0, .int .i64 0] 80)).heap[w1.heap.size]? = some (.cells ([.int .i64 0, .int .i64 0, .int .i64 0, .int .i64 0] : List Value).toArray 80 (0, 0)) := heap_alloc_new w1 _
  have HC : ∀ j u, ([.int .i64 (a : Nat), .int .i64 (b : Nat)] : List Value)[j]? = some u → (w1.alloc (.cells #[.int .i64 0, .int .i64 0, .int .i64 0, .int .i64 0] 80)).cell? ((⟨gn, 0, none⟩ : Addr).add j) = some u := by
    intro j u hu
    rw [show (⟨gn, 0, none⟩ : Addr).add j = ⟨gn, j, none⟩ by unfold Addr.add; split <;> simp_all, cell_alloc_lt gnl]
    match j, hu with
    | 0, hu => simp at hu; subst hu; exact n0
    | 1, hu => simp at hu; subst hu; exact n1
  obtain ⟨W2, hrun, hc2, hB2⟩ : ∃ W2, (Builtin.copy_ #[53, 53] 3 #[.slice (some ⟨w1.heap.size, 0, none⟩) 4 4, .slice (some ⟨gn, 0, none⟩) 2 cn]).run Tryd.prog (w1.alloc (.cells #[.int .i64 0, .int .i64 0, .int .i64 0, .int .i64 0] 80)) = .ok (goInt 2) W2 ∧ W2.heap[w1.heap.size]? = some (.cells #[.int .i64 (a : Nat), .int .i64 (b : Nat), .int .i64 0, .int .i64 0] 80 (0, 0)) ∧ Below w1.heap.size w1 W2 := by
    refine ⟨_, run_copy_row (P := Tryd.prog) _ _ _ _ 3 _ _ _ _ ⟨gn, 0, none⟩ _ _ #[.int .i64 0, .int .i64 0, .int .i64 0, .int .i64 0] 80 [.int .i64 (a : Nat), .int .i64 (b : Nat)] Tryd.underlying53 (by kernel_rfl) hxn rfl HC (by simp) (by intro v hv; simp at hv; rcases hv with rfl | rfl <;> rfl), ?_, ?_⟩
    · exact setRow_heap _ _ _ _ _ _ hxn
    · exact below_setRow ((Below.refl _ _).alloc (Nat.le_refl _) _) (Nat.le_refl _) _
  clear hxn HC
  have m0 : W2.cell? ⟨w1.heap.size, 0, none⟩ = some (.int .i64 (a : Nat)) := by simp [World.cell?, hc2]
  have m1 : W2.cell? ⟨w1.heap.size, 1, none⟩ = some (.int .i64 (b : Nat)) := by simp [World.cell?, hc2]
  have m2 : W2.cell? ⟨w1.heap.size, 2, none⟩ = some (.int .i64 0) := by simp [World.cell?, hc2]
  have m3 : W2.cell? ⟨w1.heap.size, 3, none⟩ = some (.int .i64 0) := by simp [World.cell?, hc2]
  have d1 := (hB2.cell (p := ⟨w.heap.size, 1, none⟩) hw1).trans c1
  have hw11 : w.heap.size + 1 < w1.heap.size := by omega
  have ZR := HZ0.out.below hB2 hw11
  have FR := HF0.out.below hB2 hw11
  have BB : Hid (Below w.heap.size w W2) := B1.out.trans (hB2.mono (by omega))
  have HZ := Lib.hid ZR
  obtain ⟨r0, r1, r2, r3, r4⟩ := ZR
  have f0 := FR 0
  have f1 := FR 1
  have f2 := FR 2
  have f3 := FR 3
  have f4 := FR 4
  clear FR hc2 hB2
  go_wp2_with fail
  obtain ⟨q0, q1, q2, q3, q4⟩ := HZ.out.all (.int .i64 (K : Nat)) (.int .i64 (a : Nat)) (.int .i64 (b : Nat)) (.int .i64 0) (.int .i64 0)
  refine bodyPost_ret (v := .tuple #[.agg #[.int .i64 (K : Nat), .int .i64 (a : Nat), .int .i64 (b : Nat), .int .i64 0, .int .i64 0], .bool true]) (by simp [results, Tryd.results31, go_sem, q0, q1, q2, q3, q4]) rfl ⟨rfl, ?_⟩
  exact ((((BB.out.setCell (Nat.le_succ _) _).setCell (Nat.le_succ _) _).setCell (Nat.le_succ _) _).setCell (Nat.le_succ _) _).setCell (Nat.le_succ _) _

set_option maxRecDepth 100000 in
set_option maxHeartbeats 1600000 in
theorem read_yes11 (nm : ByteArray) (K a : Nat) (r : List (List UInt8)) (g o cap : Nat) (w : World) (hlen : r.length = 1) (hall : allN r = true) (hm : r.map numV = [.int .i64 (a : Nat)]) (hr : r.length ≤ 1000) (hcap : r.length ≤ cap) (hg : g < w.heap.size) (row : ∀ j (hj : j < r.length), w.cell? ⟨g, o + j, none⟩ = some (strV r[j])) (hsz : ∀ x ∈ r, x.length ≤ 1000000) :
    Calls Tryd.prog 31 #[.agg #[.string nm, .int .i64 (K : Nat), .int .i64 1, .int .i64 1], .slice (some ⟨g, o, none⟩) 1 cap] w fun e w' => e = .returned (.tuple #[.agg #[.int .i64 (K : Nat), .int .i64 0, .int .i64 (a : Nat), .int .i64 0, .int .i64 0], .bool true]) ∧ Below w.heap.size w w' := by
  have HN : Hid (∀ w', Below w.heap.size w w' → Calls Tryd.prog 55 #[.slice (some ⟨g, o, none⟩) 1 cap] w' fun e w'' => ∃ v, e = .returned v ∧ w''.ownsRow w'.heap.size 3 1 v 1 [.int .i64 (a : Nat)] ∧ Below w'.heap.size w' w'') := fun w' hb => by
    have := readNumbers_any r g o cap w' hr hcap (Nat.lt_of_lt_of_le hg hb.size) (fun j hj => (hb.cell (p := ⟨g, o + j, none⟩) hg).trans (row j hj)) hsz
    rw [leadN_all hall, hlen, hm] at this
    exact this
  clear row hsz hall hm hr hlen hcap
  go_enter Tryd.func31, Tryd.ntmps31
  go_wp2_with fail
  generalize hW : World.alloc (World.alloc w _) _ = W
  have sW : W.heap.size = w.heap.size + 2 := by rw [← hW]; simp
  have BW : Hid (Below w.heap.size w W) := by rw [← hW]; exact ((Below.refl _ _).alloc (Nat.le_refl _) _).alloc (by simp) _
  have ZW : Box5 W (w.heap.size + 1) (.int .i64 0) (.int .i64 0) (.int .i64 0) (.int .i64 0) (.int .i64 0) := by
    rw [← hW]
    have := box5_new (w.alloc (.cells #[.string nm, .int .i64 (K : Nat), .int .i64 1, .int .i64 1] 59)) (.int .i64 0) (.int .i64 0) (.int .i64 0) (.int .i64 0) (.int .i64 0) 23
    rw [show (w.alloc (.cells #[.string nm, .int .i64 (K : Nat), .int .i64 1, .int .i64 1] 59)).heap.size = w.heap.size + 1 by simp] at this
    exact this
  have FW : Fz W (w.heap.size + 1) := by
    rw [← hW]
    have := fz_new (w.alloc (.cells #[.string nm, .int .i64 (K : Nat), .int .i64 1, .int .i64 1] 59)) #[.int .i64 0, .int .i64 0, .int .i64 0, .int .i64 0, .int .i64 0] 23
    rw [show (w.alloc (.cells #[.string nm, .int .i64 (K : Nat), .int .i64 1, .int .i64 1] 59)).heap.size = w.heap.size + 1 by simp] at this
    exact this
  have c1 : W.cell? ⟨w.heap.size, 1, none⟩ = some (.int .i64 (K : Nat)) := by rw [← hW]; simp
  have c2 : W.cell? ⟨w.heap.size, 2, none⟩ = some (.int .i64 1) := by rw [← hW]; simp
  have c3 : W.cell? ⟨w.heap.size, 3, none⟩ = some (.int .i64 1) := by rw [← hW]; simp
  clear hW
  (go_at_call 55; refine (HN.out _ BW.out).mono ?_; rintro e w1 ⟨v, rfl, own1, b1⟩; have ZR := ZW.below b1 (by omega); have FR := FW.below b1 (by omega); have c1 := (b1.cell (p := ⟨w.heap.size, 1, none⟩) (by simp; omega)).trans c1; have c2 := (b1.cell (p := ⟨w.heap.size, 2, none⟩) (by simp; omega)).trans c2; have c3 := (b1.cell (p := ⟨w.heap.size, 3, none⟩) (by simp; omega)).trans c3; have B1 : Hid (Below w.heap.size w w1) := BW.out.trans (b1.mono (by omega)); have s1 : W.heap.size ≤ w1.heap.size := b1.size)
  clear b1 ZW FW
  obtain ⟨gn, cn, rfl, hcn, gnB, gnl, rown⟩ := RowAt.of_own own1 (by simp)
  have n0 : w1.cell? ⟨gn, 0, none⟩ = some (.int .i64 (a : Nat)) := (rown 0 (by simp)).1
  clear own1 rown
  have HZ0 := Lib.hid ZR
  have HF0 := Lib.hid FR
  clear ZR FR
  have hcn3 : (1 : Int) ≤ (cn : Int) := by omega
  have hw1 : w.heap.size < w1.heap.size := by omega
  have hne3 : ¬ w.heap.size = w1.heap.size := by omega
  have hne : ¬ w1.heap.size = gn := by omega
  have hne2 : ¬ gn = w1.heap.size := by omega
  have hxn : (w1.alloc (.cells #[.int .i64 0, .int .i64 0, .int .i64 0, .int .i64 0] 80)).heap[w1.heap.size]? = some (.cells ([.int .i64 0, .int .i64 0, .int .i64 0, .int .i64 0] : List Value).toArray 80 (0, 0)) := heap_alloc_new w1 _
  have HC : ∀ j u, ([.int .i64 (a : Nat)] : List Value)[j]? = some u → (w1.alloc (.cells #[.int .i64 0, .int .i64 0, .int .i64 0, .int .i64 0] 80)).cell? ((⟨gn, 0, none⟩ : Addr).add j) = some u := by
    intro j u hu
    rw [show (⟨gn, 0, none⟩ : Addr).add j = ⟨gn, j, none⟩ by unfold Addr.add; split <;> simp_all, cell_alloc_lt gnl]
    match j, hu with
    | 0, hu => simp at hu; subst hu; exact n0
  obtain ⟨W2, hrun, hc2, hB2⟩ : ∃ W2, (Builtin.copy_ #[53, 53] 3 #[.slice (some ⟨w1.heap.size, 1, none⟩) 3 3, .slice (some ⟨gn, 0, none⟩) 1 cn]).run Tryd.prog (w1.alloc (.cells #[.int .i64 0, .int .i64 0, .int .i64 0, .int .i64 0] 80)) = .ok (goInt 1) W2 ∧ W2.heap[w1.heap.size]? = some (.cells #[.int .i64 0, .int .i64 (a : Nat), .int .i64 0, .int .i64 0] 80 (0, 0)) ∧ Below w1.heap.size w1 W2 := by
    refine ⟨_, run_copy_row (P := Tryd.prog) _ _ _ _ 3 _ _ _ _ ⟨gn, 0, none⟩ _ _ #[.int .i64 0, .int .i64 0, .int .i64 0, .int .i64 0] 80 [.int .i64 (a : Nat)] Tryd.underlying53 (by kernel_rfl) hxn rfl HC (by simp) (by intro v hv; simp at hv; rcases hv with rfl <;> rfl), ?_, ?_⟩
    · exact setRow_heap _ _ _ _ _ _ hxn
    · exact below_setRow ((Below.refl _ _).alloc (Nat.le_refl _) _) (Nat.le_refl _) _
  clear hxn HC
  have m0 : W2.cell? ⟨w1.heap.size, 0, none⟩ = some (.int .i64 0) := by simp [World.cell?, hc2]
  have m1 : W2.cell? ⟨w1.heap.size, 1, none⟩ = some (.int .i64 (a : Nat)) := by simp [World.cell?, hc2]
  have m2 : W2.cell? ⟨w1.heap.size, 2, none⟩ = some (.int .i64 0) := by simp [World.cell?, hc2]
  have m3 : W2.cell? ⟨w1.heap.size, 3, none⟩ = some (.int .i64 0) := by simp [World.cell?, hc2]
  have d1 := (hB2.cell (p := ⟨w.heap.size, 1, none⟩) hw1).trans c1
  have hw11 : w.heap.size + 1 < w1.heap.size := by omega
  have ZR := HZ0.out.below hB2 hw11
  have FR := HF0.out.below hB2 hw11
  have BB : Hid (Below w.heap.size w W2) := B1.out.trans (hB2.mono (by omega))
  have HZ := Lib.hid ZR
  obtain ⟨r0, r1, r2, r3, r4⟩ := ZR
  have f0 := FR 0
  have f1 := FR 1
  have f2 := FR 2
  have f3 := FR 3
  have f4 := FR 4
  clear FR hc2 hB2
  go_wp2_with fail
  obtain ⟨q0, q1, q2, q3, q4⟩ := HZ.out.all (.int .i64 (K : Nat)) (.int .i64 0) (.int .i64 (a : Nat)) (.int .i64 0) (.int .i64 0)
  refine bodyPost_ret (v := .tuple #[.agg #[.int .i64 (K : Nat), .int .i64 0, .int .i64 (a : Nat), .int .i64 0, .int .i64 0], .bool true]) (by simp [results, Tryd.results31, go_sem, q0, q1, q2, q3, q4]) rfl ⟨rfl, ?_⟩
  exact ((((BB.out.setCell (Nat.le_succ _) _).setCell (Nat.le_succ _) _).setCell (Nat.le_succ _) _).setCell (Nat.le_succ _) _).setCell (Nat.le_succ _) _

set_option maxRecDepth 100000 in
set_option maxHeartbeats 1600000 in
theorem read_yes13 (nm : ByteArray) (K a b c : Nat) (r : List (List UInt8)) (g o cap : Nat) (w : World) (hlen : r.length = 3) (hall : allN r = true) (hm : r.map numV = [.int .i64 (a : Nat), .int .i64 (b : Nat), .int .i64 (c : Nat)]) (hr : r.length ≤ 1000) (hcap : r.length ≤ cap) (hg : g < w.heap.size) (row : ∀ j (hj : j < r.length), w.cell? ⟨g, o + j, none⟩ = some (strV r[j])) (hsz : ∀ x ∈ r, x.length ≤ 1000000) :
    Calls Tryd.prog 31 #[.agg #[.string nm, .int .i64 (K : Nat), .int .i64 1, .int .i64 3], .slice (some ⟨g, o, none⟩) 3 cap] w fun e w' => e = .returned (.tuple #[.agg #[.int .i64 (K : Nat), .int .i64 0, .int .i64 (a : Nat), .int .i64 (b : Nat), .int .i64 (c : Nat)], .bool true]) ∧ Below w.heap.size w w' := by
  have HN : Hid (∀ w', Below w.heap.size w w' → Calls Tryd.prog 55 #[.slice (some ⟨g, o, none⟩) 3 cap] w' fun e w'' => ∃ v, e = .returned v ∧ w''.ownsRow w'.heap.size 3 1 v 3 [.int .i64 (a : Nat), .int .i64 (b : Nat), .int .i64 (c : Nat)] ∧ Below w'.heap.size w' w'') := fun w' hb => by
    have := readNumbers_any r g o cap w' hr hcap (Nat.lt_of_lt_of_le hg hb.size) (fun j hj => (hb.cell (p := ⟨g, o + j, none⟩) hg).trans (row j hj)) hsz
    rw [leadN_all hall, hlen, hm] at this
    exact this
  clear row hsz hall hm hr hlen hcap
  go_enter Tryd.func31, Tryd.ntmps31
  go_wp2_with fail
  generalize hW : World.alloc (World.alloc w _) _ = W
  have sW : W.heap.size = w.heap.size + 2 := by rw [← hW]; simp
  have BW : Hid (Below w.heap.size w W) := by rw [← hW]; exact ((Below.refl _ _).alloc (Nat.le_refl _) _).alloc (by simp) _
  have ZW : Box5 W (w.heap.size + 1) (.int .i64 0) (.int .i64 0) (.int .i64 0) (.int .i64 0) (.int .i64 0) := by
    rw [← hW]
    have := box5_new (w.alloc (.cells #[.string nm, .int .i64 (K : Nat), .int .i64 1, .int .i64 3] 59)) (.int .i64 0) (.int .i64 0) (.int .i64 0) (.int .i64 0) (.int .i64 0) 23
    rw [show (w.alloc (.cells #[.string nm, .int .i64 (K : Nat), .int .i64 1, .int .i64 3] 59)).heap.size = w.heap.size + 1 by simp] at this
    exact this
  have FW : Fz W (w.heap.size + 1) := by
    rw [← hW]
    have := fz_new (w.alloc (.cells #[.string nm, .int .i64 (K : Nat), .int .i64 1, .int .i64 3] 59)) #[.int .i64 0, .int .i64 0, .int .i64 0, .int .i64 0, .int .i64 0] 23
    rw [show (w.alloc (.cells #[.string nm, .int .i64 (K : Nat), .int .i64 1, .int .i64 3] 59)).heap.size = w.heap.size + 1 by simp] at this
    exact this
  have c1 : W.cell? ⟨w.heap.size, 1, none⟩ = some (.int .i64 (K : Nat)) := by rw [← hW]; simp
  have c2 : W.cell? ⟨w.heap.size, 2, none⟩ = some (.int .i64 1) := by rw [← hW]; simp
  have c3 : W.cell? ⟨w.heap.size, 3, none⟩ = some (.int .i64 3) := by rw [← hW]; simp
  clear hW
  (go_at_call 55; refine (HN.out _ BW.out).mono ?_; rintro e w1 ⟨v, rfl, own1, b1⟩; have ZR := ZW.below b1 (by omega); have FR := FW.below b1 (by omega); have c1 := (b1.cell (p := ⟨w.heap.size, 1, none⟩) (by simp; omega)).trans c1; have c2 := (b1.cell (p := ⟨w.heap.size, 2, none⟩) (by simp; omega)).trans c2; have c3 := (b1.cell (p := ⟨w.heap.size, 3, none⟩) (by simp; omega)).trans c3; have B1 : Hid (Below w.heap.size w w1) := BW.out.trans (b1.mono (by omega)); have s1 : W.heap.size ≤ w1.heap.size := b1.size)
  clear b1 ZW FW
  obtain ⟨gn, cn, rfl, hcn, gnB, gnl, rown⟩ := RowAt.of_own own1 (by simp)
  have n0 : w1.cell? ⟨gn, 0, none⟩ = some (.int .i64 (a : Nat)) := (rown 0 (by simp)).1
  have n1 : w1.cell? ⟨gn, 1, none⟩ = some (.int .i64 (b : Nat)) := (rown 1 (by simp)).1
  have n2 : w1.cell? ⟨gn, 2, none⟩ = some (.int .i64 (c : Nat)) := (rown 2 (by simp)).1
  clear own1 rown
  have HZ0 := Lib.hid ZR
  have HF0 := Lib.hid FR
  clear ZR FR
  have hcn3 : (3 : Int) ≤ (cn : Int) := by omega
  have hw1 : w.heap.size < w1.heap.size := by omega
  have hne3 : ¬ w.heap.size = w1.heap.size := by omega
  have hne : ¬ w1.heap.size = gn := by omega
  have hne2 : ¬ gn = w1.heap.size := by omega
  have hxn : (w1.alloc (.cells #[.int .i64 0, .int .i64 0, .int .i64 0, .int .i64 0] 80)).heap[w1.heap.size]? = some (.cells ([.int .i64 0, .int .i64 0, .int .i64 0, .int .i64 0] : List Value).toArray 80 (0, 0)) := heap_alloc_new w1 _
  have HC : ∀ j u, ([.int .i64 (a : Nat), .int .i64 (b : Nat), .int .i64 (c : Nat)] : List Value)[j]? = some u → (w1.alloc (.cells #[.int .i64 0, .int .i64 0, .int .i64 0, .int .i64 0] 80)).cell? ((⟨gn, 0, none⟩ : Addr).add j) = some u := by
    intro j u hu
    rw [show (⟨gn, 0, none⟩ : Addr).add j = ⟨gn, j, none⟩ by unfold Addr.add; split <;> simp_all, cell_alloc_lt gnl]
    match j, hu with
    | 0, hu => simp at hu; subst hu; exact n0
    | 1, hu => simp at hu; subst hu; exact n1
    | 2, hu => simp at hu; subst hu; exact n2
  obtain ⟨W2, hrun, hc2, hB2⟩ : ∃ W2, (Builtin.copy_ #[53, 53] 3 #[.slice (some ⟨w1.heap.size, 1, none⟩) 3 3, .slice (some ⟨gn, 0, none⟩) 3 cn]).run Tryd.prog (w1.alloc (.cells #[.int .i64 0, .int .i64 0, .int .i64 0, .int .i64 0] 80)) = .ok (goInt 3) W2 ∧ W2.heap[w1.heap.size]? = some (.cells #[.int .i64 0, .int .i64 (a : Nat), .int .i64 (b : Nat), .int .i64 (c : Nat)] 80 (0, 0)) ∧ Below w1.heap.size w1 W2 := by
    refine ⟨_, run_copy_row (P := Tryd.prog) _ _ _ _ 3 _ _ _ _ ⟨gn, 0, none⟩ _ _ #[.int .i64 0, .int .i64 0, .int .i64 0, .int .i64 0] 80 [.int .i64 (a : Nat), .int .i64 (b : Nat), .int .i64 (c : Nat)] Tryd.underlying53 (by kernel_rfl) hxn rfl HC (by simp) (by intro v hv; simp at hv; rcases hv with rfl | rfl | rfl <;> rfl), ?_, ?_⟩
    · exact setRow_heap _ _ _ _ _ _ hxn
    · exact below_setRow ((Below.refl _ _).alloc (Nat.le_refl _) _) (Nat.le_refl _) _
  clear hxn HC
  have m0 : W2.cell? ⟨w1.heap.size, 0, none⟩ = some (.int .i64 0) := by simp [World.cell?, hc2]
  have m1 : W2.cell? ⟨w1.heap.size, 1, none⟩ = some (.int .i64 (a : Nat)) := by simp [World.cell?, hc2]
  have m2 : W2.cell? ⟨w1.heap.size, 2, none⟩ = some (.int .i64 (b : Nat)) := by simp [World.cell?, hc2]
  have m3 : W2.cell? ⟨w1.heap.size, 3, none⟩ = some (.int .i64 (c : Nat)) := by simp [World.cell?, hc2]
  have d1 := (hB2.cell (p := ⟨w.heap.size, 1, none⟩) hw1).trans c1
  have hw11 : w.heap.size + 1 < w1.heap.size := by omega
  have ZR := HZ0.out.below hB2 hw11
  have FR := HF0.out.below hB2 hw11
  have BB : Hid (Below w.heap.size w W2) := B1.out.trans (hB2.mono (by omega))
  have HZ := Lib.hid ZR
  obtain ⟨r0, r1, r2, r3, r4⟩ := ZR
  have f0 := FR 0
  have f1 := FR 1
  have f2 := FR 2
  have f3 := FR 3
  have f4 := FR 4
  clear FR hc2 hB2
  go_wp2_with fail
  obtain ⟨q0, q1, q2, q3, q4⟩ := HZ.out.all (.int .i64 (K : Nat)) (.int .i64 0) (.int .i64 (a : Nat)) (.int .i64 (b : Nat)) (.int .i64 (c : Nat))
  refine bodyPost_ret (v := .tuple #[.agg #[.int .i64 (K : Nat), .int .i64 0, .int .i64 (a : Nat), .int .i64 (b : Nat), .int .i64 (c : Nat)], .bool true]) (by simp [results, Tryd.results31, go_sem, q0, q1, q2, q3, q4]) rfl ⟨rfl, ?_⟩
  exact ((((BB.out.setCell (Nat.le_succ _) _).setCell (Nat.le_succ _) _).setCell (Nat.le_succ _) _).setCell (Nat.le_succ _) _).setCell (Nat.le_succ _) _

end Go.Proofs.YtilfpefccklebaaDoor
