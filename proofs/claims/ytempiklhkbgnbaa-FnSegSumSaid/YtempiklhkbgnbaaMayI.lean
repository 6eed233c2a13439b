/- RulMay of the program, at rules in memory and two ends: rules as closures, chained. Condition: at most 2^22 rules. -/
import Derived.Test.YtempiklhkbgnbaaRulesI
import Derived.Deep.RegionHeld3
namespace Go.Proofs.Ytempiklhkbgnbaa
open Go.RowKit

set_option maxRecDepth 100000 in
set_option maxHeartbeats 800000 in
theorem isAbout_any (al : Bool) (i it o ot p pt ia ip oa op : Int) (w : World) :
    Calls Try.prog 71 #[.agg #[.bool al, .int .i64 i, .int .i64 it, .int .i64 o, .int .i64 ot, .int .i64 p, .int .i64 pt], .agg #[.int .i64 ia, .int .i64 ip], .agg #[.int .i64 oa, .int .i64 op]] w fun e w' => e = .returned (.bool (aboutB ⟨al, i, it, o, ot, p, pt⟩ ia oa op)) ∧ Below w.heap.size w w' := by
  have HS : Hid (aboutB ⟨al, i, it, o, ot, p, pt⟩ ia oa op = (inB ia i it && inB oa o ot && inB op p pt)) := rfl
  obtain ⟨q, hq⟩ : ∃ q, q = aboutB ⟨al, i, it, o, ot, p, pt⟩ ia oa op := ⟨_, rfl⟩
  rw [← hq] at HS ⊢
  clear hq
  cases h1 : inB ia i it
  rotate_left
  cases h2 : inB oa o ot
  rotate_left
  cases h3 : inB op p pt
  rotate_left
  all_goals
    try rw [h1] at HS
    try rw [h2] at HS
    try rw [h3] at HS
    first
    | (have hq : q = true := by (have := HS.out; simpa using this)
       subst hq)
    | (have hq : q = false := by (have := HS.out; simpa using this)
       subst hq)
    clear HS
    go_enter Try.func71, Try.ntmps71
    go_wp2_with (go_at_call 35; refine (within_any _ _ _ _).mono ?_; rintro e w' ⟨rfl, rfl⟩)
    go_ret
    exact ⟨rfl, (((Below.refl _ _).alloc (Nat.le_refl _) _).alloc (by simp) _).alloc (by simp; omega) _⟩

/-- A function value that is rules, chained: the first one's closure holds the rule and the next one's. -/
def JudgeAt (w : World) : List Rl → Value → Prop
  | [], v => v = .func (.func 61) #[] #[]
  | r :: rs, v => ∃ (br bn : Nat) (u : Value), v = .func (.func 70) #[] #[.pointer (some ⟨br, 0, none⟩), .pointer (some ⟨bn, 0, none⟩)] ∧ Box7 w br (.bool r.al) (.int .i64 r.i) (.int .i64 r.it) (.int .i64 r.o) (.int .i64 r.ot) (.int .i64 r.p) (.int .i64 r.pt) ∧ w.cell? ⟨bn, 0, none⟩ = some u ∧ JudgeAt w rs u
theorem JudgeAt.below {w w' : World} (hb : Below w.heap.size w w') : ∀ (l : List Rl) (v : Value), JudgeAt w l v → JudgeAt w' l v := by
  intro l
  induction l with
  | nil => intro v h; exact h
  | cons r rs ih =>
    intro v h
    obtain ⟨br, bn, u, e, h1, h2, h3⟩ := h
    exact ⟨br, bn, u, e, h1.below hb (World.block_lt_of_cell? _ _ h1.1), (hb.cell (World.block_lt_of_cell? _ _ h2)).trans h2, ih u h3⟩
theorem JudgeAt.form {w : World} {l : List Rl} {v : Value} (h : JudgeAt w l v) : ∃ f lb, v = .func (.func f) #[] lb := by
  cases l with
  | nil => exact ⟨_, _, h⟩
  | cons r rs => obtain ⟨br, bn, u, e, _⟩ := h; exact ⟨_, _, e⟩

set_option maxRecDepth 100000 in
set_option maxHeartbeats 800000 in
theorem ahead_any (al : Bool) (i it o ot p pt : Int) (f : Nat) (lb : Array Value) (w : World) :
    Calls Try.prog 62 #[.agg #[.bool al, .int .i64 i, .int .i64 it, .int .i64 o, .int .i64 ot, .int .i64 p, .int .i64 pt], .func (.func f) #[] lb] w fun e w' => ∃ br bn, e = .returned (.func (.func 70) #[] #[.pointer (some ⟨br, 0, none⟩), .pointer (some ⟨bn, 0, none⟩)]) ∧ Box7 w' br (.bool al) (.int .i64 i) (.int .i64 it) (.int .i64 o) (.int .i64 ot) (.int .i64 p) (.int .i64 pt) ∧ w'.cell? ⟨bn, 0, none⟩ = some (.func (.func f) #[] lb) ∧ Below w.heap.size w w' := by
  have hmf : ∀ (fn : Fn) (first cap : Array Value) (w : World), (Instr.makeFunc fn first cap).run Try.prog w = .ok (.func fn first cap) w := fun _ _ _ _ => rfl
  go_enter Try.func62, Try.ntmps62
  go_wp2
  go_ret
  refine ⟨w.heap.size, w.heap.size + 1, rfl, ?_, ?_, ((Below.refl _ _).alloc (Nat.le_refl _) _).alloc (by simp) _⟩
  · exact (box7_new w _ _ _ _ _ _ _ _).below ((Below.refl _ _).alloc (Nat.le_refl _) _) (by simp)
  · simp

set_option maxRecDepth 100000 in
set_option maxHeartbeats 800000 in
theorem judgeNil_any (ia ip oa op : Int) (w : World) :
    Calls Try.prog 61 #[.agg #[.int .i64 ia, .int .i64 ip], .agg #[.int .i64 oa, .int .i64 op]] w fun e w' => e = .returned (.bool true) ∧ Below w.heap.size w w' := by
  go_enter Try.func61, Try.ntmps61
  go_wp2
  go_ret
  exact ⟨rfl, ((Below.refl _ _).alloc (Nat.le_refl _) _).alloc (by simp) _⟩

set_option maxRecDepth 100000 in
set_option maxHeartbeats 3200000 in
theorem judgeCons_any (rs : List Rl) : ∀ (r : Rl) (br bn : Nat) (u : Value) (ia ip oa op : Int) (w : World), Box7 w br (.bool r.al) (.int .i64 r.i) (.int .i64 r.it) (.int .i64 r.o) (.int .i64 r.ot) (.int .i64 r.p) (.int .i64 r.pt) → w.cell? ⟨bn, 0, none⟩ = some u → JudgeAt w rs u →
    Calls Try.prog 70 #[.agg #[.int .i64 ia, .int .i64 ip], .agg #[.int .i64 oa, .int .i64 op], .pointer (some ⟨br, 0, none⟩), .pointer (some ⟨bn, 0, none⟩)] w fun e w' => e = .returned (.bool (mayL (r :: rs) ia oa op)) ∧ Below w.heap.size w w' := by
  induction rs with
  | nil =>
    intro r br bn u ia ip oa op w hbx hbn hj
    obtain rfl : u = .func (.func 61) #[] #[] := hj
    obtain ⟨al, i, it, o, ot, p, pt⟩ := r
    have HQ : Hid (mayL [⟨al, i, it, o, ot, p, pt⟩] ia oa op = if aboutB ⟨al, i, it, o, ot, p, pt⟩ ia oa op = true then al else true) := rfl
    obtain ⟨q, hq⟩ : ∃ q, q = mayL [⟨al, i, it, o, ot, p, pt⟩] ia oa op := ⟨_, rfl⟩
    rw [← hq] at HQ ⊢
    have HM : Hid (∀ w, Calls Try.prog 71 #[.agg #[.bool al, .int .i64 i, .int .i64 it, .int .i64 o, .int .i64 ot, .int .i64 p, .int .i64 pt], .agg #[.int .i64 ia, .int .i64 ip], .agg #[.int .i64 oa, .int .i64 op]] w fun e w' => e = .returned (.bool (aboutB ⟨al, i, it, o, ot, p, pt⟩ ia oa op)) ∧ Below w.heap.size w w') := fun w => isAbout_any al i it o ot p pt ia ip oa op w
    obtain ⟨t, ht⟩ : ∃ t, t = aboutB ⟨al, i, it, o, ot, p, pt⟩ ia oa op := ⟨_, rfl⟩
    rw [← ht] at HM HQ
    clear hq ht
    have hb1 : br < w.heap.size := World.block_lt_of_cell? _ _ hbx.1
    have hb2 : bn < w.heap.size := World.block_lt_of_cell? _ _ hbn
    have A0 : ∀ x y, Below w.heap.size w ((w.alloc x).alloc y) := fun x y => ((Below.refl _ _).alloc (Nat.le_refl _) _).alloc (by simp) _
    have hbx0 : ∀ x y, Box7 ((w.alloc x).alloc y) br (.bool al) (.int .i64 i) (.int .i64 it) (.int .i64 o) (.int .i64 ot) (.int .i64 p) (.int .i64 pt) := fun x y => hbx.below (A0 x y) hb1
    have hbn0 : ∀ x y, ((w.alloc x).alloc y).cell? ⟨bn, 0, none⟩ = some (.func (.func 61) #[] #[]) := fun x y => ((A0 x y).cell (p := ⟨bn, 0, none⟩) hb2).trans hbn
    have k0 := fun x y => (hbx0 x y).1
    have k1 := fun x y => (hbx0 x y).2.1
    have k2 := fun x y => (hbx0 x y).2.2.1
    have k3 := fun x y => (hbx0 x y).2.2.2.1
    have k4 := fun x y => (hbx0 x y).2.2.2.2.1
    have k5 := fun x y => (hbx0 x y).2.2.2.2.2.1
    have k6 := fun x y => (hbx0 x y).2.2.2.2.2.2
    have HA := Lib.hid A0
    clear hbx hbx0 A0
    cases t
    all_goals
      go_enter Try.func70, Try.ntmps70
      go_wp2_with fail
      (go_at_call 71; refine (HM.out _).mono ?_; rintro e w1 ⟨rfl, b1⟩; obtain ⟨c1, f1⟩ := bcell b1; have s1 : w.heap.size + 1 < w1.heap.size := (by have := b1.size; simp at this; omega); have i0 : w1.cell? ⟨w.heap.size, 0, none⟩ = some (.int .i64 ia) := (by rw [c1 _ _ (by simp; omega), cell_alloc_lt (by simp)]; exact (cell_new w _ _ 0).1); have i1 : w1.cell? ⟨w.heap.size, 1, none⟩ = some (.int .i64 ip) := (by rw [c1 _ _ (by simp; omega), cell_alloc_lt (by simp)]; exact (cell_new w _ _ 1).1); have t0 : w1.cell? ⟨w.heap.size + 1, 0, none⟩ = some (.int .i64 oa) := (by rw [c1 _ _ (by simp)]; simp); have t1 : w1.cell? ⟨w.heap.size + 1, 1, none⟩ = some (.int .i64 op) := (by rw [c1 _ _ (by simp)]; simp); have g0 : w1.cell? ⟨br, 0, none⟩ = some (.bool al) := (by rw [c1 _ _ (by simp; omega)]; exact k0 _ _); have g1 : w1.cell? ⟨bn, 0, none⟩ = some (.func (.func 61) #[] #[]) := (by rw [c1 _ _ (by simp; omega)]; exact hbn0 _ _); have B1 : Hid (Below w.heap.size w w1) := (HA.out _ _).trans (b1.mono (by simp; omega)); clear c1 f1)
      go_wp2_with (go_at_call 61; refine (judgeNil_any ia ip oa op _).mono ?_; rintro e w2 ⟨rfl, b2⟩)
      go_ret
      first
        | exact ⟨ret_bool (by rw [HQ.out]; rfl), B1.out.trans (b2.mono (by omega))⟩
        | exact ⟨ret_bool (by rw [HQ.out]; rfl), B1.out⟩
  | cons r2 rs ih =>
    intro r br bn u ia ip oa op w hbx hbn hj
    obtain ⟨br2, bn2, u2, rfl, hbx2, hbn2, hj2⟩ := hj
    obtain ⟨al, i, it, o, ot, p, pt⟩ := r
    have HQ : Hid (mayL (⟨al, i, it, o, ot, p, pt⟩ :: r2 :: rs) ia oa op = if aboutB ⟨al, i, it, o, ot, p, pt⟩ ia oa op = true then al else mayL (r2 :: rs) ia oa op) := rfl
    obtain ⟨q, hq⟩ : ∃ q, q = mayL (⟨al, i, it, o, ot, p, pt⟩ :: r2 :: rs) ia oa op := ⟨_, rfl⟩
    rw [← hq] at HQ ⊢
    have HN : Hid (∀ W, Below w.heap.size w W → Calls Try.prog 70 #[.agg #[.int .i64 ia, .int .i64 ip], .agg #[.int .i64 oa, .int .i64 op], .pointer (some ⟨br2, 0, none⟩), .pointer (some ⟨bn2, 0, none⟩)] W fun e w' => e = .returned (.bool (mayL (r2 :: rs) ia oa op)) ∧ Below W.heap.size W w') := fun W h => ih r2 br2 bn2 u2 ia ip oa op W (hbx2.below h (World.block_lt_of_cell? _ _ hbx2.1)) ((h.cell (World.block_lt_of_cell? _ _ hbn2)).trans hbn2) (JudgeAt.below h _ _ hj2)
    have HM : Hid (∀ w, Calls Try.prog 71 #[.agg #[.bool al, .int .i64 i, .int .i64 it, .int .i64 o, .int .i64 ot, .int .i64 p, .int .i64 pt], .agg #[.int .i64 ia, .int .i64 ip], .agg #[.int .i64 oa, .int .i64 op]] w fun e w' => e = .returned (.bool (aboutB ⟨al, i, it, o, ot, p, pt⟩ ia oa op)) ∧ Below w.heap.size w w') := fun w => isAbout_any al i it o ot p pt ia ip oa op w
    obtain ⟨t, ht⟩ : ∃ t, t = aboutB ⟨al, i, it, o, ot, p, pt⟩ ia oa op := ⟨_, rfl⟩
    obtain ⟨qn, hqn⟩ : ∃ t, t = mayL (r2 :: rs) ia oa op := ⟨_, rfl⟩
    rw [← ht] at HM HQ
    rw [← hqn] at HN HQ
    clear hq ht hqn ih hbx2 hbn2 hj2
    have hb1 : br < w.heap.size := World.block_lt_of_cell? _ _ hbx.1
    have hb2 : bn < w.heap.size := World.block_lt_of_cell? _ _ hbn
    have A0 : ∀ x y, Below w.heap.size w ((w.alloc x).alloc y) := fun x y => ((Below.refl _ _).alloc (Nat.le_refl _) _).alloc (by simp) _
    have hbx0 : ∀ x y, Box7 ((w.alloc x).alloc y) br (.bool al) (.int .i64 i) (.int .i64 it) (.int .i64 o) (.int .i64 ot) (.int .i64 p) (.int .i64 pt) := fun x y => hbx.below (A0 x y) hb1
    have hbn0 : ∀ x y, ((w.alloc x).alloc y).cell? ⟨bn, 0, none⟩ = some (.func (.func 70) #[] #[.pointer (some ⟨br2, 0, none⟩), .pointer (some ⟨bn2, 0, none⟩)]) := fun x y => ((A0 x y).cell (p := ⟨bn, 0, none⟩) hb2).trans hbn
    have k0 := fun x y => (hbx0 x y).1
    have k1 := fun x y => (hbx0 x y).2.1
    have k2 := fun x y => (hbx0 x y).2.2.1
    have k3 := fun x y => (hbx0 x y).2.2.2.1
    have k4 := fun x y => (hbx0 x y).2.2.2.2.1
    have k5 := fun x y => (hbx0 x y).2.2.2.2.2.1
    have k6 := fun x y => (hbx0 x y).2.2.2.2.2.2
    have HA := Lib.hid A0
    clear hbx hbx0 A0
    cases t
    all_goals
      go_enter Try.func70, Try.ntmps70
      go_wp2_with fail
      (go_at_call 71; refine (HM.out _).mono ?_; rintro e w1 ⟨rfl, b1⟩; obtain ⟨c1, f1⟩ := bcell b1; have s1 : w.heap.size + 1 < w1.heap.size := (by have := b1.size; simp at this; omega); have i0 : w1.cell? ⟨w.heap.size, 0, none⟩ = some (.int .i64 ia) := (by rw [c1 _ _ (by simp; omega), cell_alloc_lt (by simp)]; exact (cell_new w _ _ 0).1); have i1 : w1.cell? ⟨w.heap.size, 1, none⟩ = some (.int .i64 ip) := (by rw [c1 _ _ (by simp; omega), cell_alloc_lt (by simp)]; exact (cell_new w _ _ 1).1); have t0 : w1.cell? ⟨w.heap.size + 1, 0, none⟩ = some (.int .i64 oa) := (by rw [c1 _ _ (by simp)]; simp); have t1 : w1.cell? ⟨w.heap.size + 1, 1, none⟩ = some (.int .i64 op) := (by rw [c1 _ _ (by simp)]; simp); have g0 : w1.cell? ⟨br, 0, none⟩ = some (.bool al) := (by rw [c1 _ _ (by simp; omega)]; exact k0 _ _); have g1 : w1.cell? ⟨bn, 0, none⟩ = some (.func (.func 70) #[] #[.pointer (some ⟨br2, 0, none⟩), .pointer (some ⟨bn2, 0, none⟩)]) := (by rw [c1 _ _ (by simp; omega)]; exact hbn0 _ _); have B1 : Hid (Below w.heap.size w w1) := (HA.out _ _).trans (b1.mono (by simp; omega)); clear c1 f1)
      go_wp2_with (go_at_call 70; refine (HN.out _ B1.out).mono ?_; rintro e w2 ⟨rfl, b2⟩)
      go_ret
      first
        | exact ⟨ret_bool (by rw [HQ.out]; rfl), B1.out.trans (b2.mono (by omega))⟩
        | exact ⟨ret_bool (by rw [HQ.out]; rfl), B1.out⟩

set_option maxRecDepth 100000 in
set_option maxHeartbeats 1600000 in
theorem judgeOf_any (l : List Rl) : ∀ (v : Value) (w : World), l.length ≤ 4194304 → RdRl w v l →
    Calls Try.prog 45 #[v] w fun e w' => ∃ u, e = .returned u ∧ JudgeAt w' l u ∧ Below w.heap.size w w' := by
  induction l with
  | nil =>
    intro v w _ hv
    obtain ⟨av, cv, rfl, hcv, _⟩ := hv
    have hmf : ∀ (fn : Fn) (first cap : Array Value) (w : World), (Instr.makeFunc fn first cap).run Try.prog w = .ok (.func fn first cap) w := fun _ _ _ _ => rfl
    go_enter Try.func45, Try.ntmps45
    go_wp2
    go_ret
    exact ⟨_, rfl, rfl, Below.refl _ _⟩
  | cons r rs ih =>
    intro v w hn hv
    obtain ⟨av, cv, rfl, hcv, hrv⟩ := hv
    obtain ⟨g, off, rfl, hg, hrow⟩ := hrv (by simp)
    obtain ⟨al, i, it, o, ot, p, pt⟩ := r
    obtain ⟨p0, p1, p2, p3, p4, p5, p6⟩ := rl_seven hrow 0 (by simp) al i it o ot p pt rfl
    simp only [Nat.zero_mul, Nat.add_zero] at p0 p1 p2 p3 p4 p5 p6
    have hl : (⟨al, i, it, o, ot, p, pt⟩ :: rs : List Rl).length = rs.length + 1 := rfl
    rw [hl] at hcv hn ⊢
    have HT : Hid (∀ W, Below w.heap.size w W → RdRl W (.slice (if cv = 1 then some ⟨g, off, none⟩ else some ⟨g, off + 7, none⟩) rs.length (cv - 1)) rs) := fun W hW => by
      refine ⟨_, _, rfl, by omega, fun h0 => ⟨g, off + 7, if_neg (by omega), Nat.lt_of_lt_of_le hg hW.size, fun j hj k u hu => ?_⟩⟩
      have := hrow (j + 1) (by simp; omega) k u (by simpa using hu)
      rw [show off + 7 + (j * 7 + k) = off + ((j + 1) * 7 + k) by omega]
      exact (hW.cell (p := ⟨g, off + ((j + 1) * 7 + k), none⟩) hg).trans this
    have HI : Hid (∀ v W, RdRl W v rs → Calls Try.prog 45 #[v] W fun e w' => ∃ u, e = .returned u ∧ JudgeAt w' rs u ∧ Below W.heap.size W w') := fun v W h => ih v W (by omega) h
    clear hrow hrv ih hl
    have hlen : ((rs.length + 1 : Nat) : Int) = (rs.length : Int) + 1 := by omega
    have hp1 : (0 : Int) < (rs.length : Int) + 1 := by omega
    have hp2 : (1 : Int) ≤ (rs.length : Int) + 1 := by omega
    have hp3 : (rs.length : Int) + 1 ≤ (cv : Int) := by omega
    have hp4 : (1 : Int) ≤ (cv : Int) := by omega
    have hp5 : (0 : Int) ≤ (rs.length : Int) := by omega
    by_cases hc1 : cv = 1
    · subst hc1
      rw [if_pos rfl] at HT
      obtain rfl : rs = [] := List.eq_nil_of_length_eq_zero (by omega)
      clear hcv hlen hp1 hp2 hp3 hp4 hp5
      go_enter Try.func45, Try.ntmps45
      go_wp2_with fail
      go_region_with (first
        | (go_at_call 45; refine (HI.out _ _ (by first | exact HT.out _ (Below.refl _ _) | exact HT.out _ (Below.refl _ _).drew | (trace_state; fail))).mono ?_; rintro e w1 ⟨u, rfl, hju, b1⟩; have BB : Hid (Below w.heap.size w w1) := (by first | exact ((Below.refl _ _).drew).trans b1 | exact b1); obtain ⟨f, lb, rfl⟩ := hju.form; have HJ := Lib.hid hju; have q0 := (BB.out.cell (p := ⟨g, off, none⟩) hg).trans p0; have q1 := (BB.out.cell (p := ⟨g, off + 1, none⟩) hg).trans p1; have q2 := (BB.out.cell (p := ⟨g, off + 2, none⟩) hg).trans p2; have q3 := (BB.out.cell (p := ⟨g, off + 3, none⟩) hg).trans p3; have q4 := (BB.out.cell (p := ⟨g, off + 4, none⟩) hg).trans p4; have q5 := (BB.out.cell (p := ⟨g, off + 5, none⟩) hg).trans p5; have q6 := (BB.out.cell (p := ⟨g, off + 6, none⟩) hg).trans p6; clear b1 hju)
        | (go_at_call 62; refine (ahead_any al i it o ot p pt _ _ _).mono ?_; rintro e w2 ⟨br, bn, rfl, hbx, hbn, b2⟩))
      all_goals
        go_wp2
        go_ret
        exact ⟨_, rfl, ⟨br, bn, _, rfl, hbx, hbn, HJ.out.below b2 _ _⟩, BB.out.trans (b2.mono BB.out.size)⟩
    · rw [if_neg hc1] at HT
      go_enter Try.func45, Try.ntmps45
      go_wp2_with fail
      go_region_with (first
        | (go_at_call 45; refine (HI.out _ _ (by first | exact HT.out _ (Below.refl _ _) | exact HT.out _ (Below.refl _ _).drew | (trace_state; fail))).mono ?_; rintro e w1 ⟨u, rfl, hju, b1⟩; have BB : Hid (Below w.heap.size w w1) := (by first | exact ((Below.refl _ _).drew).trans b1 | exact b1); obtain ⟨f, lb, rfl⟩ := hju.form; have HJ := Lib.hid hju; have q0 := (BB.out.cell (p := ⟨g, off, none⟩) hg).trans p0; have q1 := (BB.out.cell (p := ⟨g, off + 1, none⟩) hg).trans p1; have q2 := (BB.out.cell (p := ⟨g, off + 2, none⟩) hg).trans p2; have q3 := (BB.out.cell (p := ⟨g, off + 3, none⟩) hg).trans p3; have q4 := (BB.out.cell (p := ⟨g, off + 4, none⟩) hg).trans p4; have q5 := (BB.out.cell (p := ⟨g, off + 5, none⟩) hg).trans p5; have q6 := (BB.out.cell (p := ⟨g, off + 6, none⟩) hg).trans p6; clear b1 hju)
        | (go_at_call 62; refine (ahead_any al i it o ot p pt _ _ _).mono ?_; rintro e w2 ⟨br, bn, rfl, hbx, hbn, b2⟩))
      all_goals
        go_wp2
        go_ret
        exact ⟨_, rfl, ⟨br, bn, _, rfl, hbx, hbn, HJ.out.below b2 _ _⟩, BB.out.trans (b2.mono BB.out.size)⟩

end Go.Proofs.Ytempiklhkbgnbaa
