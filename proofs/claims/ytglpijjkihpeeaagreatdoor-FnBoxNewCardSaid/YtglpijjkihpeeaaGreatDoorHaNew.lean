/- How the laws compare two lists of rules, and two boxes that know nothing yet: of the same rules they say that they are the same. That BoxOk takes such a box. Condition: at most 2^22 rules. -/
import Derived.Test.YtglpijjkihpeeaaGreatDoorRulLaw
import Derived.Test.YtglpijjkihpeeaaGreatDoorHaEnds
import Derived.Test.YtglpijjkihpeeaaGreatDoorRulesI
import Derived.Test.YtglpijjkihpeeaaGreatDoorIMapO
import Derived.BigQuiet
namespace Go.Proofs.YtglpijjkihpeeaaGreatDoor
open Go.RowKit

set_option maxRecDepth 100000 in
set_option maxHeartbeats 1600000 in
theorem haRules_same (l : List Rl) (v1 v2 : Value) (w : World) (hn : l.length ≤ 4194304) (h1 : RdRl w v1 l) (h2 : RdRl w v2 l) :
    Calls Tryz.prog 13 #[v1, v2] w fun e w' => e = .returned (.bool true) ∧ Below w.heap.size w w' := by
  obtain ⟨av, cv, rfl, hcv, hrv⟩ := h1
  obtain ⟨au, cu, rfl, hcu, hru⟩ := h2
  have HV := Lib.hid hrv
  have HU := Lib.hid hru
  clear hrv hru
  go_enter Tryz.func13, Tryz.ntmps13
  go_wp2
  go_loopw [5] (fun i wr => ∃ k : Nat, k ≤ l.length ∧ i = .int .i64 k ∧ Below w.heap.size w wr) (fun i _ => l.length - (intOf i).toNat)
  case atStart => exact ⟨0, Nat.zero_le _, rfl, Below.refl _ _⟩
  case round =>
    obtain ⟨k, hk, rfl, hb⟩ := hrel
    by_cases hlt : k < l.length
    · obtain ⟨g1, o1, rfl, hg1, hr1⟩ := HV.out (by omega)
      obtain ⟨g2, o2, rfl, hg2, hr2⟩ := HU.out (by omega)
      obtain ⟨⟨al, a, b, c, d, e, f⟩, hap⟩ : ∃ x, x = l[k] := ⟨_, rfl⟩
      obtain ⟨p0, p1, p2, p3, p4, p5, p6⟩ := rl_seven hr1 k hlt al a b c d e f hap
      obtain ⟨s0, s1, s2, s3, s4, s5, s6⟩ := rl_seven hr2 k hlt al a b c d e f hap
      rw [← hb.cell (by exact hg1)] at p0 p1 p2 p3 p4 p5 p6
      rw [← hb.cell (by exact hg2)] at s0 s1 s2 s3 s4 s5 s6
      have hk1 : (k : Int) ≤ (cv : Int) := by omega
      have hk2 : (k : Int) ≤ (cu : Int) := by omega
      have hk3 : (k : Int) < (l.length : Int) := by omega
      have HB := Lib.hid hb
      clear hr1 hr2 hap HV HU hb
      go_wp2_with fail
      go_quiet (fail)
      go_wp2
      go_roundw
      case rel => exact ⟨k + 1, by omega, by go_num, HB.out.trans ⟨rfl, rfl, rfl, Nat.le_refl _, fun _ _ => rfl⟩⟩
      case measure => simp [intOf]; omega
    · go_wp2
      go_ret
      exact ⟨rfl, hb⟩

theorem tab_nil (w : World) : TabAt w (.slice none 0 0) [] := ⟨none, 0, rfl, ⟨Nat.le_refl _, fun _ => rfl⟩, fun h => absurd h (Nat.lt_irrefl _)⟩
theorem new_boxes (w : World) (v1 v2 : Value) (t : TypeId) :
    let W := (w.alloc (.cells #[v1, .slice none 0 0, .slice none 0 0] t)).alloc (.cells #[v2, .slice none 0 0, .slice none 0 0] t)
    ∀ w', Below W.heap.size W w' → w'.cell? ⟨w.heap.size, 0, none⟩ = some v1 ∧ w'.cell? ⟨w.heap.size, 1, none⟩ = some (.slice none 0 0) ∧ w'.cell? ⟨w.heap.size, 2, none⟩ = some (.slice none 0 0) ∧ w'.cell? ⟨w.heap.size + 1, 0, none⟩ = some v2 ∧ w'.cell? ⟨w.heap.size + 1, 1, none⟩ = some (.slice none 0 0) ∧ w'.cell? ⟨w.heap.size + 1, 2, none⟩ = some (.slice none 0 0) := by
  intro W w' hb
  have hz : W.heap.size = w.heap.size + 2 := by simp [W]
  refine ⟨?_, ?_, ?_, ?_, ?_, ?_⟩ <;> rw [hb.cell (by simp [hz])] <;> simp [W]

set_option maxRecDepth 100000 in
set_option maxHeartbeats 1600000 in
theorem haBox_new (l : List Rl) (v1 v2 : Value) (w : World) (hn : l.length ≤ 4194304) (h1 : RdRl w v1 l) (h2 : RdRl w v2 l) :
    Calls Tryz.prog 8 #[.agg #[v1, .slice none 0 0, .slice none 0 0], .agg #[v2, .slice none 0 0, .slice none 0 0]] w fun e w' => e = .returned (.bool true) ∧ Below w.heap.size w w' := by
  have HE : Hid (∀ w, Calls Tryz.prog 42 #[.slice none 0 0, .slice none 0 0] w fun e w' => e = .returned (.bool true) ∧ Below w.heap.size w w') := fun w => haEnds_same [] _ _ w (by simp) (tab_nil w) (tab_nil w)
  have hA : Below w.heap.size w ((w.alloc (.cells #[v1, .slice none 0 0, .slice none 0 0] 30)).alloc (.cells #[v2, .slice none 0 0, .slice none 0 0] 30)) := ((Below.refl _ _).alloc (Nat.le_refl _) _).alloc (by simp) _
  obtain ⟨W0, hW0⟩ : ∃ W, W = (w.alloc (.cells #[v1, .slice none 0 0, .slice none 0 0] 30)).alloc (.cells #[v2, .slice none 0 0, .slice none 0 0] 30) := ⟨_, rfl⟩
  have HK := Lib.hid (new_boxes w v1 v2 30)
  rw [← hW0] at hA
  simp only [← hW0] at HK
  have HR : Hid (∀ w', Below W0.heap.size W0 w' → Calls Tryz.prog 13 #[v1, v2] w' fun e w'' => e = .returned (.bool true) ∧ Below w'.heap.size w' w'') := fun w' hb => by
    have := hA.trans (hb.mono hA.size)
    exact haRules_same l v1 v2 w' hn (h1.below this) (h2.below this)
  have HA := Lib.hid hA
  obtain ⟨x0, x1, x2, y0, y1, y2⟩ := HK.out _ (Below.refl _ _)
  clear hA h1 h2
  subst hW0
  go_enter Tryz.func8, Tryz.ntmps8
  go_wp2_with fail
  (go_at_call 42; refine (HE.out _).mono ?_; rintro e w1 ⟨rfl, b1⟩)
  have C1 := Lib.hid b1
  clear x0 x1 x2 y0 y1 y2
  obtain ⟨x0, x1, x2, y0, y1, y2⟩ := HK.out _ b1
  clear b1
  go_wp2_with fail
  (go_at_call 13; refine (HR.out _ C1.out).mono ?_; rintro e w2 ⟨rfl, b2⟩)
  have C2 := Lib.hid (C1.out.trans (b2.mono C1.out.size))
  clear x0 x1 x2 y0 y1 y2 b2
  obtain ⟨x0, x1, x2, y0, y1, y2⟩ := HK.out _ C2.out
  go_wp2_with fail
  go_loopw [5] (fun i wr => i = .int .i64 0 ∧ wr = w2) (fun _ _ => 0)
  case atStart => exact ⟨rfl, rfl⟩
  case round =>
    obtain ⟨rfl, hwr⟩ := hrel
    have h9 := hwr.symm
    clear hwr
    subst h9
    go_wp2_with fail
    go_ret
    exact ⟨rfl, HA.out.trans (C2.out.mono HA.out.size)⟩

set_option maxRecDepth 100000 in
set_option maxHeartbeats 1600000 in
/-- A box that begins with rules that are ok is one. -/
theorem implBoxOk_new (l : List Rl) (v : Value) (w : World) (hn : l.length ≤ 4194304) (h : RdRl w v l) (hr : rulesB l = true) :
    Calls Tryz.prog 12 #[.agg #[v, .slice none 0 0, .slice none 0 0]] w fun e w' => e = .returned (.bool true) ∧ Below w.heap.size w w' := by
  obtain ⟨W0, hW0⟩ : ∃ W, W = w.alloc (.cells #[v, .slice none 0 0, .slice none 0 0] 30) := ⟨_, rfl⟩
  have hA : Below w.heap.size w W0 := by rw [hW0]; exact (Below.refl _ _).alloc (Nat.le_refl _) _
  have HK : Hid (∀ w', Below W0.heap.size W0 w' → w'.cell? ⟨w.heap.size, 0, none⟩ = some v ∧ w'.cell? ⟨w.heap.size, 1, none⟩ = some (.slice none 0 0) ∧ w'.cell? ⟨w.heap.size, 2, none⟩ = some (.slice none 0 0)) := fun w' hb => by
    have hz : W0.heap.size = w.heap.size + 1 := by rw [hW0]; simp
    refine ⟨?_, ?_, ?_⟩ <;> rw [hb.cell (by simp [hz])] <;> rw [hW0] <;> simp
  have HR : Hid (∀ w', Below W0.heap.size W0 w' → Calls Tryz.prog 40 #[v] w' fun e w'' => e = .returned (.bool true) ∧ Below w'.heap.size w' w'') := fun w' hb => by
    have := implRules_any v l w' hn (h.below (hA.trans (hb.mono hA.size)))
    rwa [hr] at this
  have HM : Hid (∀ w', Calls Tryz.prog 46 #[.agg #[.slice none 0 0]] w' fun e w'' => e = .returned (.bool true) ∧ Below w'.heap.size w' w'') := fun w' =>
    implMapOk_any (.slice none 0 0) [] w' (by simp) (fun x hx => by cases hx) (tab_nil w')
  have HA := Lib.hid hA
  obtain ⟨x0, x1, x2⟩ := HK.out _ (Below.refl _ _)
  clear hA h
  subst hW0
  go_enter Tryz.func12, Tryz.ntmps12
  go_wp2_with fail
  (go_at_call 40; refine (HR.out _ (Below.refl _ _)).mono ?_; rintro e w1 ⟨rfl, b1⟩)
  have C1 := Lib.hid b1
  clear x0 x1 x2
  obtain ⟨x0, x1, x2⟩ := HK.out _ b1
  clear b1
  go_wp2_with fail
  (go_at_call 46; refine (HM.out _).mono ?_; rintro e w2 ⟨rfl, b2⟩)
  have C2 := Lib.hid (C1.out.trans (b2.mono C1.out.size))
  clear x0 x1 x2 b2
  obtain ⟨x0, x1, x2⟩ := HK.out _ C2.out
  go_wp2_with fail
  go_loopw [24] (fun i wr => i = .int .i64 0 ∧ wr = w2) (fun _ _ => 0)
  case atStart => exact ⟨rfl, rfl⟩
  case round =>
    obtain ⟨rfl, hwr⟩ := hrel
    have h9 := hwr.symm
    clear hwr
    subst h9
    go_wp2_with fail
    go_ret
    exact ⟨rfl, HA.out.trans (C2.out.mono HA.out.size)⟩

end Go.Proofs.YtglpijjkihpeeaaGreatDoor
