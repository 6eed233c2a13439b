/- l3Copy, MapPort and l3Put of the specification; l3Put where the end has a port or there is no room. Condition: the table has at most 2^22 ends. -/
import Derived.Test.YtgjhfmlncibpmaaGreatDoorOwnEnds
import Derived.Test.YtgjhfmlncibpmaaGreatDoorSMap
import Derived.Laws.AppendOwnNone
import Derived.Deep.RegionHeld3
import Derived.Deep.AppendLies
import Derived.Deep.RegionLaw
import Derived.Deep.DeepCutAuto
namespace Go.Proofs.YtgjhfmlncibpmaaGreatDoor
open Go.RowKit Go.Sort

theorem own_someform {w : World} {base : Nat} {e : TypeId} {size : Nat} {v : Value} {n : Nat} {xs : List Value} (h : w.ownsRow base e size v n xs) (hne : v ≠ .slice none 0 0) : ∃ g cap, v = .slice (some ⟨g, 0, none⟩) n cap ∧ base ≤ g := by
  rcases h.2 with ⟨h0, _⟩ | ⟨g, cap, _, hv, hb, _⟩
  · exact absurd h0 hne
  · exact ⟨g, cap, hv, hb⟩

set_option maxRecDepth 100000 in
set_option maxHeartbeats 800000 in
theorem specPort_any (v : Value) (es : List (Int × Int)) (a p : Int) (w : World) (hn : es.length ≤ 4194304) (ht : TabAt w v es) :
    Calls Tryz.prog 87 #[.agg #[v], .agg #[.int .i64 a, .int .i64 p]] w fun e w' => e = .returned (.int .i64 (portI es (a, p))) ∧ Below w.heap.size w w' := by
  have HT := Lib.hid ht
  obtain ⟨ad, cap, rfl, hcap, hr⟩ := ht
  obtain ⟨f0, f1⟩ := findI_bounds es (a, p)
  have f2 : findI es (a, p) < 4194304 := by omega
  obtain ⟨k, hk⟩ : ∃ k, k = findI es (a, p) := ⟨_, rfl⟩
  have HF : Hid (∀ w, TabAt w (.slice ad es.length cap) es → Calls Tryz.prog 34 #[.agg #[.slice ad es.length cap], .agg #[.int .i64 a, .int .i64 p]] w fun e w' => e = .returned (.int .i64 k) ∧ Below w.heap.size w w') := fun w h => by rw [hk]; exact specFind_any _ es a p w hn h
  rw [← hk] at f0 f2
  have HP : Hid (portI es (a, p) = if k < 0 then 0 else 500 + k) := by show portI es (a, p) = _; rw [hk]; rfl
  clear hk f1 hr
  by_cases hneg : k < 0
  all_goals
    go_enter Tryz.func87, Tryz.ntmps87
    go_wp2_with (go_at_call 34; refine (HF.out _ (HT.out.below (((Below.refl _ _).alloc (Nat.le_refl _) _).alloc (by simp) _))).mono ?_; rintro e w1 ⟨rfl, b1⟩)
    go_ret
    refine ⟨ret_int ?_, (((Below.refl _ _).alloc (Nat.le_refl _) _).alloc (by simp) _).trans (b1.mono (by simp; omega))⟩
    rw [HP.out]
    first | rw [if_pos (by omega)] | rw [if_neg (by omega)]

set_option maxRecDepth 100000 in
set_option maxHeartbeats 1600000 in
/-- l3Put where the end has a port: the table as it is. -/
theorem specPut_has (ad : Addr) (cap : Nat) (es : List (Int × Int)) (a p : Int) (w : World) (hn : es.length ≤ 4194304) (ht : TabAt w (.slice (some ad) es.length cap) es) (hp : 0 < portI es (a, p)) :
    Calls Tryz.prog 74 #[.agg #[.slice (some ad) es.length cap], .agg #[.int .i64 a, .int .i64 p]] w fun e w' => e = .returned (.tuple #[.agg #[.slice (some ad) es.length cap], .int .i64 (portI es (a, p))]) ∧ Below w.heap.size w w' := by
  have HT := Lib.hid ht
  obtain ⟨k, hk⟩ : ∃ k, k = portI es (a, p) := ⟨_, rfl⟩
  have HP : Hid (∀ w, TabAt w (.slice (some ad) es.length cap) es → Calls Tryz.prog 87 #[.agg #[.slice (some ad) es.length cap], .agg #[.int .i64 a, .int .i64 p]] w fun e w' => e = .returned (.int .i64 k) ∧ Below w.heap.size w w') := fun w h => by rw [hk]; exact specPort_any _ es a p w hn h
  rw [← hk] at hp ⊢
  clear ht hk
  go_enter Tryz.func74, Tryz.ntmps74
  go_wp2_with (go_at_call 87; refine (HP.out _ (HT.out.below ((((Below.refl _ _).alloc (Nat.le_refl _) _).alloc (by simp) _).alloc (by simp; omega) _))).mono ?_; rintro e w1 ⟨rfl, b1⟩; obtain ⟨cA, cB, cC, b01, z1⟩ := cell_three b1; have a0 := (cA 0).1; have r0 := (cC 0).1; have g0 := (cC 0).2; simp at a0 r0)
  refine bodyPost_ret (v := .tuple #[.agg #[.slice (some ad) es.length cap], .int .i64 k]) (by simp [results, Tryz.results74, go_sem, World.cell?_setCell_same _ _ _ r0]) rfl ⟨rfl, ?_⟩
  exact b01.setCell (by simp; omega) _

set_option maxRecDepth 100000 in
set_option maxHeartbeats 1600000 in
/-- l3Put where there is no room: the table as it is, and 0. -/
theorem specPut_full (ad : Addr) (cap : Nat) (es : List (Int × Int)) (a p : Int) (w : World) (hn : es.length ≤ 4194304) (ht : TabAt w (.slice (some ad) es.length cap) es) (hp : portI es (a, p) = 0) (h6 : es.length = 6) :
    Calls Tryz.prog 74 #[.agg #[.slice (some ad) es.length cap], .agg #[.int .i64 a, .int .i64 p]] w fun e w' => e = .returned (.tuple #[.agg #[.slice (some ad) es.length cap], .int .i64 0]) ∧ Below w.heap.size w w' := by
  have HT := Lib.hid ht
  have HP : Hid (∀ w, TabAt w (.slice (some ad) es.length cap) es → Calls Tryz.prog 87 #[.agg #[.slice (some ad) es.length cap], .agg #[.int .i64 a, .int .i64 p]] w fun e w' => e = .returned (.int .i64 0) ∧ Below w.heap.size w w') := fun w h => by rw [← hp]; exact specPort_any _ es a p w hn h
  have h6' : ((es.length : Int) == 6) = true := by simp; omega
  clear ht hp h6
  go_enter Tryz.func74, Tryz.ntmps74
  go_wp2_with (go_at_call 87; refine (HP.out _ (HT.out.below ((((Below.refl _ _).alloc (Nat.le_refl _) _).alloc (by simp) _).alloc (by simp; omega) _))).mono ?_; rintro e w1 ⟨rfl, b1⟩; obtain ⟨cA, cB, cC, b01, z1⟩ := cell_three b1; have a0 := (cA 0).1; have r0 := (cC 0).1; have g0 := (cC 0).2; simp at a0 r0)
  refine bodyPost_ret (v := .tuple #[.agg #[.slice (some ad) es.length cap], .int .i64 0]) (by simp [results, Tryz.results74, go_sem, World.cell?_setCell_same _ _ _ r0]) rfl ⟨rfl, ?_⟩
  exact b01.setCell (by simp; omega) _

end Go.Proofs.YtgjhfmlncibpmaaGreatDoor
