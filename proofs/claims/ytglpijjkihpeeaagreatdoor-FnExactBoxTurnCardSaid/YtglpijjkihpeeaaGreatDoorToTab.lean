/- The laws' own tables: how an argument becomes one of the program's, in new memory. Condition: at most 2^22 ends. -/
import Derived.Test.YtglpijjkihpeeaaGreatDoorLawTab
import Derived.Test.YtglpijjkihpeeaaGreatDoorOwnEnds
import Derived.Test.YtglpijjkihpeeaaGreatDoorToEnd
import Derived.OwnWalk
import Derived.Deep.RegionHeld
namespace Go.Proofs.YtglpijjkihpeeaaGreatDoor
open Go.RowKit Go.Sort

/-- m cells that may be written. -/
def Room (w : World) (g m : Nat) : Prop := ∀ i, i < m → (∃ u, w.cell? ⟨g, i, none⟩ = some u) ∧ w.frozen? ⟨g, i, none⟩ = false
theorem Room.below {w w' : World} {B g m : Nat} (h : Room w g m) (hb : Below B w w') (hg : g < B) : Room w' g m :=
  fun i hi => ⟨by rw [hb.cell (p := ⟨g, i, none⟩) hg]; exact (h i hi).1, (hb.frozen (p := ⟨g, i, none⟩) hg).trans (h i hi).2⟩
theorem Room.set {w : World} {g m j : Nat} (h : Room w g m) (hj : j < m) (u : Value) : Room (w.setCell ⟨g, j, none⟩ u) g m := by
  intro i hi
  refine ⟨?_, by rw [World.frozen?_setCell]; exact (h i hi).2⟩
  by_cases e : j = i
  · subst e
    obtain ⟨x, hx⟩ := (h j hj).1
    exact ⟨u, World.cell?_setCell_same _ _ _ hx⟩
  · obtain ⟨x, hx⟩ := (h i hi).1
    exact ⟨x, by rw [World.cell?_setCell_other _ _ _ u (by intro q; injection q with _ q2; exact e q2)]; exact hx⟩
theorem own_room {w : World} {B g n cap : Nat} {e : TypeId} {size : Nat} {xs : List Value} (h : w.ownsRow B e size (.slice (some ⟨g, 0, none⟩) n cap) n xs) : Room w g (n * size) ∧ B ≤ g ∧ g < w.heap.size := by
  rcases h.2 with ⟨h0, _⟩ | ⟨g', cap', cur, hv, hB, hg, h2, _, hs, ht⟩
  · cases h0
  · simp at hv
    obtain ⟨rfl, rfl⟩ := hv
    have hlt := (Array.getElem?_eq_some_iff.1 hg).1
    refine ⟨fun i hi => ⟨?_, by simp [World.frozen?, hg]⟩, hB, hlt⟩
    have hi' : i < cur.size := by rw [hs]; exact Nat.lt_of_lt_of_le hi (Nat.mul_le_mul_right _ h2)
    exact ⟨cur[i], by simp [World.cell?, hg, hi']⟩
/-- A table in cells that may be written. -/
def TabRoom (w : World) (B : Nat) (v : Value) (es : List (Int × Int)) : Prop := ∃ g cap, v = .slice (some ⟨g, 0, none⟩) es.length cap ∧ es.length ≤ cap ∧ B ≤ g ∧ g < w.heap.size ∧ EndsAt w g es ∧ Room w g (es.length * 2)
theorem TabRoom.tab {w : World} {B : Nat} {v : Value} {es : List (Int × Int)} (h : TabRoom w B v es) : TabAt w v es := by
  obtain ⟨g, cap, rfl, h1, _, _, h2, _⟩ := h
  exact ⟨_, cap, rfl, ⟨h1, by simp⟩, fun _ => ⟨g, rfl, h2⟩⟩

theorem addrs_ne {g i j : Nat} (h : i ≠ j) : (⟨g, i, none⟩ : Addr) ≠ ⟨g, j, none⟩ := by intro e; injection e with _ e2; exact h e2
/-- One end more is written. -/
theorem EndsAt.push {w : World} {g m k : Nat} {es fs : List (Int × Int)} {a p : Int} (hf : fs.length = k + 1) (ht : fs.take k = es.take k) (hk : k ≤ es.length) (hap : ∀ h : k < fs.length, (a, p) = fs[k]) (he : EndsAt w g (es.take k)) (hr : Room w g m) (hm : k * 2 + 1 < m) :
    EndsAt ((w.setCell ⟨g, k * 2, none⟩ (.int .i64 a)).setCell ⟨g, k * 2 + 1, none⟩ (.int .i64 p)) g fs := by
  intro i hi
  obtain ⟨x0, h0⟩ := (hr (k * 2) (by omega)).1
  obtain ⟨x1, h1⟩ := (hr (k * 2 + 1) (by omega)).1
  have h1' : (w.setCell ⟨g, k * 2, none⟩ (.int .i64 a)).cell? ⟨g, k * 2 + 1, none⟩ = some x1 := by rw [World.cell?_setCell_other _ _ _ _ (addrs_ne (by omega))]; exact h1
  by_cases e : i = k
  · subst e
    have hq := hap hi
    rw [← hq]
    refine ⟨?_, World.cell?_setCell_same _ _ _ h1'⟩
    rw [World.cell?_setCell_other _ _ _ _ (addrs_ne (by omega))]
    exact World.cell?_setCell_same _ _ _ h0
  · have hik : i < k := by omega
    have hg := he i (by simp; omega)
    have hq : fs[i] = (es.take k)[i]'(by simp; omega) := by
      have h2 : (fs.take k)[i]? = (es.take k)[i]? := by rw [ht]
      rw [List.getElem?_take_of_lt hik, List.getElem?_eq_getElem hi, List.getElem?_eq_getElem (by simp; omega)] at h2
      exact Option.some.inj h2
    rw [hq]
    refine ⟨?_, ?_⟩
    · rw [World.cell?_setCell_other _ _ _ _ (addrs_ne (by omega)), World.cell?_setCell_other _ _ _ _ (addrs_ne (by omega))]; exact hg.1
    · rw [World.cell?_setCell_other _ _ _ _ (addrs_ne (by omega)), World.cell?_setCell_other _ _ _ _ (addrs_ne (by omega))]; exact hg.2

set_option maxRecDepth 100000 in
set_option maxHeartbeats 800000 in
theorem toEnds_any (v : Value) (es : List (Int × Int)) (w : World) (hn : es.length ≤ 4194304) (ht : TabAt w v es) :
    Calls Tryz.prog 114 #[v] w fun e w' => ∃ u, e = .returned u ∧ TabRoom w' w.heap.size u es ∧ Below w.heap.size w w' := by
  obtain ⟨ad, cap, rfl, hcap, hr⟩ := ht
  obtain ⟨i0, hi, hz0, hz1, hz2⟩ := info_parts infoEnd
  have HR := Lib.hid hr
  clear hr
  go_enter Tryz.func114, Tryz.ntmps114
  go_wp2_with (at_make; refine wpList_make_full _ rfl (.tmp 6) (.tmp 6) 25 rfl w.heap.size 53 i0 (.agg #[.int .i64 0, .int .i64 0]) 2 (by rfl) hi hz0 hz1 .i64 .i64 (es.length : Int) (es.length : Int) es.length (by rfl) (by rfl) rfl rfl (by rw [hz2]; omega) (by unfold maxLen; omega) (Nat.le_refl _) ?_; intro w1 hown hgrow)
  have R1 : Hid (Room w1 w.heap.size (es.length * 2) ∧ w.heap.size ≤ w.heap.size ∧ w.heap.size < w1.heap.size) := own_room hown
  have B1 : Hid (Below w.heap.size w w1) := (Below.refl _ _).grown hgrow (Nat.le_refl _) (fun k hk => by cases hk)
  clear hown hgrow
  go_loopw [4] (fun i wr => ∃ k : Nat, k ≤ es.length ∧ i = .int .i64 k ∧ EndsAt wr w.heap.size (es.take k) ∧ Room wr w.heap.size (es.length * 2) ∧ Below w.heap.size w wr ∧ w.heap.size < wr.heap.size) (fun i _ => es.length - (intOf i).toNat)
  case atStart => exact ⟨0, Nat.zero_le _, rfl, fun i hi => by simp at hi, R1.out.1, B1.out, R1.out.2.2⟩
  case round =>
    obtain ⟨k, hk, rfl, he, hro, hb, hsz⟩ := hrel
    have HE := Lib.hid he
    have HO := Lib.hid hro
    clear he hro
    by_cases hlt : k < es.length
    · obtain ⟨g, rfl, hrow⟩ := HR.out (by omega)
      obtain ⟨r0, r1⟩ := (hrow.below hb (hrow.lt (by omega))) k hlt
      obtain ⟨⟨a, p⟩, hap⟩ : ∃ x, x = es[k] := ⟨_, rfl⟩
      rw [← hap] at r0 r1
      simp only at r0 r1
      have HA := Lib.hid hap
      have hk2 : (k : Int) ≤ (cap : Int) := by have := hcap.1; omega
      clear hrow hap
      go_wp2_with (go_at_call 28; refine (toEnd_any a p _).mono ?_; rintro e w2 ⟨rfl, b2⟩; have hr2 := HO.out.below b2 hsz; obtain ⟨x0, hx0⟩ := (hr2 (k * 2) (by omega)).1; have f0 := (hr2 (k * 2) (by omega)).2; obtain ⟨x1, hx1⟩ := (hr2 (k * 2 + 1) (by omega)).1; have f1 := (hr2 (k * 2 + 1) (by omega)).2)
      go_roundw
      case rel =>
        refine ⟨k + 1, by omega, by go_num, EndsAt.push (es := es) (m := es.length * 2) (by simp; omega) (by rw [List.take_take, Nat.min_eq_left (by omega)]) hk (fun h => by rw [HA.out]; simp) (HE.out.below b2 hsz) hr2 (by omega), (hr2.set (by omega) _).set (by omega) _, ?_, ?_⟩
        · exact ((hb.trans (b2.mono (by omega))).setCell (by simp) _).setCell (by simp) _
        · have := b2.size; simp; omega
      case measure => simp [intOf]; omega
    · have hkn : k = es.length := by omega
      subst hkn
      go_wp2
      go_ret
      refine ⟨_, rfl, ⟨w.heap.size, es.length, rfl, Nat.le_refl _, Nat.le_refl _, hsz, by simpa using HE.out, HO.out⟩, hb⟩

theorem TabRoom.setCell {w : World} {B : Nat} {v : Value} {es : List (Int × Int)} (h : TabRoom w B v es) {a : Addr} (ha : a.block < B) (u : Value) : TabRoom (w.setCell a u) B v es := by
  obtain ⟨g, cap, rfl, h1, h2, h3, h4, h5⟩ := h
  have hc : ∀ i, (w.setCell a u).cell? ⟨g, i, none⟩ = w.cell? ⟨g, i, none⟩ := fun i => World.cell?_setCell_other _ _ _ _ (by intro e; subst e; simp at ha; omega)
  refine ⟨g, cap, rfl, h1, h2, by simp; omega, fun i hi => ?_, fun i hi => ?_⟩
  · rw [hc, hc]; exact h4 i hi
  · rw [hc, World.frozen?_setCell]; exact h5 i hi
theorem TabRoom.mono {w : World} {B B' : Nat} {v : Value} {es : List (Int × Int)} (h : TabRoom w B v es) (hB : B' ≤ B) : TabRoom w B' v es := by
  obtain ⟨g, cap, rfl, h1, h2, h3, h4, h5⟩ := h
  exact ⟨g, cap, rfl, h1, by omega, h3, h4, h5⟩
theorem TabRoom.below {w w' : World} {B : Nat} {v : Value} {es : List (Int × Int)} (h : TabRoom w B v es) (hb : Below w.heap.size w w') : TabRoom w' B v es := by
  obtain ⟨g, cap, rfl, h1, h2, h3, h4, h5⟩ := h
  exact ⟨g, cap, rfl, h1, h2, Nat.lt_of_lt_of_le h3 hb.size, h4.below hb h3, h5.below hb h3⟩

set_option maxRecDepth 100000 in
set_option maxHeartbeats 800000 in
theorem toTab_any (v : Value) (es : List (Int × Int)) (w : World) (hn : es.length ≤ 4194304) (ht : TabAt w v es) :
    Calls Tryz.prog 58 #[.agg #[v]] w fun e w' => ∃ u, e = .returned (.agg #[u]) ∧ TabRoom w' w.heap.size u es ∧ Below w.heap.size w w' := by
  have HT := Lib.hid ht
  obtain ⟨ad, cap, rfl, hcap, hr⟩ := ht
  clear hr
  go_enter Tryz.func58, Tryz.ntmps58
  go_wp2_with (go_at_call 114; refine (toEnds_any _ es _ hn (HT.out.below ((((Below.refl _ _).alloc (Nat.le_refl _) _).alloc (by simp) _).alloc (by simp; omega) _))).mono ?_; rintro e w1 ⟨u, rfl, hu, b1⟩; obtain ⟨cA, cB, cC, b01, z1⟩ := cell_three b1; have t0 := (cA 0).1; have r0 := (cB 0).1; have g0 := (cB 0).2; have o0 := (cC 0).1; have p0 := (cC 0).2; simp at t0 r0 o0; obtain ⟨gu, cu, rfl, hu'⟩ : ∃ g c, u = .slice (some ⟨g, 0, none⟩) es.length c ∧ TabRoom w1 (w.heap.size + 3) u es := (by obtain ⟨g, c, q, hh⟩ := hu; exact ⟨g, c, q, TabRoom.mono ⟨g, c, q, hh⟩ (by simp)⟩); have HU := Lib.hid hu'; clear hu hu' cA cB cC)
  have q0 : (w1.setCell ⟨w.heap.size + 1 + 1, 0, none⟩ (.slice (some ⟨gu, 0, none⟩) es.length cu)).cell? ⟨w.heap.size + 1, 0, none⟩ = some (.slice none 0 0) := by
    rw [World.cell?_setCell_far _ ⟨w.heap.size + 1 + 1, 0, none⟩ ⟨w.heap.size + 1, 0, none⟩ _ (by show w.heap.size + 1 + 1 ≠ w.heap.size + 1; omega)]; exact r0
  refine bodyPost_ret (v := .agg #[.slice (some ⟨gu, 0, none⟩) es.length cu]) (by simp [results, Tryz.results58, go_sem, World.cell?_setCell_same _ _ _ q0]) rfl ⟨_, rfl, ?_, ?_⟩
  · exact ((HU.out.setCell (a := ⟨w.heap.size + 1 + 1, 0, none⟩) (by simp) _).setCell (a := ⟨w.heap.size + 1, 0, none⟩) (by simp) _).mono (by omega)
  · exact (b01.setCell (by simp; omega) _).setCell (by simp) _

end Go.Proofs.YtglpijjkihpeeaaGreatDoor
