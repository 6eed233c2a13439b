/- An argument's table, wherever it lies: how its ends become the program's. Condition: at most 2^22 ends. -/
import Derived.Test.YtilfpefccklebaaDoorToTab
namespace Go.Proofs.YtilfpefccklebaaDoor
open Go.RowKit Go.Sort

theorem Addr.add_block' (a : Addr) (i : Nat) : (a.add i).block = a.block := by unfold Addr.add; split <;> rfl
theorem add_add' (a : Addr) (i j : Nat) : (a.add i).add j = a.add (i + j) := by
  unfold Addr.add; split <;> split <;> simp_all <;> omega
theorem add_one' (a : Addr) : a.add 1 = ⟨a.block, a.off + 1, none⟩ := rfl
/-- A slice of ends lies in the world, at any address. -/
def ArgTab (w : World) (v : Value) (es : List (Int × Int)) : Prop := ∃ a cap, v = .slice a es.length cap ∧ (es.length ≤ cap ∧ (a = none → cap = 0)) ∧ (0 < es.length → ∃ x, a = some x ∧ x.block < w.heap.size ∧ ∀ i (hi : i < es.length), w.cell? (x.add (i * 2)) = some (.int .i64 es[i].1) ∧ w.cell? (x.add (i * 2 + 1)) = some (.int .i64 es[i].2))
theorem ArgTab.below {w w' : World} {v : Value} {es : List (Int × Int)} (h : ArgTab w v es) (hb : Below w.heap.size w w') : ArgTab w' v es := by
  obtain ⟨a, cap, rfl, hc, hr⟩ := h
  refine ⟨a, cap, rfl, hc, fun h => ?_⟩
  obtain ⟨x, rfl, hx, hrow⟩ := hr h
  exact ⟨x, rfl, Nat.lt_of_lt_of_le hx hb.size, fun i hi => by
    rw [hb.cell (p := x.add (i * 2)) (by rw [Addr.add_block']; exact hx), hb.cell (p := x.add (i * 2 + 1)) (by rw [Addr.add_block']; exact hx)]; exact hrow i hi⟩

set_option maxRecDepth 100000 in
set_option maxHeartbeats 800000 in
theorem toEndsArg (v : Value) (es : List (Int × Int)) (w : World) (hn : es.length ≤ 4194304) (ht : ArgTab w v es) :
    Calls Tryd.prog 35 #[v] w fun e w' => ∃ u, e = .returned u ∧ TabRoom w' w.heap.size u es ∧ Below w.heap.size w w' := by
  obtain ⟨ad, cap, rfl, hcap, hr⟩ := ht
  obtain ⟨i0, hi, hz0, hz1, hz2⟩ := info_parts infoEnd
  have HR := Lib.hid hr
  clear hr
  go_enter Tryd.func35, Tryd.ntmps35
  go_wp2_with (at_make; refine wpList_make_full _ rfl (.tmp 6) (.tmp 6) 34 rfl w.heap.size 66 i0 (.agg #[.int .i64 0, .int .i64 0]) 2 (by rfl) hi hz0 hz1 .i64 .i64 (es.length : Int) (es.length : Int) es.length (by rfl) (by rfl) rfl rfl (by rw [hz2]; omega) (by unfold maxLen; omega) (Nat.le_refl _) ?_; intro w1 hown hgrow)
  have R1 : Hid (Room w1 w.heap.size (es.length * 2) ∧ w.heap.size ≤ w.heap.size ∧ w.heap.size < w1.heap.size) := own_room hown
  have B1 : Hid (Below w.heap.size w w1) := (Below.refl _ _).grown hgrow (Nat.le_refl _) (fun k hk => by cases hk)
  clear hown hgrow
  go_loopw [4] (fun i wr => ∃ k : Nat, k ≤ es.length ∧ i = .int .i64 k ∧ EndsAt wr w.heap.size (es.take k) ∧ Room wr w.heap.size (es.length * 2) ∧ Below w.heap.size w wr ∧ w.heap.size < wr.heap.size) (fun i _ => es.length - (intOf i).toNat)
  case atStart => exact ⟨0, Nat.zero_le _, rfl, fun i hi => by simp at hi, R1.out.1, B1.out, R1.out.2.2⟩
  case round =>
    obtain ⟨k, hk, rfl, he, hro, hb, hsz⟩ := hrel
    have HE := Lib.hid he
    have HO := Lib.hid hro
    clear he hro
    by_cases hlt : k < es.length
    · obtain ⟨x, rfl, hx, hrow⟩ := HR.out (by omega)
      obtain ⟨r0, r1⟩ := hrow k hlt
      rw [← hb.cell (p := x.add (k * 2)) (by rw [Addr.add_block']; exact hx)] at r0
      rw [← hb.cell (p := x.add (k * 2 + 1)) (by rw [Addr.add_block']; exact hx)] at r1
      rw [← add_add', add_one'] at r1
      obtain ⟨⟨a, p⟩, hap⟩ : ∃ x, x = es[k] := ⟨_, rfl⟩
      rw [← hap] at r0 r1
      simp only at r0 r1
      have HA := Lib.hid hap
      have hk2 : (k : Int) ≤ (cap : Int) := by have := hcap.1; omega
      clear hrow hap
      go_wp2_with (go_at_call 57; refine (toEnd_any a p _).mono ?_; rintro e w2 ⟨rfl, b2⟩; have hr2 := HO.out.below b2 hsz; obtain ⟨x0, hx0⟩ := (hr2 (k * 2) (by omega)).1; have f0 := (hr2 (k * 2) (by omega)).2; obtain ⟨x1, hx1⟩ := (hr2 (k * 2 + 1) (by omega)).1; have f1 := (hr2 (k * 2 + 1) (by omega)).2)
      go_roundw
      case rel =>
        refine ⟨k + 1, by omega, by go_num, EndsAt.push (es := es) (m := es.length * 2) (by simp; omega) (by rw [List.take_take, Nat.min_eq_left (by omega)]) hk (fun h => by rw [HA.out]; simp) (HE.out.below b2 hsz) hr2 (by omega), (hr2.set (by omega) _).set (by omega) _, ?_, ?_⟩
        · exact ((hb.trans (b2.mono (by omega))).setCell (by simp) _).setCell (by simp) _
        · have := b2.size; simp; omega
      case measure => simp [intOf]; omega
    · have hkn : k = es.length := by omega
      subst hkn
      go_wp2
      go_ret
      refine ⟨_, rfl, ⟨w.heap.size, es.length, rfl, Nat.le_refl _, Nat.le_refl _, hsz, by simpa using HE.out, HO.out⟩, hb⟩

set_option maxRecDepth 100000 in
set_option maxHeartbeats 800000 in
theorem toTabArg (v : Value) (es : List (Int × Int)) (w : World) (hn : es.length ≤ 4194304) (ht : ArgTab w v es) :
    Calls Tryd.prog 13 #[.agg #[v]] w fun e w' => ∃ u, e = .returned (.agg #[u]) ∧ TabRoom w' w.heap.size u es ∧ Below w.heap.size w w' := by
  have HT := Lib.hid ht
  obtain ⟨ad, cap, rfl, hcap, hr⟩ := ht
  clear hr
  go_enter Tryd.func13, Tryd.ntmps13
  go_wp2_with (go_at_call 35; refine (toEndsArg _ es _ hn (HT.out.below ((((Below.refl _ _).alloc (Nat.le_refl _) _).alloc (by simp) _).alloc (by simp; omega) _))).mono ?_; rintro e w1 ⟨u, rfl, hu, b1⟩; obtain ⟨cA, cB, cC, b01, z1⟩ := cell_three b1; have t0 := (cA 0).1; have r0 := (cB 0).1; have g0 := (cB 0).2; have o0 := (cC 0).1; have p0 := (cC 0).2; simp at t0 r0 o0; obtain ⟨gu, cu, rfl, hu'⟩ : ∃ g c, u = .slice (some ⟨g, 0, none⟩) es.length c ∧ TabRoom w1 (w.heap.size + 3) u es := (by obtain ⟨g, c, q, hh⟩ := hu; exact ⟨g, c, q, TabRoom.mono ⟨g, c, q, hh⟩ (by simp)⟩); have HU := Lib.hid hu'; clear hu hu' cA cB cC)
  have q0 : (w1.setCell ⟨w.heap.size + 1 + 1, 0, none⟩ (.slice (some ⟨gu, 0, none⟩) es.length cu)).cell? ⟨w.heap.size + 1, 0, none⟩ = some (.slice none 0 0) := by
    rw [World.cell?_setCell_far _ ⟨w.heap.size + 1 + 1, 0, none⟩ ⟨w.heap.size + 1, 0, none⟩ _ (by show w.heap.size + 1 + 1 ≠ w.heap.size + 1; omega)]; exact r0
  refine bodyPost_ret (v := .agg #[.slice (some ⟨gu, 0, none⟩) es.length cu]) (by simp [results, Tryd.results13, go_sem, World.cell?_setCell_same _ _ _ q0]) rfl ⟨_, rfl, ?_, ?_⟩
  · exact ((HU.out.setCell (a := ⟨w.heap.size + 1 + 1, 0, none⟩) (by simp) _).setCell (a := ⟨w.heap.size + 1, 0, none⟩) (by simp) _).mono (by omega)
  · exact (b01.setCell (by simp; omega) _).setCell (by simp) _

theorem lawSzSArg (ad : Option Addr) (n cap : Nat) (left : Int) (w : World) (hn : n ≤ 9223372036854775807) (h0 : 0 ≤ left) (h1 : left ≤ 4194304) :
    Calls Tryd.prog 32 #[.slice ad n cap, .int .i64 left] w fun e w' => e = .returned (.int .i64 (if left < (n : Int) then -1 else left - n)) ∧ w = w' := by
  by_cases h : left < (n : Int)
  all_goals
    go_enter Tryd.func32, Tryd.ntmps32
    go_wp2
    go_ret
    exact ⟨ret_int (by first | rfl | (rw [if_pos h]; rfl) | (rw [if_neg (by omega)]) | (rw [if_neg (by omega)]; rfl)), rfl⟩

theorem lawSzArg (v : Value) (es : List (Int × Int)) (left : Int) (w : World) (hn : es.length ≤ 9223372036854775807) (h0 : 0 ≤ left) (h1 : left ≤ 4194304) (ht : ArgTab w v es) :
    Calls Tryd.prog 11 #[.agg #[v], .int .i64 left] w fun e w' => e = .returned (.int .i64 (if left < (es.length : Int) then -1 else left - es.length)) ∧ Below w.heap.size w w' := by
  obtain ⟨ad, cap, rfl, _, _⟩ := ht
  by_cases h : left < (es.length : Int)
  · have hc : ∀ w, Calls Tryd.prog 32 #[.slice ad es.length cap, .int .i64 left] w fun e w' => e = .returned (.int .i64 (-1)) ∧ w = w' := fun w => by
      have := lawSzSArg ad es.length cap left w hn h0 h1
      rwa [if_pos h] at this
    have HC := Lib.hid hc
    clear hc
    rw [if_pos h]
    clear h
    go_enter Tryd.func11, Tryd.ntmps11
    go_wp2_with (go_at_call 32; refine (HC.out _).mono ?_; rintro e w' ⟨rfl, rfl⟩)
    go_ret
    exact ⟨rfl, (Below.refl _ _).alloc (Nat.le_refl _) _⟩
  · obtain ⟨q, hq⟩ : ∃ q : Int, q = left - es.length := ⟨_, rfl⟩
    have hc : ∀ w, Calls Tryd.prog 32 #[.slice ad es.length cap, .int .i64 left] w fun e w' => e = .returned (.int .i64 q) ∧ w = w' := fun w => by
      have := lawSzSArg ad es.length cap left w hn h0 h1
      rwa [if_neg h, ← hq] at this
    have HC := Lib.hid hc
    have h0q : 0 ≤ q := by omega
    clear hc
    rw [if_neg h, ← hq]
    clear h hq
    go_enter Tryd.func11, Tryd.ntmps11
    go_wp2_with (go_at_call 32; refine (HC.out _).mono ?_; rintro e w' ⟨rfl, rfl⟩)
    go_ret
    exact ⟨rfl, (Below.refl _ _).alloc (Nat.le_refl _) _⟩

end Go.Proofs.YtilfpefccklebaaDoor
