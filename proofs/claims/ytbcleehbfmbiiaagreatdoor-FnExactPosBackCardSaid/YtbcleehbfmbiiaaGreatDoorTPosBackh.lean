/- An argument that is a table of ends, as the frame of a law hands it in: its ends lie in the machine's memory, at any address. No condition. (Several texts, joined: ArgTab, ArgOwn, LawPosBack, OpenTab.) -/
import Derived.Test.YtbcleehbfmbiiaaGreatDoorTPosBackc
import Derived.Test.YtbcleehbfmbiiaaGreatDoorTPosBackg
import Derived.Test.YtbcleehbfmbiiaaGreatDoorTPosBackf
import Derived.Deep.RegionHeld3
import Derived.Deep.DeepCutAuto
import Derived.Deep.SlicePairs
import Derived.Lib.SmallJoins
import Derived.ChangeSame

/- An argument's table, wherever it lies: how its ends become the program's. Condition: at most 2^22 ends. -/
namespace Go.Proofs.YtbcleehbfmbiiaaGreatDoor
open Go.RowKit Go.Sort

theorem Addr.add_block' (a : Addr) (i : Nat) : (a.add i).block = a.block := by unfold Addr.add; split <;> rfl
theorem add_add' (a : Addr) (i j : Nat) : (a.add i).add j = a.add (i + j) := by
  unfold Addr.add; split <;> split <;> simp_all <;> omega
theorem add_one' (a : Addr) : a.add 1 = ⟨a.block, a.off + 1, none⟩ := rfl
/-- A slice of ends lies in the world, at any address. -/
def ArgTab (w : World) (v : Value) (es : List (Int × Int)) : Prop := ∃ a cap, v = .slice a es.length cap ∧ (es.length ≤ cap ∧ (a = none → cap = 0)) ∧ (0 < es.length → ∃ x, a = some x ∧ x.block < w.heap.size ∧ ∀ i (hi : i < es.length), w.cell? (x.add (i * 2)) = some (.int .i64 es[i].1) ∧ w.cell? (x.add (i * 2 + 1)) = some (.int .i64 es[i].2))
theorem ArgTab.below {w w' : World} {v : Value} {es : List (Int × Int)} (h : ArgTab w v es) (hb : Below w.heap.size w w') : ArgTab w' v es := by
  obtain ⟨a, cap, rfl, hc, hr⟩ := h
  refine ⟨a, cap, rfl, hc, fun h => ?_⟩
  obtain ⟨x, rfl, hx, hrow⟩ := hr h
  exact ⟨x, rfl, Nat.lt_of_lt_of_le hx hb.size, fun i hi => by
    rw [hb.cell (p := x.add (i * 2)) (by rw [Addr.add_block']; exact hx), hb.cell (p := x.add (i * 2 + 1)) (by rw [Addr.add_block']; exact hx)]; exact hrow i hi⟩

set_option maxRecDepth 100000 in
set_option maxHeartbeats 800000 in
theorem toEndsArg (v : Value) (es : List (Int × Int)) (w : World) (hn : es.length ≤ 4194304) (ht : ArgTab w v es) :
    Calls Tryz.prog 31 #[v] w fun e w' => ∃ u, e = .returned u ∧ TabRoom w' w.heap.size u es ∧ Below w.heap.size w w' := by
  obtain ⟨ad, cap, rfl, hcap, hr⟩ := ht
  obtain ⟨i0, hi, hz0, hz1, hz2⟩ := info_parts infoEnd
  have HR := Lib.hid hr
  clear hr
  go_enter Tryz.func31, Tryz.ntmps31
  go_wp2_with (at_make; refine wpList_make_full _ rfl (.tmp 6) (.tmp 6) 26 rfl w.heap.size 75 i0 (.agg #[.int .i64 0, .int .i64 0]) 2 (by rfl) hi hz0 hz1 .i64 .i64 (es.length : Int) (es.length : Int) es.length (by rfl) (by rfl) rfl rfl (by rw [hz2]; omega) (by unfold maxLen; omega) (Nat.le_refl _) ?_; intro w1 hown hgrow)
  have R1 : Hid (Room w1 w.heap.size (es.length * 2) ∧ w.heap.size ≤ w.heap.size ∧ w.heap.size < w1.heap.size) := own_room hown
  have B1 : Hid (Below w.heap.size w w1) := (Below.refl _ _).grown hgrow (Nat.le_refl _) (fun k hk => by cases hk)
  clear hown hgrow
  go_loopw [4] (fun i wr => ∃ k : Nat, k ≤ es.length ∧ i = .int .i64 k ∧ EndsAt wr w.heap.size (es.take k) ∧ Room wr w.heap.size (es.length * 2) ∧ Below w.heap.size w wr ∧ w.heap.size < wr.heap.size) (fun i _ => es.length - (intOf i).toNat)
  case atStart => exact ⟨0, Nat.zero_le _, rfl, fun i hi => by simp at hi, R1.out.1, B1.out, R1.out.2.2⟩
  case round =>
    obtain ⟨k, hk, rfl, he, hro, hb, hsz⟩ := hrel
    have HE := Lib.hid he
    have HO := Lib.hid hro
    clear he hro
    by_cases hlt : k < es.length
    · obtain ⟨x, rfl, hx, hrow⟩ := HR.out (by omega)
      obtain ⟨r0, r1⟩ := hrow k hlt
      rw [← hb.cell (p := x.add (k * 2)) (by rw [Addr.add_block']; exact hx)] at r0
      rw [← hb.cell (p := x.add (k * 2 + 1)) (by rw [Addr.add_block']; exact hx)] at r1
      rw [← add_add', add_one'] at r1
      obtain ⟨⟨a, p⟩, hap⟩ : ∃ x, x = es[k] := ⟨_, rfl⟩
      rw [← hap] at r0 r1
      simp only at r0 r1
      have HA := Lib.hid hap
      have hk2 : (k : Int) ≤ (cap : Int) := by have := hcap.1; omega
      clear hrow hap
      go_wp2_with (go_at_call 59; refine (toEnd_any a p _).mono ?_; rintro e w2 ⟨rfl, b2⟩; have hr2 := HO.out.below b2 hsz; obtain ⟨x0, hx0⟩ := (hr2 (k * 2) (by omega)).1; have f0 := (hr2 (k * 2) (by omega)).2; obtain ⟨x1, hx1⟩ := (hr2 (k * 2 + 1) (by omega)).1; have f1 := (hr2 (k * 2 + 1) (by omega)).2)
      go_roundw
      case rel =>
        refine ⟨k + 1, by omega, by go_num, EndsAt.push (es := es) (m := es.length * 2) (by simp; omega) (by rw [List.take_take, Nat.min_eq_left (by omega)]) hk (fun h => by rw [HA.out]; simp) (HE.out.below b2 hsz) hr2 (by omega), (hr2.set (by omega) _).set (by omega) _, ?_, ?_⟩
        · exact ((hb.trans (b2.mono (by omega))).setCell (by simp) _).setCell (by simp) _
        · have := b2.size; simp; omega
      case measure => simp [intOf]; omega
    · have hkn : k = es.length := by omega
      subst hkn
      go_wp2
      go_ret
      refine ⟨_, rfl, ⟨w.heap.size, es.length, rfl, Nat.le_refl _, Nat.le_refl _, hsz, by simpa using HE.out, HO.out⟩, hb⟩

set_option maxRecDepth 100000 in
set_option maxHeartbeats 800000 in
theorem toTabArg (v : Value) (es : List (Int × Int)) (w : World) (hn : es.length ≤ 4194304) (ht : ArgTab w v es) :
    Calls Tryz.prog 10 #[.agg #[v]] w fun e w' => ∃ u, e = .returned (.agg #[u]) ∧ TabRoom w' w.heap.size u es ∧ Below w.heap.size w w' := by
  have HT := Lib.hid ht
  obtain ⟨ad, cap, rfl, hcap, hr⟩ := ht
  clear hr
  go_enter Tryz.func10, Tryz.ntmps10
  go_wp2_with (go_at_call 31; refine (toEndsArg _ es _ hn (HT.out.below ((((Below.refl _ _).alloc (Nat.le_refl _) _).alloc (by simp) _).alloc (by simp; omega) _))).mono ?_; rintro e w1 ⟨u, rfl, hu, b1⟩; obtain ⟨cA, cB, cC, b01, z1⟩ := cell_three b1; have t0 := (cA 0).1; have r0 := (cB 0).1; have g0 := (cB 0).2; have o0 := (cC 0).1; have p0 := (cC 0).2; simp at t0 r0 o0; obtain ⟨gu, cu, rfl, hu'⟩ : ∃ g c, u = .slice (some ⟨g, 0, none⟩) es.length c ∧ TabRoom w1 (w.heap.size + 3) u es := (by obtain ⟨g, c, q, hh⟩ := hu; exact ⟨g, c, q, TabRoom.mono ⟨g, c, q, hh⟩ (by simp)⟩); have HU := Lib.hid hu'; clear hu hu' cA cB cC)
  have q0 : (w1.setCell ⟨w.heap.size + 1 + 1, 0, none⟩ (.slice (some ⟨gu, 0, none⟩) es.length cu)).cell? ⟨w.heap.size + 1, 0, none⟩ = some (.slice none 0 0) := by
    rw [World.cell?_setCell_far _ ⟨w.heap.size + 1 + 1, 0, none⟩ ⟨w.heap.size + 1, 0, none⟩ _ (by show w.heap.size + 1 + 1 ≠ w.heap.size + 1; omega)]; exact r0
  refine bodyPost_ret (v := .agg #[.slice (some ⟨gu, 0, none⟩) es.length cu]) (by simp [results, Tryz.results10, go_sem, World.cell?_setCell_same _ _ _ q0]) rfl ⟨_, rfl, ?_, ?_⟩
  · exact ((HU.out.setCell (a := ⟨w.heap.size + 1 + 1, 0, none⟩) (by simp) _).setCell (a := ⟨w.heap.size + 1, 0, none⟩) (by simp) _).mono (by omega)
  · exact (b01.setCell (by simp; omega) _).setCell (by simp) _

theorem lawSzSArg (ad : Option Addr) (n cap : Nat) (left : Int) (w : World) (hn : n ≤ 9223372036854775807) (h0 : 0 ≤ left) (h1 : left ≤ 4194304) :
    Calls Tryz.prog 26 #[.slice ad n cap, .int .i64 left] w fun e w' => e = .returned (.int .i64 (if left < (n : Int) then -1 else left - n)) ∧ w = w' := by
  by_cases h : left < (n : Int)
  all_goals
    go_enter Tryz.func26, Tryz.ntmps26
    go_wp2
    go_ret
    exact ⟨ret_int (by first | rfl | (rw [if_pos h]; rfl) | (rw [if_neg (by omega)]) | (rw [if_neg (by omega)]; rfl)), rfl⟩

theorem lawSzArg (v : Value) (es : List (Int × Int)) (left : Int) (w : World) (hn : es.length ≤ 9223372036854775807) (h0 : 0 ≤ left) (h1 : left ≤ 4194304) (ht : ArgTab w v es) :
    Calls Tryz.prog 8 #[.agg #[v], .int .i64 left] w fun e w' => e = .returned (.int .i64 (if left < (es.length : Int) then -1 else left - es.length)) ∧ Below w.heap.size w w' := by
  obtain ⟨ad, cap, rfl, _, _⟩ := ht
  by_cases h : left < (es.length : Int)
  · have hc : ∀ w, Calls Tryz.prog 26 #[.slice ad es.length cap, .int .i64 left] w fun e w' => e = .returned (.int .i64 (-1)) ∧ w = w' := fun w => by
      have := lawSzSArg ad es.length cap left w hn h0 h1
      rwa [if_pos h] at this
    have HC := Lib.hid hc
    clear hc
    rw [if_pos h]
    clear h
    go_enter Tryz.func8, Tryz.ntmps8
    go_wp2_with (go_at_call 26; refine (HC.out _).mono ?_; rintro e w' ⟨rfl, rfl⟩)
    go_ret
    exact ⟨rfl, (Below.refl _ _).alloc (Nat.le_refl _) _⟩
  · obtain ⟨q, hq⟩ : ∃ q : Int, q = left - es.length := ⟨_, rfl⟩
    have hc : ∀ w, Calls Tryz.prog 26 #[.slice ad es.length cap, .int .i64 left] w fun e w' => e = .returned (.int .i64 q) ∧ w = w' := fun w => by
      have := lawSzSArg ad es.length cap left w hn h0 h1
      rwa [if_neg h, ← hq] at this
    have HC := Lib.hid hc
    have h0q : 0 ≤ q := by omega
    clear hc
    rw [if_neg h, ← hq]
    clear h hq
    go_enter Tryz.func8, Tryz.ntmps8
    go_wp2_with (go_at_call 26; refine (HC.out _).mono ?_; rintro e w' ⟨rfl, rfl⟩)
    go_ret
    exact ⟨rfl, (Below.refl _ _).alloc (Nat.le_refl _) _⟩

end Go.Proofs.YtbcleehbfmbiiaaGreatDoor

/- An argument's table, wherever it lies, as the program's: it lies in a block of ends alone. Condition: at most 2^22 ends. -/
namespace Go.Proofs.YtbcleehbfmbiiaaGreatDoor
open Go.RowKit Go.Sort

/-- A block of ends with m cells. -/
def Shape (w : World) (g m : Nat) : Prop := ∃ l : List Value, w.heap[g]? = some (.cells ⟨l⟩ 75) ∧ l.length = m
theorem Shape.below {w w' : World} {g m : Nat} (h : Shape w g m) (hb : Below w.heap.size w w') : Shape w' g m := by
  obtain ⟨l, h1, h2⟩ := h
  exact ⟨l, (hb.block g (Array.getElem?_eq_some_iff.1 h1).1).trans h1, h2⟩
theorem Shape.set {w : World} {g m : Nat} (h : Shape w g m) (j : Nat) (u : Value) : Shape (w.setCell ⟨g, j, none⟩ u) g m := by
  obtain ⟨l, h1, h2⟩ := h
  refine ⟨l.set j u, ?_, by simpa using h2⟩
  show (w.heap.modify g _)[g]? = _
  rw [Array.getElem?_modify]
  simp [h1]
theorem shape_own {w : World} {B g n : Nat} {xs : List Value} (h : w.ownsRow B 75 2 (.slice (some ⟨g, 0, none⟩) n n) n xs) : Shape w g (n * 2) := by
  rcases h.2 with ⟨h0, _⟩ | ⟨g', cap', cur, hv, hB, hg, h2, _, hs, ht⟩
  · cases h0
  · simp at hv
    obtain ⟨rfl, rfl⟩ := hv
    obtain ⟨l⟩ := cur
    exact ⟨l, hg, by simpa using hs⟩
theorem Shape.own {w : World} {B g : Nat} {es : List (Int × Int)} (h : Shape w g (es.length * 2)) (he : EndsAt w g es) (hB : B ≤ g) (hm : es.length ≤ maxLen) : OwnTab w B (.slice (some ⟨g, 0, none⟩) es.length es.length) es := by
  obtain ⟨l, h1, h2⟩ := h
  refine ⟨flatE_len es, Or.inr ⟨g, es.length, ⟨l⟩, rfl, hB, h1, Nat.le_refl _, hm, by simpa using h2, ?_⟩⟩
  rw [List.take_of_length_le (by show l.length ≤ _; omega)]
  apply List.ext_getElem?
  intro j
  by_cases hj : j < (flatE es).length
  · have hc := he.flat j (flatE es)[j] (List.getElem?_eq_getElem hj)
    rw [List.getElem?_eq_getElem hj, ← hc]
    simp [World.cell?, h1]
  · rw [List.getElem?_eq_none (by rw [flatE_len] at hj; show l.length ≤ j; omega), List.getElem?_eq_none (by omega)]

set_option maxRecDepth 100000 in
set_option maxHeartbeats 800000 in
theorem toEndsOwn (v : Value) (es : List (Int × Int)) (w : World) (hn : es.length ≤ 4194304) (ht : ArgTab w v es) :
    Calls Tryz.prog 31 #[v] w fun e w' => ∃ u, e = .returned u ∧ (TabRoom w' w.heap.size u es ∧ OwnTab w' w.heap.size u es) ∧ Below w.heap.size w w' := by
  obtain ⟨ad, cap, rfl, hcap, hr⟩ := ht
  obtain ⟨i0, hi, hz0, hz1, hz2⟩ := info_parts infoEnd
  have HR := Lib.hid hr
  clear hr
  go_enter Tryz.func31, Tryz.ntmps31
  go_wp2_with (at_make; refine wpList_make_full _ rfl (.tmp 6) (.tmp 6) 26 rfl w.heap.size 75 i0 (.agg #[.int .i64 0, .int .i64 0]) 2 (by rfl) hi hz0 hz1 .i64 .i64 (es.length : Int) (es.length : Int) es.length (by rfl) (by rfl) rfl rfl (by rw [hz2]; omega) (by unfold maxLen; omega) (Nat.le_refl _) ?_; intro w1 hown hgrow)
  have R1 : Hid (Room w1 w.heap.size (es.length * 2) ∧ w.heap.size ≤ w.heap.size ∧ w.heap.size < w1.heap.size) := own_room hown
  have S1 : Hid (Shape w1 w.heap.size (es.length * 2)) := shape_own hown
  have B1 : Hid (Below w.heap.size w w1) := (Below.refl _ _).grown hgrow (Nat.le_refl _) (fun k hk => by cases hk)
  clear hown hgrow
  go_loopw [4] (fun i wr => ∃ k : Nat, k ≤ es.length ∧ i = .int .i64 k ∧ EndsAt wr w.heap.size (es.take k) ∧ Room wr w.heap.size (es.length * 2) ∧ Shape wr w.heap.size (es.length * 2) ∧ Below w.heap.size w wr ∧ w.heap.size < wr.heap.size) (fun i _ => es.length - (intOf i).toNat)
  case atStart => exact ⟨0, Nat.zero_le _, rfl, fun i hi => by simp at hi, R1.out.1, S1.out, B1.out, R1.out.2.2⟩
  case round =>
    obtain ⟨k, hk, rfl, he, hro, hsh, hb, hsz⟩ := hrel
    have HE := Lib.hid he
    have HO := Lib.hid hro
    have HSH := Lib.hid hsh
    clear he hro hsh
    by_cases hlt : k < es.length
    · obtain ⟨x, rfl, hx, hrow⟩ := HR.out (by omega)
      obtain ⟨r0, r1⟩ := hrow k hlt
      rw [← hb.cell (p := x.add (k * 2)) (by rw [Addr.add_block']; exact hx)] at r0
      rw [← hb.cell (p := x.add (k * 2 + 1)) (by rw [Addr.add_block']; exact hx)] at r1
      rw [← add_add', add_one'] at r1
      obtain ⟨⟨a, p⟩, hap⟩ : ∃ x, x = es[k] := ⟨_, rfl⟩
      rw [← hap] at r0 r1
      simp only at r0 r1
      have HA := Lib.hid hap
      have hk2 : (k : Int) ≤ (cap : Int) := by have := hcap.1; omega
      clear hrow hap
      go_wp2_with (go_at_call 59; refine (toEnd_any a p _).mono ?_; rintro e w2 ⟨rfl, b2⟩; have hr2 := HO.out.below b2 hsz; obtain ⟨x0, hx0⟩ := (hr2 (k * 2) (by omega)).1; have f0 := (hr2 (k * 2) (by omega)).2; obtain ⟨x1, hx1⟩ := (hr2 (k * 2 + 1) (by omega)).1; have f1 := (hr2 (k * 2 + 1) (by omega)).2)
      go_roundw
      case rel =>
        refine ⟨k + 1, by omega, by go_num, EndsAt.push (es := es) (m := es.length * 2) (by simp; omega) (by rw [List.take_take, Nat.min_eq_left (by omega)]) hk (fun h => by rw [HA.out]; simp) (HE.out.below b2 hsz) hr2 (by omega), (hr2.set (by omega) _).set (by omega) _, ((HSH.out.below b2).set _ _).set _ _, ?_, ?_⟩
        · exact ((hb.trans (b2.mono (by omega))).setCell (by simp) _).setCell (by simp) _
        · have := b2.size; simp; omega
      case measure => simp [intOf]; omega
    · have hkn : k = es.length := by omega
      subst hkn
      go_wp2
      go_ret
      refine ⟨_, rfl, ⟨⟨w.heap.size, es.length, rfl, Nat.le_refl _, Nat.le_refl _, hsz, by simpa using HE.out, HO.out⟩, HSH.out.own (by simpa using HE.out) (Nat.le_refl _) (by unfold maxLen; omega)⟩, hb⟩

set_option maxRecDepth 100000 in
set_option maxHeartbeats 800000 in
theorem toTabOwn (v : Value) (es : List (Int × Int)) (w : World) (hn : es.length ≤ 4194304) (ht : ArgTab w v es) :
    Calls Tryz.prog 10 #[.agg #[v]] w fun e w' => ∃ u, e = .returned (.agg #[u]) ∧ (TabRoom w' w.heap.size u es ∧ OwnTab w' w.heap.size u es) ∧ Below w.heap.size w w' := by
  have HT := Lib.hid ht
  obtain ⟨ad, cap, rfl, hcap, hr⟩ := ht
  clear hr
  go_enter Tryz.func10, Tryz.ntmps10
  go_wp2_with (go_at_call 31; refine (toEndsOwn _ es _ hn (HT.out.below ((((Below.refl _ _).alloc (Nat.le_refl _) _).alloc (by simp) _).alloc (by simp; omega) _))).mono ?_; rintro e w1 ⟨u, rfl, hu, b1⟩; obtain ⟨cA, cB, cC, b01, z1⟩ := cell_three b1; have t0 := (cA 0).1; have r0 := (cB 0).1; have g0 := (cB 0).2; have o0 := (cC 0).1; have p0 := (cC 0).2; simp at t0 r0 o0; obtain ⟨gu, cu, rfl, hu'⟩ : ∃ g c, u = .slice (some ⟨g, 0, none⟩) es.length c ∧ TabRoom w1 (w.heap.size + 3) u es := (by obtain ⟨g, c, q, hh⟩ := hu.1; exact ⟨g, c, q, TabRoom.mono ⟨g, c, q, hh⟩ (by simp)⟩); have HU := Lib.hid hu'; have HW : Hid (OwnTab w1 (w.heap.size + 3) (.slice (some ⟨gu, 0, none⟩) es.length cu) es) := hu.2.mono (by simp); clear hu hu' cA cB cC)
  have q0 : (w1.setCell ⟨w.heap.size + 1 + 1, 0, none⟩ (.slice (some ⟨gu, 0, none⟩) es.length cu)).cell? ⟨w.heap.size + 1, 0, none⟩ = some (.slice none 0 0) := by
    rw [World.cell?_setCell_far _ ⟨w.heap.size + 1 + 1, 0, none⟩ ⟨w.heap.size + 1, 0, none⟩ _ (by show w.heap.size + 1 + 1 ≠ w.heap.size + 1; omega)]; exact r0
  refine bodyPost_ret (v := .agg #[.slice (some ⟨gu, 0, none⟩) es.length cu]) (by simp [results, Tryz.results10, go_sem, World.cell?_setCell_same _ _ _ q0]) rfl ⟨_, rfl, ?_, ?_⟩
  · refine ⟨((HU.out.setCell (a := ⟨w.heap.size + 1 + 1, 0, none⟩) (by simp) _).setCell (a := ⟨w.heap.size + 1, 0, none⟩) (by simp) _).mono (by omega), OwnTab.mono (B := w.heap.size + 3) ?_ (by omega)⟩
    exact ownsRow_setCell_below (a := ⟨w.heap.size + 1, 0, none⟩) (ownsRow_setCell_below (a := ⟨w.heap.size + 1 + 1, 0, none⟩) HW.out (by simp) _) (by simp) _
  · exact (b01.setCell (by simp; omega) _).setCell (by simp) _

end Go.Proofs.YtbcleehbfmbiiaaGreatDoor

/- The law of PosBack. Conditions: the argument's ends lie in the machine's memory, at any address; the variables that are read hold what they are laid with. -/
namespace Go.Proofs.YtbcleehbfmbiiaaGreatDoor
open Go.RowKit Go.Sort

set_option maxRecDepth 100000 in
set_option maxHeartbeats 3200000 in
theorem lawPosBack_any (v : Value) (es : List (Int × Int)) (s : ByteArray) (a : Int) (w : World) (hL : es.length ≤ 9223372036854775807) (ht : ArgTab w v es) (hwf : wfE es) (_ : s.size ≤ maxLen) (ha : -9223372036854775808 ≤ a ∧ a ≤ 9223372036854775807) (hv : VarsOk w) :
    Calls Tryz.prog 7 #[.agg #[v], .string s, .int .i64 a] w fun e w' => e = .returned (.bool true) ∧ Below w.heap.size w w' := by
  have HT := Lib.hid ht
  obtain ⟨ad, cap, rfl, _, _⟩ := ht
  rcases Nat.lt_or_ge 1048576 s.size with hz | hz
  · clear hv hwf
    go_enter Tryz.func7, Tryz.ntmps7
    go_wp2_with fail
    go_ret
    exact ⟨rfl, (Below.refl _ _).alloc (Nat.le_refl _) _⟩
  have hz2 : (s.size : Int) ≤ 1048576 := by omega
  rcases Nat.lt_or_ge 1048576 es.length with h | h
  · have HS : Hid (∀ w, ArgTab w (.slice ad es.length cap) es → Calls Tryz.prog 8 #[.agg #[.slice ad es.length cap], .int .i64 1048576] w fun e w' => e = .returned (.int .i64 (-1)) ∧ Below w.heap.size w w') := fun w ht => by
      have := lawSzArg _ es 1048576 w hL (by decide) (by decide) ht
      rwa [if_pos (by omega)] at this
    clear hwf hv
    go_enter Tryz.func7, Tryz.ntmps7
    go_wp2_with (go_at_call 8; refine (HS.out _ (HT.out.below ((Below.refl _ _).alloc (Nat.le_refl _) _))).mono ?_; rintro e w1 ⟨rfl, b1⟩)
    go_ret
    exact ⟨rfl, ((Below.refl _ _).alloc (Nat.le_refl _) _).trans (b1.mono (by simp))⟩
  · have hn : es.length ≤ 4194304 := by omega
    obtain ⟨q0, hq0⟩ : ∃ q0 : Int, q0 = 1048576 - es.length := ⟨_, rfl⟩
    have hq1 : 0 ≤ q0 := by omega
    have HS : Hid (∀ w, ArgTab w (.slice ad es.length cap) es → Calls Tryz.prog 8 #[.agg #[.slice ad es.length cap], .int .i64 1048576] w fun e w' => e = .returned (.int .i64 q0) ∧ Below w.heap.size w w') := fun w ht => by
      have := lawSzArg _ es 1048576 w hL (by decide) (by decide) ht
      rw [if_neg (by omega)] at this
      rwa [hq0]
    have HTo : Hid (∀ w, ArgTab w (.slice ad es.length cap) es → Calls Tryz.prog 10 #[.agg #[.slice ad es.length cap]] w fun e w' => ∃ g c, e = .returned (.agg #[.slice (some ⟨g, 0, none⟩) es.length c]) ∧ (TabRoom w' w.heap.size (.slice (some ⟨g, 0, none⟩) es.length c) es ∧ OwnTab w' w.heap.size (.slice (some ⟨g, 0, none⟩) es.length c) es) ∧ Below w.heap.size w w') := fun w ht => by
      refine (toTabOwn _ es w hn ht).mono ?_
      rintro e w' ⟨u, rfl, ⟨hu, ho⟩, hb⟩
      obtain ⟨g, c, rfl, _⟩ := id hu
      exact ⟨g, c, rfl, ⟨hu, ho⟩, hb⟩
    obtain ⟨z, hz⟩ : ∃ z, z = backI (posL es s.data.toList) a := ⟨_, rfl⟩
    have HM : Hid (∀ B g cap w, B ≤ w.heap.size → OwnTab w B (.slice (some g) es.length cap) es → Calls Tryz.prog 24 #[.agg #[.slice (some g) es.length cap], .string s, .int .i64 a] w fun e w' => e = .returned (.int .i64 z) ∧ Below w.heap.size w w') := fun B g cap w h1 h2 => by rw [hz]; exact specPosBack_any B g cap es s a w hn (by omega) ha h1 h2
    have HI : Hid (∀ v w, TabAt w v es → VarsOk w → Calls Tryz.prog 25 #[.agg #[v], .string s, .int .i64 a] w fun e w' => e = .returned (.int .i64 z) ∧ Below w.heap.size w w') := fun v w ht hv => by rw [hz]; exact implPosBack_any v es s a w hn (by omega) hwf ha ht hv
    have HE : Hid (∀ u v w, TabAt w u es → TabAt w v es → Calls Tryz.prog 12 #[.agg #[u], .agg #[v]] w fun e w' => e = .returned (.bool true) ∧ Below w.heap.size w w') := fun u v w h1 h2 => eqTab_same u v es w hn h1 h2
    have HV : Hid (∀ w', Below w.heap.size w w' → VarsOk w') := fun w' h => hv.below h
    clear hz hq0 hL hwf hv
    go_enter Tryz.func7, Tryz.ntmps7
    go_wp2_with fail
    (go_at_call 8; refine (HS.out _ (HT.out.below ((Below.refl _ _).alloc (Nat.le_refl _) _))).mono ?_; rintro e w1 ⟨rfl, b1⟩; have t1 : w1.cell? ⟨w.heap.size, 0, none⟩ = some (.slice ad es.length cap) := (by rw [b1.cell (by simp)]; simp); have B1 : Hid (Below w.heap.size w w1) := (((Below.refl _ _).alloc (Nat.le_refl _) _).trans (b1.mono (by simp))); have z1 : w.heap.size < w1.heap.size := (by have := b1.size; simp at this; omega); clear b1)
    go_wp2_with fail
    (go_at_call 10; refine (HTo.out _ (HT.out.below B1.out)).mono ?_; rintro e w2 ⟨ga, ca, rfl, ⟨_, oa⟩, b2⟩; have OA := Lib.hid oa; clear oa)
    go_wp2_with fail
    (go_at_call 24; refine (HM.out w1.heap.size _ _ _ b2.size OA.out).mono ?_; rintro e w3 ⟨rfl, b3⟩)
    have c3 : Below w1.heap.size w1 w3 := b2.trans (b3.mono b2.size)
    have t3 : w3.cell? ⟨w.heap.size, 0, none⟩ = some (.slice ad es.length cap) := box_below t1 c3
    have mk3 : Hid (∀ w', Below w3.heap.size w3 w' → w'.cell? ⟨w.heap.size, 0, none⟩ = some (.slice ad es.length cap) ∧ True ∧ ArgTab w' (.slice ad es.length cap) es ∧ Below w.heap.size w w' ∧ VarsOk w') := fun w' hb => by
      have h1 : Below w.heap.size w w' := B1.out.trans ((c3.trans (hb.mono c3.size)).mono (by omega))
      exact ⟨box_below t3 hb, trivial, HT.out.below h1, h1, HV.out _ h1⟩
    have C3 : Below w3.heap.size w3 w3 := Below.refl _ _
    have A3 := Lib.hid (mk3.out _ C3).2.2.1
    clear c3 b2 b3 OA t1
    go_wp2_with fail
    (go_at_call 10; refine (HTo.out _ A3.out).mono ?_; rintro e w6 ⟨gx, cx, rfl, ⟨rx, _⟩, b6⟩; have RX6 := Lib.hid rx; clear rx)
    obtain ⟨W7, hW7⟩ : ∃ W7, W7 = w6.alloc (.cells #[.slice (some ⟨gx, 0, none⟩) es.length cx] 28) := ⟨_, rfl⟩
    obtain ⟨bX, hbX⟩ : ∃ bX, bX = w6.heap.size := ⟨_, rfl⟩
    have x7 : W7.cell? ⟨bX, 0, none⟩ = some (.slice (some ⟨gx, 0, none⟩) es.length cx) := by rw [hW7, hbX]; exact (cell_new w6 _ _ 0).1
    have z7 : bX < W7.heap.size := by rw [hW7, hbX]; simp
    have C7 : Hid (Below w3.heap.size w3 W7) := by rw [hW7]; exact b6.alloc b6.size _
    have RX7 : Hid (TabRoom W7 w3.heap.size (.slice (some ⟨gx, 0, none⟩) es.length cx) es) := by rw [hW7]; exact RX6.out.below ((Below.refl _ _).alloc (Nat.le_refl _) _)
    have gxl : w3.heap.size ≤ gx ∧ gx < bX := by
      obtain ⟨g, c, e1, _, h1, h2, _⟩ := RX6.out
      simp at e1
      obtain ⟨rfl, rfl⟩ := e1
      rw [hbX]
      exact ⟨h1, h2⟩
    have z37 : w3.heap.size ≤ W7.heap.size := C7.out.size
    have HI7 : Hid (Calls Tryz.prog 25 #[.agg #[.slice (some ⟨gx, 0, none⟩) es.length cx], .string s, .int .i64 a] (w6.alloc (.cells #[.slice (some ⟨gx, 0, none⟩) es.length cx] 28)) fun e w' => e = .returned (.int .i64 z) ∧ Below W7.heap.size W7 w') := by
      rw [← hW7]; exact HI.out _ _ RX7.out.tab (mk3.out _ C7.out).2.2.2.2
    clear RX6 C3 b6 hW7 A3
    go_wp2_with fail
    rw [← hbX]
    clear hbX
    (go_at_call 25; refine HI7.out.mono ?_; rintro e w7 ⟨rfl, b7⟩)
    have C3 : Below w3.heap.size w3 w7 := C7.out.trans (b7.mono z37)
    have xX := box_below x7 b7
    have RX := Lib.hid (RX7.out.below b7)
    have tT := (mk3.out _ C3).1
    clear RX7 C7 HI7 x7 b7
    go_upto_region 12 with fail
    go_cut [37] (fun s wx => s = .bool false ∧ Below w7.heap.size w7 wx)
    case first =>
      have mk9 : Hid (∀ w', Below w7.heap.size w7 w' → w'.cell? ⟨bX, 0, none⟩ = some (.slice (some ⟨gx, 0, none⟩) es.length cx) ∧ w'.cell? ⟨w.heap.size, 0, none⟩ = some (.slice ad es.length cap) ∧ Below w7.heap.size w7 w') := fun w' hb => ⟨box_below xX hb, box_below tT hb, hb⟩
      go_region_held3 (fun w' => w'.cell? ⟨bX, 0, none⟩ = some (.slice (some ⟨gx, 0, none⟩) es.length cx) ∧ w'.cell? ⟨w.heap.size, 0, none⟩ = some (.slice ad es.length cap) ∧ Below w7.heap.size w7 w')
        (first | exact mk9.out _ (Below.refl _ _).drew | exact mk9.out _ cc | (trace_state; fail))
        (first
          | (go_at_call 10; have hS := (by assumption : _ ∧ _ ∧ Below w7.heap.size w7 _); refine (HTo.out _ (mk3.out _ (C3.trans (hS.2.2.mono C3.size))).2.2.1).mono ?_; rintro e wN ⟨gy, cy, rfl, ⟨ry, _⟩, bN⟩; have RY := Lib.hid ry.tab; have cc : Below w7.heap.size w7 wN := hS.2.2.trans (bN.mono hS.2.2.size))
          | (go_at_call 12; have hS := (by assumption : _ ∧ _ ∧ Below w7.heap.size w7 _); refine (HE.out _ _ _ (RX.out.tab.below hS.2.2) RY.out).mono ?_; rintro e wN ⟨rfl, bN⟩; have cc : Below w7.heap.size w7 wN := hS.2.2.trans (bN.mono hS.2.2.size)))
      all_goals (go_wp2_with fail; go_meet; exact ⟨rfl, cc⟩)
    case rest =>
      obtain ⟨rfl, c10⟩ := hcut
      obtain ⟨w10, hw10⟩ : ∃ w10, w10 = wc := ⟨_, rfl⟩
      rw [← hw10] at c10 ⊢
      clear hw10
      replace C3 := C3.trans (c10.mono C3.size)
      go_wp2_with fail
      go_ret
      exact ⟨rfl, (mk3.out _ C3).2.2.2.1⟩

end Go.Proofs.YtbcleehbfmbiiaaGreatDoor

/- An argument that is a table of ends, as the frame of a law hands it in: its ends lie in the machine's memory, at any address. No condition. -/
namespace Go.Proofs.YtbcleehbfmbiiaaGreatDoor
open Go.ChangeShapes Go.WideShapes Go.ChangeAt Go.RowKit Go.Deep

theorem array1 {α : Type} {cs : Array α} (h : cs.size = 1) : ∃ c0, cs = #[c0] := by
  obtain ⟨l⟩ := cs
  match l, h with
  | [c0], _ => exact ⟨c0, rfl⟩

theorem cellsTabL : Tryz.prog.cellsOf 24 = 1 := by kernel_rfl
theorem cellsRowL : Tryz.prog.cellsOf 22 = 1 := by kernel_rfl
theorem cellsEndL : Tryz.prog.cellsOf 84 = 2 := by kernel_rfl
theorem cellsIntL : Tryz.prog.cellsOf 3 = 1 := by kernel_rfl
set_option maxRecDepth 100000 in
theorem tab_in {H : Type} {enc : TypeId × Value → H} {W : World} {base : Nat} {v : Value} {d : DataW H} {p : List MemPlace} (hv : Value.okWide Tryz.prog W .any base 24 v)
    (h : DataW.Trod enc Tryz.prog W 0 (fun _ => true) true 24 v d p) : ∃ (u : Value) (es : List (Int × Int)), v = .agg #[u] ∧ ArgTab W u es ∧ es.length ≤ 9223372036854775807 ∧ wfE es := by
  obtain ⟨cs, rfl, hsz⟩ := okWide_struct Tryz.underlying24 hv
  obtain ⟨c0, rfl⟩ := array1 (hsz.trans cellsTabL)
  obtain ⟨fuel, hf⟩ := h
  obtain ⟨y0, n, _, _, h0⟩ := trod_struct1 Tryz.underlying24 hf
  have h1 : DataW.trod enc Tryz.prog W 0 (fun _ => true) true n 22 [c0] = some y0 := by
    simpa [Value.cells, cellsRowL] using h0
  rcases open_slice_pairs Tryz.underlying22 Tryz.underlying84 cellsEndL rfl rfl cellsIntL cellsIntL h1 with ⟨hcs, _⟩ | ⟨a, len, cap, m, n', V0, V1, D0, D1, P0, P1, hcs, _, hl, hm, hmm, _, hcell⟩
  · simp at hcs
    subst hcs
    exact ⟨_, [], rfl, ⟨none, 0, rfl, ⟨by simp, fun _ => rfl⟩, fun h => by simp at h⟩, by simp, fun e he => by cases he⟩
  · simp at hcs
    subst hcs
    have hm2 : m = cap := by simpa using hmm
    refine ⟨_, (List.range len).map fun i => (intOf (V0 i), intOf (V1 i)), rfl, ⟨some a, cap, by simp, ⟨by simpa using hl, by simp⟩, fun hpos => ?_⟩, by have hm' : cap ≤ 9223372036854775807 := hm; simpa using Nat.le_trans hl hm', fun e he => ?_⟩
    rotate_left
    · obtain ⟨i, hi, rfl⟩ := List.mem_map.1 he
      have hi' : i < len := List.mem_range.1 hi
      obtain ⟨k0, k1, t0, t1⟩ := hcell i (by omega)
      obtain ⟨z0, e0, _, w0⟩ := DataW.trod_int Tryz.underlying3 t0
      obtain ⟨z1, e1, _, w1⟩ := DataW.trod_int Tryz.underlying3 t1
      simp at e0 e1
      rw [e0, e1]
      exact ⟨w0, w1⟩
    have each : ∀ i, i < len → W.cell? (a.add (i * 2)) = some (.int .i64 (intOf (V0 i))) ∧ W.cell? (a.add (i * 2 + 1)) = some (.int .i64 (intOf (V1 i))) := by
      intro i hi
      obtain ⟨k0, k1, t0, t1⟩ := hcell i (by omega)
      obtain ⟨z0, e0, _, _⟩ := DataW.trod_int Tryz.underlying3 t0
      obtain ⟨z1, e1, _, _⟩ := DataW.trod_int Tryz.underlying3 t1
      simp at e0 e1
      rw [e0] at k0 ⊢
      rw [e1] at k1 ⊢
      exact ⟨k0, k1⟩
    refine ⟨a, rfl, ?_, fun i hi => ?_⟩
    · have := World.block_lt_of_cell? W _ (each 0 (by simpa using hpos)).1
      rwa [Addr.add_block'] at this
    · have := each i (by simpa using hi)
      simpa using this

end Go.Proofs.YtbcleehbfmbiiaaGreatDoor
