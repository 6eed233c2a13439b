/- The law of BoxNew, at all rules. Condition: none beside what the law itself sets aside. -/
import Derived.Test.YtoimjpkgkcomnaaBoxMk
import Derived.Test.YtoimjpkgkcomnaaBxNew
namespace Go.Proofs.Ytoimjpkgkcomnaa
open Go.RowKit Go.Sort

/-- A box that begins. -/
def bxNew (l : List Rl) : Bx := ⟨newR l, [], []⟩
theorem newR_len (l : List Rl) : (newR l).length ≤ l.length := by
  unfold newR
  split <;> simp
theorem FrBx.new {w : World} {B : Nat} {v : Value} {l : List Rl} (h : FrRl w B v (newR l)) : FrBx w B (.agg #[v, .slice none 0 0, .slice none 0 0]) (bxNew l) :=
  ⟨v, _, _, rfl, h, FrL.nil _ _ _ _ (fun _ => rfl), FrL.nil _ _ _ _ (fun _ => rfl)⟩
theorem fresh_below {w w1 : World} {B : Nat} (h : Below B w w1) (hB : B ≤ w1.heap.size) (o : Obj) : Below B w (w1.alloc o) := h.alloc hB o

set_option maxRecDepth 100000 in
set_option maxHeartbeats 3200000 in
theorem lawBoxNew_any (v : Value) (l : List Rl) (w : World) (hv : ArgRl w v l) (hl : l.length ≤ 9223372036854775807) :
    Calls Try.prog 3 #[v] w fun e w' => e = .returned (.bool true) ∧ Below w.heap.size w w' := by
  have HV := Lib.hid hv
  obtain ⟨ad, cap, rfl, _, _⟩ := hv
  by_cases h : 1048576 < l.length
  · have HS : Hid (∀ w, Calls Try.prog 4 #[.slice ad l.length cap, .int .i64 1048576] w fun e w' => e = .returned (.int .i64 (-1)) ∧ w = w') := fun w => by
      have := szRuls_any ad l.length cap 1048576 w hl (by decide) (by decide)
      rwa [if_pos (by omega)] at this
    go_enter Try.func3, Try.ntmps3
    go_wp2_with (go_at_call 4; refine (HS.out _).mono ?_; rintro e w1 ⟨rfl, rfl⟩)
    go_ret
    exact ⟨rfl, Below.refl _ _⟩
  · obtain ⟨q0, hq0⟩ : ∃ q0 : Int, q0 = 1048576 - (l.length : Int) := ⟨_, rfl⟩
    have hq1 : ¬ q0 < 0 := by omega
    have HS : Hid (∀ w, Calls Try.prog 4 #[.slice ad l.length cap, .int .i64 1048576] w fun e w' => e = .returned (.int .i64 q0) ∧ w = w') := fun w => by
      have := szRuls_any ad l.length cap 1048576 w hl (by decide) (by decide)
      rw [if_neg (by omega)] at this
      rwa [hq0]
    have HT : Hid (∀ w, ArgRl w (.slice ad l.length cap) l → Calls Try.prog 6 #[.slice ad l.length cap] w fun e w' => ∃ g, e = .returned (.slice (some ⟨g, 0, none⟩) l.length l.length) ∧ OwnRl w' w.heap.size (.slice (some ⟨g, 0, none⟩) l.length l.length) l ∧ Below w.heap.size w w') := fun w h => toRulsArg _ l w (by omega) h
    have HM : Hid (∀ x w, RdRl w (.slice (some x) l.length l.length) l → Calls Try.prog 5 #[.slice (some x) l.length l.length] w fun e w' => ∃ v, e = .returned (.agg #[v, .slice none 0 0, .slice none 0 0]) ∧ FrRl w' w.heap.size v (newR l) ∧ Below w.heap.size w w') := fun x w h => specBoxNew_any x _ l w (by omega) h
    have HI : Hid (∀ x w, RdRl w (.slice (some x) l.length l.length) l → Calls Try.prog 7 #[.slice (some x) l.length l.length] w fun e w' => ∃ v, e = .returned (.agg #[v, .slice none 0 0, .slice none 0 0]) ∧ FrRl w' w.heap.size v (newR l) ∧ Below w.heap.size w w') := fun x w h => implBoxNew_any x _ l w (by omega) h
    have HE : Hid (∀ v1 v2 w, RdBx w v1 (bxNew l) → RdBx w v2 (bxNew l) → Calls Try.prog 8 #[v1, v2] w fun e w' => e = .returned (.bool true) ∧ Below w.heap.size w w') := fun v1 v2 w h1 h2 => eqBox_same v1 v2 (bxNew l) w (by have := newR_len l; simp only [bxNew]; omega) (by simp [bxNew]) (by simp [bxNew]) h1 h2
    have HR : Hid (∀ v1 v2 w, RdRl w v1 l → RdRl w v2 l → Calls Try.prog 9 #[v1, v2] w fun e w' => e = .returned (.bool true) ∧ Below w.heap.size w w') := fun v1 v2 w h1 h2 => eqRuls_same v1 v2 l w (by omega) h1 h2
    obtain ⟨m1, hm1⟩ : ∃ m : Int, m = ((1 + 7 * l.length : Nat) : Int) := ⟨_, rfl⟩
    have hm1' : ¬ m1 < 0 := by omega
    have HK : Hid (∀ B g w, OwnRl w B (.slice (some ⟨g, 0, none⟩) l.length l.length) l → Calls Try.prog 10 #[.slice (some ⟨g, 0, none⟩) l.length l.length, .int .i64 1] w fun e w' => e = .returned (.int .i64 m1) ∧ ∃ row, w.grownBy w' row ∧ ∀ j, row = some j → j = g) := fun B g w h => by
      rw [hm1]
      refine (markRuls_own 1 B _ l w (by omega) (FrL.own h)).mono ?_
      rintro e w' ⟨rfl, _, row, hg, hr⟩
      exact ⟨rfl, row, hg, fun j hj => by have := (hr j hj).1; simp [Value.ownBlock] at this; exact this.symm⟩
    obtain ⟨m, hm⟩ : ∃ m : Int, m = ((bxN (bxNew l) : Nat) : Int) := ⟨_, rfl⟩
    have hm' : ¬ m < 0 := by omega
    have HX : Hid (∀ B U v w, B ≤ w.heap.size → FrBx w B v (bxNew l) → UpBx U v (bxNew l) → Calls Try.prog 11 #[v, .int .i64 1] w fun e w' => e = .returned (.int .i64 m) ∧ MkBx w' v (bxNew l) ∧ Below B w w' ∧ ∀ k, U ≤ k → k < w.heap.size → w'.heap[k]? = w.heap[k]?) := fun B U v w hB h hU => by rw [hm]; exact markBox_any B U v (bxNew l) w (by have := newR_len l; simp only [bxNew]; omega) (by simp [bxNew]) (by simp [bxNew]) hB h hU
    have HH : Hid (∀ v w, MkBx w v (bxNew l) → Calls Try.prog 12 #[v, .int .i64 1] w fun e w' => e = .returned (.int .i64 m) ∧ Below w.heap.size w w') := fun v w h => by rw [hm]; exact heldBox_any v (bxNew l) w (by have := newR_len l; simp only [bxNew]; omega) (by simp [bxNew]) (by simp [bxNew]) h
    clear hq0 hm1 hm h hl
    go_enter Try.func3, Try.ntmps3
    go_wp2_with fail
    (go_at_call 4; refine (HS.out _).mono ?_; rintro e w1 ⟨rfl, rfl⟩)
    go_wp2_with fail
    (go_at_call 6; refine (HT.out _ HV.out).mono ?_; rintro e w2 ⟨g2, rfl, own2, b2⟩)
    have B2 := Lib.hid b2
    have O2 := Lib.hid own2.rd
    clear b2 own2
    go_wp2_with fail
    (go_at_call 5; refine (HM.out _ _ O2.out).mono ?_; rintro e w3 ⟨r0, rfl, fr3, b3⟩)
    have B3 : Hid (Below w.heap.size w w3) := B2.out.trans (b3.mono B2.out.size)
    obtain ⟨a0, c0, rfl, _⟩ := FrL.form fr3
    have C3 : Hid (Below w3.heap.size w3 (w3.alloc (.cells #[.slice a0 (newR l).length c0, .slice none 0 0, .slice none 0 0] 30))) := (Below.refl _ _).alloc (Nat.le_refl _) _
    have D3 := Lib.hid (FrBx.new (FrL.later fr3 C3.out)).rd
    have K3 : Hid (Blk (w3.alloc (.cells #[.slice a0 (newR l).length c0, .slice none 0 0, .slice none 0 0] 30)) w3.heap.size 30 [.slice a0 (newR l).length c0, .slice none 0 0, .slice none 0 0]) := three_new w3 _ _ _ _
    have A3 : Hid (Below w.heap.size w (w3.alloc (.cells #[.slice a0 (newR l).length c0, .slice none 0 0, .slice none 0 0] 30))) := B3.out.alloc B3.out.size _
    clear b3 fr3
    go_wp2_with fail
    (go_at_call 6; refine (HT.out _ (HV.out.below A3.out)).mono ?_; rintro e w4 ⟨g4, rfl, own4, b4⟩)
    have A4 : Hid (Below w.heap.size w w4) := A3.out.trans (b4.mono A3.out.size)
    have S4 := Lib.hid b4
    have O4 := Lib.hid own4
    have z3 : w.heap.size ≤ w3.heap.size := B3.out.size
    have z4 : w3.heap.size + 1 ≤ w4.heap.size := by have := b4.size; simpa using this
    have y4 : w3.heap.size + 1 ≤ g4 ∧ g4 < w4.heap.size := by
      rcases own4.2 with ⟨h0, _⟩ | ⟨g', _, _, hv', hB', hg', _⟩
      · cases h0
      · simp at hv'
        have := (Array.getElem?_eq_some_iff.1 hg').1
        simp at hB'
        omega
    clear b4 own4
    go_wp2_with fail
    (go_at_call 7; refine (HI.out _ _ O4.out.rd).mono ?_; rintro e w5 ⟨r1, rfl, fr5, b5⟩)
    obtain ⟨a1, c1, rfl, _⟩ := FrL.form fr5
    have C5 : Hid (Below w5.heap.size w5 (w5.alloc (.cells #[.slice a1 (newR l).length c1, .slice none 0 0, .slice none 0 0] 30))) := (Below.refl _ _).alloc (Nat.le_refl _) _
    have E5 : Hid (Below w4.heap.size w4 (w5.alloc (.cells #[.slice a1 (newR l).length c1, .slice none 0 0, .slice none 0 0] 30))) := b5.alloc b5.size _
    have A5 : Hid (Below w.heap.size w (w5.alloc (.cells #[.slice a1 (newR l).length c1, .slice none 0 0, .slice none 0 0] 30))) := A4.out.trans (E5.out.mono A4.out.size)
    have S5 := Lib.hid (S4.out.trans (E5.out.mono S4.out.size))
    have U5 := Lib.hid (FrBx.new fr5).up
    have F5 := Lib.hid (FrBx.new (FrL.later fr5 C5.out))
    have L5 : Hid (Blk (w5.alloc (.cells #[.slice a1 (newR l).length c1, .slice none 0 0, .slice none 0 0] 30)) w5.heap.size 30 [.slice a1 (newR l).length c1, .slice none 0 0, .slice none 0 0]) := three_new w5 _ _ _ _
    have O5 := Lib.hid (own_later O4.out E5.out)
    have z5 : w4.heap.size ≤ w5.heap.size := b5.size
    clear b5 fr5
    have D5 := Lib.hid (D3.out.below S5.out)
    obtain ⟨⟨k0, k1, k2⟩, _⟩ := three_all (K3.out.below S5.out)
    obtain ⟨⟨l0, l1, l2⟩, _⟩ := three_all L5.out
    go_wp2_with fail
    clear k0 k1 k2 l0 l1 l2
    (go_at_call 8; refine (HE.out _ _ _ F5.out.rd D5.out).mono ?_; rintro e w6 ⟨rfl, b6⟩)
    have A6 : Hid (Below w.heap.size w w6) := A5.out.trans (b6.mono A5.out.size)
    have S6 := Lib.hid (S5.out.trans (b6.mono S5.out.size))
    have F6 := Lib.hid (F5.out.later b6)
    have L6 := Lib.hid (L5.out.below b6)
    have O6 := Lib.hid (own_later O5.out b6)
    have z6 : w5.heap.size < w6.heap.size := by have := b6.size; simp at this; omega
    clear b6
    go_wp2_with fail
    (go_at_call 6; refine (HT.out _ (HV.out.below A6.out)).mono ?_; rintro e w7 ⟨g7, rfl, own7, b7⟩)
    have A7 : Hid (Below w.heap.size w w7) := A6.out.trans (b7.mono A6.out.size)
    have S7 := Lib.hid (S6.out.trans (b7.mono S6.out.size))
    have F7 := Lib.hid (F6.out.later b7)
    have L7 := Lib.hid (L6.out.below b7)
    have O7 := Lib.hid (own_later O6.out b7)
    have R7 := Lib.hid own7.rd
    have z7 : w6.heap.size ≤ w7.heap.size := b7.size
    clear b7 own7
    go_wp2_with fail
    (go_at_call 9; refine (HR.out _ _ _ (OwnRl.rd O7.out) R7.out).mono ?_; rintro e w8 ⟨rfl, b8⟩)
    have A8 : Hid (Below w.heap.size w w8) := A7.out.trans (b8.mono A7.out.size)
    have S8 := Lib.hid (S7.out.trans (b8.mono S7.out.size))
    have F8 := Lib.hid (F7.out.later b8)
    have L8 := Lib.hid (L7.out.below b8)
    have O8 := Lib.hid (own_later O7.out b8)
    have z8 : w7.heap.size ≤ w8.heap.size := b8.size
    clear b8
    go_wp2_with fail
    (go_at_call 10; refine (HK.out _ _ _ O8.out).mono ?_; rintro e w9 ⟨rfl, row9, gr9, hr9⟩)
    have A9 : Hid (Below w.heap.size w w9) := A8.out.trans (below_grown gr9 (fun j hj => by have := hr9 j hj; omega) (by omega))
    have S9 := Lib.hid (S8.out.trans (below_grown gr9 (fun j hj => by have := hr9 j hj; simp; omega) S8.out.size))
    have F9 := Lib.hid (F8.out.grown gr9 (fun j hj => by have := hr9 j hj; omega))
    have L9 : Hid (Blk w9 w5.heap.size 30 [.slice a1 (newR l).length c1, .slice none 0 0, .slice none 0 0]) := (gr9.block w5.heap.size (by omega) (fun e => by have := hr9 _ e.symm; omega)).trans L8.out
    have z9 : w8.heap.size ≤ w9.heap.size := gr9.size
    clear gr9 hr9
    have D9 := Lib.hid (D3.out.below S9.out)
    obtain ⟨⟨k0, k1, k2⟩, _⟩ := three_all (K3.out.below S9.out)
    obtain ⟨⟨l0, l1, l2⟩, _⟩ := three_all L9.out
    go_wp2_with fail
    clear k0 k1 k2 l0 l1 l2
    (go_at_call 8; refine (HE.out _ _ _ F9.out.rd D9.out).mono ?_; rintro e w10 ⟨rfl, b10⟩)
    have A10 : Hid (Below w.heap.size w w10) := A9.out.trans (b10.mono A9.out.size)
    have S10 := Lib.hid (S9.out.trans (b10.mono S9.out.size))
    have F10 := Lib.hid (F9.out.later b10)
    have L10 := Lib.hid (L9.out.below b10)
    have z10 : w9.heap.size ≤ w10.heap.size := b10.size
    clear b10
    obtain ⟨⟨l0, l1, l2⟩, _⟩ := three_all L10.out
    go_wp2_with fail
    clear l0 l1 l2
    (go_at_call 11; refine (HX.out _ _ _ _ (by omega) F10.out U5.out).mono ?_; rintro e w11 ⟨rfl, mk11, b11, up11⟩)
    have A11 : Hid (Below w.heap.size w w11) := A10.out.trans (b11.mono (by omega))
    have S11 := Lib.hid (S10.out.trans (b11.mono (by simp; omega)))
    have M11 := Lib.hid mk11
    have L11 : Hid (Blk w11 w5.heap.size 30 [.slice a1 (newR l).length c1, .slice none 0 0, .slice none 0 0]) := (up11 w5.heap.size (Nat.le_refl _) (by omega)).trans L10.out
    have z11 : w10.heap.size ≤ w11.heap.size := b11.size
    clear b11 mk11 up11
    obtain ⟨⟨l0, l1, l2⟩, _⟩ := three_all L11.out
    go_wp2_with fail
    clear l0 l1 l2
    (go_at_call 12; refine (HH.out _ _ M11.out).mono ?_; rintro e w12 ⟨rfl, b12⟩)
    have A12 : Hid (Below w.heap.size w w12) := A11.out.trans (b12.mono A11.out.size)
    have S12 := Lib.hid (S11.out.trans (b12.mono S11.out.size))
    have M12 := Lib.hid (M11.out.below b12)
    have L12 := Lib.hid (L11.out.below b12)
    have z12 : w11.heap.size ≤ w12.heap.size := b12.size
    clear b12
    go_wp2_with fail
    (go_at_call 6; refine (HT.out _ (HV.out.below A12.out)).mono ?_; rintro e w13 ⟨g13, rfl, own13, b13⟩)
    have A13 : Hid (Below w.heap.size w w13) := A12.out.trans (b13.mono A12.out.size)
    have S13 := Lib.hid (S12.out.trans (b13.mono S12.out.size))
    have M13 := Lib.hid (M12.out.below b13)
    have L13 := Lib.hid (L12.out.below b13)
    have O13 := Lib.hid own13.rd
    have z13 : w12.heap.size ≤ w13.heap.size := b13.size
    clear b13 own13
    go_wp2_with fail
    (go_at_call 7; refine (HI.out _ _ O13.out).mono ?_; rintro e w14 ⟨r2, rfl, fr14, b14⟩)
    obtain ⟨a2, c2, rfl, _⟩ := FrL.form fr14
    have C14 : Hid (Below w14.heap.size w14 (w14.alloc (.cells #[.slice a2 (newR l).length c2, .slice none 0 0, .slice none 0 0] 30))) := (Below.refl _ _).alloc (Nat.le_refl _) _
    have E14 : Hid (Below w13.heap.size w13 (w14.alloc (.cells #[.slice a2 (newR l).length c2, .slice none 0 0, .slice none 0 0] 30))) := b14.alloc b14.size _
    have A14 := Lib.hid (A13.out.trans (E14.out.mono A13.out.size))
    have S14 := Lib.hid (S13.out.trans (E14.out.mono S13.out.size))
    have M14 := Lib.hid (M13.out.below E14.out)
    have L14 := Lib.hid (L13.out.below E14.out)
    have F14 := Lib.hid (FrBx.new (FrL.later fr14 C14.out)).rd
    have N14 : Hid (Blk (w14.alloc (.cells #[.slice a2 (newR l).length c2, .slice none 0 0, .slice none 0 0] 30)) w14.heap.size 30 [.slice a2 (newR l).length c2, .slice none 0 0, .slice none 0 0]) := three_new w14 _ _ _ _
    clear b14 fr14
    have D14 := Lib.hid (D3.out.below S14.out)
    obtain ⟨⟨k0, k1, k2⟩, _⟩ := three_all (K3.out.below S14.out)
    obtain ⟨⟨l0, l1, l2⟩, _⟩ := three_all N14.out
    go_wp2_with fail
    clear k0 k1 k2 l0 l1 l2
    (go_at_call 8; refine (HE.out _ _ _ F14.out D14.out).mono ?_; rintro e w15 ⟨rfl, b15⟩)
    have A15 := Lib.hid (A14.out.trans (b15.mono A14.out.size))
    have M15 := Lib.hid (M14.out.below b15)
    have L15 := Lib.hid (L14.out.below b15)
    clear b15
    obtain ⟨⟨l0, l1, l2⟩, _⟩ := three_all L15.out
    go_wp2_with fail
    clear l0 l1 l2
    (go_at_call 12; refine (HH.out _ _ M15.out).mono ?_; rintro e w16 ⟨rfl, b16⟩)
    have A16 := Lib.hid (A15.out.trans (b16.mono A15.out.size))
    clear b16
    go_wp2_with fail
    go_ret
    exact ⟨rfl, A16.out⟩

end Go.Proofs.Ytoimjpkgkcomnaa
