/- DskEvent of the specification, by the words of a line: 3 numbers behind the word. Condition: the line has at most 30 bytes. -/
import Derived.Test.YtilfpefccklebaaDoorSEvT
import Derived.Test.YtilfpefccklebaaDoorSEvM
import Derived.Test.YtilfpefccklebaaDoorBox5
import Derived.Test.YtilfpefccklebaaDoorFlat
namespace Go.Proofs.YtilfpefccklebaaDoor
open Go.RowKit Go.Sort


set_option maxRecDepth 100000 in
set_option maxHeartbeats 3200000 in
theorem specDskE_31 (s : ByteArray) (x : List UInt8) (r : List (List UInt8)) (K : Nat) (a : Nat) (b : Nat) (c : Nat) (w : World) (hs : s.size ≤ 30) (h : wordsL s.data.toList = x :: r) (hK : kindL x = K) (h0 : 1 ≤ K) (h8 : K ≤ 8) (ha : a ≤ 9999) (hb : b ≤ 9999) (hc : c ≤ 9999) (hall : allN r = true) (hl : r.length = 3) (hm : r.map numV = [.int .i64 (a : Nat), .int .i64 (b : Nat), .int .i64 (c : Nat)]) (q1 : ((K : Int) == 1) = true) :
    Calls Tryd.prog 8 #[.string s] w fun e w' => e = .returned (if evTx K (numsE K a b c 0) = s.data.toList then .tuple #[.agg #[.int .i64 (K : Nat), .int .i64 (a : Nat), .int .i64 (b : Nat), .int .i64 (c : Nat), .int .i64 0], .bool true] else .tuple #[.agg #[.int .i64 0, .int .i64 0, .int .i64 0, .int .i64 0, .int .i64 0], .bool false]) ∧ Below w.heap.size w w' := by
  have h3 : ¬ (30 : Int) < (s.size : Int) := by omega
  have hxl : r.length ≤ 30 := by
    have h1 := wordsL_len s.data.toList
    rw [h, len_list] at h1
    simp at h1; omega
  have HW : Hid (∀ w, Calls Tryd.prog 26 #[.string s] w fun e w' => ∃ v, e = .returned v ∧ w'.ownsRow w.heap.size 9 1 v (r.length + 1) ((x :: r).map strV) ∧ Below w.heap.size w w') := by
    intro w; have := specWords_any s w (by omega); rw [h] at this; exact this
  have HK : Hid (∀ w, Calls Tryd.prog 27 #[.string ⟨x.toArray⟩] w fun e w' => e = .returned (.int .i64 (K : Nat)) ∧ Below w.heap.size w w') := by
    intro w; have := specKind_any ⟨x.toArray⟩ w; simp only [hK] at this; exact this
  have HN : Hid (∀ g o cap w, r.length ≤ cap → g < w.heap.size → (∀ j (hj : j < r.length), w.cell? ⟨g, o + j, none⟩ = some (strV r[j])) → Calls Tryd.prog 28 #[.slice (some ⟨g, o, none⟩) r.length cap] w fun e w' => ∃ v ok, e = .returned (.tuple #[v, .bool ok]) ∧ ok = allN r ∧ (ok = true → w'.ownsRow w.heap.size 3 1 v r.length (r.map numV)) ∧ Below w.heap.size w w') := fun g o cap w a b c => specNums_any r g o cap w (by omega) a b c
  have hk0 : ((K : Int) == 0) = false := by simp; omega
  have HT : Hid (∀ w, Calls Tryd.prog 29 #[.agg #[.int .i64 (K : Nat), .int .i64 (a : Nat), .int .i64 (b : Nat), .int .i64 (c : Nat), .int .i64 0]] w fun e w' => e = .returned (.string ⟨(evTx K (numsE K a b c 0)).toArray⟩) ∧ Below w.heap.size w w') := fun w => specEvTx_any K a b c 0 w h0 h8 (by omega) (by omega) (by omega) (by omega)
  obtain ⟨T, hT⟩ : ∃ T, T = evTx K (numsE K a b c 0) := ⟨_, rfl⟩
  rw [← hT] at HT ⊢
  have HA := Lib.hid hall
  have HM := Lib.hid hm
  have HL := Lib.hid hl
  obtain ⟨V, hV⟩ : ∃ V, V = (if T = s.data.toList then Value.tuple #[.agg #[.int .i64 (K : Nat), .int .i64 (a : Nat), .int .i64 (b : Nat), .int .i64 (c : Nat), .int .i64 0], .bool true] else .tuple #[.agg #[.int .i64 0, .int .i64 0, .int .i64 0, .int .i64 0, .int .i64 0], .bool false]) := ⟨_, rfl⟩
  rw [← hV]
  have HV := Lib.hid hV
  clear hall h0 h8 hT hm hl hV
  clear h hK
  go_enter Tryd.func8, Tryd.ntmps8
  go_wp2_with fail
  (go_at_call 26; refine (HW.out _).mono ?_; rintro e w1 ⟨v, rfl, own1, b1⟩; have Z1 : Hid (Box5 w1 w.heap.size (.int .i64 0) (.int .i64 0) (.int .i64 0) (.int .i64 0) (.int .i64 0)) := (box5_new w (.int .i64 0) (.int .i64 0) (.int .i64 0) (.int .i64 0) (.int .i64 0) _).below b1 (by simp); have F1 : Hid (Fz w1 w.heap.size) := (fz_new w _ _).below b1 (by simp); have B1 : Hid (Below w.heap.size w w1) := below_box b1; have z1 : w.heap.size < w1.heap.size := (by have := b1.size; simp at this; omega); obtain ⟨g, cap, rfl, hcap, gB, gl, row⟩ := RowAt.of_own own1 (by simp); have k0 : w1.cell? ⟨g, 0, none⟩ = some (.string ⟨x.toArray⟩) := (row 0 (by simp)).1; have HR : Hid (∀ j (hj : j < r.length), w1.cell? ⟨g, 1 + j, none⟩ = some (strV r[j])) := (fun j hj => by have := (row (j + 1) (by simp; omega)).1; rw [Nat.add_comm 1 j]; simpa using this); clear b1)
  clear own1 row
  have hcap1 : 1 ≤ cap := by omega
  have hc0 : (0 : Int) < (cap : Int) := by omega
  have hc1 : (1 : Int) ≤ (cap : Int) := by omega
  have hc9 : ¬ cap = 1 := by have := HL.out; omega
  go_wp2_with fail
  (go_at_call 27; refine (HK.out _).mono ?_; rintro e w2 ⟨rfl, b2⟩; have B2 : Hid (Below w.heap.size w w2) := B1.out.trans (b2.mono (by have := B1.out.size; first | assumption | (simp; omega))); have b12 : Hid (Below w1.heap.size w1 w2) := b2; clear b2)
  have G2 : g < w2.heap.size := Nat.lt_of_lt_of_le gl b12.out.size
  have HR2 : Hid (∀ o' j (hj : j < r.length), (w2.alloc o').cell? ⟨g, 1 + j, none⟩ = some (strV r[j])) := fun o' j hj => ((b12.out.alloc b12.out.size o').cell (p := ⟨g, 1 + j, none⟩) gl).trans (HR.out j hj)
  have GA : Hid (∀ o', g < (w2.alloc o').heap.size) := fun o' => by simp; omega
  go_wp2_with fail
  (generalize hW2 : World.alloc w2 _ = W2
   have ZE2 : Box5 W2 w2.heap.size (.int .i64 (K : Nat)) (.int .i64 0) (.int .i64 0) (.int .i64 0) (.int .i64 0) := (by rw [← hW2]; exact box5_new w2 _ _ _ _ _ _)
   have EF2 : Fz W2 w2.heap.size := (by rw [← hW2]; exact fz_new w2 _ _)
   have BW2 : Below w2.heap.size w2 W2 := (by rw [← hW2]; exact (Below.refl _ _).alloc (Nat.le_refl _) _)
   have gW2 : g < W2.heap.size := (by rw [← hW2]; exact GA.out _)
   have sW2 : W2.heap.size = w2.heap.size + 1 := (by rw [← hW2]; simp)
   have HR3 : ∀ j (hj : j < r.length), W2.cell? ⟨g, 1 + j, none⟩ = some (strV r[j]) := (by rw [← hW2]; exact HR2.out _)
   clear hW2
   have H3 : Hid (∀ j (hj : j < r.length), W2.cell? ⟨g, 1 + j, none⟩ = some (strV r[j])) := HR3
   clear HR3
   go_at_call 28
   refine (HN.out g _ _ W2 (by omega) gW2 (by first | exact H3.out | (intro j hj; exact absurd hj (by omega)))).mono ?_
   rintro e w3 ⟨v, ok, rfl, hok, hown, b3⟩
   have ZE : Box5 w3 w2.heap.size (.int .i64 (K : Nat)) (.int .i64 0) (.int .i64 0) (.int .i64 0) (.int .i64 0) := ZE2.below b3 (by omega)
   have EF : Hid (Fz w3 w2.heap.size) := EF2.below b3 (by omega)
   have B23 : Below w2.heap.size w2 w3 := BW2.trans (b3.mono (by omega))
   have ZR : Hid (Box5 w3 w.heap.size (.int .i64 0) (.int .i64 0) (.int .i64 0) (.int .i64 0) (.int .i64 0)) := (Z1.out.below b12.out z1).below B23 (by have := b12.out.size; omega)
   have ZF : Hid (Fz w3 w.heap.size) := (F1.out.below b12.out z1).below B23 (by have := b12.out.size; omega)
   have B3 : Hid (Below w.heap.size w w3) := B2.out.trans (B23.mono (by have := b12.out.size; omega))
   obtain ⟨e0, e1, e2, e3, e4⟩ := ZE
   clear b3 B23 ZE2 EF2 BW2 gW2 H3)
  rw [HA.out] at hok
  subst hok
  have ho := hown rfl
  rw [HM.out, HL.out] at ho
  clear hown
  obtain ⟨gn, cn, rfl, hcn, gnB, gnl, rown⟩ := RowAt.of_own ho (by simp)
  have n0 : w3.cell? ⟨gn, 0, none⟩ = some (.int .i64 (a : Nat)) := (rown 0 (by simp)).1
  have n1 : w3.cell? ⟨gn, 1, none⟩ = some (.int .i64 (b : Nat)) := (rown 1 (by simp)).1
  have n2 : w3.cell? ⟨gn, 2, none⟩ = some (.int .i64 (c : Nat)) := (rown 2 (by simp)).1
  have hcn3 : (3 : Int) ≤ (cn : Int) := by omega
  have hne2 : ¬ w2.heap.size = gn := by omega
  have hne : w.heap.size ≠ w2.heap.size := by have := b12.out.size; omega
  have g0 := EF.out 1
  have g1 := EF.out 2
  have g2 := EF.out 3
  have ZE : Hid (Box5 w3 w2.heap.size (.int .i64 (K : Nat)) (.int .i64 0) (.int .i64 0) (.int .i64 0) (.int .i64 0)) := ⟨e0, e1, e2, e3, e4⟩
  have hw23 : w2.heap.size < w3.heap.size := ZE.out.lt
  have hw03 : w.heap.size < w3.heap.size := ZR.out.lt
  clear ho rown HW HK HN gnB HR HR2 GA
  go_wp2_with fail
  (go_at_call 29; refine (HT.out _).mono ?_; rintro e w4 ⟨rfl, b4⟩; have ZR4 : Box5 w4 w.heap.size (.int .i64 0) (.int .i64 0) (.int .i64 0) (.int .i64 0) (.int .i64 0) := (by refine Box5.below ?_ b4 ?_ <;> first | exact (((ZR.out.other hne _).other hne _).other hne _) | (simp; omega)); have ZF4 : Fz w4 w.heap.size := (by refine Fz.below ?_ b4 ?_ <;> first | exact (((ZF.out.set _ _).set _ _).set _ _) | (simp; omega)); have ZE4 : Box5 w4 w2.heap.size (.int .i64 (K : Nat)) (.int .i64 (a : Nat)) (.int .i64 (b : Nat)) (.int .i64 (c : Nat)) (.int .i64 0) := (by refine Box5.below ?_ b4 ?_ <;> first | exact (((ZE.out.set1 _).set2 _).set3 _) | (simp; omega)); have B4 : Hid (Below w.heap.size w w4) := Below.trans (((B3.out.setCell (by have := B2.out.size; exact this) _).setCell (by have := B2.out.size; exact this) _).setCell (by have := B2.out.size; exact this) _) (b4.mono (by simp; omega)))
  clear e0 e1 e2 e3 e4 b4
  obtain ⟨r0, r1, r2, r3, r4⟩ := ZR4
  obtain ⟨e0, e1, e2, e3, e4⟩ := ZE4
  have f0 := ZF4 0
  have f1 := ZF4 1
  have f2 := ZF4 2
  have f3 := ZF4 3
  have f4 := ZF4 4
  have hZR : Hid (Box5 w4 w.heap.size (.int .i64 0) (.int .i64 0) (.int .i64 0) (.int .i64 0) (.int .i64 0)) := ⟨r0, r1, r2, r3, r4⟩
  by_cases he : T = s.data.toList
  · have hq : (T == s.toList) = true := by rw [Lib.toList_data, he]; simp
    have HE := Lib.hid he
    clear he
    go_wp2
    obtain ⟨q0, q1, q2, q3, q4⟩ := hZR.out.all (.int .i64 (K : Nat)) (.int .i64 (a : Nat)) (.int .i64 (b : Nat)) (.int .i64 (c : Nat)) (.int .i64 0)
    refine bodyPost_ret (v := .tuple #[.agg #[.int .i64 (K : Nat), .int .i64 (a : Nat), .int .i64 (b : Nat), .int .i64 (c : Nat), .int .i64 0], .bool true]) (by simp [results, Tryd.results8, go_sem, q0, q1, q2, q3, q4]) rfl ⟨by rw [HV.out, if_pos HE.out], ?_⟩
    exact ((((B4.out.setCell (Nat.le_refl _) _).setCell (Nat.le_refl _) _).setCell (Nat.le_refl _) _).setCell (Nat.le_refl _) _).setCell (Nat.le_refl _) _
  · have hq : (T == s.toList) = false := by rw [Lib.toList_data]; simpa using he
    have HE := Lib.hid he
    clear he
    go_wp2
    obtain ⟨q0, q1, q2, q3, q4⟩ := hZR.out.all (.int .i64 0) (.int .i64 0) (.int .i64 0) (.int .i64 0) (.int .i64 0)
    refine bodyPost_ret (v := .tuple #[.agg #[.int .i64 0, .int .i64 0, .int .i64 0, .int .i64 0, .int .i64 0], .bool false]) (by simp [results, Tryd.results8, go_sem, q0, q1, q2, q3, q4]) rfl ⟨by rw [HV.out, if_neg HE.out], ?_⟩
    exact ((((B4.out.setCell (Nat.le_refl _) _).setCell (Nat.le_refl _) _).setCell (Nat.le_refl _) _).setCell (Nat.le_refl _) _).setCell (Nat.le_refl _) _

set_option maxRecDepth 100000 in
set_option maxHeartbeats 3200000 in
theorem specDskE_32 (s : ByteArray) (x : List UInt8) (r : List (List UInt8)) (K : Nat) (a : Nat) (b : Nat) (c : Nat) (w : World) (hs : s.size ≤ 30) (h : wordsL s.data.toList = x :: r) (hK : kindL x = K) (h0 : 1 ≤ K) (h8 : K ≤ 8) (ha : a ≤ 9999) (hb : b ≤ 9999) (hc : c ≤ 9999) (hall : allN r = true) (hl : r.length = 3) (hm : r.map numV = [.int .i64 (a : Nat), .int .i64 (b : Nat), .int .i64 (c : Nat)]) (q1 : ((K : Int) == 1) = false) (q2 : ((K : Int) == 2) = true) :
    Calls Tryd.prog 8 #[.string s] w fun e w' => e = .returned (if evTx K (numsE K a b c 0) = s.data.toList then .tuple #[.agg #[.int .i64 (K : Nat), .int .i64 (a : Nat), .int .i64 (b : Nat), .int .i64 (c : Nat), .int .i64 0], .bool true] else .tuple #[.agg #[.int .i64 0, .int .i64 0, .int .i64 0, .int .i64 0, .int .i64 0], .bool false]) ∧ Below w.heap.size w w' := by
  have h3 : ¬ (30 : Int) < (s.size : Int) := by omega
  have hxl : r.length ≤ 30 := by
    have h1 := wordsL_len s.data.toList
    rw [h, len_list] at h1
    simp at h1; omega
  have HW : Hid (∀ w, Calls Tryd.prog 26 #[.string s] w fun e w' => ∃ v, e = .returned v ∧ w'.ownsRow w.heap.size 9 1 v (r.length + 1) ((x :: r).map strV) ∧ Below w.heap.size w w') := by
    intro w; have := specWords_any s w (by omega); rw [h] at this; exact this
  have HK : Hid (∀ w, Calls Tryd.prog 27 #[.string ⟨x.toArray⟩] w fun e w' => e = .returned (.int .i64 (K : Nat)) ∧ Below w.heap.size w w') := by
    intro w; have := specKind_any ⟨x.toArray⟩ w; simp only [hK] at this; exact this
  have HN : Hid (∀ g o cap w, r.length ≤ cap → g < w.heap.size → (∀ j (hj : j < r.length), w.cell? ⟨g, o + j, none⟩ = some (strV r[j])) → Calls Tryd.prog 28 #[.slice (some ⟨g, o, none⟩) r.length cap] w fun e w' => ∃ v ok, e = .returned (.tuple #[v, .bool ok]) ∧ ok = allN r ∧ (ok = true → w'.ownsRow w.heap.size 3 1 v r.length (r.map numV)) ∧ Below w.heap.size w w') := fun g o cap w a b c => specNums_any r g o cap w (by omega) a b c
  have hk0 : ((K : Int) == 0) = false := by simp; omega
  have HT : Hid (∀ w, Calls Tryd.prog 29 #[.agg #[.int .i64 (K : Nat), .int .i64 (a : Nat), .int .i64 (b : Nat), .int .i64 (c : Nat), .int .i64 0]] w fun e w' => e = .returned (.string ⟨(evTx K (numsE K a b c 0)).toArray⟩) ∧ Below w.heap.size w w') := fun w => specEvTx_any K a b c 0 w h0 h8 (by omega) (by omega) (by omega) (by omega)
  obtain ⟨T, hT⟩ : ∃ T, T = evTx K (numsE K a b c 0) := ⟨_, rfl⟩
  rw [← hT] at HT ⊢
  have HA := Lib.hid hall
  have HM := Lib.hid hm
  have HL := Lib.hid hl
  obtain ⟨V, hV⟩ : ∃ V, V = (if T = s.data.toList then Value.tuple #[.agg #[.int .i64 (K : Nat), .int .i64 (a : Nat), .int .i64 (b : Nat), .int .i64 (c : Nat), .int .i64 0], .bool true] else .tuple #[.agg #[.int .i64 0, .int .i64 0, .int .i64 0, .int .i64 0, .int .i64 0], .bool false]) := ⟨_, rfl⟩
  rw [← hV]
  have HV := Lib.hid hV
  clear hall h0 h8 hT hm hl hV
  clear h hK
  go_enter Tryd.func8, Tryd.ntmps8
  go_wp2_with fail
  (go_at_call 26; refine (HW.out _).mono ?_; rintro e w1 ⟨v, rfl, own1, b1⟩; have Z1 : Hid (Box5 w1 w.heap.size (.int .i64 0) (.int .i64 0) (.int .i64 0) (.int .i64 0) (.int .i64 0)) := (box5_new w (.int .i64 0) (.int .i64 0) (.int .i64 0) (.int .i64 0) (.int .i64 0) _).below b1 (by simp); have F1 : Hid (Fz w1 w.heap.size) := (fz_new w _ _).below b1 (by simp); have B1 : Hid (Below w.heap.size w w1) := below_box b1; have z1 : w.heap.size < w1.heap.size := (by have := b1.size; simp at this; omega); obtain ⟨g, cap, rfl, hcap, gB, gl, row⟩ := RowAt.of_own own1 (by simp); have k0 : w1.cell? ⟨g, 0, none⟩ = some (.string ⟨x.toArray⟩) := (row 0 (by simp)).1; have HR : Hid (∀ j (hj : j < r.length), w1.cell? ⟨g, 1 + j, none⟩ = some (strV r[j])) := (fun j hj => by have := (row (j + 1) (by simp; omega)).1; rw [Nat.add_comm 1 j]; simpa using this); clear b1)
  clear own1 row
  have hcap1 : 1 ≤ cap := by omega
  have hc0 : (0 : Int) < (cap : Int) := by omega
  have hc1 : (1 : Int) ≤ (cap : Int) := by omega
  have hc9 : ¬ cap = 1 := by have := HL.out; omega
  go_wp2_with fail
  (go_at_call 27; refine (HK.out _).mono ?_; rintro e w2 ⟨rfl, b2⟩; have B2 : Hid (Below w.heap.size w w2) := B1.out.trans (b2.mono (by have := B1.out.size; first | assumption | (simp; omega))); have b12 : Hid (Below w1.heap.size w1 w2) := b2; clear b2)
  have G2 : g < w2.heap.size := Nat.lt_of_lt_of_le gl b12.out.size
  have HR2 : Hid (∀ o' j (hj : j < r.length), (w2.alloc o').cell? ⟨g, 1 + j, none⟩ = some (strV r[j])) := fun o' j hj => ((b12.out.alloc b12.out.size o').cell (p := ⟨g, 1 + j, none⟩) gl).trans (HR.out j hj)
  have GA : Hid (∀ o', g < (w2.alloc o').heap.size) := fun o' => by simp; omega
  go_wp2_with fail
  (generalize hW2 : World.alloc w2 _ = W2
   have ZE2 : Box5 W2 w2.heap.size (.int .i64 (K : Nat)) (.int .i64 0) (.int .i64 0) (.int .i64 0) (.int .i64 0) := (by rw [← hW2]; exact box5_new w2 _ _ _ _ _ _)
   have EF2 : Fz W2 w2.heap.size := (by rw [← hW2]; exact fz_new w2 _ _)
   have BW2 : Below w2.heap.size w2 W2 := (by rw [← hW2]; exact (Below.refl _ _).alloc (Nat.le_refl _) _)
   have gW2 : g < W2.heap.size := (by rw [← hW2]; exact GA.out _)
   have sW2 : W2.heap.size = w2.heap.size + 1 := (by rw [← hW2]; simp)
   have HR3 : ∀ j (hj : j < r.length), W2.cell? ⟨g, 1 + j, none⟩ = some (strV r[j]) := (by rw [← hW2]; exact HR2.out _)
   clear hW2
   have H3 : Hid (∀ j (hj : j < r.length), W2.cell? ⟨g, 1 + j, none⟩ = some (strV r[j])) := HR3
   clear HR3
   go_at_call 28
   refine (HN.out g _ _ W2 (by omega) gW2 (by first | exact H3.out | (intro j hj; exact absurd hj (by omega)))).mono ?_
   rintro e w3 ⟨v, ok, rfl, hok, hown, b3⟩
   have ZE : Box5 w3 w2.heap.size (.int .i64 (K : Nat)) (.int .i64 0) (.int .i64 0) (.int .i64 0) (.int .i64 0) := ZE2.below b3 (by omega)
   have EF : Hid (Fz w3 w2.heap.size) := EF2.below b3 (by omega)
   have B23 : Below w2.heap.size w2 w3 := BW2.trans (b3.mono (by omega))
   have ZR : Hid (Box5 w3 w.heap.size (.int .i64 0) (.int .i64 0) (.int .i64 0) (.int .i64 0) (.int .i64 0)) := (Z1.out.below b12.out z1).below B23 (by have := b12.out.size; omega)
   have ZF : Hid (Fz w3 w.heap.size) := (F1.out.below b12.out z1).below B23 (by have := b12.out.size; omega)
   have B3 : Hid (Below w.heap.size w w3) := B2.out.trans (B23.mono (by have := b12.out.size; omega))
   obtain ⟨e0, e1, e2, e3, e4⟩ := ZE
   clear b3 B23 ZE2 EF2 BW2 gW2 H3)
  rw [HA.out] at hok
  subst hok
  have ho := hown rfl
  rw [HM.out, HL.out] at ho
  clear hown
  obtain ⟨gn, cn, rfl, hcn, gnB, gnl, rown⟩ := RowAt.of_own ho (by simp)
  have n0 : w3.cell? ⟨gn, 0, none⟩ = some (.int .i64 (a : Nat)) := (rown 0 (by simp)).1
  have n1 : w3.cell? ⟨gn, 1, none⟩ = some (.int .i64 (b : Nat)) := (rown 1 (by simp)).1
  have n2 : w3.cell? ⟨gn, 2, none⟩ = some (.int .i64 (c : Nat)) := (rown 2 (by simp)).1
  have hcn3 : (3 : Int) ≤ (cn : Int) := by omega
  have hne2 : ¬ w2.heap.size = gn := by omega
  have hne : w.heap.size ≠ w2.heap.size := by have := b12.out.size; omega
  have g0 := EF.out 1
  have g1 := EF.out 2
  have g2 := EF.out 3
  have ZE : Hid (Box5 w3 w2.heap.size (.int .i64 (K : Nat)) (.int .i64 0) (.int .i64 0) (.int .i64 0) (.int .i64 0)) := ⟨e0, e1, e2, e3, e4⟩
  have hw23 : w2.heap.size < w3.heap.size := ZE.out.lt
  have hw03 : w.heap.size < w3.heap.size := ZR.out.lt
  clear ho rown HW HK HN gnB HR HR2 GA
  go_wp2_with fail
  (go_at_call 29; refine (HT.out _).mono ?_; rintro e w4 ⟨rfl, b4⟩; have ZR4 : Box5 w4 w.heap.size (.int .i64 0) (.int .i64 0) (.int .i64 0) (.int .i64 0) (.int .i64 0) := (by refine Box5.below ?_ b4 ?_ <;> first | exact (((ZR.out.other hne _).other hne _).other hne _) | (simp; omega)); have ZF4 : Fz w4 w.heap.size := (by refine Fz.below ?_ b4 ?_ <;> first | exact (((ZF.out.set _ _).set _ _).set _ _) | (simp; omega)); have ZE4 : Box5 w4 w2.heap.size (.int .i64 (K : Nat)) (.int .i64 (a : Nat)) (.int .i64 (b : Nat)) (.int .i64 (c : Nat)) (.int .i64 0) := (by refine Box5.below ?_ b4 ?_ <;> first | exact (((ZE.out.set1 _).set2 _).set3 _) | (simp; omega)); have B4 : Hid (Below w.heap.size w w4) := Below.trans (((B3.out.setCell (by have := B2.out.size; exact this) _).setCell (by have := B2.out.size; exact this) _).setCell (by have := B2.out.size; exact this) _) (b4.mono (by simp; omega)))
  clear e0 e1 e2 e3 e4 b4
  obtain ⟨r0, r1, r2, r3, r4⟩ := ZR4
  obtain ⟨e0, e1, e2, e3, e4⟩ := ZE4
  have f0 := ZF4 0
  have f1 := ZF4 1
  have f2 := ZF4 2
  have f3 := ZF4 3
  have f4 := ZF4 4
  have hZR : Hid (Box5 w4 w.heap.size (.int .i64 0) (.int .i64 0) (.int .i64 0) (.int .i64 0) (.int .i64 0)) := ⟨r0, r1, r2, r3, r4⟩
  by_cases he : T = s.data.toList
  · have hq : (T == s.toList) = true := by rw [Lib.toList_data, he]; simp
    have HE := Lib.hid he
    clear he
    go_wp2
    obtain ⟨q0, q1, q2, q3, q4⟩ := hZR.out.all (.int .i64 (K : Nat)) (.int .i64 (a : Nat)) (.int .i64 (b : Nat)) (.int .i64 (c : Nat)) (.int .i64 0)
    refine bodyPost_ret (v := .tuple #[.agg #[.int .i64 (K : Nat), .int .i64 (a : Nat), .int .i64 (b : Nat), .int .i64 (c : Nat), .int .i64 0], .bool true]) (by simp [results, Tryd.results8, go_sem, q0, q1, q2, q3, q4]) rfl ⟨by rw [HV.out, if_pos HE.out], ?_⟩
    exact ((((B4.out.setCell (Nat.le_refl _) _).setCell (Nat.le_refl _) _).setCell (Nat.le_refl _) _).setCell (Nat.le_refl _) _).setCell (Nat.le_refl _) _
  · have hq : (T == s.toList) = false := by rw [Lib.toList_data]; simpa using he
    have HE := Lib.hid he
    clear he
    go_wp2
    obtain ⟨q0, q1, q2, q3, q4⟩ := hZR.out.all (.int .i64 0) (.int .i64 0) (.int .i64 0) (.int .i64 0) (.int .i64 0)
    refine bodyPost_ret (v := .tuple #[.agg #[.int .i64 0, .int .i64 0, .int .i64 0, .int .i64 0, .int .i64 0], .bool false]) (by simp [results, Tryd.results8, go_sem, q0, q1, q2, q3, q4]) rfl ⟨by rw [HV.out, if_neg HE.out], ?_⟩
    exact ((((B4.out.setCell (Nat.le_refl _) _).setCell (Nat.le_refl _) _).setCell (Nat.le_refl _) _).setCell (Nat.le_refl _) _).setCell (Nat.le_refl _) _

set_option maxRecDepth 100000 in
set_option maxHeartbeats 3200000 in
theorem specDskE_38 (s : ByteArray) (x : List UInt8) (r : List (List UInt8)) (K : Nat) (a : Nat) (b : Nat) (c : Nat) (w : World) (hs : s.size ≤ 30) (h : wordsL s.data.toList = x :: r) (hK : kindL x = K) (h0 : 1 ≤ K) (h8 : K ≤ 8) (ha : a ≤ 9999) (hb : b ≤ 9999) (hc : c ≤ 9999) (hall : allN r = true) (hl : r.length = 3) (hm : r.map numV = [.int .i64 (a : Nat), .int .i64 (b : Nat), .int .i64 (c : Nat)]) (q1 : ((K : Int) == 1) = false) (q2 : ((K : Int) == 2) = false) (q8 : ((K : Int) == 8) = true) :
    Calls Tryd.prog 8 #[.string s] w fun e w' => e = .returned (if evTx K (numsE K a b c 0) = s.data.toList then .tuple #[.agg #[.int .i64 (K : Nat), .int .i64 (a : Nat), .int .i64 (b : Nat), .int .i64 (c : Nat), .int .i64 0], .bool true] else .tuple #[.agg #[.int .i64 0, .int .i64 0, .int .i64 0, .int .i64 0, .int .i64 0], .bool false]) ∧ Below w.heap.size w w' := by
  have h3 : ¬ (30 : Int) < (s.size : Int) := by omega
  have hxl : r.length ≤ 30 := by
    have h1 := wordsL_len s.data.toList
    rw [h, len_list] at h1
    simp at h1; omega
  have HW : Hid (∀ w, Calls Tryd.prog 26 #[.string s] w fun e w' => ∃ v, e = .returned v ∧ w'.ownsRow w.heap.size 9 1 v (r.length + 1) ((x :: r).map strV) ∧ Below w.heap.size w w') := by
    intro w; have := specWords_any s w (by omega); rw [h] at this; exact this
  have HK : Hid (∀ w, Calls Tryd.prog 27 #[.string ⟨x.toArray⟩] w fun e w' => e = .returned (.int .i64 (K : Nat)) ∧ Below w.heap.size w w') := by
    intro w; have := specKind_any ⟨x.toArray⟩ w; simp only [hK] at this; exact this
  have HN : Hid (∀ g o cap w, r.length ≤ cap → g < w.heap.size → (∀ j (hj : j < r.length), w.cell? ⟨g, o + j, none⟩ = some (strV r[j])) → Calls Tryd.prog 28 #[.slice (some ⟨g, o, none⟩) r.length cap] w fun e w' => ∃ v ok, e = .returned (.tuple #[v, .bool ok]) ∧ ok = allN r ∧ (ok = true → w'.ownsRow w.heap.size 3 1 v r.length (r.map numV)) ∧ Below w.heap.size w w') := fun g o cap w a b c => specNums_any r g o cap w (by omega) a b c
  have hk0 : ((K : Int) == 0) = false := by simp; omega
  have HT : Hid (∀ w, Calls Tryd.prog 29 #[.agg #[.int .i64 (K : Nat), .int .i64 (a : Nat), .int .i64 (b : Nat), .int .i64 (c : Nat), .int .i64 0]] w fun e w' => e = .returned (.string ⟨(evTx K (numsE K a b c 0)).toArray⟩) ∧ Below w.heap.size w w') := fun w => specEvTx_any K a b c 0 w h0 h8 (by omega) (by omega) (by omega) (by omega)
  obtain ⟨T, hT⟩ : ∃ T, T = evTx K (numsE K a b c 0) := ⟨_, rfl⟩
  rw [← hT] at HT ⊢
  have HA := Lib.hid hall
  have HM := Lib.hid hm
  have HL := Lib.hid hl
  obtain ⟨V, hV⟩ : ∃ V, V = (if T = s.data.toList then Value.tuple #[.agg #[.int .i64 (K : Nat), .int .i64 (a : Nat), .int .i64 (b : Nat), .int .i64 (c : Nat), .int .i64 0], .bool true] else .tuple #[.agg #[.int .i64 0, .int .i64 0, .int .i64 0, .int .i64 0, .int .i64 0], .bool false]) := ⟨_, rfl⟩
  rw [← hV]
  have HV := Lib.hid hV
  clear hall h0 h8 hT hm hl hV
  clear h hK
  go_enter Tryd.func8, Tryd.ntmps8
  go_wp2_with fail
  (go_at_call 26; refine (HW.out _).mono ?_; rintro e w1 ⟨v, rfl, own1, b1⟩; have Z1 : Hid (Box5 w1 w.heap.size (.int .i64 0) (.int .i64 0) (.int .i64 0) (.int .i64 0) (.int .i64 0)) := (box5_new w (.int .i64 0) (.int .i64 0) (.int .i64 0) (.int .i64 0) (.int .i64 0) _).below b1 (by simp); have F1 : Hid (Fz w1 w.heap.size) := (fz_new w _ _).below b1 (by simp); have B1 : Hid (Below w.heap.size w w1) := below_box b1; have z1 : w.heap.size < w1.heap.size := (by have := b1.size; simp at this; omega); obtain ⟨g, cap, rfl, hcap, gB, gl, row⟩ := RowAt.of_own own1 (by simp); have k0 : w1.cell? ⟨g, 0, none⟩ = some (.string ⟨x.toArray⟩) := (row 0 (by simp)).1; have HR : Hid (∀ j (hj : j < r.length), w1.cell? ⟨g, 1 + j, none⟩ = some (strV r[j])) := (fun j hj => by have := (row (j + 1) (by simp; omega)).1; rw [Nat.add_comm 1 j]; simpa using this); clear b1)
  clear own1 row
  have hcap1 : 1 ≤ cap := by omega
  have hc0 : (0 : Int) < (cap : Int) := by omega
  have hc1 : (1 : Int) ≤ (cap : Int) := by omega
  have hc9 : ¬ cap = 1 := by have := HL.out; omega
  go_wp2_with fail
  (go_at_call 27; refine (HK.out _).mono ?_; rintro e w2 ⟨rfl, b2⟩; have B2 : Hid (Below w.heap.size w w2) := B1.out.trans (b2.mono (by have := B1.out.size; first | assumption | (simp; omega))); have b12 : Hid (Below w1.heap.size w1 w2) := b2; clear b2)
  have G2 : g < w2.heap.size := Nat.lt_of_lt_of_le gl b12.out.size
  have HR2 : Hid (∀ o' j (hj : j < r.length), (w2.alloc o').cell? ⟨g, 1 + j, none⟩ = some (strV r[j])) := fun o' j hj => ((b12.out.alloc b12.out.size o').cell (p := ⟨g, 1 + j, none⟩) gl).trans (HR.out j hj)
  have GA : Hid (∀ o', g < (w2.alloc o').heap.size) := fun o' => by simp; omega
  go_wp2_with fail
  (generalize hW2 : World.alloc w2 _ = W2
   have ZE2 : Box5 W2 w2.heap.size (.int .i64 (K : Nat)) (.int .i64 0) (.int .i64 0) (.int .i64 0) (.int .i64 0) := (by rw [← hW2]; exact box5_new w2 _ _ _ _ _ _)
   have EF2 : Fz W2 w2.heap.size := (by rw [← hW2]; exact fz_new w2 _ _)
   have BW2 : Below w2.heap.size w2 W2 := (by rw [← hW2]; exact (Below.refl _ _).alloc (Nat.le_refl _) _)
   have gW2 : g < W2.heap.size := (by rw [← hW2]; exact GA.out _)
   have sW2 : W2.heap.size = w2.heap.size + 1 := (by rw [← hW2]; simp)
   have HR3 : ∀ j (hj : j < r.length), W2.cell? ⟨g, 1 + j, none⟩ = some (strV r[j]) := (by rw [← hW2]; exact HR2.out _)
   clear hW2
   have H3 : Hid (∀ j (hj : j < r.length), W2.cell? ⟨g, 1 + j, none⟩ = some (strV r[j])) := HR3
   clear HR3
   go_at_call 28
   refine (HN.out g _ _ W2 (by omega) gW2 (by first | exact H3.out | (intro j hj; exact absurd hj (by omega)))).mono ?_
   rintro e w3 ⟨v, ok, rfl, hok, hown, b3⟩
   have ZE : Box5 w3 w2.heap.size (.int .i64 (K : Nat)) (.int .i64 0) (.int .i64 0) (.int .i64 0) (.int .i64 0) := ZE2.below b3 (by omega)
   have EF : Hid (Fz w3 w2.heap.size) := EF2.below b3 (by omega)
   have B23 : Below w2.heap.size w2 w3 := BW2.trans (b3.mono (by omega))
   have ZR : Hid (Box5 w3 w.heap.size (.int .i64 0) (.int .i64 0) (.int .i64 0) (.int .i64 0) (.int .i64 0)) := (Z1.out.below b12.out z1).below B23 (by have := b12.out.size; omega)
   have ZF : Hid (Fz w3 w.heap.size) := (F1.out.below b12.out z1).below B23 (by have := b12.out.size; omega)
   have B3 : Hid (Below w.heap.size w w3) := B2.out.trans (B23.mono (by have := b12.out.size; omega))
   obtain ⟨e0, e1, e2, e3, e4⟩ := ZE
   clear b3 B23 ZE2 EF2 BW2 gW2 H3)
  rw [HA.out] at hok
  subst hok
  have ho := hown rfl
  rw [HM.out, HL.out] at ho
  clear hown
  obtain ⟨gn, cn, rfl, hcn, gnB, gnl, rown⟩ := RowAt.of_own ho (by simp)
  have n0 : w3.cell? ⟨gn, 0, none⟩ = some (.int .i64 (a : Nat)) := (rown 0 (by simp)).1
  have n1 : w3.cell? ⟨gn, 1, none⟩ = some (.int .i64 (b : Nat)) := (rown 1 (by simp)).1
  have n2 : w3.cell? ⟨gn, 2, none⟩ = some (.int .i64 (c : Nat)) := (rown 2 (by simp)).1
  have hcn3 : (3 : Int) ≤ (cn : Int) := by omega
  have hne2 : ¬ w2.heap.size = gn := by omega
  have hne : w.heap.size ≠ w2.heap.size := by have := b12.out.size; omega
  have g0 := EF.out 1
  have g1 := EF.out 2
  have g2 := EF.out 3
  have ZE : Hid (Box5 w3 w2.heap.size (.int .i64 (K : Nat)) (.int .i64 0) (.int .i64 0) (.int .i64 0) (.int .i64 0)) := ⟨e0, e1, e2, e3, e4⟩
  have hw23 : w2.heap.size < w3.heap.size := ZE.out.lt
  have hw03 : w.heap.size < w3.heap.size := ZR.out.lt
  clear ho rown HW HK HN gnB HR HR2 GA
  go_wp2_with fail
  (go_at_call 29; refine (HT.out _).mono ?_; rintro e w4 ⟨rfl, b4⟩; have ZR4 : Box5 w4 w.heap.size (.int .i64 0) (.int .i64 0) (.int .i64 0) (.int .i64 0) (.int .i64 0) := (by refine Box5.below ?_ b4 ?_ <;> first | exact (((ZR.out.other hne _).other hne _).other hne _) | (simp; omega)); have ZF4 : Fz w4 w.heap.size := (by refine Fz.below ?_ b4 ?_ <;> first | exact (((ZF.out.set _ _).set _ _).set _ _) | (simp; omega)); have ZE4 : Box5 w4 w2.heap.size (.int .i64 (K : Nat)) (.int .i64 (a : Nat)) (.int .i64 (b : Nat)) (.int .i64 (c : Nat)) (.int .i64 0) := (by refine Box5.below ?_ b4 ?_ <;> first | exact (((ZE.out.set1 _).set2 _).set3 _) | (simp; omega)); have B4 : Hid (Below w.heap.size w w4) := Below.trans (((B3.out.setCell (by have := B2.out.size; exact this) _).setCell (by have := B2.out.size; exact this) _).setCell (by have := B2.out.size; exact this) _) (b4.mono (by simp; omega)))
  clear e0 e1 e2 e3 e4 b4
  obtain ⟨r0, r1, r2, r3, r4⟩ := ZR4
  obtain ⟨e0, e1, e2, e3, e4⟩ := ZE4
  have f0 := ZF4 0
  have f1 := ZF4 1
  have f2 := ZF4 2
  have f3 := ZF4 3
  have f4 := ZF4 4
  have hZR : Hid (Box5 w4 w.heap.size (.int .i64 0) (.int .i64 0) (.int .i64 0) (.int .i64 0) (.int .i64 0)) := ⟨r0, r1, r2, r3, r4⟩
  by_cases he : T = s.data.toList
  · have hq : (T == s.toList) = true := by rw [Lib.toList_data, he]; simp
    have HE := Lib.hid he
    clear he
    go_wp2
    obtain ⟨q0, q1, q2, q3, q4⟩ := hZR.out.all (.int .i64 (K : Nat)) (.int .i64 (a : Nat)) (.int .i64 (b : Nat)) (.int .i64 (c : Nat)) (.int .i64 0)
    refine bodyPost_ret (v := .tuple #[.agg #[.int .i64 (K : Nat), .int .i64 (a : Nat), .int .i64 (b : Nat), .int .i64 (c : Nat), .int .i64 0], .bool true]) (by simp [results, Tryd.results8, go_sem, q0, q1, q2, q3, q4]) rfl ⟨by rw [HV.out, if_pos HE.out], ?_⟩
    exact ((((B4.out.setCell (Nat.le_refl _) _).setCell (Nat.le_refl _) _).setCell (Nat.le_refl _) _).setCell (Nat.le_refl _) _).setCell (Nat.le_refl _) _
  · have hq : (T == s.toList) = false := by rw [Lib.toList_data]; simpa using he
    have HE := Lib.hid he
    clear he
    go_wp2
    obtain ⟨q0, q1, q2, q3, q4⟩ := hZR.out.all (.int .i64 0) (.int .i64 0) (.int .i64 0) (.int .i64 0) (.int .i64 0)
    refine bodyPost_ret (v := .tuple #[.agg #[.int .i64 0, .int .i64 0, .int .i64 0, .int .i64 0, .int .i64 0], .bool false]) (by simp [results, Tryd.results8, go_sem, q0, q1, q2, q3, q4]) rfl ⟨by rw [HV.out, if_neg HE.out], ?_⟩
    exact ((((B4.out.setCell (Nat.le_refl _) _).setCell (Nat.le_refl _) _).setCell (Nat.le_refl _) _).setCell (Nat.le_refl _) _).setCell (Nat.le_refl _) _

set_option maxRecDepth 100000 in
set_option maxHeartbeats 3200000 in
theorem specDskE_3o (s : ByteArray) (x : List UInt8) (r : List (List UInt8)) (K : Nat) (a : Nat) (b : Nat) (c : Nat) (w : World) (hs : s.size ≤ 30) (h : wordsL s.data.toList = x :: r) (hK : kindL x = K) (h0 : 1 ≤ K) (h8 : K ≤ 8) (ha : a ≤ 9999) (hb : b ≤ 9999) (hc : c ≤ 9999) (hall : allN r = true) (hl : r.length = 3) (hm : r.map numV = [.int .i64 (a : Nat), .int .i64 (b : Nat), .int .i64 (c : Nat)]) (q1 : ((K : Int) == 1) = false) (q2 : ((K : Int) == 2) = false) (q8 : ((K : Int) == 8) = false) :
    Calls Tryd.prog 8 #[.string s] w fun e w' => e = .returned (if evTx K (numsE K 0 a b c) = s.data.toList then .tuple #[.agg #[.int .i64 (K : Nat), .int .i64 0, .int .i64 (a : Nat), .int .i64 (b : Nat), .int .i64 (c : Nat)], .bool true] else .tuple #[.agg #[.int .i64 0, .int .i64 0, .int .i64 0, .int .i64 0, .int .i64 0], .bool false]) ∧ Below w.heap.size w w' := by
  have h3 : ¬ (30 : Int) < (s.size : Int) := by omega
  have hxl : r.length ≤ 30 := by
    have h1 := wordsL_len s.data.toList
    rw [h, len_list] at h1
    simp at h1; omega
  have HW : Hid (∀ w, Calls Tryd.prog 26 #[.string s] w fun e w' => ∃ v, e = .returned v ∧ w'.ownsRow w.heap.size 9 1 v (r.length + 1) ((x :: r).map strV) ∧ Below w.heap.size w w') := by
    intro w; have := specWords_any s w (by omega); rw [h] at this; exact this
  have HK : Hid (∀ w, Calls Tryd.prog 27 #[.string ⟨x.toArray⟩] w fun e w' => e = .returned (.int .i64 (K : Nat)) ∧ Below w.heap.size w w') := by
    intro w; have := specKind_any ⟨x.toArray⟩ w; simp only [hK] at this; exact this
  have HN : Hid (∀ g o cap w, r.length ≤ cap → g < w.heap.size → (∀ j (hj : j < r.length), w.cell? ⟨g, o + j, none⟩ = some (strV r[j])) → Calls Tryd.prog 28 #[.slice (some ⟨g, o, none⟩) r.length cap] w fun e w' => ∃ v ok, e = .returned (.tuple #[v, .bool ok]) ∧ ok = allN r ∧ (ok = true → w'.ownsRow w.heap.size 3 1 v r.length (r.map numV)) ∧ Below w.heap.size w w') := fun g o cap w a b c => specNums_any r g o cap w (by omega) a b c
  have hk0 : ((K : Int) == 0) = false := by simp; omega
  have HT : Hid (∀ w, Calls Tryd.prog 29 #[.agg #[.int .i64 (K : Nat), .int .i64 0, .int .i64 (a : Nat), .int .i64 (b : Nat), .int .i64 (c : Nat)]] w fun e w' => e = .returned (.string ⟨(evTx K (numsE K 0 a b c)).toArray⟩) ∧ Below w.heap.size w w') := fun w => specEvTx_any K 0 a b c w h0 h8 (by omega) (by omega) (by omega) (by omega)
  obtain ⟨T, hT⟩ : ∃ T, T = evTx K (numsE K 0 a b c) := ⟨_, rfl⟩
  rw [← hT] at HT ⊢
  have HA := Lib.hid hall
  have HM := Lib.hid hm
  have HL := Lib.hid hl
  obtain ⟨V, hV⟩ : ∃ V, V = (if T = s.data.toList then Value.tuple #[.agg #[.int .i64 (K : Nat), .int .i64 0, .int .i64 (a : Nat), .int .i64 (b : Nat), .int .i64 (c : Nat)], .bool true] else .tuple #[.agg #[.int .i64 0, .int .i64 0, .int .i64 0, .int .i64 0, .int .i64 0], .bool false]) := ⟨_, rfl⟩
  rw [← hV]
  have HV := Lib.hid hV
  clear hall h0 h8 hT hm hl hV
  clear h hK
  go_enter Tryd.func8, Tryd.ntmps8
  go_wp2_with fail
  (go_at_call 26; refine (HW.out _).mono ?_; rintro e w1 ⟨v, rfl, own1, b1⟩; have Z1 : Hid (Box5 w1 w.heap.size (.int .i64 0) (.int .i64 0) (.int .i64 0) (.int .i64 0) (.int .i64 0)) := (box5_new w (.int .i64 0) (.int .i64 0) (.int .i64 0) (.int .i64 0) (.int .i64 0) _).below b1 (by simp); have F1 : Hid (Fz w1 w.heap.size) := (fz_new w _ _).below b1 (by simp); have B1 : Hid (Below w.heap.size w w1) := below_box b1; have z1 : w.heap.size < w1.heap.size := (by have := b1.size; simp at this; omega); obtain ⟨g, cap, rfl, hcap, gB, gl, row⟩ := RowAt.of_own own1 (by simp); have k0 : w1.cell? ⟨g, 0, none⟩ = some (.string ⟨x.toArray⟩) := (row 0 (by simp)).1; have HR : Hid (∀ j (hj : j < r.length), w1.cell? ⟨g, 1 + j, none⟩ = some (strV r[j])) := (fun j hj => by have := (row (j + 1) (by simp; omega)).1; rw [Nat.add_comm 1 j]; simpa using this); clear b1)
  clear own1 row
  have hcap1 : 1 ≤ cap := by omega
  have hc0 : (0 : Int) < (cap : Int) := by omega
  have hc1 : (1 : Int) ≤ (cap : Int) := by omega
  have hc9 : ¬ cap = 1 := by have := HL.out; omega
  go_wp2_with fail
  (go_at_call 27; refine (HK.out _).mono ?_; rintro e w2 ⟨rfl, b2⟩; have B2 : Hid (Below w.heap.size w w2) := B1.out.trans (b2.mono (by have := B1.out.size; first | assumption | (simp; omega))); have b12 : Hid (Below w1.heap.size w1 w2) := b2; clear b2)
  have G2 : g < w2.heap.size := Nat.lt_of_lt_of_le gl b12.out.size
  have HR2 : Hid (∀ o' j (hj : j < r.length), (w2.alloc o').cell? ⟨g, 1 + j, none⟩ = some (strV r[j])) := fun o' j hj => ((b12.out.alloc b12.out.size o').cell (p := ⟨g, 1 + j, none⟩) gl).trans (HR.out j hj)
  have GA : Hid (∀ o', g < (w2.alloc o').heap.size) := fun o' => by simp; omega
  go_wp2_with fail
  (generalize hW2 : World.alloc w2 _ = W2
   have ZE2 : Box5 W2 w2.heap.size (.int .i64 (K : Nat)) (.int .i64 0) (.int .i64 0) (.int .i64 0) (.int .i64 0) := (by rw [← hW2]; exact box5_new w2 _ _ _ _ _ _)
   have EF2 : Fz W2 w2.heap.size := (by rw [← hW2]; exact fz_new w2 _ _)
   have BW2 : Below w2.heap.size w2 W2 := (by rw [← hW2]; exact (Below.refl _ _).alloc (Nat.le_refl _) _)
   have gW2 : g < W2.heap.size := (by rw [← hW2]; exact GA.out _)
   have sW2 : W2.heap.size = w2.heap.size + 1 := (by rw [← hW2]; simp)
   have HR3 : ∀ j (hj : j < r.length), W2.cell? ⟨g, 1 + j, none⟩ = some (strV r[j]) := (by rw [← hW2]; exact HR2.out _)
   clear hW2
   have H3 : Hid (∀ j (hj : j < r.length), W2.cell? ⟨g, 1 + j, none⟩ = some (strV r[j])) := HR3
   clear HR3
   go_at_call 28
   refine (HN.out g _ _ W2 (by omega) gW2 (by first | exact H3.out | (intro j hj; exact absurd hj (by omega)))).mono ?_
   rintro e w3 ⟨v, ok, rfl, hok, hown, b3⟩
   have ZE : Box5 w3 w2.heap.size (.int .i64 (K : Nat)) (.int .i64 0) (.int .i64 0) (.int .i64 0) (.int .i64 0) := ZE2.below b3 (by omega)
   have EF : Hid (Fz w3 w2.heap.size) := EF2.below b3 (by omega)
   have B23 : Below w2.heap.size w2 w3 := BW2.trans (b3.mono (by omega))
   have ZR : Hid (Box5 w3 w.heap.size (.int .i64 0) (.int .i64 0) (.int .i64 0) (.int .i64 0) (.int .i64 0)) := (Z1.out.below b12.out z1).below B23 (by have := b12.out.size; omega)
   have ZF : Hid (Fz w3 w.heap.size) := (F1.out.below b12.out z1).below B23 (by have := b12.out.size; omega)
   have B3 : Hid (Below w.heap.size w w3) := B2.out.trans (B23.mono (by have := b12.out.size; omega))
   obtain ⟨e0, e1, e2, e3, e4⟩ := ZE
   clear b3 B23 ZE2 EF2 BW2 gW2 H3)
  rw [HA.out] at hok
  subst hok
  have ho := hown rfl
  rw [HM.out, HL.out] at ho
  clear hown
  obtain ⟨gn, cn, rfl, hcn, gnB, gnl, rown⟩ := RowAt.of_own ho (by simp)
  have n0 : w3.cell? ⟨gn, 0, none⟩ = some (.int .i64 (a : Nat)) := (rown 0 (by simp)).1
  have n1 : w3.cell? ⟨gn, 1, none⟩ = some (.int .i64 (b : Nat)) := (rown 1 (by simp)).1
  have n2 : w3.cell? ⟨gn, 2, none⟩ = some (.int .i64 (c : Nat)) := (rown 2 (by simp)).1
  have hcn3 : (3 : Int) ≤ (cn : Int) := by omega
  have hne2 : ¬ w2.heap.size = gn := by omega
  have hne : w.heap.size ≠ w2.heap.size := by have := b12.out.size; omega
  have g0 := EF.out 2
  have g1 := EF.out 3
  have g2 := EF.out 4
  have ZE : Hid (Box5 w3 w2.heap.size (.int .i64 (K : Nat)) (.int .i64 0) (.int .i64 0) (.int .i64 0) (.int .i64 0)) := ⟨e0, e1, e2, e3, e4⟩
  have hw23 : w2.heap.size < w3.heap.size := ZE.out.lt
  have hw03 : w.heap.size < w3.heap.size := ZR.out.lt
  clear ho rown HW HK HN gnB HR HR2 GA
  go_wp2_with fail
  (go_at_call 29; refine (HT.out _).mono ?_; rintro e w4 ⟨rfl, b4⟩; have ZR4 : Box5 w4 w.heap.size (.int .i64 0) (.int .i64 0) (.int .i64 0) (.int .i64 0) (.int .i64 0) := (by refine Box5.below ?_ b4 ?_ <;> first | exact (((ZR.out.other hne _).other hne _).other hne _) | (simp; omega)); have ZF4 : Fz w4 w.heap.size := (by refine Fz.below ?_ b4 ?_ <;> first | exact (((ZF.out.set _ _).set _ _).set _ _) | (simp; omega)); have ZE4 : Box5 w4 w2.heap.size (.int .i64 (K : Nat)) (.int .i64 0) (.int .i64 (a : Nat)) (.int .i64 (b : Nat)) (.int .i64 (c : Nat)) := (by refine Box5.below ?_ b4 ?_ <;> first | exact (((ZE.out.set2 _).set3 _).set4 _) | (simp; omega)); have B4 : Hid (Below w.heap.size w w4) := Below.trans (((B3.out.setCell (by have := B2.out.size; exact this) _).setCell (by have := B2.out.size; exact this) _).setCell (by have := B2.out.size; exact this) _) (b4.mono (by simp; omega)))
  clear e0 e1 e2 e3 e4 b4
  obtain ⟨r0, r1, r2, r3, r4⟩ := ZR4
  obtain ⟨e0, e1, e2, e3, e4⟩ := ZE4
  have f0 := ZF4 0
  have f1 := ZF4 1
  have f2 := ZF4 2
  have f3 := ZF4 3
  have f4 := ZF4 4
  have hZR : Hid (Box5 w4 w.heap.size (.int .i64 0) (.int .i64 0) (.int .i64 0) (.int .i64 0) (.int .i64 0)) := ⟨r0, r1, r2, r3, r4⟩
  by_cases he : T = s.data.toList
  · have hq : (T == s.toList) = true := by rw [Lib.toList_data, he]; simp
    have HE := Lib.hid he
    clear he
    go_wp2
    obtain ⟨q0, q1, q2, q3, q4⟩ := hZR.out.all (.int .i64 (K : Nat)) (.int .i64 0) (.int .i64 (a : Nat)) (.int .i64 (b : Nat)) (.int .i64 (c : Nat))
    refine bodyPost_ret (v := .tuple #[.agg #[.int .i64 (K : Nat), .int .i64 0, .int .i64 (a : Nat), .int .i64 (b : Nat), .int .i64 (c : Nat)], .bool true]) (by simp [results, Tryd.results8, go_sem, q0, q1, q2, q3, q4]) rfl ⟨by rw [HV.out, if_pos HE.out], ?_⟩
    exact ((((B4.out.setCell (Nat.le_refl _) _).setCell (Nat.le_refl _) _).setCell (Nat.le_refl _) _).setCell (Nat.le_refl _) _).setCell (Nat.le_refl _) _
  · have hq : (T == s.toList) = false := by rw [Lib.toList_data]; simpa using he
    have HE := Lib.hid he
    clear he
    go_wp2
    obtain ⟨q0, q1, q2, q3, q4⟩ := hZR.out.all (.int .i64 0) (.int .i64 0) (.int .i64 0) (.int .i64 0) (.int .i64 0)
    refine bodyPost_ret (v := .tuple #[.agg #[.int .i64 0, .int .i64 0, .int .i64 0, .int .i64 0, .int .i64 0], .bool false]) (by simp [results, Tryd.results8, go_sem, q0, q1, q2, q3, q4]) rfl ⟨by rw [HV.out, if_neg HE.out], ?_⟩
    exact ((((B4.out.setCell (Nat.le_refl _) _).setCell (Nat.le_refl _) _).setCell (Nat.le_refl _) _).setCell (Nat.le_refl _) _).setCell (Nat.le_refl _) _

end Go.Proofs.YtilfpefccklebaaDoor
