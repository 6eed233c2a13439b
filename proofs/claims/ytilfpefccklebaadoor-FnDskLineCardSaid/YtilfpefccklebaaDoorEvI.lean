/- DskEvent of the program: what a line says. Condition: the variable lineForms holds what it is laid with; the library's variable of the longest text that is looked for at once holds a number. -/
import Derived.Test.YtilfpefccklebaaDoorEvF
import Derived.Test.YtilfpefccklebaaDoorSplit
import Derived.Deep.RegionWith
import Derived.Deep.DeepCutAuto
import Derived.Laws.Rows
namespace Go.Proofs.YtilfpefccklebaaDoor
open Go.RowKit

theorem bR_drew {w w' : World} {B : Nat} (h : Below B w w') : Below B w w'.drew := h.trans ⟨rfl, rfl, rfl, Nat.le_refl _, fun _ _ => rfl⟩

set_option maxRecDepth 100000 in
set_option maxHeartbeats 800000 in
theorem implDskE_long (s : ByteArray) (w : World) (h : 30 < s.size) :
    Calls Tryd.prog 9 #[.string s] w fun e w' => e = .returned (.tuple #[.agg #[.int .i64 0, .int .i64 0, .int .i64 0, .int .i64 0, .int .i64 0], .bool false]) ∧ Below w.heap.size w w' := by
  have h3 : (30 : Int) < (s.size : Int) := by omega
  go_enter Tryd.func9, Tryd.ntmps9
  go_wp2
  obtain ⟨q0, q1, q2, q3, q4⟩ := (box5_new w (.int .i64 0) (.int .i64 0) (.int .i64 0) (.int .i64 0) (.int .i64 0) 23)
  refine bodyPost_ret (v := .tuple #[.agg #[.int .i64 0, .int .i64 0, .int .i64 0, .int .i64 0, .int .i64 0], .bool false]) (by simp [results, Tryd.results9, go_sem, q0, q1, q2, q3, q4]) rfl ⟨rfl, ?_⟩
  exact (Below.refl _ _).alloc (Nat.le_refl _) _

set_option maxRecDepth 100000 in
set_option maxHeartbeats 1600000 in
theorem implDskE_short (s : ByteArray) (w : World) (h : s.size ≤ 30) (hF : Forms w) (hM : ∃ m : Int, w.cell? ⟨1, 0, none⟩ = some (.int .i64 m)) :
    Calls Tryd.prog 9 #[.string s] w fun e w' => e = .returned (evR (evT s.data.toList)) ∧ Below w.heap.size w w' := by
  have h3 : ¬ (30 : Int) < (s.size : Int) := by omega
  have hFl := hF.lt
  obtain ⟨x, r, hw⟩ : ∃ x r, wordsL s.data.toList = x :: r := by
    cases hh : wordsL s.data.toList with
    | nil => exact absurd hh (words_ne _)
    | cons x r => exact ⟨x, r, rfl⟩
  have hxl : r.length ≤ 30 := by
    have h1 := wordsL_len s.data.toList
    rw [hw, len_list] at h1
    simp at h1; omega
  have HS : Hid (∀ w', Below w.heap.size w w' → Calls Tryd.prog 30 #[.string s, .string ⟨#[32]⟩] w' fun e w'' => ∃ g, e = .returned (.slice (some ⟨g, 0, none⟩) (r.length + 1) (r.length + 1)) ∧ g < w''.heap.size ∧ RowAt w'' g ((x :: r).map strV) ∧ Below w'.heap.size w' w'') := fun w' hb => by
    obtain ⟨m, hm⟩ := hM
    have := splitW_any s w' (by omega) ⟨m, (hb.cell (World.block_lt_of_cell? _ _ hm)).trans hm⟩
    rw [hw] at this
    exact this
  obtain ⟨R, hR⟩ : ∃ R, R = evR (evT s.data.toList) := ⟨_, rfl⟩
  have het : evT s.data.toList = evW (x :: r) := evT_words (by rw [len_list]; exact h) hw
  have HNo : Hid (kindL x = 0 → R = .tuple #[.agg #[.int .i64 0, .int .i64 0, .int .i64 0, .int .i64 0, .int .i64 0], .bool false]) := fun h0 => by rw [hR, het, evW_no (fun hh => hh.1 h0)]; rfl
  have HYes : Hid (∀ k, 1 ≤ k → k ≤ 8 → kindL x = k → R = evR (if r.length = arN k ∧ allN r = true then some (evOf k (r.map numL)) else none)) := fun k h1 h8 hk => by
    rw [hR, het]
    by_cases hh : r.length = arN k ∧ allN r = true
    · rw [evW_yes hk (by omega) hh.1 hh.2, if_pos hh]
    · rw [evW_no (fun q => hh (by rw [hk] at q; exact q.2)), if_neg hh]
  have HSz : Hid (∀ y ∈ r, y.length ≤ 1000000) := fun y hy => by
    have := wordS_le (l := s.data.toList) (x := y) (by rw [hw]; exact List.mem_cons_of_mem _ hy)
    rw [len_list] at this; omega
  rw [← hR]
  clear hR het hw
  have HF := Lib.hid hF
  clear hF hM
  go_enter Tryd.func9, Tryd.ntmps9
  go_upto_region 4 with (go_at_call 30; refine (HS.out _ ((Below.refl _ _).alloc (Nat.le_refl _) _)).mono ?_; rintro e w1 ⟨g, rfl, gl, row, b1⟩)
  obtain ⟨ft, ffr, hblk⟩ : Forms w1 := (HF.out.below ((Below.refl _ _).alloc (Nat.le_refl _) _) hFl).below b1 (by simp <;> omega)
  have ZR : Hid (Box5 w1 w.heap.size (.int .i64 0) (.int .i64 0) (.int .i64 0) (.int .i64 0) (.int .i64 0)) := (box5_new w _ _ _ _ _ _).below b1 (by simp)
  have FR : Hid (Fz w1 w.heap.size) := (fz_new w _ _).below b1 (by simp)
  have B1 : Hid (Below w.heap.size w w1) := below_box b1
  have s1 : w.heap.size < w1.heap.size := ZR.out.lt
  have k0 : Hid (w1.cell? ⟨g, 0, none⟩ = some (.string ⟨x.toArray⟩)) := (row 0 (by simp)).1
  have HR : Hid (∀ j (hj : j < r.length), w1.cell? ⟨g, 1 + j, none⟩ = some (strV r[j])) := fun j hj => by have := (row (j + 1) (by simp; omega)).1; rw [Nat.add_comm 1 j]; simpa using this
  clear b1 row
  go_wp2_with (refine wpList_load_row rfl 60 (.global 0) rfl 0 rfl ft formsC ffr _ hblk Tryd.underlying60 rfl (by kernel_rfl) ?_)
  clear hblk
  go_loopw [14] (fun i wr => ∃ k : Nat, k ≤ 8 ∧ i = .int .i64 k ∧ (∀ j, 1 ≤ j → j ≤ k → x ≠ nameL j) ∧ Below w1.heap.size w1 wr) (fun i _ => 8 - (intOf i).toNat)
  case atStart => exact ⟨0, by omega, rfl, fun j h1 h2 => by omega, Below.refl _ _⟩
  case round =>
    obtain ⟨k, hk8, rfl, hno, hb⟩ := hrel
    have hbs := hb.size
    have HB := Lib.hid hb
    have HNN := Lib.hid hno
    have ZR2 := ZR.out.below hb s1
    have FR2 := FR.out.below hb s1
    have BWr : Hid (Below w.heap.size w wr) := B1.out.trans (hb.mono (by omega))
    clear hno hb
    by_cases hlt : k < 8
    · have hk3 : (k : Int) < 8 := by omega
      have hidx := run_idxF k wr hlt
      have hidx2 : ∀ ob, (Instr.index 60 (.agg formsC) (.int .i64 (k : Int))).run Tryd.prog (wr.alloc ob) = .ok (formV (k + 1)) (wr.alloc ob) := fun ob => run_idxF k _ hlt
      unfold formV at hidx hidx2
      have kx : wr.cell? ⟨g, 0, none⟩ = some (.string ⟨x.toArray⟩) := (HB.out.cell (p := ⟨g, 0, none⟩) gl).trans k0.out
      have glr : g < wr.heap.size := by omega
      go_wp2_with fail
      generalize hW2 : World.alloc wr _ = W2
      have sW2 : W2.heap.size = wr.heap.size + 1 := by rw [← hW2]; simp
      have b0 : W2.cell? ⟨wr.heap.size, 0, none⟩ = some (.string ⟨(nameL (k + 1)).toArray⟩) := by rw [← hW2]; simp
      have b1 : W2.cell? ⟨wr.heap.size, 1, none⟩ = some (.int .i64 ((k : Int) + 1)) := by rw [← hW2]; simp
      have b2 : W2.cell? ⟨wr.heap.size, 2, none⟩ = some (.int .i64 (firstN (k + 1) : Nat)) := by rw [← hW2]; simp
      have b3 : W2.cell? ⟨wr.heap.size, 3, none⟩ = some (.int .i64 (lastN (k + 1) : Nat)) := by rw [← hW2]; simp
      have BW2 : Below wr.heap.size wr W2 := by rw [← hW2]; exact (Below.refl _ _).alloc (Nat.le_refl _) _
      clear hW2 hidx hidx2
      have kx := (BW2.cell (p := ⟨g, 0, none⟩) glr).trans kx
      have ZR3 := ZR2.below BW2 (by omega)
      have FR3 := FR2.below BW2 (by omega)
      have BB : Hid (Below w.heap.size w W2) := BWr.out.trans (BW2.mono (by omega))
      have BB1 : Hid (Below w1.heap.size w1 W2) := HB.out.trans (BW2.mono hbs)
      have glW : g < W2.heap.size := by omega
      have hrb : w.heap.size < W2.heap.size := by omega
      clear ZR2 FR2 BW2
      have hbl : wr.heap.size < W2.heap.size := by omega
      by_cases he : x = nameL (k + 1)
      · have hq : (nameL (k + 1) == x) = true := by simp [he]
        have hkx : kindL x = k + 1 := by rw [he]; exact kindL_name (by omega) (by omega)
        obtain ⟨qk, qa, qb, qc, qd, qo, hQ⟩ : ∃ (qk qa qb qc qd : Int) (qo : Bool), evR (if r.length = arN (k + 1) ∧ allN r = true then some (evOf (k + 1) (r.map numL)) else none) = .tuple #[.agg #[.int .i64 qk, .int .i64 qa, .int .i64 qb, .int .i64 qc, .int .i64 qd], .bool qo] := ⟨_, _, _, _, _, _, rfl⟩
        have HRQ : Hid (R = .tuple #[.agg #[.int .i64 qk, .int .i64 qa, .int .i64 qb, .int .i64 qc, .int .i64 qd], .bool qo]) := (HYes.out (k + 1) (by omega) (by omega) hkx).trans hQ
        have HRd : Hid (∀ ad w', ((r = [] → ad = some ⟨g, 0, none⟩) ∧ (r ≠ [] → ad = some ⟨g, 1, none⟩)) → Below W2.heap.size W2 w' → Calls Tryd.prog 31 #[.agg #[.string ⟨(nameL (k + 1)).toArray⟩, .int .i64 ((k : Int) + 1), .int .i64 (firstN (k + 1) : Nat), .int .i64 (lastN (k + 1) : Nat)], .slice ad r.length r.length] w' fun e w'' => e = .returned (.tuple #[.agg #[.int .i64 qk, .int .i64 qa, .int .i64 qb, .int .i64 qc, .int .i64 qd], .bool qo]) ∧ Below w'.heap.size w' w'') := fun ad w' had hbw => by
          have hz := hbw.size
          have hrow1 : ∀ j (hj : j < r.length), w'.cell? ⟨g, 1 + j, none⟩ = some (strV r[j]) := fun j hj => (hbw.cell (p := ⟨g, 1 + j, none⟩) glW).trans ((BB1.out.cell (p := ⟨g, 1 + j, none⟩) gl).trans (HR.out j hj))
          by_cases hre : r = []
          · rw [had.1 hre]
            have := read_any ⟨(nameL (k + 1)).toArray⟩ (k + 1) r g 0 r.length w' (by omega) (by omega) (by omega) (Nat.le_refl _) (by omega) (fun j hj => by rw [hre] at hj; simp at hj) HSz.out
            rw [hQ] at this
            exact this
          · rw [had.2 hre]
            have := read_any ⟨(nameL (k + 1)).toArray⟩ (k + 1) r g 1 r.length w' (by omega) (by omega) (by omega) (Nat.le_refl _) (by omega) hrow1 HSz.out
            rw [hQ] at this
            exact this
        have HE := Lib.hid he
        have hHZ := Lib.hid ZR3
        have hHF := Lib.hid FR3
        clear he hkx hQ HYes HNo HS HSz ZR3 FR3
        go_region
        generalize hD : W2.drew = W3
        have BD : Below W2.heap.size W2 W3 := by rw [← hD]; exact bR_drew (Below.refl _ _)
        have b0 : W3.cell? ⟨wr.heap.size, 0, none⟩ = some (.string ⟨(nameL (k + 1)).toArray⟩) := by rw [← hD]; exact b0
        have b1 : W3.cell? ⟨wr.heap.size, 1, none⟩ = some (.int .i64 ((k : Int) + 1)) := by rw [← hD]; exact b1
        have b2 : W3.cell? ⟨wr.heap.size, 2, none⟩ = some (.int .i64 (firstN (k + 1) : Nat)) := by rw [← hD]; exact b2
        have b3 : W3.cell? ⟨wr.heap.size, 3, none⟩ = some (.int .i64 (lastN (k + 1) : Nat)) := by rw [← hD]; exact b3
        have zD : W3.heap.size = W2.heap.size := by rw [← hD]; rfl
        clear hD
        have hcp : (1 : Int) ≤ (r.length : Int) + 1 := by omega
        have HBD := Lib.hid BD
        clear BD
        by_cases hre : r = []
        · subst hre
          go_wp2_with fail
          go_region_with (go_at_call 31; refine (HRd.out _ _ ⟨fun hq3 => (by first | rfl | exact absurd hq3 hre), fun hq3 => (by first | rfl | exact absurd rfl hq3)⟩ (by first | exact HBD.out | exact bR_drew HBD.out)).mono ?_; rintro e w5 ⟨rfl, b5⟩; have B25 : Below W2.heap.size W2 w5 := (by first | exact HBD.out.trans (b5.mono (by omega)) | exact (bR_drew HBD.out).trans (b5.mono (by show W2.heap.size ≤ W3.heap.size; omega))); have hZ5 : Hid (Box5 w5 w.heap.size (.int .i64 0) (.int .i64 0) (.int .i64 0) (.int .i64 0) (.int .i64 0)) := hHZ.out.below B25 hrb; obtain ⟨r0, r1, r2, r3, r4⟩ := hZ5.out; have f0 := hHF.out.below B25 hrb 0; have f1 := hHF.out.below B25 hrb 1; have f2 := hHF.out.below B25 hrb 2; have f3 := hHF.out.below B25 hrb 3; have f4 := hHF.out.below B25 hrb 4; have B5 : Hid (Below w.heap.size w w5) := BB.out.trans (B25.mono (by omega)); clear b5 B25)
          all_goals
            go_wp2
            obtain ⟨q0, q1, q2, q3, q4⟩ := hZ5.out.all (.int .i64 qk) (.int .i64 qa) (.int .i64 qb) (.int .i64 qc) (.int .i64 qd)
            refine bodyPost_ret (v := .tuple #[.agg #[.int .i64 qk, .int .i64 qa, .int .i64 qb, .int .i64 qc, .int .i64 qd], .bool qo]) (by simp [results, Tryd.results9, go_sem, q0, q1, q2, q3, q4]) rfl ⟨by rw [HRQ.out], ?_⟩
            exact ((((B5.out.setCell (Nat.le_refl _) _).setCell (Nat.le_refl _) _).setCell (Nat.le_refl _) _).setCell (Nat.le_refl _) _).setCell (Nat.le_refl _) _
        · go_wp2_with fail
          go_region_with (go_at_call 31; refine (HRd.out _ _ ⟨fun hq3 => (by first | rfl | exact absurd hq3 hre), fun hq3 => (by first | rfl | exact absurd rfl hq3)⟩ (by first | exact HBD.out | exact bR_drew HBD.out)).mono ?_; rintro e w5 ⟨rfl, b5⟩; have B25 : Below W2.heap.size W2 w5 := (by first | exact HBD.out.trans (b5.mono (by omega)) | exact (bR_drew HBD.out).trans (b5.mono (by show W2.heap.size ≤ W3.heap.size; omega))); have hZ5 : Hid (Box5 w5 w.heap.size (.int .i64 0) (.int .i64 0) (.int .i64 0) (.int .i64 0) (.int .i64 0)) := hHZ.out.below B25 hrb; obtain ⟨r0, r1, r2, r3, r4⟩ := hZ5.out; have f0 := hHF.out.below B25 hrb 0; have f1 := hHF.out.below B25 hrb 1; have f2 := hHF.out.below B25 hrb 2; have f3 := hHF.out.below B25 hrb 3; have f4 := hHF.out.below B25 hrb 4; have B5 : Hid (Below w.heap.size w w5) := BB.out.trans (B25.mono (by omega)); clear b5 B25)
          all_goals
            go_wp2
            obtain ⟨q0, q1, q2, q3, q4⟩ := hZ5.out.all (.int .i64 qk) (.int .i64 qa) (.int .i64 qb) (.int .i64 qc) (.int .i64 qd)
            refine bodyPost_ret (v := .tuple #[.agg #[.int .i64 qk, .int .i64 qa, .int .i64 qb, .int .i64 qc, .int .i64 qd], .bool qo]) (by simp [results, Tryd.results9, go_sem, q0, q1, q2, q3, q4]) rfl ⟨by rw [HRQ.out], ?_⟩
            exact ((((B5.out.setCell (Nat.le_refl _) _).setCell (Nat.le_refl _) _).setCell (Nat.le_refl _) _).setCell (Nat.le_refl _) _).setCell (Nat.le_refl _) _
      · have hq : (nameL (k + 1) == x) = false := by simp; exact fun e => he e.symm
        have HE := Lib.hid he
        clear he HYes HNo HS HSz ZR3 FR3
        go_region
        all_goals
          go_wp2
          go_roundw
          case rel =>
            refine ⟨k + 1, by omega, by go_num, ?_, ?_⟩
            · intro j h1 h2
              by_cases hj : j = k + 1
              · subst hj; exact HE.out
              · exact HNN.out j h1 (by omega)
            · exact bR_drew BB1.out
          case measure => simp [intOf]; omega
    · have hk : k = 8 := by omega
      subst hk
      have h0 : kindL x = 0 := by
        rcases kindL_spec x with hh | ⟨a, b, c⟩
        · exact hh.1
        · exact absurd c (HNN.out _ a b)
      have HR0 := Lib.hid (HNo.out h0)
      obtain ⟨r0, r1, r2, r3, r4⟩ := ZR2
      have HZ : Hid (Box5 wr w.heap.size (.int .i64 0) (.int .i64 0) (.int .i64 0) (.int .i64 0) (.int .i64 0)) := ⟨r0, r1, r2, r3, r4⟩
      have f0 := FR2 0
      have f1 := FR2 1
      have f2 := FR2 2
      have f3 := FR2 3
      have f4 := FR2 4
      clear FR2
      go_wp2
      obtain ⟨q0, q1, q2, q3, q4⟩ := HZ.out.all (.int .i64 0) (.int .i64 0) (.int .i64 0) (.int .i64 0) (.int .i64 0)
      refine bodyPost_ret (v := .tuple #[.agg #[.int .i64 0, .int .i64 0, .int .i64 0, .int .i64 0, .int .i64 0], .bool false]) (by simp [results, Tryd.results9, go_sem, q0, q1, q2, q3, q4]) rfl ⟨by rw [HR0.out], ?_⟩
      exact ((((BWr.out.setCell (Nat.le_refl _) _).setCell (Nat.le_refl _) _).setCell (Nat.le_refl _) _).setCell (Nat.le_refl _) _).setCell (Nat.le_refl _) _

end Go.Proofs.YtilfpefccklebaaDoor
