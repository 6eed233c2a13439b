/- The law that bytes are cut, and none is lost: at every code. Condition: the code lies in memory. -/
import Derived.Test.YtjnhmobdigfpiaaDrawCut
import Derived.Test.YtjnhmobdigfpiaaSegCutI
import Derived.Test.YtjnhmobdigfpiaaSegCutS
import Derived.Test.YtjnhmobdigfpiaaHaSegs
import Derived.Test.YtjnhmobdigfpiaaSegOk
import Derived.Test.YtjnhmobdigfpiaaHaOk
import Derived.Deep.RegionHeld3
import Derived.Deep.DeepCutAuto
import Derived.Lib.SmallJoins
namespace Go.Proofs.Ytjnhmobdigfpiaa
open Go.RowKit

theorem box7D {w w' : World} {b i : Nat} {v : Value} (h : w.cell? ⟨b, i, none⟩ = some v) (hb : Below w.heap.size w w') : w'.cell? ⟨b, i, none⟩ = some v := by
  rw [hb.cell (p := ⟨b, i, none⟩) (World.block_lt_of_cell? w _ h)]; exact h
/-- Where the k-th piece begins. -/
def upC (n a k : Nat) : Nat := min (a + 12 * k) n
theorem cut_parts (F : ByteArray) (a : Nat) (h : a < F.size) (s : Sg) (k : Nat) (hk : k < piecesN F.size a) :
    (pieceL s F.data.toList a k).seq = ((upC F.size a k : Nat) : Int) ∧ upC F.size a (k + 1) = upC F.size a k + (pieceL s F.data.toList a k).data.length ∧ F.extract (upC F.size a k) (upC F.size a (k + 1)) = ⟨(pieceL s F.data.toList a k).data.toArray⟩ ∧ 0 < (pieceL s F.data.toList a k).data.length ∧ (pieceL s F.data.toList a k).data.length ≤ 12 ∧ upC F.size a (k + 1) ≤ F.size ∧ (k + 1 < piecesN F.size a → (pieceL s F.data.toList a k).data.length = 12) := by
  have hlt := (pieces_lt h).1 hk
  have hl := piece_data_len s F.data.toList a k
  rw [len_list] at hl
  have hu : upC F.size a k = a + 12 * k := by unfold upC; omega
  have hu1 : upC F.size a (k + 1) = a + 12 * k + (pieceL s F.data.toList a k).data.length := by rw [hl]; unfold upC; omega
  refine ⟨by rw [hu]; rfl, by rw [hu1, hu], ?_, by omega, by omega, by unfold upC; omega, fun h2 => ?_⟩
  · rw [hu1, hu, ext_list, List.drop_take, Nat.add_sub_cancel_left]
    show (⟨((F.data.toList.drop (a + 12 * k)).take (pieceL s F.data.toList a k).data.length).toArray⟩ : ByteArray) = ⟨((F.data.toList.drop (a + 12 * k)).take 12).toArray⟩
    rw [hl]
    congr 2
    by_cases h12 : 12 ≤ F.size - (a + 12 * k)
    · rw [Nat.min_eq_left h12]
    · rw [Nat.min_eq_right (by omega), List.take_of_length_le (by simp), List.take_of_length_le (by simp; omega)]
  · have := (pieces_lt h).1 h2
    omega
theorem upC_all {n a : Nat} (h : a < n) : upC n a (piecesN n a) = n := by unfold upC piecesN; omega
theorem upC_zero {n a : Nat} (h : a < n) : upC n a 0 = a := by unfold upC; omega

set_option maxRecDepth 100000 in
set_option maxHeartbeats 12800000 in
theorem lwSegCut_any (ao : Option Addr) (n cap : Nat) (w : World) (h : BytesIn w ao n) (hn : n ≤ cap) :
    Calls Try.prog 3 #[.slice ao n cap] w fun e w' => e = .returned (.bool true) ∧ Below w.heap.size w w' := by
  have H := Lib.hid h
  clear h
  by_cases hn2 : 1048576 < n
  · go_enter Try.func3, Try.ntmps3
    go_wp2_with fail
    go_ret
    exact ⟨rfl, Below.refl _ _⟩
  go_enter Try.func3, Try.ntmps3
  go_wp2_with fail
  (go_at_call 5; refine (drawSegCut_any ao n cap _ H.out hn).mono ?_; rintro e w1 ⟨sa, sp, da, dp, sq, ak, d, far, q, rfl, hD, hf, hq, b1⟩)
  have hd : d.size ≤ 2097152 := by have := hD.2.2; omega
  have A1 : Hid (At7 (w1.alloc (.cells #[.int .i64 sa, .int .i64 sp, .int .i64 da, .int .i64 dp, .int .i64 sq, .int .i64 ak, .string d] 26)) w1.heap.size (.int .i64 sa) (.int .i64 sp) (.int .i64 da) (.int .i64 dp) (.int .i64 sq) (.int .i64 ak) (.string d)) := at7_new w1 _ _ _ _ _ _ _ _
  have B1 : Hid (Below w.heap.size w (w1.alloc (.cells #[.int .i64 sa, .int .i64 sp, .int .i64 da, .int .i64 dp, .int .i64 sq, .int .i64 ak, .string d] 26))) := b1.alloc b1.size _
  obtain ⟨b0, hb0⟩ : ∃ b0, b0 = w1.heap.size := ⟨_, rfl⟩
  rw [← hb0] at A1
  obtain ⟨W1, hW1⟩ : ∃ W1, W1 = w1.alloc (.cells #[.int .i64 sa, .int .i64 sp, .int .i64 da, .int .i64 dp, .int .i64 sq, .int .i64 ak, .string d] 26) := ⟨_, rfl⟩
  rw [← hW1] at A1 B1
  obtain ⟨qa, hqa⟩ : ∃ q, q = segOkB ⟨sa, sp, da, dp, sq, ak, d.data.toList⟩ := ⟨_, rfl⟩
  obtain ⟨LS, hLS⟩ : ∃ l, l = segCutL ⟨sa, sp, da, dp, sq, ak, d.data.toList⟩ far.data.toList q := ⟨_, rfl⟩
  obtain ⟨K, hK⟩ : ∃ k, k = LS.length := ⟨_, rfl⟩
  have hq63 : q ≤ 9223372036854775807 := by omega
  have HIC : Hid (∀ w, Calls Try.prog 6 #[.agg #[.int .i64 sa, .int .i64 sp, .int .i64 da, .int .i64 dp, .int .i64 sq, .int .i64 ak, .string d], .string far, .int .i64 q] w fun e w' => ∃ a cap, e = .returned (.slice a K cap) ∧ RdSg w' (.slice a K cap) LS ∧ Below w.heap.size w w') := fun w => by
    refine (implCut_any sa sp da dp sq ak d far q w hd (by omega) hq63).mono ?_
    rintro e w' ⟨v, rfl, ho, hb⟩
    rw [← hLS] at ho
    obtain ⟨a, c, rfl⟩ := ho.form
    rw [← hK] at ho ⊢
    exact ⟨a, c, rfl, ho.rd, hb⟩
  have HSC : Hid (∀ w, Calls Try.prog 8 #[.agg #[.int .i64 sa, .int .i64 sp, .int .i64 da, .int .i64 dp, .int .i64 sq, .int .i64 ak, .string d], .string far, .int .i64 q] w fun e w' => ∃ a cap, e = .returned (.slice a K cap) ∧ RdSg w' (.slice a K cap) LS ∧ Below w.heap.size w w') := fun w => by
    refine (specCut_any sa sp da dp sq ak d far q w hd (by omega) hq63).mono ?_
    rintro e w' ⟨v, rfl, ho, hb⟩
    rw [← hLS] at ho
    obtain ⟨a, c, rfl⟩ := ho.form
    rw [← hK] at ho ⊢
    exact ⟨a, c, rfl, ho.rd, hb⟩
  have HOA : Hid (∀ w, Calls Try.prog 9 #[.agg #[.int .i64 sa, .int .i64 sp, .int .i64 da, .int .i64 dp, .int .i64 sq, .int .i64 ak, .string d]] w fun e w' => e = .returned (.bool qa) ∧ Below w.heap.size w w') := fun w => by rw [hqa]; exact specSegOk_any sa sp da dp sq ak d w hd
  have HNO : Hid (qa = false ∨ q = -1 → K = 0) := fun e => by
    rw [hK, hLS, segCut_no (by rcases e with e | e; · rw [← hqa, e]; simp
                               · rw [e]; simp)]; rfl
  have HONE : Hid (qa = true → (far.size : Int) ≤ q → LS = [⟨sa, sp, da, dp, ((far.size : Nat) : Int), ak, []⟩]) := fun e h => by
    obtain ⟨a, rfl⟩ : ∃ a : Nat, q = a := ⟨q.toNat, by omega⟩
    rw [hLS, segCut_yes (by rw [← hqa, e]) (by rw [len_list]; omega)]
    unfold cutL
    rw [len_list, Nat.min_eq_right (by omega), pieces_end (Nat.le_refl _)]
    simp [pieceL]
  have HMANY : Hid (qa = true → 0 ≤ q → q < (far.size : Int) → ∃ U : Nat → Nat, 0 < K ∧ K ≤ 20 ∧ ((U 0 : Nat) : Int) = q ∧ U K = far.size ∧ ∀ (k : Nat) (hk : k < LS.length), ∃ dt : ByteArray, LS[k] = ⟨sa, sp, da, dp, ((U k : Nat) : Int), ak, dt.data.toList⟩ ∧ U (k + 1) = U k + dt.size ∧ far.extract (U k) (U (k + 1)) = dt ∧ 0 < dt.size ∧ dt.size ≤ 12 ∧ U (k + 1) ≤ far.size ∧ (k + 1 < K → dt.size = 12)) := fun e h0 h1 => by
    obtain ⟨a, rfl⟩ : ∃ a : Nat, q = a := ⟨q.toNat, by omega⟩
    have ha : a < far.size := by omega
    have e2 : LS = cutL ⟨sa, sp, da, dp, sq, ak, d.data.toList⟩ far.data.toList a := by
      rw [hLS]
      exact segCut_yes (by rw [← hqa, e]) (by rw [len_list]; omega)
    have hKp : K = piecesN far.size a := by rw [hK, e2, cutL_len, len_list, Nat.min_eq_left (by omega)]
    refine ⟨upC far.size a, ?_, ?_, by rw [upC_zero ha], by rw [hKp, upC_all ha], ?_⟩
    · rw [hKp]; exact pieces_pos _ _
    · rw [hKp]; unfold piecesN; omega
    · intro k hk
      subst e2
      rw [cutL_at, len_list, Nat.min_eq_left (by omega)]
      rw [cutL_len, len_list, Nat.min_eq_left (by omega)] at hk
      obtain ⟨p1, p2, p3, p4, p5, p6, p7⟩ := cut_parts far a ha ⟨sa, sp, da, dp, sq, ak, d.data.toList⟩ k hk
      refine ⟨⟨(pieceL ⟨sa, sp, da, dp, sq, ak, d.data.toList⟩ far.data.toList a k).data.toArray⟩, ?_, ?_, p3, ?_, ?_, p6, ?_⟩
      · rw [← p1]; rfl
      · rw [p2]; show _ = _ + (List.toArray _).size; rw [List.size_toArray]
      · simpa [ByteArray.size] using p4
      · simpa [ByteArray.size] using p5
      · intro h; simpa [ByteArray.size] using p7 (by rw [← hKp]; exact h)
  have hLen : LS.length ≤ 4194304 := by
    by_cases h : qa = true ∧ 0 ≤ q
    · by_cases h2 : (far.size : Int) ≤ q
      · rw [HONE.out h.1 h2]; simp
      · obtain ⟨U, _, hk, _⟩ := HMANY.out h.1 h.2 (by omega)
        omega
    · have := HNO.out (by
        rcases qa with _ | _
        · exact .inl rfl
        · right
          simp at h
          omega)
      omega
  have HLK : Hid (LS.length = K) := hK.symm
  have HHS : Hid (∀ v1 v2 w, RdSg w v1 LS → RdSg w v2 LS → Calls Try.prog 7 #[v1, v2] w fun e w' => e = .returned (.bool true) ∧ Below w.heap.size w w') := fun v1 v2 w r1 r2 => haSegs_same LS v1 v2 w hLen r1 r2
  clear hqa hLS hK hD
  go_wp2_with fail
  rw [← hb0, ← hW1]
  clear hW1 hb0 b1
  (go_at_call 6; refine (HIC.out _).mono ?_; rintro e w2 ⟨ag, cg, rfl, rg, b2⟩)
  have RG := Lib.hid rg
  have A2 := Lib.hid (A1.out.below b2)
  have B2 : Hid (Below w.heap.size w w2) := B1.out.trans (b2.mono B1.out.size)
  clear rg b2 A1 B1 HIC
  obtain ⟨_, ⟨c0, c1, c2, c3, c4, c5, c6⟩, _⟩ := A2.out
  go_wp2_with fail
  (go_at_call 8; refine (HSC.out _).mono ?_; rintro e w3 ⟨az, cz, rfl, rz, b3⟩)
  have RZ := Lib.hid rz
  have RG3 := Lib.hid (RG.out.below b3)
  have A3 := Lib.hid (A2.out.below b3)
  have B3 : Hid (Below w.heap.size w w3) := B2.out.trans (b3.mono B2.out.size)
  clear rz b3 A2 B2 HSC RG c0 c1 c2 c3 c4 c5 c6
  obtain ⟨_, ⟨c0, c1, c2, c3, c4, c5, c6⟩, _⟩ := A3.out
  go_wp2_with fail
  (go_at_call 7; refine (HHS.out _ _ _ RG3.out RZ.out).mono ?_; rintro e w4 ⟨rfl, b4⟩)
  have RG4 := Lib.hid (RG3.out.below b4)
  have A4 := Lib.hid (A3.out.below b4)
  have B4 : Hid (Below w.heap.size w w4) := B3.out.trans (b4.mono B3.out.size)
  clear b4 A3 B3 HHS RG3 RZ c0 c1 c2 c3 c4 c5 c6
  obtain ⟨_, ⟨c0, c1, c2, c3, c4, c5, c6⟩, _⟩ := A4.out
  go_wp2_with fail
  (go_at_call 9; refine (HOA.out _).mono ?_; rintro e w5 ⟨rfl, b5⟩)
  have RG5 := Lib.hid (RG4.out.below b5)
  have A5 := Lib.hid (A4.out.below b5)
  have B5 : Hid (Below w.heap.size w w5) := B4.out.trans (b5.mono B4.out.size)
  clear b5 A4 B4 HOA RG4 c0 c1 c2 c3 c4 c5 c6
  have hf240 : ¬ (240 : Int) < (far.size : Int) := by omega
  cases qa
  · have hk0 := HNO.out (.inl (by simp))
    subst hk0
    clear HNO HONE HMANY RG5 HLK
    go_wp2_with (go_at_call 10; refine (haOk_any _).mono ?_; rintro e w6 ⟨rfl, rfl⟩)
    go_ret
    exact ⟨rfl, B5.out⟩
  · by_cases hq1 : q = -1
    · have hk0 := HNO.out (.inr hq1)
      subst hk0
      subst hq1
      clear HNO HONE HMANY RG5 HLK
      go_wp2_with (go_at_call 10; refine (haOk_any _).mono ?_; rintro e w6 ⟨rfl, rfl⟩)
      go_ret
      exact ⟨rfl, B5.out⟩
    · have hq0 : ¬ q < 0 := by omega
      by_cases hqf : (far.size : Int) ≤ q
      · have hone := HONE.out (by simp) hqf
        have hk1 : K = 1 := by rw [← HLK.out, hone]; rfl
        obtain ⟨ag', cg', eg, hcg, hrow⟩ := RG5.out
        simp only [Value.slice.injEq] at eg
        obtain ⟨rfl, -, rfl⟩ := eg
        obtain ⟨g, rfl, row⟩ := hrow (by rw [HLK.out]; omega)
        obtain ⟨⟨x0, x1, x2, x3, x4, x5, x6⟩, _⟩ := row.seven 0 (by rw [HLK.out]; omega) ⟨sa, sp, da, dp, ((far.size : Nat) : Int), ak, []⟩ (by subst hone; rfl)
        simp only [Nat.zero_mul, Nat.zero_add] at x0 x1 x2 x3 x4 x5 x6
        obtain ⟨_, ⟨c0, c1, c2, c3, c4, c5, c6⟩, _⟩ := A5.out
        rw [HLK.out] at hcg
        have hcg1 : (1 : Int) ≤ (cg : Int) := by omega
        subst hk1
        clear HNO HONE HMANY RG5 HLK hone row hrow A5
        go_wp2_with fail
        have mk : Hid (∀ w', Below w5.heap.size w5 w' → w'.cell? ⟨b0, 0, none⟩ = some (.int .i64 sa) ∧ w'.cell? ⟨b0, 1, none⟩ = some (.int .i64 sp) ∧ w'.cell? ⟨b0, 2, none⟩ = some (.int .i64 da) ∧ w'.cell? ⟨b0, 3, none⟩ = some (.int .i64 dp) ∧ w'.cell? ⟨b0, 5, none⟩ = some (.int .i64 ak) ∧ w'.cell? ⟨g, 0, none⟩ = some (.int .i64 sa) ∧ w'.cell? ⟨g, 1, none⟩ = some (.int .i64 sp) ∧ w'.cell? ⟨g, 2, none⟩ = some (.int .i64 da) ∧ w'.cell? ⟨g, 3, none⟩ = some (.int .i64 dp) ∧ w'.cell? ⟨g, 4, none⟩ = some (.int .i64 (far.size : Int)) ∧ w'.cell? ⟨g, 5, none⟩ = some (.int .i64 ak) ∧ w'.cell? ⟨g, 6, none⟩ = some (.string ⟨#[]⟩) ∧ Below w5.heap.size w5 w') := fun w' h => ⟨box7D c0 h, box7D c1 h, box7D c2 h, box7D c3 h, box7D c5 h, box7D x0 h, box7D x1 h, box7D x2 h, box7D x3 h, box7D x4 h, box7D x5 h, box7D x6 h, h⟩
        have hS0 := mk.out _ (Below.refl w5.heap.size w5).drew
        go_region_held3 (fun w' => w'.cell? ⟨b0, 0, none⟩ = some (.int .i64 sa) ∧ w'.cell? ⟨b0, 1, none⟩ = some (.int .i64 sp) ∧ w'.cell? ⟨b0, 2, none⟩ = some (.int .i64 da) ∧ w'.cell? ⟨b0, 3, none⟩ = some (.int .i64 dp) ∧ w'.cell? ⟨b0, 5, none⟩ = some (.int .i64 ak) ∧ w'.cell? ⟨g, 0, none⟩ = some (.int .i64 sa) ∧ w'.cell? ⟨g, 1, none⟩ = some (.int .i64 sp) ∧ w'.cell? ⟨g, 2, none⟩ = some (.int .i64 da) ∧ w'.cell? ⟨g, 3, none⟩ = some (.int .i64 dp) ∧ w'.cell? ⟨g, 4, none⟩ = some (.int .i64 (far.size : Int)) ∧ w'.cell? ⟨g, 5, none⟩ = some (.int .i64 ak) ∧ w'.cell? ⟨g, 6, none⟩ = some (.string ⟨#[]⟩) ∧ Below w5.heap.size w5 w')
          (first | exact hS0 | (trace_state; fail))
          (fail)
        all_goals
          clear mk hS0
          have B9 := Lib.hid B5.out.drew
          go_wp2_with fail
          go_ret
          exact ⟨by simp, B9.out⟩
      · obtain ⟨U, hk0, hk20, hU0, hUK, hat⟩ := HMANY.out (by simp) (by omega) (by omega)
        have HAT := Lib.hid hat
        obtain ⟨ag', cg', eg, hcg, hrow⟩ := RG5.out
        simp only [Value.slice.injEq] at eg
        obtain ⟨rfl, -, rfl⟩ := eg
        rw [HLK.out] at hcg hrow
        obtain ⟨g, rfl, row⟩ := hrow hk0
        have hg : g < w5.heap.size := World.block_lt_of_cell? w5 _ (row 0 (by rw [flatC_len sgC_len, HLK.out]; omega)).1
        have HROW := Lib.hid row
        have HU0 := Lib.hid hU0
        have HUK := Lib.hid hUK
        have hqf2 : ¬ (far.size : Int) ≤ q := hqf
        clear HNO HONE HMANY RG5 hrow row hat hU0 hUK hqf
        go_wp2_with fail
        go_loopw [7, 8] (fun to_ i wr => ∃ k : Nat, k ≤ K ∧ i = .int .i64 k ∧ to_ = .int .i64 ((U k : Nat) : Int) ∧ Below w5.heap.size w5 wr) (fun _ i _ => K - (intOf i).toNat)
        case atStart => exact ⟨0, Nat.zero_le _, rfl, by rw [HU0.out], Below.refl _ _⟩
        case round =>
          obtain ⟨k, hk, rfl, rfl, hb⟩ := hrel
          have HB := Lib.hid hb
          by_cases hlt : k < K
          · have hkl : k < LS.length := by rw [HLK.out]; exact hlt
            obtain ⟨dt, hls, hu1, hx, hd0, hd12, hule, hfull⟩ := HAT.out k hkl
            obtain ⟨⟨x0, x1, x2, x3, x4, x5, x6⟩, _⟩ := (HROW.out.below hb hg).seven k hkl _ hls.symm
            rw [show (⟨dt.data.toList.toArray⟩ : ByteArray) = dt from Lib.mk_data _] at x6
            simp only at x0 x1 x2 x3 x4 x5
            obtain ⟨u, hu⟩ : ∃ u, u = U k := ⟨_, rfl⟩
            obtain ⟨u1, hu1e⟩ : ∃ u, u = U (k + 1) := ⟨_, rfl⟩
            rw [← hu] at x4 hu1 hx ⊢
            rw [← hu1e] at hu1 hx hule
            have HU1 := Lib.hid hu1e
            have A6 := Lib.hid (A5.out.below hb)
            have hki : (k : Int) < (K : Int) := by omega
            have hk20i : (k : Int) ≤ 20 := by omega
            have hkcg : (k : Int) ≤ (cg : Int) := by omega
            clear hls hu hu1e hb
            go_upto_region 16 with fail
            obtain ⟨W6, hW6⟩ : ∃ W, W = wr.alloc (.cells #[.int .i64 sa, .int .i64 sp, .int .i64 da, .int .i64 dp, .int .i64 (u : Int), .int .i64 ak, .string dt] 26) := ⟨_, rfl⟩
            have q6 : Below wr.heap.size wr W6 := by rw [hW6]; exact (Below.refl _ _).alloc (Nat.le_refl _) _
            have E6 : Hid (Box7 W6 wr.heap.size (.int .i64 sa) (.int .i64 sp) (.int .i64 da) (.int .i64 dp) (.int .i64 (u : Int)) (.int .i64 ak) (.string dt)) := by rw [hW6]; exact box7_new wr _ _ _ _ _ _ _ _
            have A7 := Lib.hid (A6.out.below q6)
            have B7 := Lib.hid (HB.out.trans (q6.mono HB.out.size))
            rw [← hW6]
            obtain ⟨bg, hbg⟩ : ∃ b, b = wr.heap.size := ⟨_, rfl⟩
            rw [← hbg] at E6 ⊢
            clear hbg hW6 q6 x0 x1 x2 x3 x4 x5 x6 A6
            obtain ⟨_, ⟨c0, c1, c2, c3, c4, c5, c6⟩, _⟩ := A7.out
            obtain ⟨y0, y1, y2, y3, y4, y5, y6⟩ := E6.out
            have mk : Hid (∀ w', Below W6.heap.size W6 w' → w'.cell? ⟨b0, 0, none⟩ = some (.int .i64 sa) ∧ w'.cell? ⟨b0, 1, none⟩ = some (.int .i64 sp) ∧ w'.cell? ⟨b0, 2, none⟩ = some (.int .i64 da) ∧ w'.cell? ⟨b0, 3, none⟩ = some (.int .i64 dp) ∧ w'.cell? ⟨b0, 5, none⟩ = some (.int .i64 ak) ∧ w'.cell? ⟨bg, 0, none⟩ = some (.int .i64 sa) ∧ w'.cell? ⟨bg, 1, none⟩ = some (.int .i64 sp) ∧ w'.cell? ⟨bg, 2, none⟩ = some (.int .i64 da) ∧ w'.cell? ⟨bg, 3, none⟩ = some (.int .i64 dp) ∧ w'.cell? ⟨bg, 4, none⟩ = some (.int .i64 (u : Int)) ∧ w'.cell? ⟨bg, 5, none⟩ = some (.int .i64 ak) ∧ w'.cell? ⟨bg, 6, none⟩ = some (.string dt) ∧ Below W6.heap.size W6 w') := fun w' h => ⟨box7D c0 h, box7D c1 h, box7D c2 h, box7D c3 h, box7D c5 h, box7D y0 h, box7D y1 h, box7D y2 h, box7D y3 h, box7D y4 h, box7D y5 h, box7D y6 h, h⟩
            have hS0 := mk.out _ (Below.refl W6.heap.size W6).drew
            have hwK : IntKind.wrap .i64 ((K : Int) - 1) = (K : Int) - 1 := IntWalk.i64_in _ (by omega)
            obtain ⟨dl, hdl⟩ : ∃ n, n = dt.size := ⟨_, rfl⟩
            rw [← hdl] at hu1 hd0 hd12 hfull
            rw [hu1] at hx hule
            have hne : dt.toList.isEmpty = false := by
              rw [Lib.toList_data]
              rcases h : dt.data.toList with _ | _
              · have := len_list dt
                rw [h] at this
                simp at this
                omega
              · rfl
            have hsz : dt.size = dl := hdl.symm
            clear c0 c1 c2 c3 c4 c5 c6 y0 y1 y2 y3 y4 y5 y6 hdl
            simp only [List.append]
            by_cases hk1 : k + 1 < K
            · have h12 : dl = 12 := hfull hk1
              subst h12
              have hk1i : (k : Int) < (K : Int) - 1 := by omega
              have hw1 : IntKind.wrap .i64 ((u : Int) + 12) = (u : Int) + 12 := IntWalk.i64_in _ (by omega)
              have g1 : ¬ (far.size : Int) < (u : Int) + 12 := by omega
              have g2 : (u : Int) ≤ (u : Int) + 12 := by omega
              have g3 : (u : Int) + 12 ≤ (far.size : Int) := by omega
              have g4 : ¬ (12 : Int) < 12 := by omega
              have hT : ((u : Int) + 12).toNat = u + 12 := by omega
              clear hd12 hd0 hule hfull
              have HU2 : Hid (((U (k + 1) : Nat) : Int) = (u : Int) + 12) := by show _ = _; rw [← HU1.out, hu1]; omega
              clear hu1
              go_region_held3 (fun w' => w'.cell? ⟨b0, 0, none⟩ = some (.int .i64 sa) ∧ w'.cell? ⟨b0, 1, none⟩ = some (.int .i64 sp) ∧ w'.cell? ⟨b0, 2, none⟩ = some (.int .i64 da) ∧ w'.cell? ⟨b0, 3, none⟩ = some (.int .i64 dp) ∧ w'.cell? ⟨b0, 5, none⟩ = some (.int .i64 ak) ∧ w'.cell? ⟨bg, 0, none⟩ = some (.int .i64 sa) ∧ w'.cell? ⟨bg, 1, none⟩ = some (.int .i64 sp) ∧ w'.cell? ⟨bg, 2, none⟩ = some (.int .i64 da) ∧ w'.cell? ⟨bg, 3, none⟩ = some (.int .i64 dp) ∧ w'.cell? ⟨bg, 4, none⟩ = some (.int .i64 (u : Int)) ∧ w'.cell? ⟨bg, 5, none⟩ = some (.int .i64 ak) ∧ w'.cell? ⟨bg, 6, none⟩ = some (.string dt) ∧ Below W6.heap.size W6 w')
                (first | exact hS0 | (trace_state; fail))
                (fail)
              all_goals
                clear mk hS0
                have B9 := Lib.hid B7.out.drew
                go_wp2_with fail
                go_roundw
                case rel => exact ⟨k + 1, by omega, by go_num, by rw [HU2.out], B9.out⟩
                case measure => simp [intOf]; omega
            · have hk1i : ¬ (k : Int) < (K : Int) - 1 := by omega
              have hw1 : IntKind.wrap .i64 ((u : Int) + (dl : Int)) = (u : Int) + (dl : Int) := IntWalk.i64_in _ (by omega)
              have g1 : ¬ (far.size : Int) < (u : Int) + (dl : Int) := by omega
              have g2 : (u : Int) ≤ (u : Int) + (dl : Int) := by omega
              have g3 : (u : Int) + (dl : Int) ≤ (far.size : Int) := by omega
              have g4 : ¬ (12 : Int) < (dl : Int) := by omega
              have hT : ((u : Int) + (dl : Int)).toNat = u + dl := by omega
              clear hd12 hd0 hule hfull
              have HU2 : Hid (((U (k + 1) : Nat) : Int) = (u : Int) + (dl : Int)) := by show _ = _; rw [← HU1.out, hu1]; omega
              clear hu1
              refine wp_region_held_drew (S := fun w' => w'.cell? ⟨b0, 0, none⟩ = some (.int .i64 sa) ∧ w'.cell? ⟨b0, 1, none⟩ = some (.int .i64 sp) ∧ w'.cell? ⟨b0, 2, none⟩ = some (.int .i64 da) ∧ w'.cell? ⟨b0, 3, none⟩ = some (.int .i64 dp) ∧ w'.cell? ⟨b0, 5, none⟩ = some (.int .i64 ak) ∧ w'.cell? ⟨bg, 0, none⟩ = some (.int .i64 sa) ∧ w'.cell? ⟨bg, 1, none⟩ = some (.int .i64 sp) ∧ w'.cell? ⟨bg, 2, none⟩ = some (.int .i64 da) ∧ w'.cell? ⟨bg, 3, none⟩ = some (.int .i64 dp) ∧ w'.cell? ⟨bg, 4, none⟩ = some (.int .i64 (u : Int)) ∧ w'.cell? ⟨bg, 5, none⟩ = some (.int .i64 ak) ∧ w'.cell? ⟨bg, 6, none⟩ = some (.string dt) ∧ Below W6.heap.size W6 w') (by kernel_rfl) hS0 (fun hHeld => ?_)
              refine wpAnyH_take (i := 0) (oi := { dst := some 109, op := Op.fieldAddr 26 (Operand.tmp 9) 0, type := 0, pos := "laws.go:641", after := #[], guard := none }) (v := ?v0) rfl (by kernel_rfl) (by kernel_rfl) (by kernel_rfl) (fun _ _ _ h => h) (Or.inl ⟨by rfl, ?h0⟩) (by assumption) ?r0
              case h0 => (intro w hSw; (try dsimp only at hSw); go_simp) <;> with_reducible rfl
              case r0 =>
              try simp only [Act.put, List.setIfInBounds_toArray, List.set_cons_zero, List.set_cons_succ]
              refine wpAnyH_take (i := 1) (oi := { dst := some 110, op := Op.load 24 (Operand.tmp 109), type := 24, pos := "laws.go:641", after := #[{ on := 0, ground := Ground.data }], guard := none }) (v := ?v1) rfl (by kernel_rfl) (by kernel_rfl) (by kernel_rfl) (fun _ _ _ h => h) (Or.inl ⟨by rfl, ?h1⟩) (by assumption) ?r1
              case h1 => (intro w hSw; (try dsimp only at hSw); go_simp) <;> with_reducible rfl
              case r1 =>
              try simp only [Act.put, List.setIfInBounds_toArray, List.set_cons_zero, List.set_cons_succ]
              refine wpAnyH_take (i := 2) (oi := { dst := some 111, op := Op.fieldAddr 26 (Operand.tmp 3) 0, type := 0, pos := "laws.go:641", after := #[], guard := none }) (v := ?v2) rfl (by kernel_rfl) (by kernel_rfl) (by kernel_rfl) (fun _ _ _ h => h) (Or.inl ⟨by rfl, ?h2⟩) (by assumption) ?r2
              case h2 => (intro w hSw; (try dsimp only at hSw); go_simp) <;> with_reducible rfl
              case r2 =>
              try simp only [Act.put, List.setIfInBounds_toArray, List.set_cons_zero, List.set_cons_succ]
              refine wpAnyH_take (i := 3) (oi := { dst := some 112, op := Op.load 24 (Operand.tmp 111), type := 24, pos := "laws.go:641", after := #[{ on := 2, ground := Ground.data }], guard := none }) (v := ?v3) rfl (by kernel_rfl) (by kernel_rfl) (by kernel_rfl) (fun _ _ _ h => h) (Or.inl ⟨by rfl, ?h3⟩) (by assumption) ?r3
              case h3 => (intro w hSw; (try dsimp only at hSw); go_simp) <;> with_reducible rfl
              case r3 =>
              try simp only [Act.put, List.setIfInBounds_toArray, List.set_cons_zero, List.set_cons_succ]
              refine wpAnyH_take (i := 4) (oi := { dst := some 113, op := Op.binOp BinOp.neq 24 (Operand.tmp 110) (Operand.tmp 112) 24, type := 4, pos := "laws.go:641", after := #[{ on := 1, ground := Ground.data }, { on := 3, ground := Ground.data }], guard := none }) (v := ?v4) rfl (by kernel_rfl) (by kernel_rfl) (by kernel_rfl) (fun _ _ _ h => h) (Or.inl ⟨by rfl, ?h4⟩) (by assumption) ?r4
              case h4 => (intro w hSw; (try dsimp only at hSw); go_simp) <;> with_reducible rfl
              case r4 =>
              try simp only [Act.put, List.setIfInBounds_toArray, List.set_cons_zero, List.set_cons_succ]
              refine wpAnyH_take (i := 5) (oi := { dst := some 114, op := Op.move (Operand.tmp 113), type := 4, pos := "laws.go:641", after := #[{ on := 4, ground := Ground.data }], guard := none }) (v := ?v5) rfl (by kernel_rfl) (by kernel_rfl) (by kernel_rfl) (fun _ _ _ h => h) (Or.inl ⟨by rfl, ?h5⟩) (by assumption) ?r5
              case h5 => (intro w hSw; (try dsimp only at hSw); go_simp) <;> with_reducible rfl
              case r5 =>
              try simp only [Act.put, List.setIfInBounds_toArray, List.set_cons_zero, List.set_cons_succ]
              refine wpAnyH_take (i := 6) (oi := { dst := some 115, op := Op.fieldAddr 26 (Operand.tmp 9) 1, type := 0, pos := "laws.go:641", after := #[{ on := 5, ground := Ground.guard }], guard := some (5, false) }) (v := ?v6) rfl (by kernel_rfl) (by kernel_rfl) (by kernel_rfl) (fun _ _ _ h => h) (Or.inl ⟨by rfl, ?h6⟩) (by assumption) ?r6
              case h6 => (intro w hSw; (try dsimp only at hSw); go_simp) <;> with_reducible rfl
              case r6 =>
              try simp only [Act.put, List.setIfInBounds_toArray, List.set_cons_zero, List.set_cons_succ]
              refine wpAnyH_take (i := 7) (oi := { dst := some 116, op := Op.load 24 (Operand.tmp 115), type := 24, pos := "laws.go:641", after := #[{ on := 6, ground := Ground.data }, { on := 5, ground := Ground.guard }], guard := some (5, false) }) (v := ?v7) rfl (by kernel_rfl) (by kernel_rfl) (by kernel_rfl) (fun _ _ _ h => h) (Or.inl ⟨by rfl, ?h7⟩) (by assumption) ?r7
              case h7 => (intro w hSw; (try dsimp only at hSw); go_simp) <;> with_reducible rfl
              case r7 =>
              try simp only [Act.put, List.setIfInBounds_toArray, List.set_cons_zero, List.set_cons_succ]
              refine wpAnyH_take (i := 8) (oi := { dst := some 117, op := Op.fieldAddr 26 (Operand.tmp 3) 1, type := 0, pos := "laws.go:641", after := #[{ on := 5, ground := Ground.guard }], guard := some (5, false) }) (v := ?v8) rfl (by kernel_rfl) (by kernel_rfl) (by kernel_rfl) (fun _ _ _ h => h) (Or.inl ⟨by rfl, ?h8⟩) (by assumption) ?r8
              case h8 => (intro w hSw; (try dsimp only at hSw); go_simp) <;> with_reducible rfl
              case r8 =>
              try simp only [Act.put, List.setIfInBounds_toArray, List.set_cons_zero, List.set_cons_succ]
              refine wpAnyH_take (i := 9) (oi := { dst := some 118, op := Op.load 24 (Operand.tmp 117), type := 24, pos := "laws.go:641", after := #[{ on := 8, ground := Ground.data }, { on := 5, ground := Ground.guard }], guard := some (5, false) }) (v := ?v9) rfl (by kernel_rfl) (by kernel_rfl) (by kernel_rfl) (fun _ _ _ h => h) (Or.inl ⟨by rfl, ?h9⟩) (by assumption) ?r9
              case h9 => (intro w hSw; (try dsimp only at hSw); go_simp) <;> with_reducible rfl
              case r9 =>
              try simp only [Act.put, List.setIfInBounds_toArray, List.set_cons_zero, List.set_cons_succ]
              refine wpAnyH_take (i := 10) (oi := { dst := some 119, op := Op.binOp BinOp.neq 24 (Operand.tmp 116) (Operand.tmp 118) 24, type := 4, pos := "laws.go:641", after := #[{ on := 7, ground := Ground.data }, { on := 9, ground := Ground.data }, { on := 5, ground := Ground.guard }], guard := some (5, false) }) (v := ?v10) rfl (by kernel_rfl) (by kernel_rfl) (by kernel_rfl) (fun _ _ _ h => h) (Or.inl ⟨by rfl, ?h10⟩) (by assumption) ?r10
              case h10 => (intro w hSw; (try dsimp only at hSw); go_simp) <;> with_reducible rfl
              case r10 =>
              try simp only [Act.put, List.setIfInBounds_toArray, List.set_cons_zero, List.set_cons_succ]
              refine wpAnyH_take (i := 11) (oi := { dst := some 120, op := Op.pick (Operand.tmp 114) (Operand.const (Value.bool true)) (Operand.tmp 119), type := 4, pos := "laws.go:641", after := #[{ on := 5, ground := Ground.data }, { on := 10, ground := Ground.data }], guard := none }) (v := ?v11) rfl (by kernel_rfl) (by kernel_rfl) (by kernel_rfl) (fun _ _ _ h => h) (Or.inl ⟨by rfl, ?h11⟩) (by assumption) ?r11
              case h11 => (intro w hSw; (try dsimp only at hSw); go_simp) <;> with_reducible rfl
              case r11 =>
              try simp only [Act.put, List.setIfInBounds_toArray, List.set_cons_zero, List.set_cons_succ]
              refine wpAnyH_take (i := 12) (oi := { dst := some 121, op := Op.move (Operand.tmp 120), type := 4, pos := "laws.go:641", after := #[{ on := 11, ground := Ground.data }, { on := 5, ground := Ground.chain }], guard := none }) (v := ?v12) rfl (by kernel_rfl) (by kernel_rfl) (by kernel_rfl) (fun _ _ _ h => h) (Or.inl ⟨by rfl, ?h12⟩) (by assumption) ?r12
              case h12 => (intro w hSw; (try dsimp only at hSw); go_simp) <;> with_reducible rfl
              case r12 =>
              try simp only [Act.put, List.setIfInBounds_toArray, List.set_cons_zero, List.set_cons_succ]
              refine wpAnyH_take (i := 13) (oi := { dst := some 122, op := Op.fieldAddr 26 (Operand.tmp 9) 3, type := 0, pos := "laws.go:641", after := #[{ on := 12, ground := Ground.guard }], guard := some (12, false) }) (v := ?v13) rfl (by kernel_rfl) (by kernel_rfl) (by kernel_rfl) (fun _ _ _ h => h) (Or.inl ⟨by rfl, ?h13⟩) (by assumption) ?r13
              case h13 => (intro w hSw; (try dsimp only at hSw); go_simp) <;> with_reducible rfl
              case r13 =>
              try simp only [Act.put, List.setIfInBounds_toArray, List.set_cons_zero, List.set_cons_succ]
              refine wpAnyH_take (i := 14) (oi := { dst := some 123, op := Op.load 3 (Operand.tmp 122), type := 3, pos := "laws.go:641", after := #[{ on := 13, ground := Ground.data }, { on := 12, ground := Ground.guard }], guard := some (12, false) }) (v := ?v14) rfl (by kernel_rfl) (by kernel_rfl) (by kernel_rfl) (fun _ _ _ h => h) (Or.inl ⟨by rfl, ?h14⟩) (by assumption) ?r14
              case h14 => (intro w hSw; (try dsimp only at hSw); go_simp) <;> with_reducible rfl
              case r14 =>
              try simp only [Act.put, List.setIfInBounds_toArray, List.set_cons_zero, List.set_cons_succ]
              refine wpAnyH_take (i := 15) (oi := { dst := some 124, op := Op.fieldAddr 26 (Operand.tmp 3) 3, type := 0, pos := "laws.go:641", after := #[{ on := 12, ground := Ground.guard }], guard := some (12, false) }) (v := ?v15) rfl (by kernel_rfl) (by kernel_rfl) (by kernel_rfl) (fun _ _ _ h => h) (Or.inl ⟨by rfl, ?h15⟩) (by assumption) ?r15
              case h15 => (intro w hSw; (try dsimp only at hSw); go_simp) <;> with_reducible rfl
              case r15 =>
              try simp only [Act.put, List.setIfInBounds_toArray, List.set_cons_zero, List.set_cons_succ]
              refine wpAnyH_take (i := 16) (oi := { dst := some 125, op := Op.load 3 (Operand.tmp 124), type := 3, pos := "laws.go:641", after := #[{ on := 15, ground := Ground.data }, { on := 12, ground := Ground.guard }], guard := some (12, false) }) (v := ?v16) rfl (by kernel_rfl) (by kernel_rfl) (by kernel_rfl) (fun _ _ _ h => h) (Or.inl ⟨by rfl, ?h16⟩) (by assumption) ?r16
              case h16 => (intro w hSw; (try dsimp only at hSw); go_simp) <;> with_reducible rfl
              case r16 =>
              try simp only [Act.put, List.setIfInBounds_toArray, List.set_cons_zero, List.set_cons_succ]
              refine wpAnyH_take (i := 17) (oi := { dst := some 126, op := Op.binOp BinOp.neq 3 (Operand.tmp 123) (Operand.tmp 125) 3, type := 4, pos := "laws.go:641", after := #[{ on := 14, ground := Ground.data }, { on := 16, ground := Ground.data }, { on := 12, ground := Ground.guard }], guard := some (12, false) }) (v := ?v17) rfl (by kernel_rfl) (by kernel_rfl) (by kernel_rfl) (fun _ _ _ h => h) (Or.inl ⟨by rfl, ?h17⟩) (by assumption) ?r17
              case h17 => (intro w hSw; (try dsimp only at hSw); go_simp) <;> with_reducible rfl
              case r17 =>
              try simp only [Act.put, List.setIfInBounds_toArray, List.set_cons_zero, List.set_cons_succ]
              refine wpAnyH_take (i := 18) (oi := { dst := some 127, op := Op.pick (Operand.tmp 121) (Operand.const (Value.bool true)) (Operand.tmp 126), type := 4, pos := "laws.go:641", after := #[{ on := 12, ground := Ground.data }, { on := 17, ground := Ground.data }], guard := none }) (v := ?v18) rfl (by kernel_rfl) (by kernel_rfl) (by kernel_rfl) (fun _ _ _ h => h) (Or.inl ⟨by rfl, ?h18⟩) (by assumption) ?r18
              case h18 => (intro w hSw; (try dsimp only at hSw); go_simp) <;> with_reducible rfl
              case r18 =>
              try simp only [Act.put, List.setIfInBounds_toArray, List.set_cons_zero, List.set_cons_succ]
              refine wpAnyH_take (i := 19) (oi := { dst := some 128, op := Op.move (Operand.tmp 127), type := 4, pos := "laws.go:641", after := #[{ on := 18, ground := Ground.data }, { on := 12, ground := Ground.chain }], guard := none }) (v := ?v19) rfl (by kernel_rfl) (by kernel_rfl) (by kernel_rfl) (fun _ _ _ h => h) (Or.inl ⟨by rfl, ?h19⟩) (by assumption) ?r19
              case h19 => (intro w hSw; (try dsimp only at hSw); go_simp) <;> with_reducible rfl
              case r19 =>
              try simp only [Act.put, List.setIfInBounds_toArray, List.set_cons_zero, List.set_cons_succ]
              refine wpAnyH_take (i := 20) (oi := { dst := some 129, op := Op.fieldAddr 26 (Operand.tmp 9) 2, type := 0, pos := "laws.go:641", after := #[{ on := 19, ground := Ground.guard }], guard := some (19, false) }) (v := ?v20) rfl (by kernel_rfl) (by kernel_rfl) (by kernel_rfl) (fun _ _ _ h => h) (Or.inl ⟨by rfl, ?h20⟩) (by assumption) ?r20
              case h20 => (intro w hSw; (try dsimp only at hSw); go_simp) <;> with_reducible rfl
              case r20 =>
              try simp only [Act.put, List.setIfInBounds_toArray, List.set_cons_zero, List.set_cons_succ]
              refine wpAnyH_take (i := 21) (oi := { dst := some 130, op := Op.load 3 (Operand.tmp 129), type := 3, pos := "laws.go:641", after := #[{ on := 20, ground := Ground.data }, { on := 19, ground := Ground.guard }], guard := some (19, false) }) (v := ?v21) rfl (by kernel_rfl) (by kernel_rfl) (by kernel_rfl) (fun _ _ _ h => h) (Or.inl ⟨by rfl, ?h21⟩) (by assumption) ?r21
              case h21 => (intro w hSw; (try dsimp only at hSw); go_simp) <;> with_reducible rfl
              case r21 =>
              try simp only [Act.put, List.setIfInBounds_toArray, List.set_cons_zero, List.set_cons_succ]
              refine wpAnyH_take (i := 22) (oi := { dst := some 131, op := Op.move (Operand.tmp 7), type := 3, pos := "laws.go:641", after := #[{ on := 19, ground := Ground.guard }], guard := some (19, false) }) (v := ?v22) rfl (by kernel_rfl) (by kernel_rfl) (by kernel_rfl) (fun _ _ _ h => h) (Or.inl ⟨by rfl, ?h22⟩) (by assumption) ?r22
              case h22 => (intro w hSw; (try dsimp only at hSw); go_simp) <;> with_reducible rfl
              case r22 =>
              try simp only [Act.put, List.setIfInBounds_toArray, List.set_cons_zero, List.set_cons_succ]
              refine wpAnyH_take (i := 23) (oi := { dst := some 132, op := Op.binOp BinOp.neq 3 (Operand.tmp 130) (Operand.tmp 131) 3, type := 4, pos := "laws.go:641", after := #[{ on := 21, ground := Ground.data }, { on := 22, ground := Ground.data }, { on := 19, ground := Ground.guard }], guard := some (19, false) }) (v := ?v23) rfl (by kernel_rfl) (by kernel_rfl) (by kernel_rfl) (fun _ _ _ h => h) (Or.inl ⟨by rfl, ?h23⟩) (by assumption) ?r23
              case h23 => (intro w hSw; (try dsimp only at hSw); go_simp) <;> with_reducible rfl
              case r23 =>
              try simp only [Act.put, List.setIfInBounds_toArray, List.set_cons_zero, List.set_cons_succ]
              refine wpAnyH_take (i := 24) (oi := { dst := some 133, op := Op.pick (Operand.tmp 128) (Operand.const (Value.bool true)) (Operand.tmp 132), type := 4, pos := "laws.go:641", after := #[{ on := 19, ground := Ground.data }, { on := 23, ground := Ground.data }], guard := none }) (v := ?v24) rfl (by kernel_rfl) (by kernel_rfl) (by kernel_rfl) (fun _ _ _ h => h) (Or.inl ⟨by rfl, ?h24⟩) (by assumption) ?r24
              case h24 => (intro w hSw; (try dsimp only at hSw); go_simp) <;> with_reducible rfl
              case r24 =>
              try simp only [Act.put, List.setIfInBounds_toArray, List.set_cons_zero, List.set_cons_succ]
              refine wpAnyH_take (i := 25) (oi := { dst := some 134, op := Op.move (Operand.tmp 133), type := 4, pos := "laws.go:641", after := #[{ on := 24, ground := Ground.data }, { on := 19, ground := Ground.chain }], guard := none }) (v := ?v25) rfl (by kernel_rfl) (by kernel_rfl) (by kernel_rfl) (fun _ _ _ h => h) (Or.inl ⟨by rfl, ?h25⟩) (by assumption) ?r25
              case h25 => (intro w hSw; (try dsimp only at hSw); go_simp) <;> with_reducible rfl
              case r25 =>
              try simp only [Act.put, List.setIfInBounds_toArray, List.set_cons_zero, List.set_cons_succ]
              refine wpAnyH_take (i := 26) (oi := { dst := some 135, op := Op.fieldAddr 26 (Operand.tmp 9) 2, type := 0, pos := "laws.go:641", after := #[{ on := 25, ground := Ground.guard }], guard := some (25, false) }) (v := ?v26) rfl (by kernel_rfl) (by kernel_rfl) (by kernel_rfl) (fun _ _ _ h => h) (Or.inl ⟨by rfl, ?h26⟩) (by assumption) ?r26
              case h26 => (intro w hSw; (try dsimp only at hSw); go_simp) <;> with_reducible rfl
              case r26 =>
              try simp only [Act.put, List.setIfInBounds_toArray, List.set_cons_zero, List.set_cons_succ]
              refine wpAnyH_take (i := 27) (oi := { dst := some 136, op := Op.load 3 (Operand.tmp 135), type := 3, pos := "laws.go:641", after := #[{ on := 26, ground := Ground.data }, { on := 25, ground := Ground.guard }], guard := some (25, false) }) (v := ?v27) rfl (by kernel_rfl) (by kernel_rfl) (by kernel_rfl) (fun _ _ _ h => h) (Or.inl ⟨by rfl, ?h27⟩) (by assumption) ?r27
              case h27 => (intro w hSw; (try dsimp only at hSw); go_simp) <;> with_reducible rfl
              case r27 =>
              try simp only [Act.put, List.setIfInBounds_toArray, List.set_cons_zero, List.set_cons_succ]
              refine wpAnyH_take (i := 28) (oi := { dst := some 137, op := Op.fieldAddr 26 (Operand.tmp 9) 4, type := 0, pos := "laws.go:641", after := #[{ on := 25, ground := Ground.guard }], guard := some (25, false) }) (v := ?v28) rfl (by kernel_rfl) (by kernel_rfl) (by kernel_rfl) (fun _ _ _ h => h) (Or.inl ⟨by rfl, ?h28⟩) (by assumption) ?r28
              case h28 => (intro w hSw; (try dsimp only at hSw); go_simp) <;> with_reducible rfl
              case r28 =>
              try simp only [Act.put, List.setIfInBounds_toArray, List.set_cons_zero, List.set_cons_succ]
              refine wpAnyH_take (i := 29) (oi := { dst := some 138, op := Op.load 9 (Operand.tmp 137), type := 9, pos := "laws.go:641", after := #[{ on := 28, ground := Ground.data }, { on := 25, ground := Ground.guard }], guard := some (25, false) }) (v := ?v29) rfl (by kernel_rfl) (by kernel_rfl) (by kernel_rfl) (fun _ _ _ h => h) (Or.inl ⟨by rfl, ?h29⟩) (by assumption) ?r29
              case h29 => (intro w hSw; (try dsimp only at hSw); go_simp) <;> with_reducible rfl
              case r29 =>
              try simp only [Act.put, List.setIfInBounds_toArray, List.set_cons_zero, List.set_cons_succ]
              refine wpAnyH_take (i := 30) (oi := { dst := some 139, op := Op.call { callee := Callee.builtin Builtin.len, args := #[Operand.tmp 138], argTypes := #[9] }, type := 3, pos := "laws.go:641", after := #[{ on := 29, ground := Ground.data }, { on := 25, ground := Ground.guard }], guard := some (25, false) }) (v := ?v30) rfl (by kernel_rfl) (by kernel_rfl) (by kernel_rfl) (fun _ _ _ h => h) (Or.inl ⟨by rfl, ?h30⟩) (by assumption) ?r30
              case h30 => (intro w hSw; (try dsimp only at hSw); go_simp) <;> with_reducible rfl
              case r30 =>
              try simp only [Act.put, List.setIfInBounds_toArray, List.set_cons_zero, List.set_cons_succ]
              refine wpAnyH_take (i := 31) (oi := { dst := some 140, op := Op.binOp BinOp.add 3 (Operand.tmp 136) (Operand.tmp 139) 3, type := 3, pos := "laws.go:641", after := #[{ on := 27, ground := Ground.data }, { on := 30, ground := Ground.data }, { on := 25, ground := Ground.guard }], guard := some (25, false) }) (v := ?v31) rfl (by kernel_rfl) (by kernel_rfl) (by kernel_rfl) (fun _ _ _ h => h) (Or.inl ⟨by rfl, ?h31⟩) (by assumption) ?r31
              case h31 => (intro w hSw; (try dsimp only at hSw); go_simp) <;> with_reducible rfl
              case r31 =>
              try simp only [Act.put, List.setIfInBounds_toArray, List.set_cons_zero, List.set_cons_succ]
              refine wpAnyH_take (i := 32) (oi := { dst := some 141, op := Op.move (Operand.tmp 4), type := 9, pos := "laws.go:641", after := #[{ on := 25, ground := Ground.guard }], guard := some (25, false) }) (v := ?v32) rfl (by kernel_rfl) (by kernel_rfl) (by kernel_rfl) (fun _ _ _ h => h) (Or.inl ⟨by rfl, ?h32⟩) (by assumption) ?r32
              case h32 => (intro w hSw; (try dsimp only at hSw); go_simp) <;> with_reducible rfl
              case r32 =>
              try simp only [Act.put, List.setIfInBounds_toArray, List.set_cons_zero, List.set_cons_succ]
              refine wpAnyH_take (i := 33) (oi := { dst := some 142, op := Op.call { callee := Callee.builtin Builtin.len, args := #[Operand.tmp 141], argTypes := #[9] }, type := 3, pos := "laws.go:641", after := #[{ on := 32, ground := Ground.data }, { on := 25, ground := Ground.guard }], guard := some (25, false) }) (v := ?v33) rfl (by kernel_rfl) (by kernel_rfl) (by kernel_rfl) (fun _ _ _ h => h) (Or.inl ⟨by rfl, ?h33⟩) (by assumption) ?r33
              case h33 => (intro w hSw; (try dsimp only at hSw); go_simp) <;> with_reducible rfl
              case r33 =>
              try simp only [Act.put, List.setIfInBounds_toArray, List.set_cons_zero, List.set_cons_succ]
              refine wpAnyH_take (i := 34) (oi := { dst := some 143, op := Op.binOp BinOp.gtr 3 (Operand.tmp 140) (Operand.tmp 142) 3, type := 4, pos := "laws.go:641", after := #[{ on := 31, ground := Ground.data }, { on := 33, ground := Ground.data }, { on := 25, ground := Ground.guard }], guard := some (25, false) }) (v := ?v34) rfl (by kernel_rfl) (by kernel_rfl) (by kernel_rfl) (fun _ _ _ h => h) (Or.inl ⟨by rfl, ?h34⟩) (by assumption) ?r34
              case h34 => (intro w hSw; (try dsimp only at hSw); go_simp) <;> with_reducible rfl
              case r34 =>
              try simp only [Act.put, List.setIfInBounds_toArray, List.set_cons_zero, List.set_cons_succ]
              refine wpAnyH_take (i := 35) (oi := { dst := some 144, op := Op.pick (Operand.tmp 134) (Operand.const (Value.bool true)) (Operand.tmp 143), type := 4, pos := "laws.go:641", after := #[{ on := 25, ground := Ground.data }, { on := 34, ground := Ground.data }], guard := none }) (v := ?v35) rfl (by kernel_rfl) (by kernel_rfl) (by kernel_rfl) (fun _ _ _ h => h) (Or.inl ⟨by rfl, ?h35⟩) (by assumption) ?r35
              case h35 => (intro w hSw; (try dsimp only at hSw); go_simp) <;> with_reducible rfl
              case r35 =>
              try simp only [Act.put, List.setIfInBounds_toArray, List.set_cons_zero, List.set_cons_succ]
              refine wpAnyH_take (i := 36) (oi := { dst := some 145, op := Op.move (Operand.tmp 144), type := 4, pos := "laws.go:641", after := #[{ on := 35, ground := Ground.data }, { on := 25, ground := Ground.chain }], guard := none }) (v := ?v36) rfl (by kernel_rfl) (by kernel_rfl) (by kernel_rfl) (fun _ _ _ h => h) (Or.inl ⟨by rfl, ?h36⟩) (by assumption) ?r36
              case h36 => (intro w hSw; (try dsimp only at hSw); go_simp) <;> with_reducible rfl
              case r36 =>
              try simp only [Act.put, List.setIfInBounds_toArray, List.set_cons_zero, List.set_cons_succ]
              refine wpAnyH_take (i := 37) (oi := { dst := some 146, op := Op.move (Operand.tmp 4), type := 9, pos := "laws.go:641", after := #[{ on := 36, ground := Ground.guard }], guard := some (36, false) }) (v := ?v37) rfl (by kernel_rfl) (by kernel_rfl) (by kernel_rfl) (fun _ _ _ h => h) (Or.inl ⟨by rfl, ?h37⟩) (by assumption) ?r37
              case h37 => (intro w hSw; (try dsimp only at hSw); go_simp) <;> with_reducible rfl
              case r37 =>
              try simp only [Act.put, List.setIfInBounds_toArray, List.set_cons_zero, List.set_cons_succ]
              refine wpAnyH_take (i := 38) (oi := { dst := some 147, op := Op.fieldAddr 26 (Operand.tmp 9) 2, type := 0, pos := "laws.go:641", after := #[{ on := 36, ground := Ground.guard }], guard := some (36, false) }) (v := ?v38) rfl (by kernel_rfl) (by kernel_rfl) (by kernel_rfl) (fun _ _ _ h => h) (Or.inl ⟨by rfl, ?h38⟩) (by assumption) ?r38
              case h38 => (intro w hSw; (try dsimp only at hSw); go_simp) <;> with_reducible rfl
              case r38 =>
              try simp only [Act.put, List.setIfInBounds_toArray, List.set_cons_zero, List.set_cons_succ]
              refine wpAnyH_take (i := 39) (oi := { dst := some 148, op := Op.load 3 (Operand.tmp 147), type := 3, pos := "laws.go:641", after := #[{ on := 38, ground := Ground.data }, { on := 36, ground := Ground.guard }], guard := some (36, false) }) (v := ?v39) rfl (by kernel_rfl) (by kernel_rfl) (by kernel_rfl) (fun _ _ _ h => h) (Or.inl ⟨by rfl, ?h39⟩) (by assumption) ?r39
              case h39 => (intro w hSw; (try dsimp only at hSw); go_simp) <;> with_reducible rfl
              case r39 =>
              try simp only [Act.put, List.setIfInBounds_toArray, List.set_cons_zero, List.set_cons_succ]
              refine wpAnyH_take (i := 40) (oi := { dst := some 149, op := Op.fieldAddr 26 (Operand.tmp 9) 2, type := 0, pos := "laws.go:641", after := #[{ on := 36, ground := Ground.guard }], guard := some (36, false) }) (v := ?v40) rfl (by kernel_rfl) (by kernel_rfl) (by kernel_rfl) (fun _ _ _ h => h) (Or.inl ⟨by rfl, ?h40⟩) (by assumption) ?r40
              case h40 => (intro w hSw; (try dsimp only at hSw); go_simp) <;> with_reducible rfl
              case r40 =>
              try simp only [Act.put, List.setIfInBounds_toArray, List.set_cons_zero, List.set_cons_succ]
              refine wpAnyH_take (i := 41) (oi := { dst := some 150, op := Op.load 3 (Operand.tmp 149), type := 3, pos := "laws.go:641", after := #[{ on := 40, ground := Ground.data }, { on := 36, ground := Ground.guard }], guard := some (36, false) }) (v := ?v41) rfl (by kernel_rfl) (by kernel_rfl) (by kernel_rfl) (fun _ _ _ h => h) (Or.inl ⟨by rfl, ?h41⟩) (by assumption) ?r41
              case h41 => (intro w hSw; (try dsimp only at hSw); go_simp) <;> with_reducible rfl
              case r41 =>
              try simp only [Act.put, List.setIfInBounds_toArray, List.set_cons_zero, List.set_cons_succ]
              refine wpAnyH_take (i := 42) (oi := { dst := some 151, op := Op.fieldAddr 26 (Operand.tmp 9) 4, type := 0, pos := "laws.go:641", after := #[{ on := 36, ground := Ground.guard }], guard := some (36, false) }) (v := ?v42) rfl (by kernel_rfl) (by kernel_rfl) (by kernel_rfl) (fun _ _ _ h => h) (Or.inl ⟨by rfl, ?h42⟩) (by assumption) ?r42
              case h42 => (intro w hSw; (try dsimp only at hSw); go_simp) <;> with_reducible rfl
              case r42 =>
              try simp only [Act.put, List.setIfInBounds_toArray, List.set_cons_zero, List.set_cons_succ]
              refine wpAnyH_take (i := 43) (oi := { dst := some 152, op := Op.load 9 (Operand.tmp 151), type := 9, pos := "laws.go:641", after := #[{ on := 42, ground := Ground.data }, { on := 36, ground := Ground.guard }], guard := some (36, false) }) (v := ?v43) rfl (by kernel_rfl) (by kernel_rfl) (by kernel_rfl) (fun _ _ _ h => h) (Or.inl ⟨by rfl, ?h43⟩) (by assumption) ?r43
              case h43 => (intro w hSw; (try dsimp only at hSw); go_simp) <;> with_reducible rfl
              case r43 =>
              try simp only [Act.put, List.setIfInBounds_toArray, List.set_cons_zero, List.set_cons_succ]
              refine wpAnyH_take (i := 44) (oi := { dst := some 153, op := Op.call { callee := Callee.builtin Builtin.len, args := #[Operand.tmp 152], argTypes := #[9] }, type := 3, pos := "laws.go:641", after := #[{ on := 43, ground := Ground.data }, { on := 36, ground := Ground.guard }], guard := some (36, false) }) (v := ?v44) rfl (by kernel_rfl) (by kernel_rfl) (by kernel_rfl) (fun _ _ _ h => h) (Or.inl ⟨by rfl, ?h44⟩) (by assumption) ?r44
              case h44 => (intro w hSw; (try dsimp only at hSw); go_simp) <;> with_reducible rfl
              case r44 =>
              try simp only [Act.put, List.setIfInBounds_toArray, List.set_cons_zero, List.set_cons_succ]
              refine wpAnyH_take (i := 45) (oi := { dst := some 154, op := Op.binOp BinOp.add 3 (Operand.tmp 150) (Operand.tmp 153) 3, type := 3, pos := "laws.go:641", after := #[{ on := 41, ground := Ground.data }, { on := 44, ground := Ground.data }, { on := 36, ground := Ground.guard }], guard := some (36, false) }) (v := ?v45) rfl (by kernel_rfl) (by kernel_rfl) (by kernel_rfl) (fun _ _ _ h => h) (Or.inl ⟨by rfl, ?h45⟩) (by assumption) ?r45
              case h45 => (intro w hSw; (try dsimp only at hSw); go_simp) <;> with_reducible rfl
              case r45 =>
              try simp only [Act.put, List.setIfInBounds_toArray, List.set_cons_zero, List.set_cons_succ]
              refine wpAnyH_take (i := 46) (oi := { dst := some 155, op := Op.slice 9 (Operand.tmp 146) (some (Operand.tmp 148)) (some (Operand.tmp 154)) none, type := 9, pos := "laws.go:641", after := #[{ on := 37, ground := Ground.data }, { on := 39, ground := Ground.data }, { on := 45, ground := Ground.data }, { on := 36, ground := Ground.guard }], guard := some (36, false) }) (v := ?v46) rfl (by kernel_rfl) (by kernel_rfl) (by kernel_rfl) (fun _ _ _ h => h) (Or.inl ⟨by rfl, ?h46⟩) (by assumption) ?r46
              case h46 => (intro w hSw; (try dsimp only at hSw); go_simp) <;> with_reducible rfl
              case r46 =>
              try simp only [Act.put, List.setIfInBounds_toArray, List.set_cons_zero, List.set_cons_succ]
              refine wpAnyH_take (i := 47) (oi := { dst := some 156, op := Op.fieldAddr 26 (Operand.tmp 9) 4, type := 0, pos := "laws.go:641", after := #[{ on := 36, ground := Ground.guard }], guard := some (36, false) }) (v := ?v47) rfl (by kernel_rfl) (by kernel_rfl) (by kernel_rfl) (fun _ _ _ h => h) (Or.inl ⟨by rfl, ?h47⟩) (by assumption) ?r47
              case h47 => (intro w hSw; (try dsimp only at hSw); go_simp) <;> with_reducible rfl
              case r47 =>
              try simp only [Act.put, List.setIfInBounds_toArray, List.set_cons_zero, List.set_cons_succ]
              refine wpAnyH_take (i := 48) (oi := { dst := some 157, op := Op.load 9 (Operand.tmp 156), type := 9, pos := "laws.go:641", after := #[{ on := 47, ground := Ground.data }, { on := 36, ground := Ground.guard }], guard := some (36, false) }) (v := ?v48) rfl (by kernel_rfl) (by kernel_rfl) (by kernel_rfl) (fun _ _ _ h => h) (Or.inl ⟨by rfl, ?h48⟩) (by assumption) ?r48
              case h48 => (intro w hSw; (try dsimp only at hSw); go_simp) <;> with_reducible rfl
              case r48 =>
              try simp only [Act.put, List.setIfInBounds_toArray, List.set_cons_zero, List.set_cons_succ]
              refine wpAnyH_take (i := 49) (oi := { dst := some 158, op := Op.binOp BinOp.neq 9 (Operand.tmp 155) (Operand.tmp 157) 9, type := 4, pos := "laws.go:641", after := #[{ on := 46, ground := Ground.data }, { on := 48, ground := Ground.data }, { on := 36, ground := Ground.guard }], guard := some (36, false) }) (v := ?v49) rfl (by kernel_rfl) (by kernel_rfl) (by kernel_rfl) (fun _ _ _ h => h) (Or.inl ⟨by rfl, ?h49⟩) (by assumption) ?r49
              case h49 => (intro w hSw; (try dsimp only at hSw); go_simp) <;> with_reducible rfl
              case r49 =>
              try simp only [Act.put, List.setIfInBounds_toArray, List.set_cons_zero, List.set_cons_succ]
              refine wpAnyH_take (i := 50) (oi := { dst := some 159, op := Op.pick (Operand.tmp 145) (Operand.const (Value.bool true)) (Operand.tmp 158), type := 4, pos := "laws.go:641", after := #[{ on := 36, ground := Ground.data }, { on := 49, ground := Ground.data }], guard := none }) (v := ?v50) rfl (by kernel_rfl) (by kernel_rfl) (by kernel_rfl) (fun _ _ _ h => h) (Or.inl ⟨by rfl, ?h50⟩) (by assumption) ?r50
              case h50 => (intro w hSw; (try dsimp only at hSw); go_simp) <;> with_reducible rfl
              case r50 =>
              try simp only [Act.put, List.setIfInBounds_toArray, List.set_cons_zero, List.set_cons_succ]
              refine wpAnyH_take (i := 51) (oi := { dst := some 160, op := Op.move (Operand.tmp 159), type := 4, pos := "laws.go:641", after := #[{ on := 50, ground := Ground.data }, { on := 36, ground := Ground.chain }], guard := none }) (v := ?v51) rfl (by kernel_rfl) (by kernel_rfl) (by kernel_rfl) (fun _ _ _ h => h) (Or.inl ⟨by rfl, ?h51⟩) (by assumption) ?r51
              case h51 => (intro w hSw; (try dsimp only at hSw); go_simp) <;> with_reducible rfl
              case r51 =>
              try simp only [Act.put, List.setIfInBounds_toArray, List.set_cons_zero, List.set_cons_succ]
              refine wpAnyH_take (i := 52) (oi := { dst := some 161, op := Op.move (Operand.tmp 8), type := 3, pos := "laws.go:641", after := #[{ on := 51, ground := Ground.guard }], guard := some (51, false) }) (v := ?v52) rfl (by kernel_rfl) (by kernel_rfl) (by kernel_rfl) (fun _ _ _ h => h) (Or.inl ⟨by rfl, ?h52⟩) (by assumption) ?r52
              case h52 => (intro w hSw; (try dsimp only at hSw); go_simp) <;> with_reducible rfl
              case r52 =>
              try simp only [Act.put, List.setIfInBounds_toArray, List.set_cons_zero, List.set_cons_succ]
              refine wpAnyH_take (i := 53) (oi := { dst := some 162, op := Op.move (Operand.tmp 6), type := 29, pos := "laws.go:641", after := #[{ on := 51, ground := Ground.guard }], guard := some (51, false) }) (v := ?v53) rfl (by kernel_rfl) (by kernel_rfl) (by kernel_rfl) (fun _ _ _ h => h) (Or.inl ⟨by rfl, ?h53⟩) (by assumption) ?r53
              case h53 => (intro w hSw; (try dsimp only at hSw); go_simp) <;> with_reducible rfl
              case r53 =>
              try simp only [Act.put, List.setIfInBounds_toArray, List.set_cons_zero, List.set_cons_succ]
              refine wpAnyH_take (i := 54) (oi := { dst := some 163, op := Op.call { callee := Callee.builtin Builtin.len, args := #[Operand.tmp 162], argTypes := #[29] }, type := 3, pos := "laws.go:641", after := #[{ on := 53, ground := Ground.data }, { on := 51, ground := Ground.guard }], guard := some (51, false) }) (v := ?v54) rfl (by kernel_rfl) (by kernel_rfl) (by kernel_rfl) (fun _ _ _ h => h) (Or.inl ⟨by rfl, ?h54⟩) (by assumption) ?r54
              case h54 => (intro w hSw; (try dsimp only at hSw); go_simp) <;> with_reducible rfl
              case r54 =>
              try simp only [Act.put, List.setIfInBounds_toArray, List.set_cons_zero, List.set_cons_succ]
              refine wpAnyH_take (i := 55) (oi := { dst := some 164, op := Op.binOp BinOp.sub 3 (Operand.tmp 163) (Operand.const (Value.int IntKind.i64 1)) 3, type := 3, pos := "laws.go:641", after := #[{ on := 54, ground := Ground.data }, { on := 51, ground := Ground.guard }], guard := some (51, false) }) (v := ?v55) rfl (by kernel_rfl) (by kernel_rfl) (by kernel_rfl) (fun _ _ _ h => h) (Or.inl ⟨by rfl, ?h55⟩) (by assumption) ?r55
              case h55 => (intro w hSw; (try dsimp only at hSw); go_simp) <;> with_reducible rfl
              case r55 =>
              try simp only [Act.put, List.setIfInBounds_toArray, List.set_cons_zero, List.set_cons_succ]
              refine wpAnyH_take (i := 56) (oi := { dst := some 165, op := Op.binOp BinOp.lss 3 (Operand.tmp 161) (Operand.tmp 164) 3, type := 4, pos := "laws.go:641", after := #[{ on := 52, ground := Ground.data }, { on := 55, ground := Ground.data }, { on := 51, ground := Ground.guard }], guard := some (51, false) }) (v := ?v56) rfl (by kernel_rfl) (by kernel_rfl) (by kernel_rfl) (fun _ _ _ h => h) (Or.inl ⟨by rfl, ?h56⟩) (by assumption) ?r56
              case h56 => (intro w hSw; (try dsimp only at hSw); go_simp) <;> with_reducible rfl
              case r56 =>
              try simp only [Act.put, List.setIfInBounds_toArray, List.set_cons_zero, List.set_cons_succ]
              refine wpAnyH_take (i := 57) (oi := { dst := some 166, op := Op.move (Operand.tmp 165), type := 4, pos := "laws.go:641", after := #[{ on := 56, ground := Ground.data }, { on := 51, ground := Ground.chain }, { on := 51, ground := Ground.guard }], guard := some (51, false) }) (v := ?v57) rfl (by kernel_rfl) (by kernel_rfl) (by kernel_rfl) (fun _ _ _ h => h) (Or.inl ⟨by rfl, ?h57⟩) (by assumption) ?r57
              case h57 => (intro w hSw; (try dsimp only at hSw); go_simp) <;> with_reducible rfl
              case r57 =>
              try simp only [Act.put, List.setIfInBounds_toArray, List.set_cons_zero, List.set_cons_succ]
              refine wpAnyH_take (i := 58) (oi := { dst := some 167, op := Op.fieldAddr 26 (Operand.tmp 9) 4, type := 0, pos := "laws.go:641", after := #[{ on := 57, ground := Ground.guard }], guard := some (57, true) }) (v := undef) rfl (by kernel_rfl) (by kernel_rfl) (by kernel_rfl) (fun _ _ _ h => h) (Or.inr ⟨by rfl, rfl⟩) (by assumption) ?_
              try simp only [Act.put, List.setIfInBounds_toArray, List.set_cons_zero, List.set_cons_succ]
              refine wpAnyH_take (i := 59) (oi := { dst := some 168, op := Op.load 9 (Operand.tmp 167), type := 9, pos := "laws.go:641", after := #[{ on := 58, ground := Ground.data }, { on := 57, ground := Ground.guard }], guard := some (57, true) }) (v := undef) rfl (by kernel_rfl) (by kernel_rfl) (by kernel_rfl) (fun _ _ _ h => h) (Or.inr ⟨by rfl, rfl⟩) (by assumption) ?_
              try simp only [Act.put, List.setIfInBounds_toArray, List.set_cons_zero, List.set_cons_succ]
              refine wpAnyH_take (i := 60) (oi := { dst := some 169, op := Op.call { callee := Callee.builtin Builtin.len, args := #[Operand.tmp 168], argTypes := #[9] }, type := 3, pos := "laws.go:641", after := #[{ on := 59, ground := Ground.data }, { on := 57, ground := Ground.guard }], guard := some (57, true) }) (v := undef) rfl (by kernel_rfl) (by kernel_rfl) (by kernel_rfl) (fun _ _ _ h => h) (Or.inr ⟨by rfl, rfl⟩) (by assumption) ?_
              try simp only [Act.put, List.setIfInBounds_toArray, List.set_cons_zero, List.set_cons_succ]
              refine wpAnyH_take (i := 61) (oi := { dst := some 170, op := Op.binOp BinOp.neq 3 (Operand.tmp 169) (Operand.const (Value.int IntKind.i64 12)) 3, type := 4, pos := "laws.go:641", after := #[{ on := 60, ground := Ground.data }, { on := 57, ground := Ground.guard }], guard := some (57, true) }) (v := undef) rfl (by kernel_rfl) (by kernel_rfl) (by kernel_rfl) (fun _ _ _ h => h) (Or.inr ⟨by rfl, rfl⟩) (by assumption) ?_
              try simp only [Act.put, List.setIfInBounds_toArray, List.set_cons_zero, List.set_cons_succ]
              refine wpAnyH_take (i := 62) (oi := { dst := some 171, op := Op.pick (Operand.tmp 166) (Operand.tmp 170) (Operand.const (Value.bool false)), type := 4, pos := "laws.go:641", after := #[{ on := 57, ground := Ground.data }, { on := 61, ground := Ground.data }, { on := 51, ground := Ground.guard }], guard := some (51, false) }) (v := ?v62) rfl (by kernel_rfl) (by kernel_rfl) (by kernel_rfl) (fun _ _ _ h => h) (Or.inl ⟨by rfl, ?h62⟩) (by assumption) ?r62
              case h62 => (intro w hSw; (try dsimp only at hSw); go_simp) <;> with_reducible rfl
              case r62 =>
              try simp only [Act.put, List.setIfInBounds_toArray, List.set_cons_zero, List.set_cons_succ]
              refine wpAnyH_take (i := 63) (oi := { dst := some 172, op := Op.pick (Operand.tmp 160) (Operand.const (Value.bool true)) (Operand.tmp 171), type := 4, pos := "laws.go:641", after := #[{ on := 51, ground := Ground.data }, { on := 62, ground := Ground.data }], guard := none }) (v := ?v63) rfl (by kernel_rfl) (by kernel_rfl) (by kernel_rfl) (fun _ _ _ h => h) (Or.inl ⟨by rfl, ?h63⟩) (by assumption) ?r63
              case h63 => (intro w hSw; (try dsimp only at hSw); go_simp) <;> with_reducible rfl
              case r63 =>
              try simp only [Act.put, List.setIfInBounds_toArray, List.set_cons_zero, List.set_cons_succ]
              refine wpAnyH_take (i := 64) (oi := { dst := some 173, op := Op.move (Operand.tmp 172), type := 4, pos := "laws.go:641", after := #[{ on := 63, ground := Ground.data }, { on := 57, ground := Ground.chain }], guard := none }) (v := ?v64) rfl (by kernel_rfl) (by kernel_rfl) (by kernel_rfl) (fun _ _ _ h => h) (Or.inl ⟨by rfl, ?h64⟩) (by assumption) ?r64
              case h64 => (intro w hSw; (try dsimp only at hSw); go_simp) <;> with_reducible rfl
              case r64 =>
              try simp only [Act.put, List.setIfInBounds_toArray, List.set_cons_zero, List.set_cons_succ]
              refine wpAnyH_take (i := 65) (oi := { dst := some 174, op := Op.fieldAddr 26 (Operand.tmp 9) 4, type := 0, pos := "laws.go:641", after := #[{ on := 64, ground := Ground.guard }], guard := some (64, false) }) (v := ?v65) rfl (by kernel_rfl) (by kernel_rfl) (by kernel_rfl) (fun _ _ _ h => h) (Or.inl ⟨by rfl, ?h65⟩) (by assumption) ?r65
              case h65 => (intro w hSw; (try dsimp only at hSw); go_simp) <;> with_reducible rfl
              case r65 =>
              try simp only [Act.put, List.setIfInBounds_toArray, List.set_cons_zero, List.set_cons_succ]
              refine wpAnyH_take (i := 66) (oi := { dst := some 175, op := Op.load 9 (Operand.tmp 174), type := 9, pos := "laws.go:641", after := #[{ on := 65, ground := Ground.data }, { on := 64, ground := Ground.guard }], guard := some (64, false) }) (v := ?v66) rfl (by kernel_rfl) (by kernel_rfl) (by kernel_rfl) (fun _ _ _ h => h) (Or.inl ⟨by rfl, ?h66⟩) (by assumption) ?r66
              case h66 => (intro w hSw; (try dsimp only at hSw); go_simp) <;> with_reducible rfl
              case r66 =>
              try simp only [Act.put, List.setIfInBounds_toArray, List.set_cons_zero, List.set_cons_succ]
              refine wpAnyH_take (i := 67) (oi := { dst := some 176, op := Op.binOp BinOp.eql 9 (Operand.tmp 175) (Operand.const (Value.string { data := #[] })) 9, type := 4, pos := "laws.go:641", after := #[{ on := 66, ground := Ground.data }, { on := 64, ground := Ground.guard }], guard := some (64, false) }) (v := ?v67) rfl (by kernel_rfl) (by kernel_rfl) (by kernel_rfl) (fun _ _ _ h => h) (Or.inl ⟨by rfl, ?h67⟩) (by assumption) ?r67
              case h67 => (intro w hSw; (try dsimp only at hSw); go_simp) <;> with_reducible rfl
              case r67 =>
              try simp only [Act.put, List.setIfInBounds_toArray, List.set_cons_zero, List.set_cons_succ]
              refine wpAnyH_take (i := 68) (oi := { dst := some 177, op := Op.pick (Operand.tmp 173) (Operand.const (Value.bool true)) (Operand.tmp 176), type := 4, pos := "laws.go:641", after := #[{ on := 64, ground := Ground.data }, { on := 67, ground := Ground.data }], guard := none }) (v := ?v68) rfl (by kernel_rfl) (by kernel_rfl) (by kernel_rfl) (fun _ _ _ h => h) (Or.inl ⟨by rfl, ?h68⟩) (by assumption) ?r68
              case h68 => (intro w hSw; (try dsimp only at hSw); go_simp) <;> with_reducible rfl
              case r68 =>
              try simp only [Act.put, List.setIfInBounds_toArray, List.set_cons_zero, List.set_cons_succ]
              refine wpAnyH_take (i := 69) (oi := { dst := some 178, op := Op.move (Operand.tmp 177), type := 4, pos := "laws.go:641", after := #[{ on := 68, ground := Ground.data }, { on := 64, ground := Ground.chain }], guard := none }) (v := ?v69) rfl (by kernel_rfl) (by kernel_rfl) (by kernel_rfl) (fun _ _ _ h => h) (Or.inl ⟨by rfl, ?h69⟩) (by assumption) ?r69
              case h69 => (intro w hSw; (try dsimp only at hSw); go_simp) <;> with_reducible rfl
              case r69 =>
              try simp only [Act.put, List.setIfInBounds_toArray, List.set_cons_zero, List.set_cons_succ]
              refine wpAnyH_take (i := 70) (oi := { dst := some 179, op := Op.fieldAddr 26 (Operand.tmp 9) 4, type := 0, pos := "laws.go:641", after := #[{ on := 69, ground := Ground.guard }], guard := some (69, false) }) (v := ?v70) rfl (by kernel_rfl) (by kernel_rfl) (by kernel_rfl) (fun _ _ _ h => h) (Or.inl ⟨by rfl, ?h70⟩) (by assumption) ?r70
              case h70 => (intro w hSw; (try dsimp only at hSw); go_simp) <;> with_reducible rfl
              case r70 =>
              try simp only [Act.put, List.setIfInBounds_toArray, List.set_cons_zero, List.set_cons_succ]
              refine wpAnyH_take (i := 71) (oi := { dst := some 180, op := Op.load 9 (Operand.tmp 179), type := 9, pos := "laws.go:641", after := #[{ on := 70, ground := Ground.data }, { on := 69, ground := Ground.guard }], guard := some (69, false) }) (v := ?v71) rfl (by kernel_rfl) (by kernel_rfl) (by kernel_rfl) (fun _ _ _ h => h) (Or.inl ⟨by rfl, ?h71⟩) (by assumption) ?r71
              case h71 => (intro w hSw; (try dsimp only at hSw); go_simp) <;> with_reducible rfl
              case r71 =>
              try simp only [Act.put, List.setIfInBounds_toArray, List.set_cons_zero, List.set_cons_succ]
              refine wpAnyH_take (i := 72) (oi := { dst := some 181, op := Op.call { callee := Callee.builtin Builtin.len, args := #[Operand.tmp 180], argTypes := #[9] }, type := 3, pos := "laws.go:641", after := #[{ on := 71, ground := Ground.data }, { on := 69, ground := Ground.guard }], guard := some (69, false) }) (v := ?v72) rfl (by kernel_rfl) (by kernel_rfl) (by kernel_rfl) (fun _ _ _ h => h) (Or.inl ⟨by rfl, ?h72⟩) (by assumption) ?r72
              case h72 => (intro w hSw; (try dsimp only at hSw); go_simp) <;> with_reducible rfl
              case r72 =>
              try simp only [Act.put, List.setIfInBounds_toArray, List.set_cons_zero, List.set_cons_succ]
              refine wpAnyH_take (i := 73) (oi := { dst := some 182, op := Op.binOp BinOp.gtr 3 (Operand.tmp 181) (Operand.const (Value.int IntKind.i64 12)) 3, type := 4, pos := "laws.go:641", after := #[{ on := 72, ground := Ground.data }, { on := 69, ground := Ground.guard }], guard := some (69, false) }) (v := ?v73) rfl (by kernel_rfl) (by kernel_rfl) (by kernel_rfl) (fun _ _ _ h => h) (Or.inl ⟨by rfl, ?h73⟩) (by assumption) ?r73
              case h73 => (intro w hSw; (try dsimp only at hSw); go_simp) <;> with_reducible rfl
              case r73 =>
              try simp only [Act.put, List.setIfInBounds_toArray, List.set_cons_zero, List.set_cons_succ]
              refine wpAnyH_take (i := 74) (oi := { dst := some 183, op := Op.pick (Operand.tmp 178) (Operand.const (Value.bool true)) (Operand.tmp 182), type := 4, pos := "laws.go:641", after := #[{ on := 69, ground := Ground.data }, { on := 73, ground := Ground.data }], guard := none }) (v := ?v74) rfl (by kernel_rfl) (by kernel_rfl) (by kernel_rfl) (fun _ _ _ h => h) (Or.inl ⟨by rfl, ?h74⟩) (by assumption) ?r74
              case h74 => (intro w hSw; (try dsimp only at hSw); go_simp) <;> with_reducible rfl
              case r74 =>
              try simp only [Act.put, List.setIfInBounds_toArray, List.set_cons_zero, List.set_cons_succ]
              refine wpAnyH_done (by kernel_rfl) ?_ _
              all_goals
                clear mk hS0
                have B9 := Lib.hid B7.out.drew
                go_wp2_with fail
                go_roundw
                case rel => exact ⟨k + 1, by omega, by go_num, by rw [HU2.out], B9.out⟩
                case measure => simp [intOf]; omega
          · have hke : k = K := by omega
            subst hke
            rw [HUK.out]
            have BR := Lib.hid (B5.out.trans (HB.out.mono B5.out.size))
            go_wp2_with fail
            go_ret
            exact ⟨by simp, BR.out⟩

end Go.Proofs.Ytjnhmobdigfpiaa
