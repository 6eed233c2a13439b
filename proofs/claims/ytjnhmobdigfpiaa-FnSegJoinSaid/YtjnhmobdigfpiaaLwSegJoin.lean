/- The law that what was cut is put together again: at every code. Condition: the code lies in memory. -/
import Derived.Test.YtjnhmobdigfpiaaDrawCut
import Derived.Test.YtjnhmobdigfpiaaSegCutI
import Derived.Test.YtjnhmobdigfpiaaSegAdd
import Derived.Test.YtjnhmobdigfpiaaSegOk
import Derived.Test.YtjnhmobdigfpiaaHaOk
import Derived.Deep.RegionHeld3
import Derived.Deep.DeepCutAuto
import Derived.Lib.SmallJoins
namespace Go.Proofs.Ytjnhmobdigfpiaa
open Go.RowKit

/-- All bytes up to the m-th piece. -/
def upT (F : List UInt8) (m : Nat) : List UInt8 := F.take (12 * m)
theorem piece_len (F : List UInt8) (j : Nat) : ((F.drop (12 * j)).take 12).length = min 12 (F.length - 12 * j) := by simp
theorem up_grow {F : List UInt8} {m : Nat} (h : m < piecesN F.length 0) : addL (upT F m) ((12 * m : Nat) : Int) ((F.drop (12 * m)).take 12) = upT F (m + 1) := by
  have hl : (upT F m).length = 12 * m := by unfold upT piecesN at *; simp; omega
  rw [addL_in (by omega), hl, Nat.sub_self, List.drop_zero]
  unfold upT
  rw [show 12 * (m + 1) = 12 * m + 12 by omega, List.take_add]
theorem up_stay {F : List UInt8} {m j : Nat} (h : m ≤ piecesN F.length 0) (hj : j < m) : addL (upT F m) ((12 * j : Nat) : Int) ((F.drop (12 * j)).take 12) = upT F m := by
  refine addL_old ?_
  rw [piece_len]
  unfold upT piecesN at *
  simp
  omega
theorem up_gap {F : List UInt8} {m j : Nat} (hj : m < j) : addL (upT F m) ((12 * j : Nat) : Int) ((F.drop (12 * j)).take 12) = upT F m := by
  refine addL_out (fun h => ?_)
  have : (upT F m).length ≤ 12 * m := by unfold upT; simp; omega
  omega
theorem up_all (F : List UInt8) : upT F (piecesN F.length 0) = F := by
  unfold upT piecesN
  exact List.take_of_length_le (by omega)

set_option maxRecDepth 100000 in
set_option maxHeartbeats 3200000 in
theorem lwSegJoin_any (ao : Option Addr) (n cap : Nat) (w : World) (h : BytesIn w ao n) (hn : n ≤ cap) :
    Calls Try.prog 4 #[.slice ao n cap] w fun e w' => e = .returned (.bool true) ∧ Below w.heap.size w w' := by
  have H := Lib.hid h
  clear h
  by_cases hn2 : 1048576 < n
  · go_enter Try.func4, Try.ntmps4
    go_wp2_with fail
    go_ret
    exact ⟨rfl, Below.refl _ _⟩
  go_enter Try.func4, Try.ntmps4
  go_wp2_with fail
  (go_at_call 5; refine (drawSegCut_any ao n cap _ H.out hn).mono ?_; rintro e w1 ⟨sa, sp, da, dp, sq, ak, d, far, q, rfl, hD, hf, hq, b1⟩)
  have hd : d.size ≤ 2097152 := by have := hD.2.2; omega
  have A1 : Hid (At7 (w1.alloc (.cells #[.int .i64 sa, .int .i64 sp, .int .i64 da, .int .i64 dp, .int .i64 sq, .int .i64 ak, .string d] 26)) w1.heap.size (.int .i64 sa) (.int .i64 sp) (.int .i64 da) (.int .i64 dp) (.int .i64 sq) (.int .i64 ak) (.string d)) := at7_new w1 _ _ _ _ _ _ _ _
  have B1 : Hid (Below w.heap.size w (w1.alloc (.cells #[.int .i64 sa, .int .i64 sp, .int .i64 da, .int .i64 dp, .int .i64 sq, .int .i64 ak, .string d] 26))) := b1.alloc b1.size _
  obtain ⟨b0, hb0⟩ : ∃ b0, b0 = w1.heap.size := ⟨_, rfl⟩
  rw [← hb0] at A1
  obtain ⟨W1, hW1⟩ : ∃ W1, W1 = w1.alloc (.cells #[.int .i64 sa, .int .i64 sp, .int .i64 da, .int .i64 dp, .int .i64 sq, .int .i64 ak, .string d] 26) := ⟨_, rfl⟩
  rw [← hW1] at A1 B1
  obtain ⟨qa, hqa⟩ : ∃ q, q = segOkB ⟨sa, sp, da, dp, sq, ak, d.data.toList⟩ := ⟨_, rfl⟩
  obtain ⟨LS, hLS⟩ : ∃ l, l = segCutL ⟨sa, sp, da, dp, sq, ak, d.data.toList⟩ far.data.toList 0 := ⟨_, rfl⟩
  obtain ⟨K, hK⟩ : ∃ k, k = LS.length := ⟨_, rfl⟩
  have HIC : Hid (∀ w, Calls Try.prog 6 #[.agg #[.int .i64 sa, .int .i64 sp, .int .i64 da, .int .i64 dp, .int .i64 sq, .int .i64 ak, .string d], .string far, .int .i64 0] w fun e w' => ∃ a cap, e = .returned (.slice a K cap) ∧ RdSg w' (.slice a K cap) LS ∧ Below w.heap.size w w') := fun w => by
    refine (implCut_any sa sp da dp sq ak d far 0 w hd (by omega) (by decide)).mono ?_
    rintro e w' ⟨v, rfl, ho, hb⟩
    rw [← hLS] at ho
    obtain ⟨a, c, rfl⟩ := ho.form
    rw [← hK] at ho ⊢
    exact ⟨a, c, rfl, ho.rd, hb⟩
  have HOA : Hid (∀ w, Calls Try.prog 9 #[.agg #[.int .i64 sa, .int .i64 sp, .int .i64 da, .int .i64 dp, .int .i64 sq, .int .i64 ak, .string d]] w fun e w' => e = .returned (.bool qa) ∧ Below w.heap.size w w') := fun w => by rw [hqa]; exact specSegOk_any sa sp da dp sq ak d w hd
  have HNO : Hid (qa = false → K = 0) := fun e => by
    rw [hqa] at e
    rw [hK, hLS, segCut_no (by rw [e]; simp)]; rfl
  obtain ⟨T, hT⟩ : ∃ T : Nat → ByteArray, T = fun m => ⟨(upT far.data.toList m).toArray⟩ := ⟨_, rfl⟩
  have hTl : ∀ m, (T m).data.toList = upT far.data.toList m := fun m => by rw [hT]
  have hTs : ∀ m, (T m).size ≤ 2097152 := fun m => by
    rw [← len_list, hTl]
    unfold upT
    simp
    omega
  obtain ⟨PS, hPS⟩ : ∃ P : Nat → ByteArray, P = fun j => ⟨((far.data.toList.drop (12 * j)).take 12).toArray⟩ := ⟨_, rfl⟩
  have hpl : ∀ j, (⟨((far.data.toList.drop (12 * j)).take 12).toArray⟩ : ByteArray).size ≤ 2097152 := fun j => by
    have h12 : (⟨((far.data.toList.drop (12 * j)).take 12).toArray⟩ : ByteArray).size ≤ 12 := by
      show (List.toArray _).size ≤ 12
      rw [List.size_toArray, List.length_take]
      exact Nat.min_le_left _ _
    omega
  have HYES : Hid (qa = true → (0 < K ∧ K ≤ 20) ∧ T 0 = ⟨#[]⟩ ∧ T K = far ∧ (∀ (j : Nat) (hj : j < LS.length), LS[j] = ⟨sa, sp, da, dp, ((12 * j : Nat) : Int), ak, (PS j).data.toList⟩) ∧
      (∀ j m w, j < K → j = m → Calls Try.prog 11 #[.string (T m), .agg #[.int .i64 sa, .int .i64 sp, .int .i64 da, .int .i64 dp, .int .i64 ((12 * j : Nat) : Int), .int .i64 ak, .string (PS j)]] w fun e w' => e = .returned (.string (T (m + 1))) ∧ Below w.heap.size w w') ∧
      (∀ j m w, m ≤ K → j ≠ m → Calls Try.prog 11 #[.string (T m), .agg #[.int .i64 sa, .int .i64 sp, .int .i64 da, .int .i64 dp, .int .i64 ((12 * j : Nat) : Int), .int .i64 ak, .string (PS j)]] w fun e w' => e = .returned (.string (T m)) ∧ Below w.heap.size w w')) := fun e => by
    rw [hqa] at e
    have e2 : LS = cutL ⟨sa, sp, da, dp, sq, ak, d.data.toList⟩ far.data.toList 0 := by
      rw [hLS]
      exact segCut_yes (a := 0) e (by rw [len_list]; omega)
    have hKp : K = piecesN far.data.toList.length 0 := by rw [hK, e2, cutL_len, Nat.zero_min]
    refine ⟨?_, ?_, ?_, ?_, ?_, ?_⟩
    · rw [hKp, len_list]; unfold piecesN; omega
    · rw [hT]; rfl
    · rw [hKp, ← Lib.mk_data far, hT]; simp only; rw [up_all]
    · intro j hj
      subst e2
      rw [cutL_at, hPS]
      simp [pieceL]
    · intro j m w hj hjm
      subst hjm
      have := implAdd_any (T j) sa sp da dp ((12 * j : Nat) : Int) ak ⟨((far.data.toList.drop (12 * j)).take 12).toArray⟩ w (hTs j) (hpl j)
      unfold addS at this
      rw [hTl, up_grow (by omega)] at this
      rw [show T (j + 1) = ⟨(upT far.data.toList (j + 1)).toArray⟩ by rw [hT], show PS j = ⟨((far.data.toList.drop (12 * j)).take 12).toArray⟩ by rw [hPS]]
      exact this
    · intro j m w hm hjm
      have := implAdd_any (T m) sa sp da dp ((12 * j : Nat) : Int) ak ⟨((far.data.toList.drop (12 * j)).take 12).toArray⟩ w (hTs m) (hpl j)
      unfold addS at this
      have h2 : addL (T m).data.toList ((12 * j : Nat) : Int) ((far.data.toList.drop (12 * j)).take 12) = upT far.data.toList m := by
        rw [hTl]
        rcases Nat.lt_or_gt_of_ne hjm with h | h
        · exact up_stay (by omega) h
        · exact up_gap h
      rw [show (⟨((far.data.toList.drop (12 * j)).take 12).toArray⟩ : ByteArray).data.toList = (far.data.toList.drop (12 * j)).take 12 from rfl, h2] at this
      have hTm : (⟨(upT far.data.toList m).toArray⟩ : ByteArray) = T m := by rw [hT]
      rw [hTm] at this
      rw [show PS j = ⟨((far.data.toList.drop (12 * j)).take 12).toArray⟩ by rw [hPS]]
      exact this
  have HLK : Hid (LS.length = K) := hK.symm
  clear hT hTl hTs hpl hPS hqa hLS hK hD hq
  go_wp2_with fail
  rw [← hb0, ← hW1]
  clear hW1 hb0 b1
  (go_at_call 6; refine (HIC.out _).mono ?_; rintro e w2 ⟨ag, cg, rfl, rg, b2⟩)
  have RG := Lib.hid rg
  have A2 := Lib.hid (A1.out.below b2)
  have B2 : Hid (Below w.heap.size w w2) := B1.out.trans (b2.mono B1.out.size)
  clear rg b2 A1 B1 HIC
  obtain ⟨_, ⟨c0, c1, c2, c3, c4, c5, c6⟩, _⟩ := A2.out
  go_wp2_with fail
  (go_at_call 9; refine (HOA.out _).mono ?_; rintro e w3 ⟨rfl, b3⟩)
  have RG3 := Lib.hid (RG.out.below b3)
  have B3 : Hid (Below w.heap.size w w3) := B2.out.trans (b3.mono B2.out.size)
  clear b3 RG A2 B2 HOA c0 c1 c2 c3 c4 c5 c6
  cases qa
  · have hk0 := HNO.out (by simp)
    subst hk0
    clear HNO HYES RG3 HLK
    go_wp2_with (go_at_call 10; refine (haOk_any _).mono ?_; rintro e w6 ⟨rfl, rfl⟩)
    go_ret
    exact ⟨rfl, B3.out⟩
  · obtain ⟨⟨hk0, hk20⟩, hT0, hTK, hat, hgrow, hstay⟩ := HYES.out (by simp)
    have HG := Lib.hid hgrow
    have HS := Lib.hid hstay
    have HTK := Lib.hid hTK
    have HT0 := Lib.hid hT0
    obtain ⟨ag', cg', eg, hcg, hrow⟩ := RG3.out
    simp only [Value.slice.injEq] at eg
    obtain ⟨rfl, -, rfl⟩ := eg
    rw [HLK.out] at hcg hrow
    obtain ⟨g, rfl, row⟩ := hrow hk0
    have hg : g < w3.heap.size := World.block_lt_of_cell? w3 _ (row 0 (by rw [flatC_len sgC_len, HLK.out]; omega)).1
    have HC7 : Hid (∀ j, j < K → ∀ w', Below w3.heap.size w3 w' → w'.cell? ⟨g, j * 7, none⟩ = some (.int .i64 sa) ∧ w'.cell? ⟨g, j * 7 + 1, none⟩ = some (.int .i64 sp) ∧ w'.cell? ⟨g, j * 7 + 2, none⟩ = some (.int .i64 da) ∧ w'.cell? ⟨g, j * 7 + 3, none⟩ = some (.int .i64 dp) ∧ w'.cell? ⟨g, j * 7 + 4, none⟩ = some (.int .i64 ((12 * j : Nat) : Int)) ∧ w'.cell? ⟨g, j * 7 + 5, none⟩ = some (.int .i64 ak) ∧ w'.cell? ⟨g, j * 7 + 6, none⟩ = some (.string (PS j)) ∧ Below w3.heap.size w3 w') := fun j hj w' hb => by
      have hjl : j < LS.length := by rw [HLK.out]; exact hj
      obtain ⟨⟨c0, c1, c2, c3, c4, c5, c6⟩, _⟩ := (row.below hb hg).seven j hjl ⟨sa, sp, da, dp, ((12 * j : Nat) : Int), ak, (PS j).data.toList⟩ (hat j hjl).symm
      rw [show (⟨(PS j).data.toList.toArray⟩ : ByteArray) = PS j from Lib.mk_data _] at c6
      exact ⟨c0, c1, c2, c3, c4, c5, c6, hb⟩
    clear hat hgrow hstay hTK hT0 HYES HNO row hrow RG3 HLK hg
    go_wp2_with fail
    go_loopw [7, 8, 9, 10] (fun kn tw bk i wr => ∃ k : Nat, k ≤ K ∧ i = .int .i64 k ∧ kn = .string (T k) ∧ tw = .string (T k) ∧ bk = .string (T k) ∧ Below w3.heap.size w3 wr) (fun _ _ _ i _ => K - (intOf i).toNat)
    case atStart => exact ⟨0, Nat.zero_le _, rfl, by rw [HT0.out], by rw [HT0.out], by rw [HT0.out], Below.refl _ _⟩
    case round =>
      obtain ⟨k, hk, rfl, rfl, rfl, rfl, hb⟩ := hrel
      have HB := Lib.hid hb
      by_cases hlt : k < K
      · obtain ⟨c0, c1, c2, c3, c4, c5, c6, _⟩ := HC7.out k hlt wr hb
        have hki : (k : Int) < (K : Int) := by omega
        have hk20i : (k : Int) ≤ 20 := by omega
        have hkcg : (k : Int) ≤ (cg : Int) := by omega
        clear hb
        go_wp2_with fail
        (go_at_call 11; refine (HG.out k k _ hlt rfl).mono ?_; rintro e w4 ⟨rfl, b4⟩)
        have B4 : Hid (Below w3.heap.size w3 w4) := HB.out.trans (b4.mono HB.out.size)
        clear b4 c0 c1 c2 c3 c4 c5 c6
        obtain ⟨c0, c1, c2, c3, c4, c5, c6, _⟩ := HC7.out k hlt w4 B4.out
        go_wp2_with fail
        have mk : Hid (∀ w', Below w3.heap.size w3 w' → w'.cell? ⟨g, k * 7, none⟩ = some (.int .i64 sa) ∧ w'.cell? ⟨g, k * 7 + 1, none⟩ = some (.int .i64 sp) ∧ w'.cell? ⟨g, k * 7 + 2, none⟩ = some (.int .i64 da) ∧ w'.cell? ⟨g, k * 7 + 3, none⟩ = some (.int .i64 dp) ∧ w'.cell? ⟨g, k * 7 + 4, none⟩ = some (.int .i64 ((12 * k : Nat) : Int)) ∧ w'.cell? ⟨g, k * 7 + 5, none⟩ = some (.int .i64 ak) ∧ w'.cell? ⟨g, k * 7 + 6, none⟩ = some (.string (PS k)) ∧ Below w3.heap.size w3 w') := fun w' h => HC7.out k hlt w' h
        have hS0 := mk.out _ B4.out.drew
        go_region_held3 (fun w' => w'.cell? ⟨g, k * 7, none⟩ = some (.int .i64 sa) ∧ w'.cell? ⟨g, k * 7 + 1, none⟩ = some (.int .i64 sp) ∧ w'.cell? ⟨g, k * 7 + 2, none⟩ = some (.int .i64 da) ∧ w'.cell? ⟨g, k * 7 + 3, none⟩ = some (.int .i64 dp) ∧ w'.cell? ⟨g, k * 7 + 4, none⟩ = some (.int .i64 ((12 * k : Nat) : Int)) ∧ w'.cell? ⟨g, k * 7 + 5, none⟩ = some (.int .i64 ak) ∧ w'.cell? ⟨g, k * 7 + 6, none⟩ = some (.string (PS k)) ∧ Below w3.heap.size w3 w')
          (first | exact hS0 | (refine mk.out _ ?_; with_reducible exact cc) | (trace_state; fail))
          (first
            | (have guard' := mark1; clear guard'; go_at_call 11; have hS := (by assumption : _ ∧ _ ∧ _ ∧ _ ∧ _ ∧ _ ∧ _ ∧ Below w3.heap.size w3 _); have hB := hS.2.2.2.2.2.2.2; refine (HS.out k (k + 1) _ (by omega) (by omega)).mono ?_; rintro e wN ⟨rfl, bN⟩; have cc := hB.trans (bN.mono hB.size); clear bN hB)
            | (go_at_call 11; have hS := (by assumption : _ ∧ _ ∧ _ ∧ _ ∧ _ ∧ _ ∧ _ ∧ Below w3.heap.size w3 _); have hB := hS.2.2.2.2.2.2.2; refine (HG.out k k _ hlt rfl).mono ?_; rintro e wN ⟨rfl, bN⟩; have mark1 : True := trivial; have cc := hB.trans (bN.mono hB.size); clear bN hB))
        all_goals
          have B5 : Hid (Below w3.heap.size w3 wN) := cc
        all_goals
          clear c0 c1 c2 c3 c4 c5 c6 mk hS0 hS
          have hK1 : IntKind.wrap .i64 ((K : Int) - 1) = (K : Int) - 1 := IntWalk.i64_in _ (by omega)
          go_wp2_with fail
          go_loopw [9, 11] (fun bk jv wr => ∃ (j m : Nat), j ≤ K ∧ jv = .int .i64 ((j : Int) - 1) ∧ bk = .string (T m) ∧ ((m = k + 1 ∧ j ≤ k) ∨ (m = k ∧ k < j)) ∧ Below w3.heap.size w3 wr) (fun _ jv _ => (intOf jv + 1).toNat)
          case atStart => exact ⟨K, k, Nat.le_refl _, rfl, rfl, .inr ⟨rfl, hlt⟩, B5.out⟩
          case round =>
            obtain ⟨j, m, hj, rfl, rfl, hm, hb⟩ := hrel
            have HB2 := Lib.hid hb
            have HM := Lib.hid hm
            clear hm
            rcases j with _ | i
            · have hm1 : m = k + 1 := by rcases HM.out with ⟨h, _⟩ | ⟨_, h⟩ <;> omega
              subst hm1
              clear HM hb
              go_wp2_with fail
              go_roundw
              case rel => exact ⟨k + 1, by omega, by go_num, rfl, rfl, rfl, HB2.out⟩
              case measure => simp [intOf]; omega
            · rw [show (((i + 1 : Nat) : Int) - 1) = (i : Int) by omega]
              have hiK : i < K := by omega
              obtain ⟨c0, c1, c2, c3, c4, c5, c6, _⟩ := HC7.out i hiK _ hb
              have hii : (i : Int) < (K : Int) := by omega
              have hi20 : (i : Int) ≤ 20 := by omega
              have hicg : (i : Int) ≤ (cg : Int) := by omega
              have hi0 : ¬ (i : Int) < 0 := by omega
              have hw : IntKind.wrap .i64 ((i : Int) - 1) = (i : Int) - 1 := IntWalk.i64_in _ (by omega)
              obtain ⟨m2, HA2, hm2⟩ : ∃ m2, Hid (∀ w, Calls Try.prog 11 #[.string (T m), .agg #[.int .i64 sa, .int .i64 sp, .int .i64 da, .int .i64 dp, .int .i64 ((12 * i : Nat) : Int), .int .i64 ak, .string (PS i)]] w fun e w' => e = .returned (.string (T m2)) ∧ Below w.heap.size w w') ∧ ((m2 = k + 1 ∧ i ≤ k) ∨ (m2 = k ∧ k < i)) := by
                rcases HM.out with ⟨h1, h2⟩ | ⟨h1, h2⟩
                · exact ⟨m, fun w => HS.out i m w (by omega) (by omega), .inl ⟨h1, by omega⟩⟩
                · by_cases hik : i = m
                  · exact ⟨m + 1, fun w => HG.out i m w hiK hik, .inl ⟨by omega, by omega⟩⟩
                  · exact ⟨m, fun w => HS.out i m w (by omega) hik, .inr ⟨h1, by omega⟩⟩
              have HM2 := Lib.hid hm2
              clear hm2 hb HM
              go_wp2_with fail
              (go_at_call 11; refine (HA2.out _).mono ?_; rintro e w7 ⟨rfl, b7⟩)
              have B7 : Hid (Below w3.heap.size w3 w7) := HB2.out.trans (b7.mono HB2.out.size)
              clear b7 c0 c1 c2 c3 c4 c5 c6
              go_wp2_with fail
              go_roundw
              case rel => exact ⟨i, m2, by omega, rfl, rfl, HM2.out, B7.out⟩
              case measure => simp [intOf]
      · have hke : k = K := by omega
        subst hke
        rw [HTK.out]
        go_wp2_with fail
        (go_at_call 10; refine (haOk_any _).mono ?_; rintro e wl ⟨rfl, rfl⟩)
        go_wp2_with fail
        go_ret
        exact ⟨by simp, B3.out.trans (HB.out.mono B3.out.size)⟩

end Go.Proofs.Ytjnhmobdigfpiaa
