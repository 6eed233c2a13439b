/- The law that a segment's bytes are read as it: at every two codes. Conditions: the codes lie in memory; the variables that are read hold what they are laid with. (Several texts, joined: HaBytes, HaOk, LwSegRead, SegBent, LwSegBytes.) -/
import Derived.Test.YtjnhmobdigfpiaaDoorBytes
import Derived.Deep.QuietTactic
import Derived.BigQuiet
import Derived.LoopTactic
import Derived.Test.YtjnhmobdigfpiaaDoorILin
import Derived.Test.YtjnhmobdigfpiaaDoorDrawSegRead
import Derived.Test.YtjnhmobdigfpiaaDoorLawSegRead
import Derived.Test.YtjnhmobdigfpiaaDoorSegBy
import Derived.Test.YtjnhmobdigfpiaaDoorSegs
import Derived.Test.YtjnhmobdigfpiaaDoorDrawSegBytes
import Derived.Test.YtjnhmobdigfpiaaDoorDrawSegSum
import Derived.Deep.RegionHeld3
import Derived.Deep.DeepCutAuto
import Derived.Lib.SmallJoins

/- How the laws compare bytes: true just of equal ones. Condition: at most 2^22 bytes each. -/
namespace Go.Proofs.YtjnhmobdigfpiaaDoor
open Go.RowKit

set_option maxRecDepth 100000 in
set_option maxHeartbeats 800000 in
theorem haBytes_same (l : List UInt8) (v1 v2 : Value) (w : World) (hn : l.length ≤ 4194304) (h1 : RdB w v1 l) (h2 : RdB w v2 l) :
    Calls Tryd.prog 8 #[v1, v2] w fun e w' => e = .returned (.bool true) ∧ Below w.heap.size w w' := by
  obtain ⟨a1, cap1, rfl, hc1, r1⟩ := h1
  obtain ⟨a2, cap2, rfl, hc2, r2⟩ := h2
  have R1 := Lib.hid r1
  have R2 := Lib.hid r2
  clear r1 r2
  go_enter Tryd.func8, Tryd.ntmps8
  go_wp2
  go_loopw [5] (fun i wr => ∃ k : Nat, k ≤ l.length ∧ i = .int .i64 k ∧ Below w.heap.size w wr) (fun i _ => l.length - (intOf i).toNat)
  case atStart => exact ⟨0, Nat.zero_le _, rfl, Below.refl _ _⟩
  case round =>
    obtain ⟨k, hk, rfl, hb⟩ := hrel
    by_cases hlt : k < l.length
    · have hne : 0 < l.length := by omega
      obtain ⟨g1, rfl, q1⟩ := R1.out hne
      obtain ⟨g2, rfl, q2⟩ := R2.out hne
      have z1 : g1 < w.heap.size := World.block_lt_of_cell? w _ (q1 k (by rw [byV_len]; omega)).1
      have z2 : g2 < w.heap.size := World.block_lt_of_cell? w _ (q2 k (by rw [byV_len]; omega)).1
      have c1 := (hb.cell (p := ⟨g1, k, none⟩) z1).trans (q1 k (by rw [byV_len]; omega)).1
      have c2 := (hb.cell (p := ⟨g2, k, none⟩) z2).trans (q2 k (by rw [byV_len]; omega)).1
      rw [byV_at] at c1 c2
      obtain ⟨x, hx⟩ : ∃ x, x = l[k] := ⟨_, rfl⟩
      rw [← hx] at c1 c2
      clear hx q1 q2 R1 R2 hne
      go_wp2_with fail
      go_quiet (fail)
      go_wp2
      go_roundw
      case rel => exact ⟨k + 1, by omega, by go_num, hb.trans ⟨rfl, rfl, rfl, Nat.le_refl _, fun _ _ => rfl⟩⟩
      case measure => simp [intOf]; omega
    · go_wp2
      go_ret
      exact ⟨rfl, hb⟩

theorem byte_beq (x y : UInt8) : (((x.toNat : Int)) == ((y.toNat : Int))) = decide (x = y) := by
  rw [Bool.eq_iff_iff]
  simp only [beq_iff_eq, decide_eq_true_eq]
  constructor
  · intro h; exact UInt8.toNat_inj.1 (by omega)
  · rintro rfl; rfl

set_option maxRecDepth 100000 in
set_option maxHeartbeats 1600000 in
theorem haBytes_any (l m : List UInt8) (v1 v2 : Value) (w : World) (hn : l.length ≤ 4194304) (h1 : RdB w v1 l) (h2 : RdB w v2 m) :
    Calls Tryd.prog 8 #[v1, v2] w fun e w' => e = .returned (.bool (decide (l = m))) ∧ Below w.heap.size w w' := by
  by_cases hlen : l.length = m.length
  · obtain ⟨q, hq⟩ : ∃ q, q = decide (l = m) := ⟨_, rfl⟩
    have HQ := Lib.hid hq
    rw [← hq]
    clear hq
    obtain ⟨a1, cap1, rfl, hc1, r1⟩ := h1
    obtain ⟨a2, cap2, rfl, hc2, r2⟩ := h2
    rw [← hlen] at hc2 ⊢
    have HL := Lib.hid hlen
    have R1 := Lib.hid r1
    have R2 := Lib.hid r2
    clear r1 r2 hlen
    go_enter Tryd.func8, Tryd.ntmps8
    go_wp2
    go_loopw [5] (fun i wr => ∃ k : Nat, k ≤ l.length ∧ i = .int .i64 k ∧ Hid (l.take k = m.take k) ∧ Below w.heap.size w wr) (fun i _ => l.length - (intOf i).toNat)
    case atStart => exact ⟨0, Nat.zero_le _, rfl, rfl, Below.refl _ _⟩
    case round =>
      obtain ⟨k, hk, rfl, HT, hb⟩ := hrel
      by_cases hlt : k < l.length
      · have hne : 0 < l.length := by omega
        have hkm : k < m.length := by have := HL.out; omega
        obtain ⟨g1, rfl, q1⟩ := R1.out hne
        obtain ⟨g2, rfl, q2⟩ := R2.out (by omega)
        have z1 : g1 < w.heap.size := World.block_lt_of_cell? w _ (q1 k (by rw [byV_len]; omega)).1
        have z2 : g2 < w.heap.size := World.block_lt_of_cell? w _ (q2 k (by rw [byV_len]; omega)).1
        have c1 := (hb.cell (p := ⟨g1, k, none⟩) z1).trans (q1 k (by rw [byV_len]; omega)).1
        have c2 := (hb.cell (p := ⟨g2, k, none⟩) z2).trans (q2 k (by rw [byV_len]; omega)).1
        rw [byV_at] at c1 c2
        obtain ⟨x, hx⟩ : ∃ x, x = l[k] := ⟨_, rfl⟩
        obtain ⟨y, hy⟩ : ∃ y, y = m[k] := ⟨_, rfl⟩
        rw [← hx] at c1
        rw [← hy] at c2
        by_cases hxy : x = y
        · have HN : Hid (l.take (k + 1) = m.take (k + 1)) := by
            show _ = _
            rw [List.take_succ_eq_append_getElem hlt, List.take_succ_eq_append_getElem hkm, HT.out, ← hx, ← hy, hxy]
          subst hxy
          clear hx hy q1 q2 R1 R2 hne HT hkm
          go_wp2_with fail
          go_quiet (fail)
          go_wp2
          go_roundw
          case rel => exact ⟨k + 1, by omega, by go_num, HN, hb.trans ⟨rfl, rfl, rfl, Nat.le_refl _, fun _ _ => rfl⟩⟩
          case measure => simp [intOf]; omega
        · have HF : Hid (q = false) := by
            show _ = _
            rw [HQ.out]
            exact decide_eq_false (fun e => hxy (by rw [hx, hy]; subst e; rfl))
          have e1 : (((x.toNat : Int)) == ((y.toNat : Int))) = false := by rw [byte_beq]; exact decide_eq_false hxy
          have e2 : (((x.toNat : Int)) != ((y.toNat : Int))) = true := by unfold bne; rw [e1]; rfl
          clear hx hy q1 q2 R1 R2 hne HT hkm hxy
          go_wp2_with fail
          go_quiet (fail)
          go_wp2
          go_ret
          exact ⟨ret_bool HF.out.symm, hb.trans ⟨rfl, rfl, rfl, Nat.le_refl _, fun _ _ => rfl⟩⟩
      · have HF : Hid (q = true) := by
          have h1 := HT.out
          rw [List.take_of_length_le (by omega), List.take_of_length_le (by have := HL.out; omega)] at h1
          show _ = _
          rw [HQ.out]; exact decide_eq_true h1
        go_wp2
        go_ret
        exact ⟨ret_bool HF.out.symm, hb⟩
  · have HF : Hid (decide (l = m) = false) := decide_eq_false (fun e => hlen (by rw [e]))
    obtain ⟨a1, cap1, rfl, hc1, r1⟩ := h1
    obtain ⟨a2, cap2, rfl, hc2, r2⟩ := h2
    have e1 : ((l.length : Int) == (m.length : Int)) = false := by rw [beq_eq_false_iff_ne]; omega
    have e2 : ((l.length : Int) != (m.length : Int)) = true := by unfold bne; rw [e1]; rfl
    clear r1 r2
    go_enter Tryd.func8, Tryd.ntmps8
    go_wp2
    go_ret
    exact ⟨ret_bool HF.out.symm, Below.refl _ _⟩

end Go.Proofs.YtjnhmobdigfpiaaDoor

/- That a line of one letter is a line, which each law asks. No condition. -/
namespace Go.Proofs.YtjnhmobdigfpiaaDoor
open Go.RowKit

theorem haOk_any (w : World) :
    Calls Tryd.prog 14 #[] w fun e w' => e = .returned (.bool true) ∧ w = w' := by
  have hl : linB (⟨#[97]⟩ : ByteArray).data.toList = true := by decide
  have HL : Hid (∀ w, Calls Tryd.prog 36 #[.string ⟨#[97]⟩] w fun e w' => e = .returned (.bool true) ∧ w = w') := fun w => by
    have := implLin_all ⟨#[97]⟩ w; rw [hl] at this; exact this
  go_enter Tryd.func14, Tryd.ntmps14
  go_wp2_with (go_at_call 36; refine (HL.out _).mono ?_; rintro e w' ⟨rfl, rfl⟩)
  go_ret
  exact ⟨rfl, rfl⟩

end Go.Proofs.YtjnhmobdigfpiaaDoor

/- The law that what is read is a segment, and has these bytes: at every code. Conditions: the code lies in memory; the sentinels that are read are there. -/
namespace Go.Proofs.YtjnhmobdigfpiaaDoor
open Go.RowKit

theorem bS_dr {w w' : World} {B : Nat} (h : Below B w w') : Below B w w'.drew := h.trans ⟨rfl, rfl, rfl, Nat.le_refl _, fun _ _ => rfl⟩
end Go.Proofs.YtjnhmobdigfpiaaDoor

/- Plain facts on a segment's bytes: with one more, without the last one, or with one turned nothing is read. No program. No condition. -/
namespace Go.Proofs.YtjnhmobdigfpiaaDoor

theorem fit_parts {l : List UInt8} (h : fitB l = true) : 15 ≤ l.length ∧ l.length ≤ 27 ∧ (l[12]?.getD 0).toNat = l.length - 15 ∧ numAt l (l.length - 2) = sumL (l.take (l.length - 2)) := by
  unfold fitB at h
  simp only [Bool.and_eq_true, decide_eq_true_eq] at h
  exact ⟨h.1.1.1, h.1.1.2, h.1.2, h.2⟩
theorem fit_of_read {l : List UInt8} {s : Sg} (h : readL l = some s) : fitB l = true := by
  unfold readL at h
  by_cases hc : fitB l = true ∧ segOkB (sayL l) = true
  · exact hc.1
  · rw [if_neg hc] at h; cases h
theorem read_none {l : List UInt8} (h : ¬ fitB l = true) : readL l = none := by
  unfold readL
  rw [if_neg (fun hc => h hc.1)]
theorem read_longer {l : List UInt8} (h : fitB l = true) (b : UInt8) : readL (l ++ [b]) = none := by
  obtain ⟨h1, h2, h3, h4⟩ := fit_parts h
  refine read_none (fun hf => ?_)
  obtain ⟨g1, g2, g3, g4⟩ := fit_parts hf
  rw [List.getElem?_append_left (by omega), h3] at g3
  simp at g3
  omega
theorem read_shorter {l : List UInt8} (h : fitB l = true) : readL (l.take (l.length - 1)) = none := by
  obtain ⟨h1, h2, h3, h4⟩ := fit_parts h
  refine read_none (fun hf => ?_)
  obtain ⟨g1, g2, g3, g4⟩ := fit_parts hf
  rw [List.getElem?_take_of_lt (by omega), h3] at g3
  simp at g1 g3
  omega
theorem read_bent {l : List UInt8} {k : Nat} {b : UInt8} (h : fitB l = true) (hk : k < l.length) (hb : b ≠ l[k]) : readL (l.set k b) = none := by
  obtain ⟨h1, h2, h3, h4⟩ := fit_parts h
  refine read_none (fun hf => ?_)
  obtain ⟨g1, g2, g3, g4⟩ := fit_parts hf
  rw [List.length_set] at g1 g2 g3 g4
  by_cases k12 : k = 12
  · subst k12
    rw [List.getElem?_set_self hk] at g3
    rw [List.getElem?_eq_getElem hk] at h3
    simp at g3 h3
    exact hb (UInt8.toNat_inj.1 (by omega))
  · by_cases hkl : k < l.length - 2
    · have e1 : numAt (l.set k b) (l.length - 2) = numAt l (l.length - 2) := by
        unfold numAt
        rw [List.getElem?_set_ne (by omega), List.getElem?_set_ne (by omega)]
      have e2 : (l.set k b).take (l.length - 2) = (l.take (l.length - 2)).set k b := by rw [List.take_set]
      have hk2 : k < (l.take (l.length - 2)).length := by rw [List.length_take]; omega
      have hb2 : b ≠ (l.take (l.length - 2))[k] := by rw [List.getElem_take]; exact hb
      have := sumL_set hk2 hb2
      rw [e1, e2, h4] at g4
      omega
    · have e2 : (l.set k b).take (l.length - 2) = l.take (l.length - 2) := by
        rw [List.take_set]
        exact List.set_eq_of_length_le (by rw [List.length_take]; omega)
      rw [e2, ← h4] at g4
      have hx := l[k].toNat_lt
      have hy := b.toNat_lt
      have hne : b.toNat ≠ l[k].toNat := fun e => hb (UInt8.toNat_inj.1 e)
      unfold numAt at g4
      by_cases hk0 : k = l.length - 2
      · subst hk0
        rw [List.getElem?_set_self hk, List.getElem?_set_ne (by omega), List.getElem?_eq_getElem hk] at g4
        simp at g4
        omega
      · have hk1 : k = l.length - 2 + 1 := by omega
        subst hk1
        rw [List.getElem?_set_ne (by omega), List.getElem?_set_self hk, List.getElem?_eq_getElem hk] at g4
        simp at g4
        omega

end Go.Proofs.YtjnhmobdigfpiaaDoor

/- The law that a segment's bytes are read as it: at every two codes. Conditions: the codes lie in memory; the variables that are read hold what they are laid with. -/
namespace Go.Proofs.YtjnhmobdigfpiaaDoor
open Go.RowKit

theorem segBytes_none {a : Sg} (ha : segOkB a = false) : segBytesL a = [] := by unfold segBytesL; rw [ha]; rfl
theorem segBytes_long {a : Sg} (ha : segOkB a = true) : (segBytesL a).length = 15 + a.data.length := by unfold segBytesL; rw [if_pos ha]; exact segL_len a
/-- A call of SegBytes, as bytes that may be read. -/
theorem implBytes_rd (sa sp da dp sq ak : Int) (d : ByteArray) (l : List UInt8) (n : Nat) (hl : l = segBytesL ⟨sa, sp, da, dp, sq, ak, d.data.toList⟩) (hn : n = l.length) (hd : d.size ≤ 2097152) (w : World) :
    Calls Tryd.prog 7 #[.agg #[.int .i64 sa, .int .i64 sp, .int .i64 da, .int .i64 dp, .int .i64 sq, .int .i64 ak, .string d]] w fun e w' => ∃ ao cap, e = .returned (.slice ao n cap) ∧ RdB w' (.slice ao n cap) l ∧ Below w.heap.size w w' := by
  refine (implBytes_any sa sp da dp sq ak d w hd).mono ?_
  rintro e w' ⟨v, rfl, ho, hb⟩
  obtain ⟨a, cap, rfl⟩ := ho.form
  subst hl
  subst hn
  exact ⟨a, cap, rfl, ho.rd, hb⟩
theorem specBytes_rd (sa sp da dp sq ak : Int) (d : ByteArray) (l : List UInt8) (n : Nat) (hl : l = segBytesL ⟨sa, sp, da, dp, sq, ak, d.data.toList⟩) (hn : n = l.length) (hd : d.size ≤ 2097152) (w : World) :
    Calls Tryd.prog 9 #[.agg #[.int .i64 sa, .int .i64 sp, .int .i64 da, .int .i64 dp, .int .i64 sq, .int .i64 ak, .string d]] w fun e w' => ∃ ao cap, e = .returned (.slice ao n cap) ∧ RdB w' (.slice ao n cap) l ∧ Below w.heap.size w w' := by
  refine (specBytes_any sa sp da dp sq ak d w hd).mono ?_
  rintro e w' ⟨g, cap, rfl, ho, hb⟩
  subst hl
  subst hn
  exact ⟨_, cap, rfl, ho.rd, hb⟩

set_option maxRecDepth 100000 in
set_option maxHeartbeats 3200000 in
theorem lwSegBytes_any (ao : Option Addr) (n cap : Nat) (ao2 : Option Addr) (n2 cap2 : Nat) (w : World) (h : BytesIn w ao n) (hn : n ≤ cap) (h2 : BytesIn w ao2 n2) (hn2 : n2 ≤ cap2) (hv : VarsE w) :
    Calls Tryd.prog 3 #[.slice ao n cap, .slice ao2 n2 cap2] w fun e w' => e = .returned (.bool true) ∧ Below w.heap.size w w' := by
  have H := Lib.hid h
  have H2 := Lib.hid h2
  have HV := Lib.hid hv
  clear h h2 hv
  by_cases hl1 : 1048576 < n
  · go_enter Tryd.func3, Tryd.ntmps3
    go_wp2_with fail
    go_ret
    exact ⟨rfl, Below.refl _ _⟩
  by_cases hl2 : 1048576 < n2
  · go_enter Tryd.func3, Tryd.ntmps3
    go_wp2_with fail
    go_ret
    exact ⟨rfl, Below.refl _ _⟩
  go_enter Tryd.func3, Tryd.ntmps3
  go_wp2_with fail
  (go_at_call 5; refine (drawSegBytes_any ao n cap _ H.out hn).mono ?_; rintro e w1 ⟨sa, sp, da, dp, sq, ak, d, rfl, hD, b1⟩)
  have hd : d.size ≤ 2097152 := by have := hD.2.2; omega
  have A1 : Hid (At7 (w1.alloc (.cells #[.int .i64 sa, .int .i64 sp, .int .i64 da, .int .i64 dp, .int .i64 sq, .int .i64 ak, .string d] 26)) w1.heap.size (.int .i64 sa) (.int .i64 sp) (.int .i64 da) (.int .i64 dp) (.int .i64 sq) (.int .i64 ak) (.string d)) := at7_new w1 _ _ _ _ _ _ _ _
  have B1 : Hid (Below w.heap.size w (w1.alloc (.cells #[.int .i64 sa, .int .i64 sp, .int .i64 da, .int .i64 dp, .int .i64 sq, .int .i64 ak, .string d] 26))) := b1.alloc b1.size _
  obtain ⟨b0, hb0⟩ : ∃ b0, b0 = w1.heap.size := ⟨_, rfl⟩
  have hwb : w.heap.size ≤ b0 := by rw [hb0]; exact b1.size
  rw [← hb0] at A1
  obtain ⟨W1, hW1⟩ : ∃ W1, W1 = w1.alloc (.cells #[.int .i64 sa, .int .i64 sp, .int .i64 da, .int .i64 dp, .int .i64 sq, .int .i64 ak, .string d] 26) := ⟨_, rfl⟩
  rw [← hW1] at A1 B1
  go_wp2_with fail
  rw [← hb0, ← hW1]
  clear hW1 hb0 b1 hD
  (go_at_call 6; refine (drawSegSum_any ao2 n2 cap2 _ (H2.out.below B1.out) hn2).mono ?_; rintro e w2 ⟨gj, cj, lj, rfl, oj, hj, b2⟩)
  have A2 : Hid (At7 w2 b0 (.int .i64 sa) (.int .i64 sp) (.int .i64 da) (.int .i64 dp) (.int .i64 sq) (.int .i64 ak) (.string d)) := A1.out.below b2
  have B2 : Hid (Below w.heap.size w w2) := B1.out.trans (b2.mono B1.out.size)
  have OJ := Lib.hid oj
  obtain ⟨uz, ⟨c0, c1, c2, c3, c4, c5, c6⟩, _⟩ := A2.out
  obtain ⟨LA, hLA⟩ : ∃ LA, LA = segBytesL ⟨sa, sp, da, dp, sq, ak, d.data.toList⟩ := ⟨_, rfl⟩
  obtain ⟨nA, hnA⟩ : ∃ nA, nA = LA.length := ⟨_, rfl⟩
  obtain ⟨qa, hqa⟩ : ∃ q, q = segOkB ⟨sa, sp, da, dp, sq, ak, d.data.toList⟩ := ⟨_, rfl⟩
  obtain ⟨sm, hsm⟩ : ∃ s, s = sumL lj := ⟨_, rfl⟩
  have lenA : LA.length ≤ 4194304 := by
    rw [hLA]
    cases hq : segOkB ⟨sa, sp, da, dp, sq, ak, d.data.toList⟩
    · rw [segBytes_none hq]; decide
    · rw [segBytes_long hq]; simp only [len_list]; omega
  have HIA : Hid (∀ w, Calls Tryd.prog 7 #[.agg #[.int .i64 sa, .int .i64 sp, .int .i64 da, .int .i64 dp, .int .i64 sq, .int .i64 ak, .string d]] w fun e w' => ∃ ao cap, e = .returned (.slice ao nA cap) ∧ RdB w' (.slice ao nA cap) LA ∧ Below w.heap.size w w') := fun w => implBytes_rd sa sp da dp sq ak d LA nA hLA hnA hd w
  have HSA : Hid (∀ w, Calls Tryd.prog 9 #[.agg #[.int .i64 sa, .int .i64 sp, .int .i64 da, .int .i64 dp, .int .i64 sq, .int .i64 ak, .string d]] w fun e w' => ∃ ao cap, e = .returned (.slice ao nA cap) ∧ RdB w' (.slice ao nA cap) LA ∧ Below w.heap.size w w') := fun w => specBytes_rd sa sp da dp sq ak d LA nA hLA hnA hd w
  have HES : Hid (∀ v1 v2 w, RdB w v1 LA → RdB w v2 LA → Calls Tryd.prog 8 #[v1, v2] w fun e w' => e = .returned (.bool true) ∧ Below w.heap.size w w') := fun v1 v2 w k1 k2 => haBytes_same LA v1 v2 w lenA k1 k2
  have HOA : Hid (∀ w, Calls Tryd.prog 11 #[.agg #[.int .i64 sa, .int .i64 sp, .int .i64 da, .int .i64 dp, .int .i64 sq, .int .i64 ak, .string d]] w fun e w' => e = .returned (.bool qa) ∧ Below w.heap.size w w') := fun w => by rw [hqa]; exact specSegOk_any sa sp da dp sq ak d w hd
  have HIO : Hid (∀ w, Calls Tryd.prog 10 #[.agg #[.int .i64 sa, .int .i64 sp, .int .i64 da, .int .i64 dp, .int .i64 sq, .int .i64 ak, .string d]] w fun e w' => e = .returned (.bool qa) ∧ Below w.heap.size w w') := fun w => by rw [hqa]; exact implSegOk_any sa sp da dp sq ak d w hd
  have HJI : Hid (∀ w', RdB w' (.slice (some ⟨gj, 0, none⟩) lj.length cj) lj → Calls Tryd.prog 12 #[.slice (some ⟨gj, 0, none⟩) lj.length cj] w' fun e w'' => e = .returned (.int .i64 (sm : Int)) ∧ w' = w'') := fun w' hb => by rw [hsm]; exact implSum_any _ lj w' (by omega) hb
  have HJS : Hid (∀ w', RdB w' (.slice (some ⟨gj, 0, none⟩) lj.length cj) lj → Calls Tryd.prog 13 #[.slice (some ⟨gj, 0, none⟩) lj.length cj] w' fun e w'' => e = .returned (.int .i64 (sm : Int)) ∧ w' = w'') := fun w' hb => by rw [hsm]; exact specSum_any _ lj w' (by omega) hb
  have HEQ : Hid (LA = segBytesL ⟨sa, sp, da, dp, sq, ak, d.data.toList⟩ ∧ nA = LA.length ∧ qa = segOkB ⟨sa, sp, da, dp, sq, ak, d.data.toList⟩) := ⟨hLA, hnA, hqa⟩
  obtain ⟨nj, hnj⟩ : ∃ n, n = lj.length := ⟨_, rfl⟩
  have hj1 : nj ≤ 4194304 := by omega
  have RJ2 : Hid (RdB w2 (.slice (some ⟨gj, 0, none⟩) nj cj) lj) := by rw [hnj]; exact OJ.out.rd
  rw [← hnj] at HJI HJS ⊢
  clear hLA hnA hqa hsm oj b2 A1 lenA hj hnj
  go_wp2_with fail
  (go_at_call 7; refine (HIA.out _).mono ?_; rintro e w3 ⟨ab, cb, rfl, rb, b3⟩)
  have RB := Lib.hid rb
  have A3 : Hid (At7 w3 b0 (.int .i64 sa) (.int .i64 sp) (.int .i64 da) (.int .i64 dp) (.int .i64 sq) (.int .i64 ak) (.string d)) := A2.out.below b3
  have B3 : Hid (Below w.heap.size w w3) := B2.out.trans (b3.mono B2.out.size)
  have RJ : Hid (RdB w3 (.slice (some ⟨gj, 0, none⟩) nj cj) lj) := RJ2.out.below b3
  clear rb b3 c0 c1 c2 c3 c4 c5 c6 uz RJ2
  have mk : Hid (∀ w', Below w3.heap.size w3 w' → w'.cell? ⟨b0, 0, none⟩ = some (.int .i64 sa) ∧ w'.cell? ⟨b0, 1, none⟩ = some (.int .i64 sp) ∧ w'.cell? ⟨b0, 2, none⟩ = some (.int .i64 da) ∧ w'.cell? ⟨b0, 3, none⟩ = some (.int .i64 dp) ∧ w'.cell? ⟨b0, 4, none⟩ = some (.int .i64 sq) ∧ w'.cell? ⟨b0, 5, none⟩ = some (.int .i64 ak) ∧ w'.cell? ⟨b0, 6, none⟩ = some (.string d) ∧ Below w3.heap.size w3 w') := fun w' hb => by
    obtain ⟨_, ⟨c0, c1, c2, c3, c4, c5, c6⟩, _⟩ := A3.out.below hb
    exact ⟨c0, c1, c2, c3, c4, c5, c6, hb⟩
  go_wp2_with fail
  have hS0 := mk.out _ ((Below.refl w3.heap.size w3).drew)
  go_region_held3 (fun w' => w'.cell? ⟨b0, 0, none⟩ = some (.int .i64 sa) ∧ w'.cell? ⟨b0, 1, none⟩ = some (.int .i64 sp) ∧ w'.cell? ⟨b0, 2, none⟩ = some (.int .i64 da) ∧ w'.cell? ⟨b0, 3, none⟩ = some (.int .i64 dp) ∧ w'.cell? ⟨b0, 4, none⟩ = some (.int .i64 sq) ∧ w'.cell? ⟨b0, 5, none⟩ = some (.int .i64 ak) ∧ w'.cell? ⟨b0, 6, none⟩ = some (.string d) ∧ Below w3.heap.size w3 w')
    (first | exact hS0 | (refine mk.out _ ?_; with_reducible exact cc) | (trace_state; fail))
    (first
      | (go_at_call 9; have hS := (by assumption : _ ∧ _ ∧ _ ∧ _ ∧ _ ∧ _ ∧ _ ∧ Below w3.heap.size w3 _); have hB := hS.2.2.2.2.2.2.2; refine (HSA.out _).mono ?_; rintro e wN ⟨ax, cx, rfl, rx, bN⟩; have RX := Lib.hid rx; have cc := hB.trans (bN.mono hB.size); clear rx bN hB)
      | (go_at_call 8; have hS := (by assumption : _ ∧ _ ∧ _ ∧ _ ∧ _ ∧ _ ∧ _ ∧ Below w3.heap.size w3 _); have hB := hS.2.2.2.2.2.2.2; refine (HES.out _ _ _ (RB.out.below hB) RX.out).mono ?_; rintro e wN ⟨rfl, bN⟩; have cc := hB.trans (bN.mono hB.size); clear bN hB)
      | (go_at_call 10; have hS := (by assumption : _ ∧ _ ∧ _ ∧ _ ∧ _ ∧ _ ∧ _ ∧ Below w3.heap.size w3 _); have hB := hS.2.2.2.2.2.2.2; refine (HIO.out _).mono ?_; rintro e wN ⟨rfl, bN⟩; have cc := hB.trans (bN.mono hB.size); clear bN hB)
      | (go_at_call 11; have hS := (by assumption : _ ∧ _ ∧ _ ∧ _ ∧ _ ∧ _ ∧ _ ∧ Below w3.heap.size w3 _); have hB := hS.2.2.2.2.2.2.2; refine (HOA.out _).mono ?_; rintro e wN ⟨rfl, bN⟩; have cc := hB.trans (bN.mono hB.size); clear bN hB)
      | (go_at_call 12; have hS := (by assumption : _ ∧ _ ∧ _ ∧ _ ∧ _ ∧ _ ∧ _ ∧ Below w3.heap.size w3 _); have hB := hS.2.2.2.2.2.2.2; refine (HJI.out _ (RJ.out.below hB)).mono ?_; rintro e wN ⟨rfl, rfl⟩; have cc := hB; clear hB)
      | (go_at_call 13; have hS := (by assumption : _ ∧ _ ∧ _ ∧ _ ∧ _ ∧ _ ∧ _ ∧ Below w3.heap.size w3 _); have hB := hS.2.2.2.2.2.2.2; refine (HJS.out _ (RJ.out.below hB)).mono ?_; rintro e wN ⟨rfl, rfl⟩; have cc := hB; clear hB))
  have A4 : Hid (At7 wN b0 (.int .i64 sa) (.int .i64 sp) (.int .i64 da) (.int .i64 dp) (.int .i64 sq) (.int .i64 ak) (.string d)) := A3.out.below cc
  have B4 : Hid (Below w.heap.size w wN) := B3.out.trans (cc.mono B3.out.size)
  have RB4 : Hid (RdB wN (.slice ab nA cb) LA) := RB.out.below cc
  clear mk hS0 hS cc RX HSA HES HIO HIA HJI HJS RB RJ A2 A3 B1 B2 OJ
  obtain ⟨uz, ⟨c0, c1, c2, c3, c4, c5, c6⟩, _⟩ := A4.out
  cases qa
  · have hn0 : nA = 0 := by
      obtain ⟨e1, e2, e3⟩ := HEQ.out
      rw [e2, e1, segBytes_none e3.symm]; rfl
    subst hn0
    clear HEQ RB4
    go_wp2_with fail
    (go_at_call 11; refine (HOA.out _).mono ?_; rintro e w5 ⟨rfl, b5⟩)
    go_wp2_with (go_at_call 14; refine (haOk_any _).mono ?_; rintro e w6 ⟨rfl, rfl⟩)
    go_ret
    exact ⟨rfl, B4.out.trans (b5.mono B4.out.size)⟩
  · obtain ⟨e1, e2, e3⟩ := HEQ.out
    have hsg : readL LA = some ⟨sa, sp, da, dp, sq, ak, d.data.toList⟩ := by
      rw [e1]; unfold segBytesL; rw [if_pos e3.symm]; exact readL_seg e3.symm
    have hfit := fit_of_read hsg
    obtain ⟨hl15, hl27, -, -⟩ := fit_parts hfit
    have hr1 := read_longer hfit 0
    have hr2 := read_shorter hfit
    have hr3 : Hid (∀ k b, (hk : k < LA.length) → b ≠ LA[k] → readL (LA.set k b) = none) := fun k b hk hb => read_bent hfit hk hb
    clear e1 e3 hfit HEQ
    subst e2
    obtain ⟨ab', cb', e, hcb, hrow⟩ := RB4.out
    simp at e
    obtain ⟨rfl, rfl⟩ := e
    obtain ⟨g, rfl, hrw⟩ := hrow (by omega)
    clear hrow
    have hg : g < wN.heap.size := World.block_lt_of_cell? wN _ (hrw 0 (by rw [byV_len]; omega)).1
    have HR : Hid (∀ w', Below wN.heap.size wN w' → RowAt w' g (byV LA) ∧ g < w'.heap.size) := fun w' hb => ⟨hrw.below hb hg, Nat.lt_of_lt_of_le hg hb.size⟩
    have HVB : Hid (∀ w', Below wN.heap.size wN w' → VarsE w') := fun w' hb => HV.out.below (B4.out.trans (hb.mono B4.out.size))
    have HI : Hid (∀ w', Below wN.heap.size wN w' → Calls Tryd.prog 15 #[.slice (some ⟨g, 0, none⟩) LA.length cb] w' fun e w'' => e = .returned (.tuple #[.agg #[.int .i64 sa, .int .i64 sp, .int .i64 da, .int .i64 dp, .int .i64 sq, .int .i64 ak, .string d], .bool true]) ∧ Below w'.heap.size w' w'') := fun w' hb => by
      have := implRead5_any g cb LA w' (by omega) hcb (HVB.out w' hb) (HR.out w' hb).2 (HR.out w' hb).1
      unfold rdAns5 at this
      rw [hsg] at this
      simp only [show (⟨d.data.toList.toArray⟩ : ByteArray) = d from Lib.mk_data d] at this
      exact this
    have HNO : Hid (∀ gg cc l w', (l : List UInt8).length ≤ 2097152 → readL l = none → l.length ≤ cc → Below wN.heap.size wN w' → gg < w'.heap.size → RowAt w' gg (byV l) → Calls Tryd.prog 15 #[.slice (some ⟨gg, 0, none⟩) l.length cc] w' fun e w'' => e = .returned (.tuple #[.agg #[.int .i64 0, .int .i64 0, .int .i64 0, .int .i64 0, .int .i64 0, .int .i64 0, .string ⟨#[]⟩], .bool false]) ∧ Below w'.heap.size w' w'') := fun gg cc l w' hl hno hc hb hg hr => by
      have := implRead5_any gg cc l w' hl hc (HVB.out w' hb) hg hr
      unfold rdAns5 at this
      rw [hno] at this
      exact this
    have HR2 := Lib.hid hr2
    have HR1 := Lib.hid hr1
    clear hrw hsg hr1 hr2 RB4
    go_wp2_with fail
    (go_at_call 11; refine (HOA.out _).mono ?_; rintro e w5 ⟨rfl, b5⟩; have B5 : Hid (Below wN.heap.size wN w5) := b5; clear b5)
    go_wp2_with fail
    (go_at_call 15; refine (HI.out _ B5.out).mono ?_; rintro e w6 ⟨rfl, b6⟩; have B6 : Hid (Below wN.heap.size wN w6) := B5.out.trans (b6.mono B5.out.size); clear b6)
    have hb0w : b0 < wN.heap.size := World.block_lt_of_cell? wN _ c0
    have B7 : Hid (∀ o, Below wN.heap.size wN (w6.alloc o)) := fun o => B6.out.alloc B6.out.size o
    have s6 := B6.out.size
    have A7 : Hid (∀ o, At7 (w6.alloc o) b0 (.int .i64 sa) (.int .i64 sp) (.int .i64 da) (.int .i64 dp) (.int .i64 sq) (.int .i64 ak) (.string d)) := fun o => A4.out.below (B7.out o)
    go_upto_region 11 with fail
    obtain ⟨W7, hW7⟩ : ∃ W, W = w6.alloc (.cells #[.int .i64 sa, .int .i64 sp, .int .i64 da, .int .i64 dp, .int .i64 sq, .int .i64 ak, .string d] 26) := ⟨_, rfl⟩
    have E7 : Hid (Box7 W7 w6.heap.size (.int .i64 sa) (.int .i64 sp) (.int .i64 da) (.int .i64 dp) (.int .i64 sq) (.int .i64 ak) (.string d)) := by rw [hW7]; exact box7_new w6 _ _ _ _ _ _ _ _
    have A8 := Lib.hid (A7.out (.cells #[.int .i64 sa, .int .i64 sp, .int .i64 da, .int .i64 dp, .int .i64 sq, .int .i64 ak, .string d] 26))
    have B8 := Lib.hid (B7.out (.cells #[.int .i64 sa, .int .i64 sp, .int .i64 da, .int .i64 dp, .int .i64 sq, .int .i64 ak, .string d] 26))
    rw [← hW7] at A8 B8 ⊢
    clear hW7 A7 B7
    obtain ⟨bx, hbx⟩ : ∃ b, b = w6.heap.size := ⟨_, rfl⟩
    rw [← hbx] at E7 ⊢
    clear hbx uz c0 c1 c2 c3 c4 c5 c6
    obtain ⟨_, ⟨c0, c1, c2, c3, c4, c5, c6⟩, _⟩ := A8.out
    obtain ⟨x0, x1, x2, x3, x4, x5, x6⟩ := E7.out
    go_upto_region 13 with fail
    obtain ⟨i0, hi, hz0, hz1, hz2⟩ := info_parts infoByte
    clear c0 c1 c2 c3 c4 c5 c6 x0 x1 x2 x3 x4 x5 x6 A8 E7 A4 HI HOA B5 B6 s6 hb0w
    have HO := Lib.hid (own_made_at W7 W7.heap.size W7.heap.size (Nat.le_refl _) rfl)
    have hr7 := (HR.out W7 B8.out).1
    have hg7 := (HR.out W7 B8.out).2
    have s8 := B8.out.size
    have BF : Hid (Below w.heap.size w W7) := B4.out.trans (B8.out.mono B4.out.size)
    have hr7H := Lib.hid hr7
    clear hr7
    go_wp2_with (at_builtin; refine wpList_append_own _ rfl (.tmp 73) (.tmp 74) 22 rfl W7.heap.size 5 i0 (.int .u8 0) 1 1 Tryd.underlying22 hi hz0 hz1 hz2 rfl (by decide) (.slice (some ⟨W7.heap.size, 0, none⟩) 0 0) 0 [] rfl HO.out ⟨g, 0, none⟩ LA.length cb (byV LA) rfl ?c1 ?c2 ?c3 ?c4 ?c5 ?c6 ?_)
    case c1 => rw [byV_len, Nat.mul_one]
    case c2 => have := news_front (hr7H.out.below ((Below.refl _ _).alloc (Nat.le_refl _) (.cells #[] 5)) hg7) LA.length; rwa [List.take_of_length_le (Nat.le_refl _)] at this
    case c3 => exact byV_one LA
    case c4 => unfold maxLen; omega
    case c5 => omega
    case c6 => simp
    intro v1 y1 hown1 hgrow1 _
    have O1 : Hid (OwnB y1 W7.heap.size v1 LA) := by
      show World.ownsRow _ _ _ _ _ _ _
      simpa using hown1
    have Y1 : Hid (Below W7.heap.size W7 y1) := ((Below.refl _ _).alloc (Nat.le_refl _) _).grown hgrow1 (by simp) (fun b e => by simp [Value.ownBlock] at e; omega)
    obtain ⟨g1, k1, rfl, hk1, hB1, hg1, hrw1⟩ := O1.out.cells (by omega)
    clear hown1 hgrow1 hrw1
    have z1 := Y1.out.size
    have ON := Lib.hid (OwnB.below O1.out ((Below.refl y1.heap.size y1).alloc (Nat.le_refl _) (.cells #[.int .u8 0] 5)))
    go_wp2_with (at_builtin; refine wpList_append_own _ rfl (.tmp 75) (.tmp 76) 22 rfl W7.heap.size 5 i0 (.int .u8 0) 1 1 Tryd.underlying22 hi hz0 hz1 hz2 rfl (by decide) (.slice (some ⟨g1, 0, none⟩) LA.length k1) LA.length (byV LA) rfl ON.out ⟨y1.heap.size, 0, none⟩ 1 1 [.int .u8 0] rfl ?c1 ?c2 ?c3 ?c4 ?c5 ?c6 ?_)
    case c1 => rfl
    case c2 => exact one_cell _ _ _
    case c3 => intro u hu; simp at hu; subst hu; rfl
    case c4 => unfold maxLen; omega
    case c5 => omega
    case c6 => simp; omega
    intro v2 y2 hown2 hgrow2 _
    have O2 : Hid (OwnB y2 W7.heap.size v2 (LA ++ [0])) := by
      show World.ownsRow _ _ _ _ _ _ _
      have e : byV (LA ++ [0]) = byV LA ++ [.int .u8 0] := by simp [byV]
      rw [e]
      simpa using hown2
    have Y2 : Hid (Below W7.heap.size W7 y2) := (Y1.out.alloc z1 _).grown hgrow2 (by simp; omega) (fun b e => by simp [Value.ownBlock] at e; omega)
    obtain ⟨g2, k2, rfl, hk2, hB2, hg2, hrw2⟩ := O2.out.cells (by simp)
    have BY2 : Hid (Below wN.heap.size wN y2) := B8.out.trans (Y2.out.mono s8)
    have HC2 := Lib.hid (HNO.out g2 k2 (LA ++ [0]) y2 (by simp; omega) HR1.out hk2 BY2.out hg2 hrw2)
    rw [show (LA ++ [(0 : UInt8)]).length = LA.length + 1 from by simp] at HC2 ⊢
    clear hown2 hgrow2 hrw2 ON O1 O2 hg2
    go_wp2_with fail
    (go_at_call 15; (first | with_reducible refine HC2.out.mono ?_ | (trace_state; fail)); rintro e y3 ⟨rfl, b3⟩; have Y3 : Hid (Below W7.heap.size W7 y3) := Y2.out.trans (b3.mono Y2.out.size); clear b3 HC2)
    have s3 := Y3.out.size
    have HC3 : Hid (∀ o, Calls Tryd.prog 15 #[.slice (some ⟨g, 0, none⟩) (LA.length - 1) cb] (y3.alloc o) fun e w'' => e = .returned (.tuple #[.agg #[.int .i64 0, .int .i64 0, .int .i64 0, .int .i64 0, .int .i64 0, .int .i64 0, .string ⟨#[]⟩], .bool false]) ∧ Below (y3.alloc o).heap.size (y3.alloc o) w'') := fun o => by
      have hb : Below wN.heap.size wN (y3.alloc o) := B8.out.trans ((Y3.out.alloc s3 o).mono s8)
      have ht : (LA.take (LA.length - 1)).length = LA.length - 1 := by simp
      have hr : RowAt (y3.alloc o) g (byV (LA.take (LA.length - 1))) := by
        intro j hj
        have hj2 : j < (byV LA).length := by rw [byV_len] at hj ⊢; omega
        have := (HR.out _ hb).1 j hj2
        simpa [byV] using this
      have := HNO.out g cb (LA.take (LA.length - 1)) (y3.alloc o) (by omega) HR2.out (by omega) hb (HR.out _ hb).2 hr
      rw [ht] at this
      exact this
    have hl1 : (LA.length : Int) - 1 = ((LA.length - 1 : Nat) : Int) := by omega
    have hw9 : IntKind.wrap .i64 ((LA.length : Int) - 1) = (LA.length : Int) - 1 := IntWalk.i64_in _ (by omega)
    have hcbi : (LA.length : Int) - 1 ≤ (cb : Int) := by omega
    have hl0 : ¬ (LA.length : Int) - 1 < 0 := by omega
    go_wp2_with fail
    (go_at_call 15; (first | with_reducible refine (HC3.out _).mono ?_ | (trace_state; fail)); rintro e y4 ⟨rfl, b4⟩; have Y4 : Hid (Below W7.heap.size W7 y4) := (Y3.out.alloc s3 _).trans (b4.mono (by simp; omega)); clear b4 HC3)
    have s4 := Y4.out.size
    have Y5 : Hid (∀ o, Below W7.heap.size W7 (y4.alloc o)) := fun o => Y4.out.alloc s4 o
    have hg4 : g < y4.heap.size := by omega
    go_upto_region 15 with fail
    obtain ⟨y5, hy5⟩ : ∃ W, W = y4.alloc (.cells #[.int .i64 0, .int .i64 0, .int .i64 0, .int .i64 0, .int .i64 0, .int .i64 0, .string ⟨#[]⟩] 26) := ⟨_, rfl⟩
    have Y6 : Hid (Below W7.heap.size W7 y5) := by rw [hy5]; exact Y5.out _
    rw [← hy5]
    clear hy5 Y5
    have s5 := Y6.out.size
    have HO5 := Lib.hid (own_made_at y5 W7.heap.size y5.heap.size s5 rfl)
    have hr5 : Hid (RowAt y5 g (byV LA)) := hr7H.out.below Y6.out hg7
    have hg5 : g < y5.heap.size := by omega
    go_wp2_with (at_builtin; refine wpList_append_own _ rfl (.tmp 90) (.tmp 91) 22 rfl W7.heap.size 5 i0 (.int .u8 0) 1 1 Tryd.underlying22 hi hz0 hz1 hz2 rfl (by decide) (.slice (some ⟨y5.heap.size, 0, none⟩) 0 0) 0 [] rfl HO5.out ⟨g, 0, none⟩ LA.length cb (byV LA) rfl ?c1 ?c2 ?c3 ?c4 ?c5 ?c6 ?_)
    case c1 => rw [byV_len, Nat.mul_one]
    case c2 => have := news_front (hr5.out.below ((Below.refl _ _).alloc (Nat.le_refl _) (.cells #[] 5)) hg5) LA.length; rwa [List.take_of_length_le (Nat.le_refl _)] at this
    case c3 => exact byV_one LA
    case c4 => unfold maxLen; omega
    case c5 => omega
    case c6 => simp; omega
    intro v6 y6 hown6 hgrow6 _
    have O6 : Hid (OwnB y6 W7.heap.size v6 LA) := by
      show World.ownsRow _ _ _ _ _ _ _
      simpa using hown6
    have Y7 : Hid (Below W7.heap.size W7 y6) := (Y6.out.alloc s5 _).grown hgrow6 (by simp; omega) (fun b e => by simp [Value.ownBlock] at e; omega)
    obtain ⟨g6, k6, rfl, hk6, hB6, hg6, hrw6⟩ := O6.out.cells (by omega)
    clear hown6 hgrow6
    have hsz : 0 < LA.length := by omega
    obtain ⟨k, hk⟩ : ∃ k, k = (nj * 37 + n) % LA.length := ⟨_, rfl⟩
    have hk1 : k < LA.length := by rw [hk]; exact Nat.mod_lt _ hsz
    obtain ⟨x, hx⟩ : ∃ x, x = LA[k] := ⟨_, rfl⟩
    have q0 := row_byte hrw6 (c := x) (List.getElem?_eq_some_iff.2 ⟨hk1, hx.symm⟩)
    have f0 := (hrw6 k (by rw [byV_len]; exact hk1)).2
    have hk4 : (k : Int) < (LA.length : Int) := by omega
    have hw31 : IntKind.wrap .i64 ((nj : Int) * 37) = (nj : Int) * 37 := IntWalk.i64_in _ (by omega)
    have hw32 : IntKind.wrap .i64 ((nj : Int) * 37 + (n : Int)) = (nj : Int) * 37 + (n : Int) := IntWalk.i64_in _ (by omega)
    have hm1 : ((nj : Int) * 37 + (n : Int)).tmod (LA.length : Int) = (k : Int) := by rw [hk]; rfl
    obtain ⟨y, hy⟩ : ∃ y, y = (nj * 37 + n) % 255 := ⟨_, rfl⟩
    have hy9 : y ≤ 254 := by omega
    have hm2 : ((nj : Int) * 37 + (n : Int)).tmod 255 = (y : Int) := by rw [hy]; rfl
    have hw1 : IntKind.wrap .i64 (1 + (y : Int)) = 1 + (y : Int) := IntWalk.i64_in _ (by omega)
    have hw2 : IntKind.wrap .u8 (1 + (y : Int)) = 1 + (y : Int) := IntWalk.u8_in _ (by omega)
    have hl0i : ¬ (LA.length : Int) = 0 := by omega
    have HX := Lib.hid hx
    clear hrw6 hx hk hy HO5 hr5 hg5 HR1 HR2 HO
    obtain ⟨b, hbx, hbn⟩ := xor_ne x.toNat (1 + y) (by have := x.toNat_lt; omega) (by omega) (by omega)
    rw [show ((1 + y : Nat) : Int) = 1 + (y : Int) by omega] at hbx
    have hne : b ≠ LA[k] := by
      rw [← HX.out]
      intro e
      exact hbn (by rw [e])
    have hno := hr3.out k b hk1 hne
    have hgs : g6 < (y6.setCell ⟨g6, k, none⟩ (.int .u8 (b.toNat : Int))).drew.heap.size := by simpa using hg6
    have YD : Hid (Below W7.heap.size W7 (y6.setCell ⟨g6, k, none⟩ (.int .u8 (b.toNat : Int))).drew) := (Y7.out.setCell hB6 _).drew
    have HC6 : Hid (Calls Tryd.prog 15 #[.slice (some ⟨g6, 0, none⟩) LA.length k6] (y6.setCell ⟨g6, k, none⟩ (.int .u8 (b.toNat : Int))).drew fun e w'' => e = .returned (.tuple #[.agg #[.int .i64 0, .int .i64 0, .int .i64 0, .int .i64 0, .int .i64 0, .int .i64 0, .string ⟨#[]⟩], .bool false]) ∧ Below (y6.setCell ⟨g6, k, none⟩ (.int .u8 (b.toNat : Int))).drew.heap.size (y6.setCell ⟨g6, k, none⟩ (.int .u8 (b.toNat : Int))).drew w'') := by
      have hr : RowAt (y6.setCell ⟨g6, k, none⟩ (.int .u8 (b.toNat : Int))).drew g6 (byV (LA.set k b)) := by
        have o := (own_setB O6.out (k := k) b).drew
        rw [show LA.length = (LA.set k b).length by simp] at o
        obtain ⟨g', c', e, _, _, _, hr⟩ := OwnB.cells (l := LA.set k b) o (by simp; omega)
        simp at e
        obtain ⟨e1, e2⟩ := e
        rw [← e1] at hr
        exact hr
      have := HNO.out g6 k6 (LA.set k b) _ (by simp; omega) hno (by simp; omega) (B8.out.trans (YD.out.mono s8)) hgs hr
      rw [List.length_set] at this
      exact this
    have BYD : Hid (Below w.heap.size w (y6.setCell ⟨g6, k, none⟩ (.int .u8 (b.toNat : Int))).drew) := BF.out.trans (YD.out.mono BF.out.size)
    clear hne hno hgs YD HX HNO hr3 HR HVB B4
    go_upto_region 17 with fail
    go_region
    all_goals
      go_wp2_with fail
      (go_at_call 15; (first | with_reducible refine HC6.out.mono ?_ | (trace_state; fail)); rintro e y8 ⟨rfl, b8⟩)
      go_wp2_with fail
      go_ret
      exact ⟨ret_bool (by simp; omega), (BYD.out.trans (b8.mono BYD.out.size)).alloc (Nat.le_trans BYD.out.size b8.size) _⟩

end Go.Proofs.YtjnhmobdigfpiaaDoor
