/- SegOk of the specification and of the program, at every segment. Condition: its bytes are at most 2^21. -/
import Derived.Test.YtjnhmobdigfpiaaSegs
import Derived.Test.YtjnhmobdigfpiaaEnd
import Derived.Test.YtjnhmobdigfpiaaSLin
import Derived.Test.YtjnhmobdigfpiaaIStr
namespace Go.Proofs.Ytjnhmobdigfpiaa
open Go.RowKit

theorem segTx_no {l : List UInt8} {c : UInt8} (h : c ∈ l) (hc : dataB c = false) : segTxB l = false := by
  unfold segTxB
  rw [show l.all dataB = false from List.all_eq_false.2 ⟨c, h, by simp [hc]⟩]; simp

set_option maxRecDepth 100000 in
set_option maxHeartbeats 400000 in
theorem isPlace_any (n : Int) (w : World) :
    Calls Try.prog 29 #[.int .i64 n] w fun e w' => e = .returned (.bool (inB n 0 240)) ∧ w = w' := by
  go_enter Try.func29, Try.ntmps29
  go_wp2_with (go_at_call 23; refine (within_any _ _ _ _).mono ?_; rintro e w' ⟨rfl, rfl⟩)
  go_ret
  exact ⟨rfl, rfl⟩

set_option maxRecDepth 100000 in
set_option maxHeartbeats 400000 in
theorem isText_any (d : ByteArray) (w : World) (hd : d.size ≤ 2097152) :
    Calls Try.prog 30 #[.string d] w fun e w' => e = .returned (.bool (segTxB d.data.toList)) ∧ Below w.heap.size w w' := by
  have HT : Hid (segTxB d.data.toList = (decide (d.size ≤ 12) && strB d.data.toList)) := by rw [segTx_str, len_list]; rfl
  by_cases h : d.size ≤ 12
  · have ht2 : segTxB d.data.toList = strB d.data.toList := by have := HT.out; rw [decide_eq_true h] at this; simpa using this
    have HT2 := Lib.hid ht2
    clear ht2
    have HC : Hid (∀ w, Calls Try.prog 40 #[.string d] w fun e w' => e = .returned (.bool (segTxB d.data.toList)) ∧ Below w.heap.size w w') := fun w => by rw [HT2.out]; exact implStr_any d w hd
    obtain ⟨q, hq⟩ : ∃ q, q = segTxB d.data.toList := ⟨_, rfl⟩
    rw [← hq] at HC ⊢
    clear hq HT HT2
    cases q
    all_goals
      go_enter Try.func30, Try.ntmps30
      go_wp2_with (go_at_call 40; refine (HC.out _).mono ?_; rintro e w1 ⟨rfl, b1⟩)
      go_ret
      exact ⟨rfl, b1⟩
  · have ht2 : segTxB d.data.toList = false := by have := HT.out; rw [decide_eq_false h] at this; simpa using this
    have HT2 := Lib.hid ht2.symm
    clear HT ht2
    go_enter Try.func30, Try.ntmps30
    go_wp2_with fail
    go_ret
    exact ⟨ret_bool HT2.out, Below.refl _ _⟩

/-- What SegOk says, step by step. -/
theorem ok_fold (a b c d e : Bool) : (a && b && c && d && e) = (a && (b && (c && (d && e)))) := by cases a <;> cases b <;> cases c <;> cases d <;> rfl

set_option maxRecDepth 100000 in
set_option maxHeartbeats 3200000 in
theorem implSegOk_any (sa sp da dp sq ak : Int) (d : ByteArray) (w : World) (hd : d.size ≤ 2097152) :
    Calls Try.prog 16 #[.agg #[.int .i64 sa, .int .i64 sp, .int .i64 da, .int .i64 dp, .int .i64 sq, .int .i64 ak, .string d]] w fun e w' => e = .returned (.bool (segOkB ⟨sa, sp, da, dp, sq, ak, d.data.toList⟩)) ∧ Below w.heap.size w w' := by
  have HS : Hid (segOkB ⟨sa, sp, da, dp, sq, ak, d.data.toList⟩ = (endB sa sp && endB da dp && inB sq 0 240 && inB ak 0 240 && segTxB d.data.toList)) := rfl
  have HT : Hid (∀ w, Calls Try.prog 30 #[.string d] w fun e w' => e = .returned (.bool (segTxB d.data.toList)) ∧ Below w.heap.size w w') := fun w => isText_any d w hd
  obtain ⟨q, hq⟩ : ∃ q, q = segOkB ⟨sa, sp, da, dp, sq, ak, d.data.toList⟩ := ⟨_, rfl⟩
  rw [← hq] at HS ⊢
  clear hq
  obtain ⟨e5, he5⟩ : ∃ e5, e5 = segTxB d.data.toList := ⟨_, rfl⟩
  rw [← he5] at HS HT
  clear he5 hd
  have HC : Hid (∀ n (w : World), Calls Try.prog 29 #[.int .i64 n] w fun e w' => e = .returned (.bool (inB n 0 240)) ∧ w = w') := fun n w => isPlace_any n w
  cases h1 : endB sa sp
  rotate_left
  cases h2 : endB da dp
  rotate_left
  cases h3 : inB sq 0 240
  rotate_left
  cases h4 : inB ak 0 240
  rotate_left
  cases e5
  all_goals
    try rw [h1] at HS
    try rw [h2] at HS
    try rw [h3] at HS
    try rw [h4] at HS
    first
    | (have hq : q = true := by (have := HS.out; simpa using this)
       subst hq)
    | (have hq : q = false := by (have := HS.out; simpa using this)
       subst hq)
    clear HS
    go_enter Try.func16, Try.ntmps16
    go_wp2_with fail
    (go_at_call 28; refine (implOk_any sa sp _).mono ?_; rintro e w1 ⟨rfl, b1⟩; obtain ⟨c1, f1⟩ := bcell b1; have s1 : w.heap.size < w1.heap.size := by (have := b1.size; simp at this; omega))
    go_wp2_with (first
      | (go_at_call 28; refine (implOk_any da dp _).mono ?_; rintro e w2 ⟨rfl, b2⟩; obtain ⟨c2, f2⟩ := bcell b2; have s2 : w.heap.size < w2.heap.size := by (have := b2.size; omega))
      | (go_at_call 29; refine (HC.out _ _).mono ?_; rintro e w' ⟨rfl, rfl⟩)
      | (go_at_call 30; refine (HT.out _).mono ?_; rintro e w3 ⟨rfl, b3⟩))
    go_ret
    first
      | exact ⟨rfl, (below_box b1).trans ((b2.mono (by omega)).trans (b3.mono (by omega)))⟩
      | exact ⟨rfl, (below_box b1).trans (b2.mono (by omega))⟩
      | exact ⟨rfl, below_box b1⟩

theorem dataB_ne {c : UInt8} (h : byteB c = false) : dataB c = decide (c = 59) := by unfold dataB; rw [h]; rfl
theorem dataB_yes {c : UInt8} (h : byteB c = true) : dataB c = true := by unfold dataB; rw [h]; rfl
theorem byte59 (c : UInt8) : ((c.toNat : Int) == 59) = decide (c = 59) := by
  rw [Bool.eq_iff_iff]
  simp
  constructor
  · intro h
    have e59 : (59 : UInt8).toNat = 59 := rfl
    exact UInt8.toNat_inj.1 (by omega)
  · rintro rfl; rfl

set_option maxRecDepth 100000 in
set_option maxHeartbeats 3200000 in
theorem specSegOk_any (sa sp da dp sq ak : Int) (d : ByteArray) (w : World) (hd : d.size ≤ 2097152) :
    Calls Try.prog 9 #[.agg #[.int .i64 sa, .int .i64 sp, .int .i64 da, .int .i64 dp, .int .i64 sq, .int .i64 ak, .string d]] w fun e w' => e = .returned (.bool (segOkB ⟨sa, sp, da, dp, sq, ak, d.data.toList⟩)) ∧ Below w.heap.size w w' := by
  have HS : Hid (segOkB ⟨sa, sp, da, dp, sq, ak, d.data.toList⟩ = (endB sa sp && endB da dp && inB sq 0 240 && inB ak 0 240 && segTxB d.data.toList)) := rfl
  obtain ⟨q, hq⟩ : ∃ q, q = segOkB ⟨sa, sp, da, dp, sq, ak, d.data.toList⟩ := ⟨_, rfl⟩
  rw [← hq] at HS ⊢
  clear hq
  have HL : Hid (¬ d.size ≤ 12 → segTxB d.data.toList = false) := by
    intro h
    unfold segTxB
    rw [len_list, decide_eq_false h]; rfl
  cases h1 : endB sa sp
  rotate_left
  cases h2 : endB da dp
  rotate_left
  cases h3 : inB sq 0 240
  rotate_left
  cases h4 : inB ak 0 240
  rotate_left
  by_cases h5 : d.size ≤ 12
  rotate_left
  all_goals
    try rw [h1] at HS
    try rw [h2] at HS
    try rw [h3] at HS
    try rw [h4] at HS
    go_enter Try.func9, Try.ntmps9
    go_wp2_with fail
    (go_at_call 19; refine (specOk_any sa sp _).mono ?_; rintro e w1 ⟨rfl, b1⟩; obtain ⟨c1, f1⟩ := bcell b1; have s1 : w.heap.size < w1.heap.size := by (have := b1.size; simp at this; omega))
    go_wp2_with (first
      | (go_at_call 19; refine (specOk_any da dp _).mono ?_; rintro e w2 ⟨rfl, b2⟩; obtain ⟨c2, f2⟩ := bcell b2; have s2 : w.heap.size < w2.heap.size := by (have := b2.size; omega))
      | (go_at_call 20; refine (specIn_any _ _ _ _).mono ?_; rintro e w' ⟨rfl, rfl⟩))
    try
      go_ret
      first
        | exact ⟨ret_bool (by have := HS.out; simpa using this.symm), (below_box b1).trans (b2.mono (by omega))⟩
        | exact ⟨ret_bool (by have := HS.out; rw [HL.out h5] at this; simpa using this.symm), (below_box b1).trans (b2.mono (by omega))⟩
        | exact ⟨ret_bool (by have := HS.out; simpa using this.symm), below_box b1⟩
  clear h1 h2 h3 h4
  have b12 : Below w.heap.size w w2 := (below_box b1).trans (b2.mono (by omega))
  have k6 : w2.cell? ⟨w.heap.size, 6, none⟩ = some (.string d) := by rw [c2 _ _ s1, c1 _ _ (by simp)]; simp [go_sem]
  have HB := Lib.hid b12
  clear c1 f1 c2 f2 b1 b2 b12 HL
  go_loop [3] (fun i => ∃ k : Nat, k ≤ d.size ∧ i = .int .i64 k ∧ (∀ c ∈ d.data.toList.take k, dataB c = true)) (fun i => d.size - (intOf i).toNat)
  case atStart => exact ⟨0, Nat.zero_le _, rfl, by simp⟩
  case round =>
    obtain ⟨k, hk, rfl, hd2⟩ := hrel
    have HD := Lib.hid hd2
    clear hd2
    by_cases hlt : k < d.size
    · have HT : Hid (d.data.toList.take (k + 1) = d.data.toList.take k ++ [d[k]]) := take_snoc d k hlt
      have HM : Hid (d[k] ∈ d.data.toList) := mem_at d k hlt
      cases hb : byteB d[k]
      · have HN := Lib.hid (dataB_ne hb)
        have hlt2 : (k : Int) < (d.size : Int) := by omega
        by_cases h59 : d[k] = 59
        · have HQ : Hid (dataB d[k] = true) := by rw [HN.out]; exact decide_eq_true h59
          have e1 : (((d[k]).toNat : Int) == 59) = true := by rw [h59]; rfl
          have e2 : (((d[k]).toNat : Int) != 59) = false := by rw [h59]; rfl
          clear h59 HN
          go_wp2_with (go_at_call 21; refine (specByte_any _ _).mono ?_; rintro e w' ⟨rfl, rfl⟩)
          go_round
          case rel =>
            refine ⟨k + 1, by omega, by go_num, ?_⟩
            rw [HT.out]; intro c hc
            rcases List.mem_append.1 hc with hc | hc
            · exact HD.out c hc
            · simp at hc; subst hc; exact HQ.out
          case measure => simp [intOf]; omega
        · have HQ : Hid (segTxB d.data.toList = false) := segTx_no HM.out (by rw [HN.out]; exact decide_eq_false h59)
          have e1 : (((d[k]).toNat : Int) == 59) = false := by rw [byte59]; exact decide_eq_false h59
          have e2 : (((d[k]).toNat : Int) != 59) = true := by unfold bne; rw [e1]; rfl
          clear h59 HN
          go_wp2_with (go_at_call 21; refine (specByte_any _ _).mono ?_; rintro e w' ⟨rfl, rfl⟩)
          go_ret
          exact ⟨ret_bool (by have := HS.out; rw [HQ.out] at this; simpa using this.symm), HB.out⟩
      · have HQ := Lib.hid (dataB_yes hb)
        have hlt2 : (k : Int) < (d.size : Int) := by omega
        go_wp2_with (go_at_call 21; refine (specByte_any _ _).mono ?_; rintro e w' ⟨rfl, rfl⟩)
        go_round
        case rel =>
          refine ⟨k + 1, by omega, by go_num, ?_⟩
          rw [HT.out]; intro c hc
          rcases List.mem_append.1 hc with hc | hc
          · exact HD.out c hc
          · simp at hc; subst hc; exact HQ.out
        case measure => simp [intOf]; omega
    · have HQ : Hid (segTxB d.data.toList = true) := by
        have he : d.data.toList.take k = d.data.toList := List.take_of_length_le (by rw [len_list]; omega)
        show (_ && _) = true
        rw [len_list, decide_eq_true h5, ← he, List.all_eq_true.2 HD.out]; rfl
      go_wp2_with fail
      go_ret
      exact ⟨ret_bool (by have := HS.out; rw [HQ.out] at this; simpa using this.symm), HB.out⟩

end Go.Proofs.Ytjnhmobdigfpiaa
