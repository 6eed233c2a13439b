/- Plain facts: what a segment's reader gives, and when without an error, is what the bytes are read as. No program. No condition. -/
import Derived.Test.YtjnhmobdigfpiaaDoorIRead5
namespace Go.Proofs.YtjnhmobdigfpiaaDoor
open Go.RowKit

theorem takeS_ok {n m : Nat} {s : Nat × Bool} (h : (takeS n m s).2 = false) : s.2 = false ∧ s.1 + m ≤ n ∧ takeS n m s = (s.1 + m, false) := by
  unfold takeS at h ⊢
  by_cases h1 : s.2 = true
  · rw [if_pos h1] at h; rw [h1] at h; cases h
  · rw [if_neg h1] at h ⊢
    by_cases h2 : s.1 + m ≤ n
    · rw [if_pos h2]; exact ⟨by simpa using h1, h2, rfl⟩
    · rw [if_neg h2] at h; cases h
theorem takeS_go {n m q : Nat} (h : q + m ≤ n) : takeS n m (q, false) = (q + m, false) := by unfold takeS; simp [h]
theorem mustS_ok {s : Nat × Bool} {b : Bool} (h : (mustS s b).2 = false) : s.2 = false ∧ b = true := by
  unfold mustS at h; simpa using h
theorem numS_two {l : List UInt8} {q : Nat} (h : q + 2 ≤ l.length) : numS l 2 (q, false) = numAt l q := by
  unfold numS
  have e : (l.drop q).take 2 = [l[q]'(by omega), l[q + 1]'(by omega)] := by
    rw [List.drop_eq_getElem_cons (by omega), List.drop_eq_getElem_cons (i := q + 1) (by omega)]
    simp only [List.take_succ_cons, List.take_zero]
  rw [if_pos ⟨rfl, h⟩]
  simp only [e]
  unfold numAt
  rw [List.getElem?_eq_getElem (by omega), List.getElem?_eq_getElem (by omega)]
  simp [beV]
theorem numS_one {l : List UInt8} {q : Nat} (h : q + 1 ≤ l.length) : numS l 1 (q, false) = (l[q]?.getD 0).toNat := by
  unfold numS
  have e : (l.drop q).take 1 = [l[q]'(by omega)] := by
    rw [List.drop_eq_getElem_cons (by omega)]
    simp only [List.take_succ_cons, List.take_zero]
  rw [if_pos ⟨rfl, h⟩, List.getElem?_eq_getElem (by omega)]
  simp only [e]
  simp [beV]

theorem run_fwd {l : List UInt8} (h : (runS8 l).2 = false) : readL l = some (runG l) := by
  obtain ⟨h7, hok⟩ := mustS_ok h
  obtain ⟨h6, hat⟩ := mustS_ok h7
  obtain ⟨h5b, hsum⟩ := mustS_ok h6
  obtain ⟨h5, h5l, e6⟩ := takeS_ok h5b
  obtain ⟨h4b, h4l, e5⟩ := takeS_ok h5
  obtain ⟨h4, h4l1, e41⟩ := takeS_ok h4b
  obtain ⟨h3, h3l, e4⟩ := takeS_ok (s := runS3 l) h4
  obtain ⟨h2, h2l, e3⟩ := takeS_ok (s := runS2 l) h3
  obtain ⟨h1b, h1lb, e2⟩ := takeS_ok (s := takeS l.length 2 (runS1 l)) h2
  obtain ⟨h1, h1l, e21⟩ := takeS_ok h1b
  obtain ⟨h0b, h0lb, e1⟩ := takeS_ok (s := takeS l.length 2 (0, false)) h1
  obtain ⟨_, h0l, e0⟩ := takeS_ok h0b
  have r1 : runS1 l = (4, false) := by unfold runS1; rw [e0] at e1 ⊢; rw [e1]
  have r2 : runS2 l = (8, false) := by
    unfold runS2; rw [r1] at e21 e2 ⊢; rw [e21] at e2 ⊢; rw [e2]
  have r3 : runS3 l = (10, false) := by unfold runS3; rw [r2] at e3 ⊢; rw [e3]
  have r4 : runS4 l = (12, false) := by unfold runS4; rw [r3] at e4 ⊢; rw [e4]
  rw [r4] at e41 h4l h4l1 e5
  rw [e41] at e5 h4l
  simp only at h4l1 h4l
  have hm := numS_one (l := l) (q := 12) h4l1
  rw [hm] at e5 h4l
  obtain ⟨m, hme⟩ : ∃ m, m = (l[12]?.getD 0).toNat := ⟨_, rfl⟩
  rw [← hme] at e5 h4l hm
  have r5 : runS5 l = (13 + m, false) := by
    unfold runS5; rw [r4, hm, e41]; exact e5
  rw [r5] at e6 h5l
  simp only at h5l
  have r6 : (runS6 l).1 = 15 + m := by
    unfold runS6 mustS; rw [r5, e6]
    show 13 + m + 2 = 15 + m
    omega
  rw [r6] at hat
  have hN : l.length = 15 + m := by
    have : ((15 + m : Nat) : Int) = (l.length : Int) := by simpa using hat
    omega
  rw [r5, numS_two h5l] at hsum
  have hsum2 : numAt l (13 + m) = sumL (l.take (13 + m)) := by
    have := beq_iff_eq.1 hsum
    exact_mod_cast this
  have htx : txtS l (runS4 l) = (l.drop 13).take m := by
    unfold txtS
    rw [r4, hm, e41]
    exact if_pos ⟨rfl, h4l⟩
  have hG : runG l = sayL l := by
    unfold runG sayL
    rw [htx, r1, r2, r3, takeS_go (show 0 + 2 ≤ l.length by omega), takeS_go (show 4 + 2 ≤ l.length by omega), numS_two (by omega), numS_two (by omega), numS_two (by omega), numS_two (by omega), numS_two (by omega), numS_two (by omega), hN, show 15 + m - 15 = m by omega]
  have hm12 : m ≤ 12 := by
    have h1 := (segOk_bounds hok).2.2
    have h2 : (runG l).data.length = m := by
      rw [hG]
      simp only [sayL, List.length_take, List.length_drop]
      omega
    omega
  have hfit : fitB l = true := by
    unfold fitB
    rw [← hme, hN, show 15 + m - 2 = 13 + m by omega, hsum2]
    simp
    omega
  unfold readL
  rw [← hG, if_pos ⟨hfit, hok⟩]

theorem run_bwd {l : List UInt8} {s : Sg} (h : readL l = some s) : (runS8 l).2 = false := by
  unfold readL at h
  by_cases hc : fitB l = true ∧ segOkB (sayL l) = true
  · obtain ⟨hf, hok⟩ := hc
    unfold fitB at hf
    simp only [Bool.and_eq_true, decide_eq_true_eq] at hf
    obtain ⟨⟨⟨h15, h27⟩, h12⟩, hs⟩ := hf
    obtain ⟨m, hN⟩ : ∃ m, l.length = 15 + m := ⟨l.length - 15, by omega⟩
    rw [hN, show 15 + m - 15 = m by omega] at h12
    rw [hN, show 15 + m - 2 = 13 + m by omega] at hs
    have r1 : runS1 l = (4, false) := by unfold runS1; rw [takeS_go (by omega), takeS_go (by omega)]
    have r2 : runS2 l = (8, false) := by unfold runS2; rw [r1, takeS_go (by omega), takeS_go (by omega)]
    have r3 : runS3 l = (10, false) := by unfold runS3; rw [r2, takeS_go (by omega)]
    have r4 : runS4 l = (12, false) := by unfold runS4; rw [r3, takeS_go (by omega)]
    have hm : numS l 1 (12, false) = m := by rw [numS_one (by omega), h12]
    have r5 : runS5 l = (13 + m, false) := by unfold runS5; rw [r4, hm, takeS_go (by omega), takeS_go (by omega)]
    have htx : txtS l (runS4 l) = (l.drop 13).take m := by
      unfold txtS
      rw [r4, hm, takeS_go (by omega)]
      exact if_pos ⟨rfl, by omega⟩
    have hG : runG l = sayL l := by
      unfold runG sayL
      rw [htx, r1, r2, r3, takeS_go (show 0 + 2 ≤ l.length by omega), takeS_go (show 4 + 2 ≤ l.length by omega), numS_two (by omega), numS_two (by omega), numS_two (by omega), numS_two (by omega), numS_two (by omega), numS_two (by omega), hN, show 15 + m - 15 = m by omega]
    have r6 : runS6 l = (15 + m, false) := by
      unfold runS6
      rw [r5, takeS_go (by omega), numS_two (by omega), hs]
      simp [mustS]
      omega
    have r7 : runS7 l = (15 + m, false) := by
      unfold runS7
      rw [r6, hN]
      simp [mustS]
    unfold runS8
    rw [r7, hG, hok]
    rfl
  · rw [if_neg hc] at h; cases h

end Go.Proofs.YtjnhmobdigfpiaaDoor
