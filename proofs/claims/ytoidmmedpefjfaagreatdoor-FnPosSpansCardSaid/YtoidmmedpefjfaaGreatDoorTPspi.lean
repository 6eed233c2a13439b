/- The law that lines lie one behind the other, inside and outside: at every code. Conditions: the code lies in memory; the variables that are read hold what they are laid with. (Several texts, joined: RoomP, PosP, PosQ, LwPosSpans.) -/
import Derived.Test.YtoidmmedpefjfaaGreatDoorTPsph
import Derived.Test.YtoidmmedpefjfaaGreatDoorSpans
import Derived.Test.YtoidmmedpefjfaaGreatDoorTPspf
import Derived.Test.YtoidmmedpefjfaaGreatDoorDrawPS
import Derived.Test.YtoidmmedpefjfaaGreatDoorHaOk
import Derived.Test.YtoidmmedpefjfaaGreatDoorHaSpans
import Derived.Test.YtoidmmedpefjfaaGreatDoorTPspg
import Derived.Test.YtoidmmedpefjfaaGreatDoorRdV
import Derived.Deep.RegionHeld3
import Derived.Deep.DeepCutAuto

/- Whose port a line outside names, as data: that of the end that was named, or there is no room. No condition. -/
namespace Go.Proofs.YtoidmmedpefjfaaGreatDoor
open Go.RowKit

/-- The lines as they go outside. -/
def outsE (T : List (Int × Int)) : List (List UInt8) → List (List UInt8)
  | [] => []
  | l :: r => (lineE T l).2 :: outsE (lineE T l).1 r
theorem outsE_len (T : List (Int × Int)) (ls : List (List UInt8)) : (outsE T ls).length = ls.length := by
  induction ls generalizing T with
  | nil => rfl
  | cons l r ih => simp [outsE, ih]
theorem outsE_flat (T : List (Int × Int)) (ls : List (List UInt8)) (p : List UInt8) : (ls.foldl strF (T, p)).2 = p ++ ((outsE T ls).map (· ++ [59])).flatten := by
  induction ls generalizing T p with
  | nil => simp [outsE]
  | cons l r ih =>
    show (r.foldl strF ((lineE T l).1, p ++ (lineE T l).2 ++ [59])).2 = _
    rw [ih]
    simp [outsE]
theorem outsE_semi (T : List (Int × Int)) (ls : List (List UInt8)) (h : ∀ l ∈ ls, ∀ c ∈ l, c ≠ 59) : ∀ o ∈ outsE T ls, ∀ c ∈ o, c ≠ 59 := by
  induction ls generalizing T with
  | nil => intro o ho; simp [outsE] at ho
  | cons l r ih =>
    intro o ho
    simp only [outsE, List.mem_cons] at ho
    rcases ho with rfl | ho
    · exact lineE_semi (h l (by simp))
    · exact ih _ (fun x hx => h x (by simp [hx])) o ho
/-- The lines outside of what goes there. -/
theorem outsE_lines (T : List (Int × Int)) (s : List UInt8) : linesL (streamE T (linesL s)).2 = outsE T (linesL s) := by
  unfold streamE
  rw [outsE_flat, List.nil_append]
  exact (lines_flat _ (outsE_semi T _ (fun l hl => line_noSemi hl))).1
theorem room_at (ls : List (List UInt8)) (T : List (Int × Int)) (p : List UInt8) (h6 : T.length ≤ 6) (hf : (ls.foldl strF (T, p)).1.length ≤ 6) (j : Nat) (hj : j < ls.length) (hj2 : j < (outsE T ls).length) {e : Int × Int} (hs : saysE ls[j] = some e) :
    (∃ q : Int, 500 ≤ q ∧ q ≤ 506 ∧ (outsE T ls)[j] = lpL 50 q ∧ portI (ls.foldl strF (T, p)).1 e = q) ∨ ((outsE T ls)[j] = noneL ∧ (ls.foldl strF (T, p)).1.length = 6 ∧ portI (ls.foldl strF (T, p)).1 e = 0) := by
  induction ls generalizing T p j with
  | nil => simp at hj
  | cons l r ih =>
    have hst : (l :: r).foldl strF (T, p) = r.foldl strF ((lineE T l).1, p ++ (lineE T l).2 ++ [59]) := rfl
    rw [hst] at hf ⊢
    rcases j with _ | j
    · simp only [List.getElem_cons_zero] at hs
      have hl := lineE_some (es := T) hs
      obtain ⟨t, ht⟩ := fold_pre r (lineE T l).1 (p ++ (lineE T l).2 ++ [59])
      simp only [outsE, List.getElem_cons_zero]
      rw [ht] at hf ⊢
      rw [hl] at hf ⊢
      simp only at hf ⊢
      have hb := putE_snd_bound T e h6
      by_cases h0 : (putE T e).2 = 0
      · right
        obtain ⟨h1, h2, h3⟩ := putE_zero h0
        rw [if_pos h0]
        rw [h3] at hf ⊢
        rw [List.length_append] at hf
        have ht0 : t = [] := List.eq_nil_of_length_eq_zero (by omega)
        rw [ht0, List.append_nil]
        exact ⟨rfl, h2, h1⟩
      · left
        rw [if_neg h0]
        have hp := putE_port h0
        have hmem : e ∈ (putE T e).1 := by
          have := putE_low h0
          exact portI_pos'.1 (by rw [hp]; omega)
        exact ⟨(putE T e).2, putE_low h0, hb.2, rfl, by rw [portI_app hmem, hp]⟩
    · simp only [List.length_cons] at hj
      simp only [List.getElem_cons_succ] at hs
      simp only [outsE, List.getElem_cons_succ]
      exact ih (lineE T l).1 _ (lineE_six h6) hf j (by omega) (by simp only [outsE, List.length_cons] at hj2; omega) hs

end Go.Proofs.YtoidmmedpefjfaaGreatDoor

/- Places inside and outside, as data. No condition. -/
namespace Go.Proofs.YtoidmmedpefjfaaGreatDoor
open Go.RowKit

theorem pIn_no {l : List (List UInt8 × List UInt8)} {a : Int} {k : Nat} (h : ((insL (l.take k) : Nat) : Int) ≤ a) : ∀ i, i < k → pIn l a i = false := fun i hi => by
  have := insL_mono l (show i + 1 ≤ k by omega)
  simp [pIn]; omega
theorem pOut_no {l : List (List UInt8 × List UInt8)} {a : Int} {k : Nat} (h : ((outsL (l.take k) : Nat) : Int) ≤ a) : ∀ i, i < k → pOut l a i = false := fun i hi => by
  have := outsL_mono l (show i + 1 ≤ k by omega)
  simp [pOut]; omega
/-- Where a place inside lies in the k-th line. -/
theorem kIn_in {l : List (List UInt8 × List UInt8)} {a : Int} {k : Nat} (hk : k < l.length) (h0 : ((insL (l.take k) : Nat) : Int) ≤ a) (h1 : a < ((insL (l.take (k + 1)) : Nat) : Int)) : kIn l a = k :=
  kIn_at hk (pIn_no h0) (by simp [pIn]; omega)
theorem kOut_in {l : List (List UInt8 × List UInt8)} {a : Int} {k : Nat} (hk : k < l.length) (h0 : ((outsL (l.take k) : Nat) : Int) ≤ a) (h1 : a < ((outsL (l.take (k + 1)) : Nat) : Int)) : kOut l a = k :=
  kOut_at hk (pOut_no h0) (by simp [pOut]; omega)
theorem kOut_end {l : List (List UInt8 × List UInt8)} {a : Int} (h0 : ((outsL l : Nat) : Int) ≤ a) : kOut l a = l.length :=
  kOut_all (fun i hi => pOut_no (k := l.length) (by rw [List.take_length]; exact h0) i hi)
theorem kIn_end {l : List (List UInt8 × List UInt8)} {a : Int} (h0 : ((insL l : Nat) : Int) ≤ a) : kIn l a = l.length :=
  kIn_all (fun i hi => pIn_no (k := l.length) (by rw [List.take_length]; exact h0) i hi)
/-- Where a line begins, and ends, both sides agree. -/
theorem outI_from {l : List (List UInt8 × List UInt8)} {k : Nat} (hk : k < l.length) : outI l (insL (l.take k)) = outsL (l.take k) := by
  have := insL_succ hk
  unfold outI
  rw [kIn_in hk (Int.le_refl _) (by omega)]
theorem outI_last {l : List (List UInt8 × List UInt8)} {k : Nat} (hk : k < l.length) : outI l ((insL (l.take (k + 1)) : Nat) - 1) = outsL (l.take k) := by
  have := insL_succ hk
  unfold outI
  rw [kIn_in hk (by omega) (by omega)]
theorem backI_from {l : List (List UInt8 × List UInt8)} {k : Nat} (hk : k < l.length) : backI l (outsL (l.take k)) = insL (l.take k) := by
  have := outsL_succ hk
  unfold backI
  rw [kOut_in hk (Int.le_refl _) (by omega), if_neg (by intro h; have := h.2.2; omega)]
theorem backI_to {l : List (List UInt8 × List UInt8)} {k : Nat} (hk : k < l.length) : backI l (outsL (l.take (k + 1))) = insL (l.take (k + 1)) := by
  by_cases h : k + 1 < l.length
  · exact backI_from h
  · have he : k + 1 = l.length := by omega
    rw [he, List.take_length]
    unfold backI
    rw [kOut_end (Int.le_refl _), if_neg (by intro h; have := h.1; omega), List.take_length]

end Go.Proofs.YtoidmmedpefjfaaGreatDoor

/- The lines of a stream, and what they are outside, side by side: where they lie in both texts. No condition. -/
namespace Go.Proofs.YtoidmmedpefjfaaGreatDoor
open Go.RowKit

/-- Where the k-th line lies in lines that are ended by signs. -/
def atL (xs : List (List UInt8)) (k : Nat) : Nat := ((xs.take k).map fun x => x.length + 1).sum
theorem atL_zero (xs : List (List UInt8)) : atL xs 0 = 0 := by simp [atL]
theorem atL_cons (x : List UInt8) (t : List (List UInt8)) (k : Nat) : atL (x :: t) (k + 1) = (x ++ [59]).length + atL t k := by simp [atL]
theorem flat_at (xs : List (List UInt8)) (r : List UInt8) (k : Nat) (h : k < xs.length) : ((((xs.map (· ++ [59])).flatten ++ r).drop (atL xs k)).take (xs[k].length + 1)) = xs[k] ++ [59] := by
  induction xs generalizing k with
  | nil => simp at h
  | cons x t ih =>
    have hc : ((x :: t).map (· ++ [59])).flatten ++ r = (x ++ [59]) ++ ((t.map (· ++ [59])).flatten ++ r) := by simp
    rw [hc]
    cases k with
    | zero =>
      rw [atL_zero, List.drop_zero]
      exact List.take_left' (by simp)
    | succ k =>
      rw [atL_cons, List.drop_append, List.drop_eq_nil_of_le (by omega), List.nil_append, Nat.add_sub_cancel_left]
      exact ih k (by simpa using h)
theorem atL_succ {xs : List (List UInt8)} {k : Nat} (h : k < xs.length) : atL xs (k + 1) = atL xs k + (xs[k].length + 1) := by
  unfold atL
  rw [List.take_succ_eq_append_getElem h, List.map_append, List.sum_append]
  rfl
theorem atL_all (xs : List (List UInt8)) : atL xs xs.length = ((xs.map (· ++ [59])).flatten).length := by
  unfold atL
  rw [List.take_length, sum_flat]
theorem zip_insL (xs ys : List (List UInt8)) (h : xs.length = ys.length) (k : Nat) : insL ((xs.zip ys).take k) = atL xs k ∧ outsL ((xs.zip ys).take k) = atL ys k := by
  induction xs generalizing ys k with
  | nil =>
    cases ys with
    | nil => simp [insL, outsL, atL]
    | cons y t => simp at h
  | cons x r ih =>
    cases ys with
    | nil => simp at h
    | cons y t =>
      cases k with
      | zero => simp [insL, outsL, atL]
      | succ k =>
        have := ih t (by simpa using h) k
        rw [atL_cons, atL_cons, ← this.1, ← this.2]
        simp [insL, outsL]

end Go.Proofs.YtoidmmedpefjfaaGreatDoor

/- The law that lines lie one behind the other, inside and outside: at every code. Conditions: the code lies in memory; the variables that are read hold what they are laid with. -/
namespace Go.Proofs.YtoidmmedpefjfaaGreatDoor
open Go.RowKit Go.Sort

theorem boxD {w w' : World} {b i : Nat} {v : Value} (h : w.cell? ⟨b, i, none⟩ = some v) (hb : Below w.heap.size w w') : w'.cell? ⟨b, i, none⟩ = some v := by
  rw [hb.cell (p := ⟨b, i, none⟩) (World.block_lt_of_cell? w _ h)]; exact h
theorem SmE.wfE {us : List (Int × Int)} (h : SmE us) : wfE us := fun x hx => (h x hx).wf
theorem pos_parts {us : List (Int × Int)} {s : List UInt8} (hm : mapB us = true) (hs : strB s = true) : posL us s = (linesL s).zip (outsE us (linesL s)) ∧ s = ((linesL s).map (· ++ [59])).flatten ++ restL s ∧ (streamE us (linesL s)).2 = ((outsE us (linesL s)).map (· ++ [59])).flatten := by
  refine ⟨?_, ?_, ?_⟩
  · rw [posL_ok hm hs]
    unfold pairsL
    rw [outsE_lines]
  · exact (flatL_lines s).symm
  · unfold streamE
    rw [outsE_flat, List.nil_append]
theorem cut_at (s : ByteArray) (f0 n : Nat) (x : List UInt8) (h : (s.data.toList.drop f0).take n = x) : s.extract f0 (f0 + n) = ⟨x.toArray⟩ := by
  rw [ext_list, List.drop_take, Nat.add_sub_cancel_left, h]
theorem last_at (s : ByteArray) (f0 : Nat) (x : List UInt8) (h : (s.data.toList.drop f0).take (x.length + 1) = x ++ [59]) (hl : f0 + x.length < s.size) : s[f0 + x.length] = 59 := by
  have h1 : ((s.data.toList.drop f0).take (x.length + 1))[x.length]? = some 59 := by rw [h]; simp
  rw [List.getElem?_take_of_lt (by omega), List.getElem?_drop] at h1
  have h2 : s.data.toList[f0 + x.length]? = some s[f0 + x.length] := by
    rw [List.getElem?_eq_getElem (by rw [len_list]; exact hl)]; rfl
  rw [h2] at h1
  exact Option.some.inj h1

set_option maxRecDepth 100000 in
set_option maxHeartbeats 12800000 in
theorem lwPosSpans_of (ao : Option Addr) (n cap : Nat) (w : World) (h : BytesIn w ao n) (hn : n ≤ cap) (hv : VarsOk w) (hb1 : ¬ 1048576 < n) :
    Calls Tryz.prog 5 #[.slice ao n cap] w fun e w' => e = .returned (.bool true) ∧ Below w.heap.size w w' := by
  have H := Lib.hid h
  have HV : Hid (∀ w', Below w.heap.size w w' → VarsOk w') := fun w' h => hv.below h
  clear h hv
  go_enter Tryz.func5, Tryz.ntmps5
  go_wp2_with fail
  (go_at_call 31; refine (drawPosSpans_any ao n cap _ H.out hn).mono ?_; rintro e w1 ⟨g1, k1, us, s, rfl, o1, ⟨u8, sm1⟩, hss, b1⟩)
  have BW := Lib.hid b1
  have Tt := Lib.hid (o1.mono (Nat.zero_le _))
  have WU := Lib.hid sm1.wfE
  clear b1 o1 H sm1
  have h1 := insL_ge (pairsL s.data.toList (strA us s.data.toList).2)
  have h2 := pairsL_ins s.data.toList (strA us s.data.toList).2
  have h3 := pairsL_outs s.data.toList (strA us s.data.toList).2
  have h4 := strA_len us s.data.toList
  rw [len_list] at h2
  obtain ⟨PL, hPL⟩ : ∃ l, l = posL us s.data.toList := ⟨_, rfl⟩
  have hpl : PL = pairsL s.data.toList (strA us s.data.toList).2 := hPL
  rw [← hpl] at h1 h2 h3
  have hpin : insL PL ≤ 200 := by omega
  have hpout : outsL PL ≤ 2097152 := by omega
  have hpk : PL.length ≤ 200 := by omega
  obtain ⟨SP, hSP⟩ : ∃ l, l = spansL PL := ⟨_, rfl⟩
  obtain ⟨KL, hKL⟩ : ∃ l, l = SP.length := ⟨_, rfl⟩
  have hk200 : KL ≤ 200 := by rw [hKL, hSP, spansL_len]; exact hpk
  have hkp : KL = PL.length := by rw [hKL, hSP, spansL_len]
  obtain ⟨PB, hPB⟩ : ∃ f : Nat → Bool, f = fun k => (spAt PL k).2.2.2.2 := ⟨_, rfl⟩
  have HIS : Hid (∀ w, TabAt w (.slice g1 us.length k1) us → VarsOk w → Calls Tryz.prog 32 #[.agg #[.slice g1 us.length k1], .string s] w fun e w' => ∃ a c, e = .returned (.slice a KL c) ∧ RdSp w' (.slice a KL c) SP ∧ Below w.heap.size w w') := fun w ht hv => by
    refine (implSpans_any _ us s w (by omega) (by omega) WU.out ht hv).mono ?_
    rintro e w' ⟨v, rfl, ho, hb⟩
    rw [← hPL, ← hSP] at ho
    obtain ⟨a, c, rfl⟩ := ho.form
    rw [← hKL] at ho ⊢
    exact ⟨a, c, rfl, ho.rd, hb⟩
  have HSS : Hid (∀ w, OwnTab w 0 (.slice g1 us.length k1) us → Calls Tryz.prog 34 #[.agg #[.slice g1 us.length k1], .string s] w fun e w' => ∃ a c, e = .returned (.slice a KL c) ∧ RdSp w' (.slice a KL c) SP ∧ Below w.heap.size w w') := fun w ht => by
    refine (specSpans_anyG 0 g1 k1 us s w (by omega) (by omega) (Nat.zero_le _) ht).mono ?_
    rintro e w' ⟨v, rfl, ho, hb⟩
    rw [← hPL, ← hSP] at ho
    obtain ⟨a, c, rfl⟩ := ho.form
    rw [← hKL] at ho ⊢
    exact ⟨a, c, rfl, ho.rd, hb⟩
  have HKL : Hid (KL = SP.length) := hKL
  have HSP : Hid (SP = spansL PL) := hSP
  have HPBQ : Hid (PB = fun k => (spAt PL k).2.2.2.2) := hPB
  have HKP : Hid (KL = PL.length) := hkp
  have HHS : Hid (∀ v1 v2 w, RdSp w v1 SP → RdSp w v2 SP → Calls Tryz.prog 33 #[v1, v2] w fun e w' => e = .returned (.bool true) ∧ Below w.heap.size w w') := fun v1 v2 w q1 q2 => haSpans_same SP v1 v2 w (by omega) q1 q2
  clear hSP hKL hPB hkp
  obtain ⟨Q1, hQ1⟩ : ∃ Q1 : ByteArray, Q1 = ⟨(strA us s.data.toList).2.toArray⟩ := ⟨_, rfl⟩
  have hQ1s : Q1.size ≤ 2097152 := by rw [hQ1]; simpa [ByteArray.size] using h4
  obtain ⟨mb, hmb⟩ : ∃ mb, mb = mapB us := ⟨_, rfl⟩
  obtain ⟨sb, hsb⟩ : ∃ sb, sb = strB s.data.toList := ⟨_, rfl⟩
  have HMO : Hid (∀ w, TabAt w (.slice g1 us.length k1) us → Calls Tryz.prog 17 #[.agg #[.slice g1 us.length k1]] w fun e w' => e = .returned (.bool mb) ∧ Below w.heap.size w w') := fun w ht => by rw [hmb]; exact specMapOk_any _ us w (by omega) ht
  have HSO : Hid (∀ w, Calls Tryz.prog 29 #[.string s] w fun e w' => e = .returned (.bool sb) ∧ Below w.heap.size w w') := fun w => by rw [hsb]; exact specStr_any s w (by omega)
  have HNO : Hid ((mb && sb) = false → KL = 0) := fun e1 => by
    rw [hmb, hsb] at e1
    rw [HKP.out, hPL, posL_not e1]; rfl
  have hst : ∀ j, (insL (PL.take j) ≤ 200 ∧ outsL (PL.take j) ≤ 2097152) := fun j => ⟨Nat.le_trans (insL_le _ _) hpin, Nat.le_trans (outsL_le _ _) hpout⟩
  obtain ⟨ls, hls⟩ : ∃ ls, ls = linesL s.data.toList := ⟨_, rfl⟩
  have HYES : Hid (mb = true → sb = true → KL = ls.length ∧ outsL (PL.take KL) = Q1.size ∧ ∀ (j : Nat) (hj : j < ls.length), ∃ o : List UInt8, insL (PL.take (j + 1)) = insL (PL.take j) + (ls[j].length + 1) ∧ outsL (PL.take (j + 1)) = outsL (PL.take j) + (o.length + 1) ∧ PB j = decide (o = ls[j]) ∧ insL (PL.take (j + 1)) ≤ s.size ∧ outsL (PL.take (j + 1)) ≤ Q1.size ∧
      (s.data.toList.drop (insL (PL.take j))).take (ls[j].length + 1) = ls[j] ++ [59] ∧ (Q1.data.toList.drop (outsL (PL.take j))).take (o.length + 1) = o ++ [59]) := fun e1 e2 => by
    rw [hmb] at e1
    rw [hsb] at e2
    obtain ⟨q1, q2, q3⟩ := pos_parts e1 e2
    have hol := outsE_len us (linesL s.data.toList)
    have hQl : Q1.data.toList = ((outsE us (linesL s.data.toList)).map (· ++ [59])).flatten := by
      rw [hQ1, strA_yes (by rw [e1, e2]; rfl)]; exact q3
    rw [← hls] at q1 q2 hol hQl
    rw [← hPL] at q1
    have hkl : KL = ls.length := by rw [HKP.out, q1, List.length_zip, hol, Nat.min_self]
    have hz := zip_insL ls (outsE us ls) hol.symm
    rw [← q1] at hz
    refine ⟨hkl, ?_, ?_⟩
    · rw [hkl, (hz ls.length).2, ← hol, atL_all, ← hQl, len_list]
    · intro j hj
      have hjo : j < (outsE us ls).length := by omega
      have hin := flat_at ls (restL s.data.toList) j hj
      rw [← q2, ← (hz j).1] at hin
      have hout := flat_at (outsE us ls) [] j hjo
      rw [List.append_nil, ← hQl, ← (hz j).2] at hout
      have hjl : j < PL.length := by rw [← HKP.out, hkl]; exact hj
      have hjz : PL[j] = (ls[j], (outsE us ls)[j]) := by subst q1; simp
      have hi1 := insL_succ hjl
      have ho1 := outsL_succ hjl
      rw [hjz] at hi1 ho1
      simp only at hi1 ho1
      refine ⟨(outsE us ls)[j], hi1, ho1, ?_, ?_, ?_, hin, hout⟩
      · rw [HPBQ.out]
        show decide _ = _
        rw [List.getElem?_eq_getElem hjl, hjz]
        rfl
      · have := congrArg List.length hin
        simp at this
        omega
      · have := congrArg List.length hout
        simp at this
        omega
  have HL : Hid (∀ w, Calls Tryz.prog 30 #[.string s] w fun e w' => ∃ v, e = .returned (.tuple #[v, .string ⟨(restL s.data.toList).toArray⟩]) ∧ w'.ownsRow w.heap.size 9 1 v ls.length (ls.map strV) ∧ Below w.heap.size w w') := fun w => by rw [hls]; exact implLines_any s w (by omega)
  have HIA : Hid (∀ w, TabAt w (.slice g1 us.length k1) us → VarsOk w → Calls Tryz.prog 27 #[.agg #[.slice g1 us.length k1], .string s] w fun e w' => ∃ (g : Option Addr) (n c : Nat), e = .returned (.tuple #[.agg #[.slice g n c], .string Q1]) ∧ Below w.heap.size w w') := fun w ht hv => by
    refine (implStrA _ us s w (by omega) (by omega) WU.out ht hv).mono ?_
    rintro e w' ⟨g, c, rfl, _, hb⟩
    rw [← hQ1]
    exact ⟨g, _, c, rfl, hb⟩
  obtain ⟨rs, hrs⟩ : ∃ rs, rs = (restL s.data.toList).toArray := ⟨_, rfl⟩
  rw [← hrs] at HL
  have HST := Lib.hid hst
  clear hPL hpl h1 h2 h3 h4 hQ1 hmb hsb hls hrs hst
  go_wp2_with fail
  obtain ⟨W1, hW1⟩ : ∃ W, W = (w1.alloc (.cells #[.slice g1 us.length k1] 25)) := ⟨_, rfl⟩
  have qW1 : Below w1.heap.size w1 W1 := by rw [hW1]; exact (Below.refl _ _).alloc (Nat.le_refl _) _
  have zW1 : w1.heap.size + 1 ≤ W1.heap.size := by rw [hW1]; simp
  have ct0 : W1.cell? ⟨w1.heap.size, 0, none⟩ = some (.slice g1 us.length k1) := by rw [hW1]; simp
  replace Tt := Lib.hid (Tt.out.below qW1)
  replace BW := Lib.hid (BW.out.trans (qW1.mono BW.out.size))
  rw [← hW1]
  obtain ⟨bt, hbt⟩ : ∃ b, b = w1.heap.size := ⟨_, rfl⟩
  have lt : bt < W1.heap.size := by omega
  rw [← hbt] at ct0 ⊢
  clear hbt hW1
  clear qW1 zW1
  (go_at_call 32; refine (HIS.out _ Tt.out.tab (HV.out _ BW.out)).mono ?_; rintro e w2x ⟨ag, cg, rfl, rg, qb⟩)
  have zb := qb.size
  replace ct0 := boxD ct0 qb
  replace lt : bt < w2x.heap.size := by omega
  replace Tt := Lib.hid (Tt.out.below qb)
  replace BW := Lib.hid (BW.out.trans (qb.mono BW.out.size))
  clear qb zb
  have RG := Lib.hid rg
  clear rg
  go_wp2_with fail
  (go_at_call 34; refine (HSS.out _ Tt.out).mono ?_; rintro e w3x ⟨az, cz, rfl, rs, qb⟩)
  have zb := qb.size
  replace ct0 := boxD ct0 qb
  replace lt : bt < w3x.heap.size := by omega
  replace Tt := Lib.hid (Tt.out.below qb)
  replace RG := Lib.hid (RG.out.below qb)
  replace BW := Lib.hid (BW.out.trans (qb.mono BW.out.size))
  clear qb zb
  have RS := Lib.hid rs
  clear rs
  go_wp2_with fail
  (go_at_call 33; refine (HHS.out _ _ _ RG.out RS.out).mono ?_; rintro e w4x ⟨rfl, qb⟩)
  have zb := qb.size
  replace ct0 := boxD ct0 qb
  replace lt : bt < w4x.heap.size := by omega
  replace Tt := Lib.hid (Tt.out.below qb)
  replace RG := Lib.hid (RG.out.below qb)
  replace BW := Lib.hid (BW.out.trans (qb.mono BW.out.size))
  clear qb zb
  clear RS HIS HSS HHS
  obtain ⟨g, HG0, HC5⟩ : ∃ g, (0 < KL → ag = some ⟨g, 0, none⟩) ∧ Hid (∀ j, j < KL → ∀ w', Below w4x.heap.size w4x w' → w'.cell? ⟨g, j * 5, none⟩ = some (.int .i64 ((insL (PL.take j) : Nat) : Int)) ∧ w'.cell? ⟨g, j * 5 + 1, none⟩ = some (.int .i64 ((insL (PL.take (j + 1)) : Nat) : Int)) ∧ w'.cell? ⟨g, j * 5 + 2, none⟩ = some (.int .i64 ((outsL (PL.take j) : Nat) : Int)) ∧ w'.cell? ⟨g, j * 5 + 3, none⟩ = some (.int .i64 ((outsL (PL.take (j + 1)) : Nat) : Int)) ∧ w'.cell? ⟨g, j * 5 + 4, none⟩ = some (.bool (PB j))) := by
    have hKL := HKL.out
    have hPB := HPBQ.out
    have hSP := HSP.out
    obtain ⟨ag', cg', eg, hcg, hrow⟩ := RG.out
    simp only [Value.slice.injEq] at eg
    obtain ⟨rfl, -, rfl⟩ := eg
    by_cases h0 : 0 < KL
    · obtain ⟨g, hag, row⟩ := hrow (by rw [← hKL]; exact h0)
      have hg : g < w4x.heap.size := World.block_lt_of_cell? w4x _ (row 0 (by rw [flatC_len spC_len, ← hKL]; omega)).1
      refine ⟨g, fun _ => hag, fun j hj w' hb => ?_⟩
      have hjl : j < SP.length := by rw [← hKL]; exact hj
      obtain ⟨⟨c0, c1, c2, c3, c4⟩, _⟩ := (row.below hb hg).five j hjl (insL (PL.take j)) (insL (PL.take (j + 1))) (outsL (PL.take j)) (outsL (PL.take (j + 1))) (PB j) (by subst hSP; rw [spansL_at, hPB]; rfl)
      exact ⟨c0, c1, c2, c3, c4⟩
    · exact ⟨0, fun h => absurd h h0, fun j hj => absurd hj (by omega)⟩
  have hcg : KL ≤ cg := by
    obtain ⟨ag', cg', eg, hcg, hrow⟩ := RG.out
    simp only [Value.slice.injEq] at eg
    obtain ⟨-, -, rfl⟩ := eg
    rw [HKL.out]; exact hcg
  clear RG HSP HKL HPBQ HKP hpin hpout hpk
  have HB5 : Hid (Below w4x.heap.size w4x w4x) := Below.refl _ _
  go_wp2_with fail
  (go_at_call 17; refine (HMO.out _ Tt.out.tab).mono ?_; rintro e w5x ⟨rfl, qb⟩)
  have zb := qb.size
  replace ct0 := boxD ct0 qb
  replace lt : bt < w5x.heap.size := by omega
  replace Tt := Lib.hid (Tt.out.below qb)
  replace HB5 := Lib.hid (HB5.out.trans (qb.mono HB5.out.size))
  replace BW := Lib.hid (BW.out.trans (qb.mono BW.out.size))
  clear qb zb
  cases mb
  · have e1 := HNO.out (by simp)
    subst e1
    clear HNO HYES HC5 HG0
    go_wp2_with fail
    (go_at_call 19; refine (haOk_any _).mono ?_; rintro e wl ⟨rfl, rfl⟩)
    go_wp2_with fail
    go_ret
    exact ⟨by simp, BW.out⟩
  · go_wp2_with fail
    (go_at_call 29; refine (HSO.out _).mono ?_; rintro e w6x ⟨rfl, qb⟩)
    have zb := qb.size
    replace ct0 := boxD ct0 qb
    replace lt : bt < w6x.heap.size := by omega
    replace Tt := Lib.hid (Tt.out.below qb)
    replace HB5 := Lib.hid (HB5.out.trans (qb.mono HB5.out.size))
    replace BW := Lib.hid (BW.out.trans (qb.mono BW.out.size))
    clear qb zb
    cases sb
    · have e1 := HNO.out (by simp)
      subst e1
      clear HNO HYES HC5 HG0
      go_wp2_with fail
      (go_at_call 19; refine (haOk_any _).mono ?_; rintro e wl ⟨rfl, rfl⟩)
      go_wp2_with fail
      go_ret
      exact ⟨by simp, BW.out⟩
    · obtain ⟨hkl, hall, hat⟩ := HYES.out (by simp) (by simp)
      have HALL := Lib.hid hall
      have HAT := Lib.hid hat
      have HKL2 := Lib.hid hkl
      rw [← hkl] at HL
      clear HYES HNO hkl hall hat
      go_wp2_with fail
      (go_at_call 30; refine (HL.out _).mono ?_; rintro e w7x ⟨vl, rfl, ol, qb⟩)
      have zb := qb.size
      replace ct0 := boxD ct0 qb
      replace lt : bt < w7x.heap.size := by omega
      replace Tt := Lib.hid (Tt.out.below qb)
      replace HB5 := Lib.hid (HB5.out.trans (qb.mono HB5.out.size))
      replace BW := Lib.hid (BW.out.trans (qb.mono BW.out.size))
      clear qb zb
      obtain ⟨al, cl, rfl⟩ := own_form ol
      have RL := Lib.hid ol
      clear ol
      go_wp2_with fail
      (go_at_call 27; refine (HIA.out _ Tt.out.tab (HV.out _ BW.out)).mono ?_; rintro e w8x ⟨g3, n3, k3, rfl, qb⟩)
      have zb := qb.size
      replace ct0 := boxD ct0 qb
      replace lt : bt < w8x.heap.size := by omega
      replace Tt := Lib.hid (Tt.out.below qb)
      replace HB5 := Lib.hid (HB5.out.trans (qb.mono HB5.out.size))
      replace RL := Lib.hid (own_below RL.out qb)
      replace BW := Lib.hid (BW.out.trans (qb.mono BW.out.size))
      clear qb zb
      have at0 : ∀ o, (w8x.alloc o).cell? ⟨bt, 0, none⟩ = some (.slice g1 us.length k1) := fun o => by rw [cell_alloc_lt lt]; exact ct0
      go_wp2_with fail
      obtain ⟨W9, hW9⟩ : ∃ W, W = (w8x.alloc (.cells #[.slice g3 n3 k3] 25)) := ⟨_, rfl⟩
      have qW9 : Below w8x.heap.size w8x W9 := by rw [hW9]; exact (Below.refl _ _).alloc (Nat.le_refl _) _
      have zW9 : w8x.heap.size + 1 ≤ W9.heap.size := by rw [hW9]; simp
      replace ct0 := boxD ct0 qW9
      replace lt : bt < W9.heap.size := by omega
      have cz0 : W9.cell? ⟨w8x.heap.size, 0, none⟩ = some (.slice g3 n3 k3) := by rw [hW9]; simp
      replace Tt := Lib.hid (Tt.out.below qW9)
      replace HB5 := Lib.hid (HB5.out.trans (qW9.mono HB5.out.size))
      replace RL := Lib.hid (own_below RL.out qW9)
      replace BW := Lib.hid (BW.out.trans (qW9.mono BW.out.size))
      rw [← hW9]
      obtain ⟨bz, hbz⟩ : ∃ b, b = w8x.heap.size := ⟨_, rfl⟩
      have lz : bz < W9.heap.size := by omega
      rw [← hbz] at cz0 ⊢
      clear hbz hW9
      clear at0
      clear qW9 zW9
      clear ct0 lt cz0 lz Tt HMO HSO HL HIA
      go_wp2_with fail
      go_loopw [10, 11, 12] (fun at_ out_ i wr => ∃ j : Nat, j ≤ KL ∧ i = .int .i64 j ∧ at_ = .int .i64 ((insL (PL.take j) : Nat) : Int) ∧ out_ = .int .i64 ((outsL (PL.take j) : Nat) : Int) ∧ Below W9.heap.size W9 wr) (fun _ _ i _ => KL - (intOf i).toNat)
      case atStart => exact ⟨0, Nat.zero_le _, rfl, by simp [insL], by simp [outsL], Below.refl _ _⟩
      case round =>
        obtain ⟨j, hj, rfl, rfl, rfl, hb⟩ := hrel
        have HB := Lib.hid hb
        have hWz := BW.out.size
        have BX := Lib.hid (BW.out.trans (hb.mono hWz))
        have H5z := HB5.out.size
        have HBB := Lib.hid (HB5.out.trans (hb.mono H5z))
        by_cases hlt : j < KL
        · have hag := HG0 (by omega)
          subst hag
          clear HG0
          have hjl : j < ls.length := by rw [← HKL2.out]; exact hlt
          obtain ⟨o, i1, i2, i3, i4, i5, i6, i7⟩ := HAT.out j hjl
          obtain ⟨b1, b2⟩ := HST.out j
          obtain ⟨c0, c1, c2, c3, c4⟩ := HC5.out j hlt wr HBB.out
          obtain ⟨gl, cl', hv, hgB, hgl, hcl, hcells⟩ := own_cells (own_below RL.out hb) (by omega)
          simp only [Value.slice.injEq] at hv
          obtain ⟨rfl, -, rfl⟩ := hv
          have cX := (hcells j (by simpa using hjl)).1
          simp only [List.getElem_map] at cX
          obtain ⟨y, hy⟩ : ∃ y, y = ls[j] := ⟨_, rfl⟩
          rw [← hy] at cX i1 i3 i6
          obtain ⟨f0, hf0⟩ : ∃ n : Nat, n = insL (PL.take j) := ⟨_, rfl⟩
          obtain ⟨f1, hf1⟩ : ∃ n : Nat, n = insL (PL.take (j + 1)) := ⟨_, rfl⟩
          obtain ⟨o0, ho0⟩ : ∃ n : Nat, n = outsL (PL.take j) := ⟨_, rfl⟩
          obtain ⟨o1, ho1⟩ : ∃ n : Nat, n = outsL (PL.take (j + 1)) := ⟨_, rfl⟩
          obtain ⟨pb, hpb⟩ : ∃ b, b = PB j := ⟨_, rfl⟩
          rw [← hf0] at c0 i1 i6 b1 ⊢
          rw [← hf1] at c1 i1 i4
          rw [← ho0] at c2 i2 i7 b2 ⊢
          rw [← ho1] at c3 i2 i5
          rw [← hpb] at c4 i3
          have HF1 := Lib.hid hf1
          have HO1 := Lib.hid ho1
          clear hf0 hf1 ho0 ho1 hpb hcells hy
          obtain ⟨YS, hYS⟩ : ∃ Y : ByteArray, Y = ⟨(y ++ [59]).toArray⟩ := ⟨_, rfl⟩
          obtain ⟨YO, hYO⟩ : ∃ Y : ByteArray, Y = ⟨(o ++ [59]).toArray⟩ := ⟨_, rfl⟩
          have hxs : s.extract f0 f1 = YS := by rw [i1, hYS]; exact cut_at s f0 _ _ i6
          have hxo : Q1.extract o0 o1 = YO := by rw [i2, hYO]; exact cut_at Q1 o0 _ _ i7
          have hcat : (⟨y.toArray⟩ : ByteArray) ++ ⟨#[59]⟩ = YS := by
            rw [hYS]
            apply ByteArray.ext
            apply Array.ext'
            simp
          have hpp : (YO.toList == YS.toList) = pb := by
            rw [i3, Lib.toList_data, Lib.toList_data, hYO, hYS]
            simp
            by_cases h : o = y <;> simp [h]
          obtain ⟨oi, hoi⟩ : ∃ n : Nat, n = o0 + o.length := ⟨_, rfl⟩
          have hq59 : ∀ h : oi < Q1.size, Q1[oi] = 59 := fun h => by subst hoi; exact last_at Q1 o0 o i7 h
          have hoin : oi < Q1.size := by omega
          have hoii : (o1 : Int) - 1 = (oi : Int) := by omega
          have hwo : IntKind.wrap .i64 ((o1 : Int) - 1) = (oi : Int) := by rw [hoii]; exact IntWalk.i64_in _ (by omega)
          have hyl : y.length ≤ 200 := by omega
          have hw1 : IntKind.wrap .i64 ((f0 : Int) + (y.length : Int)) = (f0 : Int) + (y.length : Int) := IntWalk.i64_in _ (by omega)
          have hw2 : IntKind.wrap .i64 ((f0 : Int) + (y.length : Int) + 1) = (f1 : Int) := by rw [show (f0 : Int) + (y.length : Int) + 1 = (f1 : Int) by omega]; exact IntWalk.i64_in _ (by omega)
          have hn63 : ¬ 9223372036854775807 < y.length + 1 := by omega
          have hn64 : y.length + 1 ≤ 9223372036854775807 := by omega
          have hoi0 : ¬ (oi : Int) < 0 := by omega
          clear hoii
          have g1' : ¬ (o1 : Int) ≤ (o0 : Int) := by omega
          have g2' : ¬ (Q1.size : Int) < (o1 : Int) := by omega
          have g3' : (f0 : Int) ≤ (f1 : Int) := by omega
          have g4' : (f1 : Int) ≤ (s.size : Int) := by omega
          have g5' : (o0 : Int) ≤ (o1 : Int) := by omega
          have g6' : (o1 : Int) ≤ (Q1.size : Int) := by omega
          have g7' : (oi : Int) < (Q1.size : Int) := by omega
          have hjcl : (j : Int) < (KL : Int) := by omega
          have hj200 : (j : Int) ≤ 200 := by omega
          clear hb i1 i2 i3 i4 i5 i6 i7 hYS hYO hoi HC5 HAT
          go_upto_region 19 with fail
          obtain ⟨W5, hW5⟩ : ∃ W, W = wr.alloc (.cells #[.int .i64 (f0 : Int), .int .i64 (f1 : Int), .int .i64 (o0 : Int), .int .i64 (o1 : Int), .bool pb] 47) := ⟨_, rfl⟩
          have q5 : Below wr.heap.size wr W5 := by rw [hW5]; exact (Below.refl _ _).alloc (Nat.le_refl _) _
          have cX5 := boxD cX q5
          have HB5' := Lib.hid (HB.out.trans (q5.mono HB.out.size))
          have e0 : W5.cell? ⟨wr.heap.size, 0, none⟩ = some (.int .i64 (f0 : Int)) := by rw [hW5]; simp
          have e1 : W5.cell? ⟨wr.heap.size, 1, none⟩ = some (.int .i64 (f1 : Int)) := by rw [hW5]; simp
          have e2 : W5.cell? ⟨wr.heap.size, 2, none⟩ = some (.int .i64 (o0 : Int)) := by rw [hW5]; simp
          have e3 : W5.cell? ⟨wr.heap.size, 3, none⟩ = some (.int .i64 (o1 : Int)) := by rw [hW5]; simp
          have e4 : W5.cell? ⟨wr.heap.size, 4, none⟩ = some (.bool pb) := by rw [hW5]; simp
          rw [← hW5]
          obtain ⟨bp, hbp⟩ : ∃ b, b = wr.heap.size := ⟨_, rfl⟩
          rw [← hbp] at e0 e1 e2 e3 e4 ⊢
          clear hbp hW5 q5 c0 c1 c2 c3 c4 cX
          have mk : Hid (∀ w', Below W5.heap.size W5 w' → w'.cell? ⟨bp, 0, none⟩ = some (.int .i64 (f0 : Int)) ∧ w'.cell? ⟨bp, 1, none⟩ = some (.int .i64 (f1 : Int)) ∧ w'.cell? ⟨bp, 2, none⟩ = some (.int .i64 (o0 : Int)) ∧ w'.cell? ⟨bp, 3, none⟩ = some (.int .i64 (o1 : Int)) ∧ w'.cell? ⟨bp, 4, none⟩ = some (.bool pb) ∧ w'.cell? ⟨gl, j, none⟩ = some (.string ⟨y.toArray⟩) ∧ Below W5.heap.size W5 w') := fun w' h => ⟨boxD e0 h, boxD e1 h, boxD e2 h, boxD e3 h, boxD e4 h, boxD cX5 h, h⟩
          have hS0 := mk.out _ (Below.refl W5.heap.size W5).drew
          go_region_held3 (fun w' => w'.cell? ⟨bp, 0, none⟩ = some (.int .i64 (f0 : Int)) ∧ w'.cell? ⟨bp, 1, none⟩ = some (.int .i64 (f1 : Int)) ∧ w'.cell? ⟨bp, 2, none⟩ = some (.int .i64 (o0 : Int)) ∧ w'.cell? ⟨bp, 3, none⟩ = some (.int .i64 (o1 : Int)) ∧ w'.cell? ⟨bp, 4, none⟩ = some (.bool pb) ∧ w'.cell? ⟨gl, j, none⟩ = some (.string ⟨y.toArray⟩) ∧ Below W5.heap.size W5 w')
            (first | exact hS0 | (trace_state; fail))
            (fail)
          all_goals
            clear hS0
            go_wp2_with fail
            have hS1 := mk.out _ (Below.refl W5.heap.size W5).drew.drew
            go_region_held3 (fun w' => w'.cell? ⟨bp, 0, none⟩ = some (.int .i64 (f0 : Int)) ∧ w'.cell? ⟨bp, 1, none⟩ = some (.int .i64 (f1 : Int)) ∧ w'.cell? ⟨bp, 2, none⟩ = some (.int .i64 (o0 : Int)) ∧ w'.cell? ⟨bp, 3, none⟩ = some (.int .i64 (o1 : Int)) ∧ w'.cell? ⟨bp, 4, none⟩ = some (.bool pb) ∧ w'.cell? ⟨gl, j, none⟩ = some (.string ⟨y.toArray⟩) ∧ Below W5.heap.size W5 w')
              (first | exact hS1 | (trace_state; fail))
              (fail)
          all_goals
            have B9 : Hid (Below W9.heap.size W9 W5.drew.drew) := HB5'.out.drew.drew
            clear mk hS1
            go_wp2_with fail
            go_roundw
            case rel => exact ⟨j + 1, by omega, by go_num, by rw [HF1.out], by rw [HO1.out], B9.out⟩
            case measure => simp [intOf]; omega
        · have hje : j = KL := by omega
          subst hje
          rw [HALL.out]
          have BR := BX
          go_wp2_with fail
          go_ret
          exact ⟨by simp, BR.out⟩

set_option maxRecDepth 100000 in
set_option maxHeartbeats 800000 in
theorem lwPosSpans_any (ao : Option Addr) (n cap : Nat) (w : World) (h : BytesIn w ao n) (hn : n ≤ cap) (hv : VarsOk w) :
    Calls Tryz.prog 5 #[.slice ao n cap] w fun e w' => e = .returned (.bool true) ∧ Below w.heap.size w w' := by
  by_cases hb1 : 1048576 < n
  · clear h hv
    go_enter Tryz.func5, Tryz.ntmps5
    go_wp2_with fail
    go_ret
    exact ⟨rfl, Below.refl _ _⟩
  · exact lwPosSpans_of ao n cap w h hn hv hb1

end Go.Proofs.YtoidmmedpefjfaaGreatDoor
