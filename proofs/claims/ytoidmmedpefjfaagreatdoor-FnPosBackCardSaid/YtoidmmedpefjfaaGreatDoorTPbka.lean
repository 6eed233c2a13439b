/- The law that what is said to be there is there: at every code. Conditions: the code lies in memory; the variables that are read hold what they are laid with. (Several texts, joined: RoomP, PosQ, LwPosBack.) -/
import Derived.Test.YtoidmmedpefjfaaGreatDoorTPsph
import Derived.Test.YtoidmmedpefjfaaGreatDoorPosP
import Derived.Test.YtoidmmedpefjfaaGreatDoorTPspf
import Derived.Test.YtoidmmedpefjfaaGreatDoorDrawPosOut
import Derived.Below
import Derived.Test.YtoidmmedpefjfaaGreatDoorHaOk
import Derived.Test.YtoidmmedpefjfaaGreatDoorTPspg
import Derived.Test.YtoidmmedpefjfaaGreatDoorRdV
import Derived.Deep.RegionHeld3
import Derived.Deep.DeepCutAuto

/- Whose port a line outside names, as data: that of the end that was named, or there is no room. No condition. -/
namespace Go.Proofs.YtoidmmedpefjfaaGreatDoor
open Go.RowKit

/-- The lines as they go outside. -/
def outsE (T : List (Int × Int)) : List (List UInt8) → List (List UInt8)
  | [] => []
  | l :: r => (lineE T l).2 :: outsE (lineE T l).1 r
theorem outsE_len (T : List (Int × Int)) (ls : List (List UInt8)) : (outsE T ls).length = ls.length := by
  induction ls generalizing T with
  | nil => rfl
  | cons l r ih => simp [outsE, ih]
theorem outsE_flat (T : List (Int × Int)) (ls : List (List UInt8)) (p : List UInt8) : (ls.foldl strF (T, p)).2 = p ++ ((outsE T ls).map (· ++ [59])).flatten := by
  induction ls generalizing T p with
  | nil => simp [outsE]
  | cons l r ih =>
    show (r.foldl strF ((lineE T l).1, p ++ (lineE T l).2 ++ [59])).2 = _
    rw [ih]
    simp [outsE]
theorem outsE_semi (T : List (Int × Int)) (ls : List (List UInt8)) (h : ∀ l ∈ ls, ∀ c ∈ l, c ≠ 59) : ∀ o ∈ outsE T ls, ∀ c ∈ o, c ≠ 59 := by
  induction ls generalizing T with
  | nil => intro o ho; simp [outsE] at ho
  | cons l r ih =>
    intro o ho
    simp only [outsE, List.mem_cons] at ho
    rcases ho with rfl | ho
    · exact lineE_semi (h l (by simp))
    · exact ih _ (fun x hx => h x (by simp [hx])) o ho
/-- The lines outside of what goes there. -/
theorem outsE_lines (T : List (Int × Int)) (s : List UInt8) : linesL (streamE T (linesL s)).2 = outsE T (linesL s) := by
  unfold streamE
  rw [outsE_flat, List.nil_append]
  exact (lines_flat _ (outsE_semi T _ (fun l hl => line_noSemi hl))).1
theorem room_at (ls : List (List UInt8)) (T : List (Int × Int)) (p : List UInt8) (h6 : T.length ≤ 6) (hf : (ls.foldl strF (T, p)).1.length ≤ 6) (j : Nat) (hj : j < ls.length) (hj2 : j < (outsE T ls).length) {e : Int × Int} (hs : saysE ls[j] = some e) :
    (∃ q : Int, 500 ≤ q ∧ q ≤ 506 ∧ (outsE T ls)[j] = lpL 50 q ∧ portI (ls.foldl strF (T, p)).1 e = q) ∨ ((outsE T ls)[j] = noneL ∧ (ls.foldl strF (T, p)).1.length = 6 ∧ portI (ls.foldl strF (T, p)).1 e = 0) := by
  induction ls generalizing T p j with
  | nil => simp at hj
  | cons l r ih =>
    have hst : (l :: r).foldl strF (T, p) = r.foldl strF ((lineE T l).1, p ++ (lineE T l).2 ++ [59]) := rfl
    rw [hst] at hf ⊢
    rcases j with _ | j
    · simp only [List.getElem_cons_zero] at hs
      have hl := lineE_some (es := T) hs
      obtain ⟨t, ht⟩ := fold_pre r (lineE T l).1 (p ++ (lineE T l).2 ++ [59])
      simp only [outsE, List.getElem_cons_zero]
      rw [ht] at hf ⊢
      rw [hl] at hf ⊢
      simp only at hf ⊢
      have hb := putE_snd_bound T e h6
      by_cases h0 : (putE T e).2 = 0
      · right
        obtain ⟨h1, h2, h3⟩ := putE_zero h0
        rw [if_pos h0]
        rw [h3] at hf ⊢
        rw [List.length_append] at hf
        have ht0 : t = [] := List.eq_nil_of_length_eq_zero (by omega)
        rw [ht0, List.append_nil]
        exact ⟨rfl, h2, h1⟩
      · left
        rw [if_neg h0]
        have hp := putE_port h0
        have hmem : e ∈ (putE T e).1 := by
          have := putE_low h0
          exact portI_pos'.1 (by rw [hp]; omega)
        exact ⟨(putE T e).2, putE_low h0, hb.2, rfl, by rw [portI_app hmem, hp]⟩
    · simp only [List.length_cons] at hj
      simp only [List.getElem_cons_succ] at hs
      simp only [outsE, List.getElem_cons_succ]
      exact ih (lineE T l).1 _ (lineE_six h6) hf j (by omega) (by simp only [outsE, List.length_cons] at hj2; omega) hs

end Go.Proofs.YtoidmmedpefjfaaGreatDoor

/- The lines of a stream, and what they are outside, side by side: where they lie in both texts. No condition. -/
namespace Go.Proofs.YtoidmmedpefjfaaGreatDoor
open Go.RowKit

/-- Where the k-th line lies in lines that are ended by signs. -/
def atL (xs : List (List UInt8)) (k : Nat) : Nat := ((xs.take k).map fun x => x.length + 1).sum
theorem atL_zero (xs : List (List UInt8)) : atL xs 0 = 0 := by simp [atL]
theorem atL_cons (x : List UInt8) (t : List (List UInt8)) (k : Nat) : atL (x :: t) (k + 1) = (x ++ [59]).length + atL t k := by simp [atL]
theorem flat_at (xs : List (List UInt8)) (r : List UInt8) (k : Nat) (h : k < xs.length) : ((((xs.map (· ++ [59])).flatten ++ r).drop (atL xs k)).take (xs[k].length + 1)) = xs[k] ++ [59] := by
  induction xs generalizing k with
  | nil => simp at h
  | cons x t ih =>
    have hc : ((x :: t).map (· ++ [59])).flatten ++ r = (x ++ [59]) ++ ((t.map (· ++ [59])).flatten ++ r) := by simp
    rw [hc]
    cases k with
    | zero =>
      rw [atL_zero, List.drop_zero]
      exact List.take_left' (by simp)
    | succ k =>
      rw [atL_cons, List.drop_append, List.drop_eq_nil_of_le (by omega), List.nil_append, Nat.add_sub_cancel_left]
      exact ih k (by simpa using h)
theorem atL_succ {xs : List (List UInt8)} {k : Nat} (h : k < xs.length) : atL xs (k + 1) = atL xs k + (xs[k].length + 1) := by
  unfold atL
  rw [List.take_succ_eq_append_getElem h, List.map_append, List.sum_append]
  rfl
theorem atL_all (xs : List (List UInt8)) : atL xs xs.length = ((xs.map (· ++ [59])).flatten).length := by
  unfold atL
  rw [List.take_length, sum_flat]
theorem zip_insL (xs ys : List (List UInt8)) (h : xs.length = ys.length) (k : Nat) : insL ((xs.zip ys).take k) = atL xs k ∧ outsL ((xs.zip ys).take k) = atL ys k := by
  induction xs generalizing ys k with
  | nil =>
    cases ys with
    | nil => simp [insL, outsL, atL]
    | cons y t => simp at h
  | cons x r ih =>
    cases ys with
    | nil => simp at h
    | cons y t =>
      cases k with
      | zero => simp [insL, outsL, atL]
      | succ k =>
        have := ih t (by simpa using h) k
        rw [atL_cons, atL_cons, ← this.1, ← this.2]
        simp [insL, outsL]

end Go.Proofs.YtoidmmedpefjfaaGreatDoor

/- The law that what is said to be there is there: at every code. Conditions: the code lies in memory; the variables that are read hold what they are laid with. -/
namespace Go.Proofs.YtoidmmedpefjfaaGreatDoor
open Go.RowKit Go.Sort

theorem kOut_ex (l : List (List UInt8 × List UInt8)) (a : Int) : ∀ n, n ≤ l.length → ∃ k, k ≤ n ∧ (∀ i, i < k → pOut l a i = false) ∧ (k < n → pOut l a k = true)
  | 0, _ => ⟨0, Nat.le_refl _, fun i h => absurd h (Nat.not_lt_zero _), fun h => absurd h (Nat.lt_irrefl _)⟩
  | n + 1, h => by
    obtain ⟨k, h1, h2, h3⟩ := kOut_ex l a n (by omega)
    by_cases hk : k < n
    · exact ⟨k, by omega, h2, fun _ => h3 hk⟩
    · have hkn : k = n := by omega
      subst hkn
      by_cases hp : pOut l a k = true
      · exact ⟨k, by omega, h2, fun _ => hp⟩
      · refine ⟨k + 1, Nat.le_refl _, fun i hi => ?_, fun h => absurd h (Nat.lt_irrefl _)⟩
        by_cases hi2 : i < k
        · exact h2 i hi2
        · have : i = k := by omega
          subst this
          simpa using hp
/-- The line in which a place outside lies. -/
theorem kOut_spec (l : List (List UInt8 × List UInt8)) {a : Int} (ha : 0 ≤ a) : ((outsL (l.take (kOut l a)) : Nat) : Int) ≤ a ∧ (kOut l a < l.length → a < ((outsL (l.take (kOut l a + 1)) : Nat) : Int)) := by
  obtain ⟨k, h1, h2, h3⟩ := kOut_ex l a l.length (Nat.le_refl _)
  have e : kOut l a = k := by
    by_cases hk : k < l.length
    · exact kOut_at hk h2 (h3 hk)
    · have hkl : k = l.length := by omega
      rw [hkl]
      exact kOut_all (fun i hi => h2 i (by omega))
  rw [e]
  constructor
  · rcases k with _ | k
    · simpa [outsL] using ha
    · have := h2 k (by omega)
      simp [pOut] at this
      omega
  · intro hk
    have := h3 hk
    simp [pOut] at this
    omega
theorem kOut_up {l : List (List UInt8 × List UInt8)} {a b : Int} (h : a ≤ b) : kOut l a ≤ kOut l b := by
  unfold kOut
  refine List.countP_mono_left fun i _ hi => ?_
  simp [pOut] at hi ⊢
  omega
/-- Where a place comes back to: in its line. -/
theorem backI_line (l : List (List UInt8 × List UInt8)) {a : Int} (ha : 0 ≤ a) : ((insL (l.take (kOut l a)) : Nat) : Int) ≤ backI l a ∧ (kOut l a < l.length → backI l a < ((insL (l.take (kOut l a + 1)) : Nat) : Int)) ∧ (¬ kOut l a < l.length → backI l a = ((insL l : Nat) : Int)) := by
  obtain ⟨h1, h2⟩ := kOut_spec l ha
  have hle := kOut_le l a
  refine ⟨?_, fun hk => ?_, fun hk => ?_⟩
  · unfold backI
    split
    · rename_i h; have := h.2.2; omega
    · omega
  · have hi := insL_succ hk
    have ho := outsL_succ hk
    have h3 := h2 hk
    unfold backI
    split
    · rename_i h
      have hs := h.2.1
      simp only [spAt, decide_eq_true_eq, List.getElem?_eq_getElem hk, Option.getD_some] at hs
      rw [hs] at ho
      omega
    · omega
  · have hk2 : kOut l a = l.length := by omega
    unfold backI
    rw [if_neg (fun h => hk h.1), hk2, List.take_length]
theorem backI_range (l : List (List UInt8 × List UInt8)) {a : Int} (ha : 0 ≤ a) : 0 ≤ backI l a ∧ backI l a ≤ ((insL l : Nat) : Int) := by
  obtain ⟨h1, h2, h3⟩ := backI_line l ha
  refine ⟨by omega, ?_⟩
  by_cases hk : kOut l a < l.length
  · have := h2 hk
    have := insL_le l (kOut l a + 1)
    omega
  · rw [h3 hk]; exact Int.le_refl _
theorem backI_neg (l : List (List UInt8 × List UInt8)) {a : Int} (ha : a < 0) : backI l a = 0 := by
  have hk : kOut l a = 0 := by
    rcases l with _ | ⟨p, l⟩
    · rfl
    · exact kOut_at (by simp) (fun i h => absurd h (Nat.not_lt_zero _)) (by simp [pOut]; omega)
  unfold backI
  rw [hk, if_neg (by rintro ⟨_, _, h⟩; simp [outsL] at h; omega)]
  simp [insL]
theorem backI_up {l : List (List UInt8 × List UInt8)} {a b : Int} (ha : 0 ≤ a) (h : a ≤ b) : backI l a ≤ backI l b := by
  obtain ⟨a1, a2, a3⟩ := backI_line l ha
  obtain ⟨b1, b2, b3⟩ := backI_line l (show 0 ≤ b by omega)
  have hk := kOut_up (l := l) h
  by_cases he : kOut l a = kOut l b
  · unfold backI
    rw [he]
    split
    · rename_i hc
      rw [if_pos ⟨hc.1, hc.2.1, by omega⟩]
      omega
    · split
      · rename_i hc; have := hc.2.2; omega
      · omega
  · have hlt : kOut l a < kOut l b := by omega
    have := a2 (Nat.lt_of_lt_of_le hlt (kOut_le l b))
    have := insL_mono l (show kOut l a + 1 ≤ kOut l b by omega)
    omega
/-- What comes back to a place lay ahead of it. -/
theorem back_out {l : List (List UInt8 × List UInt8)} {a : Int} (ha : 0 ≤ a) (hl : a < ((outsL l : Nat) : Int)) : outI l (backI l a) ≤ a := by
  obtain ⟨h1, h2, h3⟩ := backI_line l ha
  obtain ⟨g1, g2⟩ := kOut_spec l ha
  have hk : kOut l a < l.length := by
    by_cases hk : kOut l a < l.length
    · exact hk
    · have : kOut l a = l.length := by have := kOut_le l a; omega
      rw [this, List.take_length] at g1
      omega
  unfold outI
  rw [kIn_in hk h1 (h2 hk)]
  exact g1
theorem backI_all (l : List (List UInt8 × List UInt8)) : backI l ((outsL l : Nat) : Int) = ((insL l : Nat) : Int) := by
  unfold backI
  rw [kOut_end (Int.le_refl _), if_neg (fun h => absurd h.1 (Nat.lt_irrefl _)), List.take_length]

set_option maxRecDepth 100000 in
set_option maxHeartbeats 1600000 in
theorem drawPosBack_any (ao : Option Addr) (n cap : Nat) (w : World) (h : BytesIn w ao n) (hn : n ≤ cap) :
    Calls Tryz.prog 38 #[.slice ao n cap] w fun e w' => ∃ g c us s q, e = .returned (.tuple #[.agg #[.slice g (us : List (Int × Int)).length c], .string (s : ByteArray), .int .i64 q]) ∧ OwnTab w' w.heap.size (.slice g us.length c) us ∧ (us.length ≤ 8 ∧ SmE us) ∧ s.size ≤ 200 ∧ (Lit.int .i64 q).wf = true ∧ Below w.heap.size w w' := by
  have H := Lib.hid h
  clear h
  go_enter Tryz.func38, Tryz.ntmps38
  go_wp2_with fail
  (go_at_call 35; refine (drawPosOut_any ao n cap _ (by first | exact H.out | exact H.out.below ((Below.refl _ _).alloc (Nat.le_refl _) _)) hn).mono ?_; rintro e w1 ⟨g, c, us, s, q, rfl, ho, hu, hs, hq, hb⟩)
  have x1 : w1.cell? ⟨w.heap.size, 0, none⟩ = some (.slice none 0 0) := by rw [hb.cell (by simp)]; simp
  have f1 : w1.frozen? ⟨w.heap.size, 0, none⟩ = false := by rw [hb.frozen (by simp)]; exact (cell_new w _ _ 0).2
  have BA : Below w.heap.size w w1 := ((Below.refl _ w).alloc (Nat.le_refl _) _).trans (hb.mono (by simp))
  have OA : OwnTab w1 (w.heap.size + 1) (.slice g us.length c) us := by simpa using ho
  clear hb ho
  go_wp2_with fail
  exact bodyPost_ret (v := .tuple #[.agg #[.slice g us.length c], .string s, .int .i64 q]) (by simp [results, Tryz.results38, go_sem, World.cell?_setCell_same _ _ _ x1]) rfl ⟨_, _, us, s, q, rfl, OwnTab.mono (ownsRow_setCell_below (a := ⟨w.heap.size, 0, none⟩) OA (by simp) _) (by omega), hu, hs, hq, BA.setCell (Nat.le_refl _) _⟩

theorem boxD {w w' : World} {b i : Nat} {v : Value} (h : w.cell? ⟨b, i, none⟩ = some v) (hb : Below w.heap.size w w') : w'.cell? ⟨b, i, none⟩ = some v := by
  rw [hb.cell (p := ⟨b, i, none⟩) (World.block_lt_of_cell? w _ h)]; exact h
theorem SmE.wfE {us : List (Int × Int)} (h : SmE us) : wfE us := fun x hx => (h x hx).wf
theorem pos_sums {us : List (Int × Int)} {s : List UInt8} (hm : mapB us = true) (hs : strB s = true) : outsL (posL us s) = (strA us s).2.length ∧ insL (posL us s) + (restL s).length = s.length ∧ (posL us s).length = (linesL s).length := by
  have e1 : posL us s = (linesL s).zip (outsE us (linesL s)) := by
    rw [posL_ok hm hs]
    unfold pairsL
    rw [outsE_lines]
  have e2 : (strA us s).2 = ((outsE us (linesL s)).map (· ++ [59])).flatten := by
    rw [strA_yes (by rw [hm, hs]; rfl)]
    unfold streamE
    rw [outsE_flat, List.nil_append]
  have e3 : s.length = ((linesL s).map (· ++ [59])).flatten.length + (restL s).length := by
    have h5 : s = ((linesL s).map (· ++ [59])).flatten ++ restL s := (flatL_lines s).symm
    have h6 := congrArg List.length h5
    rw [List.length_append] at h6
    exact h6
  have hol := outsE_len us (linesL s)
  have hz := zip_insL (linesL s) (outsE us (linesL s)) hol.symm (linesL s).length
  rw [← e1] at hz
  have hl : (posL us s).length = (linesL s).length := by rw [e1, List.length_zip, hol, Nat.min_self]
  rw [← hl, List.take_length] at hz
  refine ⟨?_, ?_, hl⟩
  · rw [hz.2, e2, hl, ← hol, atL_all]
  · rw [hz.1, hl, atL_all, e3]

set_option maxRecDepth 100000 in
set_option maxHeartbeats 12800000 in
theorem lwPosBack_of (ao : Option Addr) (n cap : Nat) (w : World) (h : BytesIn w ao n) (hn : n ≤ cap) (hv : VarsOk w) (hb1 : ¬ 1048576 < n) :
    Calls Tryz.prog 7 #[.slice ao n cap] w fun e w' => e = .returned (.bool true) ∧ Below w.heap.size w w' := by
  have H := Lib.hid h
  have HV : Hid (∀ w', Below w.heap.size w w' → VarsOk w') := fun w' h => hv.below h
  clear h hv
  go_enter Tryz.func7, Tryz.ntmps7
  go_wp2_with fail
  (go_at_call 38; refine (drawPosBack_any ao n cap _ H.out hn).mono ?_; rintro e w1 ⟨g1, k1, us, s, q, rfl, o1, ⟨u8, sm1⟩, hss, hqw, b1⟩)
  have BW := Lib.hid b1
  have Tt := Lib.hid (o1.mono (Nat.zero_le _))
  have WU := Lib.hid sm1.wfE
  have hq : -9223372036854775808 ≤ q ∧ q ≤ 9223372036854775807 := by
    simp [Lit.wf, IntKind.min, IntKind.max, IntKind.signed, IntKind.bits] at hqw
    omega
  clear b1 o1 H sm1 hqw
  have h2 := pairsL_ins s.data.toList (strA us s.data.toList).2
  have h3 := pairsL_outs s.data.toList (strA us s.data.toList).2
  have h4 := strA_len us s.data.toList
  rw [len_list] at h2
  obtain ⟨PL, hPL⟩ : ∃ l, l = posL us s.data.toList := ⟨_, rfl⟩
  have hpl : PL = pairsL s.data.toList (strA us s.data.toList).2 := hPL
  rw [← hpl] at h2 h3
  have hpin : insL PL ≤ s.size := by omega
  obtain ⟨Q1, hQ1⟩ : ∃ Q1 : ByteArray, Q1 = ⟨(strA us s.data.toList).2.toArray⟩ := ⟨_, rfl⟩
  have hQ1s : Q1.size ≤ 2097152 := by rw [hQ1]; simpa [ByteArray.size] using h4
  obtain ⟨mb, hmb⟩ : ∃ mb, mb = mapB us := ⟨_, rfl⟩
  obtain ⟨sb, hsb⟩ : ∃ sb, sb = strB s.data.toList := ⟨_, rfl⟩
  have HMO : Hid (∀ w, TabAt w (.slice g1 us.length k1) us → Calls Tryz.prog 17 #[.agg #[.slice g1 us.length k1]] w fun e w' => e = .returned (.bool mb) ∧ Below w.heap.size w w') := fun w ht => by rw [hmb]; exact specMapOk_any _ us w (by omega) ht
  have HSO : Hid (∀ w, Calls Tryz.prog 29 #[.string s] w fun e w' => e = .returned (.bool sb) ∧ Below w.heap.size w w') := fun w => by rw [hsb]; exact specStr_any s w (by omega)
  have HPI : Hid (∀ a : Int, -9223372036854775808 ≤ a ∧ a ≤ 9223372036854775807 → ∀ w, TabAt w (.slice g1 us.length k1) us → VarsOk w → Calls Tryz.prog 36 #[.agg #[.slice g1 us.length k1], .string s, .int .i64 a] w fun e w' => e = .returned (.int .i64 (outI PL a)) ∧ Below w.heap.size w w') := fun a ha w ht hv => by rw [hPL]; exact implPosOut_any _ us s a w (by omega) (by omega) WU.out ha ht hv
  have HPK : Hid (∀ a : Int, -9223372036854775808 ≤ a ∧ a ≤ 9223372036854775807 → ∀ w, TabAt w (.slice g1 us.length k1) us → VarsOk w → Calls Tryz.prog 39 #[.agg #[.slice g1 us.length k1], .string s, .int .i64 a] w fun e w' => e = .returned (.int .i64 (backI PL a)) ∧ Below w.heap.size w w') := fun a ha w ht hv => by rw [hPL]; exact implPosBack_any _ us s a w (by omega) (by omega) WU.out ha ht hv
  have HPS : Hid (∀ w, OwnTab w 0 (.slice g1 us.length k1) us → Calls Tryz.prog 40 #[.agg #[.slice g1 us.length k1], .string s, .int .i64 q] w fun e w' => e = .returned (.int .i64 (backI PL q)) ∧ Below w.heap.size w w') := fun w ht => by rw [hPL]; exact specPosBack_anyG 0 g1 k1 us s q w (by omega) (by omega) hq (Nat.zero_le _) ht
  have HIA : Hid (∀ w, TabAt w (.slice g1 us.length k1) us → VarsOk w → Calls Tryz.prog 27 #[.agg #[.slice g1 us.length k1], .string s] w fun e w' => ∃ (g : Option Addr) (n c : Nat), e = .returned (.tuple #[.agg #[.slice g n c], .string Q1]) ∧ Below w.heap.size w w') := fun w ht hv => by
    refine (implStrA _ us s w (by omega) (by omega) WU.out ht hv).mono ?_
    rintro e w' ⟨g, c, rfl, _, hb⟩
    rw [← hQ1]
    exact ⟨g, _, c, rfl, hb⟩
  have HNO : Hid ((mb && sb) = false → ∀ a, backI PL a = 0) := fun e1 a => by
    rw [hmb, hsb] at e1
    rw [hPL, posL_not e1]
    unfold backI
    rw [if_neg (fun h => absurd h.1 (Nat.not_lt_zero _)), List.take_nil]
    rfl
  obtain ⟨ls, hls⟩ : ∃ ls, ls = linesL s.data.toList := ⟨_, rfl⟩
  obtain ⟨RS, hRS⟩ : ∃ r : ByteArray, r = ⟨(restL s.data.toList).toArray⟩ := ⟨_, rfl⟩
  obtain ⟨IL, hIL⟩ : ∃ i : Nat, i = insL PL := ⟨_, rfl⟩
  obtain ⟨KL, hKL⟩ : ∃ i : Nat, i = PL.length := ⟨_, rfl⟩
  have HYES : Hid (mb = true → sb = true → Q1.size = outsL PL ∧ IL + RS.size = s.size ∧ KL = ls.length) := fun e1 e2 => by
    rw [hmb] at e1
    rw [hsb] at e2
    obtain ⟨p1, p2, p3⟩ := pos_sums e1 e2
    rw [← hPL] at p1 p2 p3
    rw [len_list] at p2
    refine ⟨by rw [hQ1, p1]; simp [ByteArray.size], ?_, by rw [hKL, hls, p3]⟩
    rw [hIL, hRS]
    show insL PL + (restL s.data.toList).toArray.size = s.size
    rw [List.size_toArray]
    exact p2
  have HL : Hid (∀ w, Calls Tryz.prog 30 #[.string s] w fun e w' => ∃ v, e = .returned (.tuple #[v, .string RS]) ∧ w'.ownsRow w.heap.size 9 1 v ls.length (ls.map strV) ∧ Below w.heap.size w w') := fun w => by rw [hls, hRS]; exact implLines_any s w (by omega)
  have HIS : Hid (∀ w, TabAt w (.slice g1 us.length k1) us → VarsOk w → Calls Tryz.prog 32 #[.agg #[.slice g1 us.length k1], .string s] w fun e w' => ∃ a c, e = .returned (.slice a KL c) ∧ Below w.heap.size w w') := fun w ht hv => by
    refine (implSpans_any _ us s w (by omega) (by omega) WU.out ht hv).mono ?_
    rintro e w' ⟨v, rfl, ho, hb⟩
    rw [← hPL] at ho
    obtain ⟨a, c, rfl⟩ := ho.form
    rw [spansL_len, ← hKL]
    exact ⟨a, c, rfl, hb⟩
  have HBR : Hid (∀ a : Int, 0 ≤ backI PL a ∧ backI PL a ≤ (IL : Int)) := fun a => by
    rw [hIL]
    by_cases ha : 0 ≤ a
    · exact backI_range PL ha
    · rw [backI_neg PL (by omega)]; omega
  have HBU : Hid (∀ a b : Int, 0 ≤ a → a ≤ b → backI PL a ≤ backI PL b) := fun a b => backI_up
  have HBO : Hid (∀ a : Int, 0 ≤ a → a < ((outsL PL : Nat) : Int) → outI PL (backI PL a) ≤ a) := fun a => back_out
  have HBE : Hid (backI PL ((outsL PL : Nat) : Int) = (IL : Int)) := by rw [hIL]; exact backI_all PL
  obtain ⟨O, hO⟩ : ∃ O : Int → Int, O = outI PL := ⟨_, rfl⟩
  obtain ⟨BK, hBK⟩ : ∃ O : Int → Int, O = backI PL := ⟨_, rfl⟩
  obtain ⟨OL, hOL⟩ : ∃ n, n = outsL PL := ⟨_, rfl⟩
  rw [← hO] at HPI HBO
  rw [← hOL] at HYES HBO HBE
  rw [← hBK] at HPK HPS HNO HBR HBU HBO HBE
  rw [← hIL] at hpin
  have hil : IL ≤ 200 := by omega
  clear hO hBK hOL hIL hKL hRS hls hPL hpl h2 h3 h4 hpin hQ1 hmb hsb
  go_wp2_with fail
  obtain ⟨W1, hW1⟩ : ∃ W, W = (w1.alloc (.cells #[.slice g1 us.length k1] 25)) := ⟨_, rfl⟩
  have qW1 : Below w1.heap.size w1 W1 := by rw [hW1]; exact (Below.refl _ _).alloc (Nat.le_refl _) _
  have zW1 : w1.heap.size + 1 ≤ W1.heap.size := by rw [hW1]; simp
  have ct0 : W1.cell? ⟨w1.heap.size, 0, none⟩ = some (.slice g1 us.length k1) := by rw [hW1]; simp
  replace Tt := Lib.hid (Tt.out.below qW1)
  replace BW := Lib.hid (BW.out.trans (qW1.mono BW.out.size))
  rw [← hW1]
  obtain ⟨bt, hbt⟩ : ∃ b, b = w1.heap.size := ⟨_, rfl⟩
  have lt : bt < W1.heap.size := by omega
  rw [← hbt] at ct0 ⊢
  clear hbt hW1
  clear qW1 zW1
  (go_at_call 39; refine (HPK.out q hq _ Tt.out.tab (HV.out _ BW.out)).mono ?_; rintro e w2x ⟨rfl, qb⟩)
  have zb := qb.size
  replace ct0 := boxD ct0 qb
  replace lt : bt < w2x.heap.size := by omega
  replace Tt := Lib.hid (Tt.out.below qb)
  replace BW := Lib.hid (BW.out.trans (qb.mono BW.out.size))
  clear qb zb
  go_wp2_with fail
  (go_at_call 40; refine (HPS.out _ Tt.out).mono ?_; rintro e w3x ⟨rfl, qb⟩)
  have zb := qb.size
  replace ct0 := boxD ct0 qb
  replace lt : bt < w3x.heap.size := by omega
  replace Tt := Lib.hid (Tt.out.below qb)
  replace BW := Lib.hid (BW.out.trans (qb.mono BW.out.size))
  clear qb zb
  go_wp2_with fail
  (go_at_call 17; refine (HMO.out _ Tt.out.tab).mono ?_; rintro e w4x ⟨rfl, qb⟩)
  have zb := qb.size
  replace ct0 := boxD ct0 qb
  replace lt : bt < w4x.heap.size := by omega
  replace Tt := Lib.hid (Tt.out.below qb)
  replace BW := Lib.hid (BW.out.trans (qb.mono BW.out.size))
  clear qb zb
  cases mb
  · have e1 := HNO.out (by simp) q
    rw [e1]
    clear HNO HYES HBR HBU HBO HBE
    go_wp2_with fail
    (go_at_call 19; refine (haOk_any _).mono ?_; rintro e wl ⟨rfl, rfl⟩)
    go_wp2_with fail
    go_ret
    exact ⟨by simp, BW.out⟩
  · go_wp2_with fail
    (go_at_call 29; refine (HSO.out _).mono ?_; rintro e w5x ⟨rfl, qb⟩)
    have zb := qb.size
    replace ct0 := boxD ct0 qb
    replace lt : bt < w5x.heap.size := by omega
    replace Tt := Lib.hid (Tt.out.below qb)
    replace BW := Lib.hid (BW.out.trans (qb.mono BW.out.size))
    clear qb zb
    cases sb
    · have e1 := HNO.out (by simp) q
      rw [e1]
      clear HNO HYES HBR HBU HBO HBE
      go_wp2_with fail
      (go_at_call 19; refine (haOk_any _).mono ?_; rintro e wl ⟨rfl, rfl⟩)
      go_wp2_with fail
      go_ret
      exact ⟨by simp, BW.out⟩
    · obtain ⟨y1, y2, y3⟩ := HYES.out (by simp) (by simp)
      have Y1 := Lib.hid y1
      have Y2 := Lib.hid y2
      have Y3 := Lib.hid y3
      clear HYES HNO y1 y2 y3
      go_wp2_with fail
      (go_at_call 27; refine (HIA.out _ Tt.out.tab (HV.out _ BW.out)).mono ?_; rintro e w6x ⟨g3, n3, k3, rfl, qb⟩)
      have zb := qb.size
      replace ct0 := boxD ct0 qb
      replace lt : bt < w6x.heap.size := by omega
      replace Tt := Lib.hid (Tt.out.below qb)
      replace BW := Lib.hid (BW.out.trans (qb.mono BW.out.size))
      clear qb zb
      have at0 : ∀ o, (w6x.alloc o).cell? ⟨bt, 0, none⟩ = some (.slice g1 us.length k1) := fun o => by rw [cell_alloc_lt lt]; exact ct0
      go_wp2_with fail
      obtain ⟨W7, hW7⟩ : ∃ W, W = (w6x.alloc (.cells #[.slice g3 n3 k3] 25)) := ⟨_, rfl⟩
      have qW7 : Below w6x.heap.size w6x W7 := by rw [hW7]; exact (Below.refl _ _).alloc (Nat.le_refl _) _
      have zW7 : w6x.heap.size + 1 ≤ W7.heap.size := by rw [hW7]; simp
      replace ct0 := boxD ct0 qW7
      replace lt : bt < W7.heap.size := by omega
      have cz0 : W7.cell? ⟨w6x.heap.size, 0, none⟩ = some (.slice g3 n3 k3) := by rw [hW7]; simp
      replace Tt := Lib.hid (Tt.out.below qW7)
      replace BW := Lib.hid (BW.out.trans (qW7.mono BW.out.size))
      rw [← hW7]
      obtain ⟨bz, hbz⟩ : ∃ b, b = w6x.heap.size := ⟨_, rfl⟩
      have lz : bz < W7.heap.size := by omega
      rw [← hbz] at cz0 ⊢
      clear hbz hW7
      clear at0
      clear qW7 zW7
      clear cz0 lz HMO HSO HIA HPS
      go_wp2_with fail
      go_loopw [9] (fun i wr => ∃ j : Nat, j ≤ Q1.size ∧ i = .int .i64 j ∧ Below W7.heap.size W7 wr) (fun i _ => Q1.size - (intOf i).toNat)
      case atStart => exact ⟨0, Nat.zero_le _, rfl, Below.refl _ _⟩
      case round =>
        obtain ⟨j, hj, rfl, hb⟩ := hrel
        have HB := Lib.hid hb
        have hWz := BW.out.size
        have BX := Lib.hid (BW.out.trans (hb.mono hWz))
        have tt := boxD ct0 hb
        replace Tt := Lib.hid (Tt.out.below hb)
        clear ct0 lt hb
        by_cases hlt : j < Q1.size
        · have hlti : (j : Int) < (Q1.size : Int) := by omega
          have hw1 : IntKind.wrap .i64 ((j : Int) + 1) = (j : Int) + 1 := IntWalk.i64_in _ (by omega)
          have hbr := HBR.out (j : Int)
          have hbk : -9223372036854775808 ≤ BK (j : Int) ∧ BK (j : Int) ≤ 9223372036854775807 := by omega
          have hup : ¬ BK ((j : Int) + 1) < BK (j : Int) := by
            have := HBU.out (j : Int) ((j : Int) + 1) (by omega) (by omega)
            omega
          have hout : ¬ (j : Int) < O (BK (j : Int)) := by
            have := HBO.out (j : Int) (by omega) (by have := Y1.out; omega)
            omega
          go_wp2_with fail
          (go_at_call 39; refine (HPK.out _ (by omega) _ Tt.out.tab (HV.out _ BX.out)).mono ?_; rintro e w2 ⟨rfl, b2⟩)
          have tt2 := boxD tt b2
          have HB2 := Lib.hid (HB.out.trans (b2.mono HB.out.size))
          have BX2 := Lib.hid (BX.out.trans (b2.mono BX.out.size))
          replace Tt := Lib.hid (Tt.out.below b2)
          clear b2 tt hbr
          go_wp2_with fail
          (go_at_call 39; refine (HPK.out _ (by omega) _ Tt.out.tab (HV.out _ BX2.out)).mono ?_; rintro e w3 ⟨rfl, b3⟩)
          have tt3 := boxD tt2 b3
          have HB3 := Lib.hid (HB2.out.trans (b3.mono HB2.out.size))
          have BX3 := Lib.hid (BX2.out.trans (b3.mono BX2.out.size))
          replace Tt := Lib.hid (Tt.out.below b3)
          clear b3 tt2
          go_wp2_with fail
          (go_at_call 36; refine (HPI.out _ hbk _ Tt.out.tab (HV.out _ BX3.out)).mono ?_; rintro e w4 ⟨rfl, b4⟩)
          have B9 := HB3.out.trans (b4.mono HB3.out.size)
          clear b4 tt3 Tt
          go_wp2_with fail
          go_roundw
          case rel => exact ⟨j + 1, by omega, by go_num, B9⟩
          case measure => simp [intOf]; omega
        · have hje : j = Q1.size := by omega
          subst hje
          have hn0 := (HBR.out q).1
          have hn1 := (HBR.out q).2
          have y2 := Y2.out
          have hsub : IntKind.wrap .i64 ((s.size : Int) - (RS.size : Int)) = (IL : Int) := by rw [show (s.size : Int) - (RS.size : Int) = (IL : Int) by omega]; exact IntWalk.i64_in _ (by omega)
          have hbe := HBE.out
          rw [← Y1.out] at hbe
          have y3 := Y3.out
          go_wp2_with fail
          (go_at_call 30; refine (HL.out _).mono ?_; rintro e wl ⟨vl, rfl, ol, bl⟩)
          obtain ⟨al, cl, rfl⟩ := own_form ol
          have BR := Lib.hid (BX.out.trans (bl.mono BX.out.size))
          have t4 := boxD tt bl
          replace Tt := Lib.hid (Tt.out.below bl)
          clear bl ol
          go_wp2_with fail
          (go_at_call 39; refine (HPK.out _ (by omega) _ Tt.out.tab (HV.out _ BR.out)).mono ?_; rintro e w5 ⟨rfl, b5⟩)
          have t5 := boxD t4 b5
          have BS := Lib.hid (BR.out.trans (b5.mono BR.out.size))
          replace Tt := Lib.hid (Tt.out.below b5)
          clear b5 t4
          go_wp2_with fail
          (go_at_call 32; refine (HIS.out _ Tt.out.tab (HV.out _ BS.out)).mono ?_; rintro e w6 ⟨a6, c6, rfl, b6⟩)
          have BT := Lib.hid (BS.out.trans (b6.mono BS.out.size))
          clear b6
          go_wp2_with fail
          go_ret
          exact ⟨by simp, BT.out⟩

set_option maxRecDepth 100000 in
set_option maxHeartbeats 800000 in
theorem lwPosBack_any (ao : Option Addr) (n cap : Nat) (w : World) (h : BytesIn w ao n) (hn : n ≤ cap) (hv : VarsOk w) :
    Calls Tryz.prog 7 #[.slice ao n cap] w fun e w' => e = .returned (.bool true) ∧ Below w.heap.size w w' := by
  by_cases hb1 : 1048576 < n
  · clear h hv
    go_enter Tryz.func7, Tryz.ntmps7
    go_wp2_with fail
    go_ret
    exact ⟨rfl, Below.refl _ _⟩
  · exact lwPosBack_of ao n cap w h hn hv hb1

end Go.Proofs.YtoidmmedpefjfaaGreatDoor
