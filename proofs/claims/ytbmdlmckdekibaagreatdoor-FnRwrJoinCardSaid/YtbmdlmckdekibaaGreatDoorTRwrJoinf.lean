/- The law that two streams go outside as one: at every two codes. Conditions: the codes lie in memory; the variables that are read hold what they are laid with. (Several texts, joined: LinesP, LwRwrJoin.) -/
import Derived.Test.YtbmdlmckdekibaaGreatDoorSemi
import Derived.Test.YtbmdlmckdekibaaGreatDoorDrawRS
import Derived.Test.YtbmdlmckdekibaaGreatDoorHaOk
import Derived.Test.YtbmdlmckdekibaaGreatDoorHaEnds
import Derived.Test.YtbmdlmckdekibaaGreatDoorTRwrJoine

/- Plain facts on lines and streams: beginnings, two texts one behind the other, what no line has. No program. No condition. -/
namespace Go.Proofs.YtbmdlmckdekibaaGreatDoor

theorem stl_noSemi (l : List UInt8) (x : List (List UInt8) × List UInt8) (h1 : ∀ y ∈ x.1, ∀ c ∈ y, c ≠ 59) (h2 : ∀ c ∈ x.2, c ≠ 59) :
    (∀ y ∈ (l.foldl stl x).1, ∀ c ∈ y, c ≠ 59) ∧ ∀ c ∈ (l.foldl stl x).2, c ≠ 59 := by
  induction l generalizing x with
  | nil => exact ⟨h1, h2⟩
  | cons c r ih =>
    rw [List.foldl_cons]
    by_cases hc : c = 59
    · have e : stl x c = (x.1 ++ [x.2], []) := by unfold stl; rw [if_pos hc]
      rw [e]
      exact ih _ (fun y hy => (List.mem_append.1 hy).elim (h1 y) (fun e => by simp at e; subst e; exact h2)) (by simp)
    · have e : stl x c = (x.1, x.2 ++ [c]) := by unfold stl; rw [if_neg hc]
      rw [e]
      exact ih _ h1 (fun d hd => (List.mem_append.1 hd).elim (h2 d) (fun e => by simp at e; subst e; exact hc))
/-- No line, and no rest, has the sign that ends a line. -/
theorem line_noSemi {l x : List UInt8} (h : x ∈ linesL l) : ∀ c ∈ x, c ≠ 59 := (stl_noSemi l ([], []) (by simp) (by simp)).1 x h
theorem rest_noSemi (l : List UInt8) : ∀ c ∈ restL l, c ≠ 59 := (stl_noSemi l ([], []) (by simp) (by simp)).2

theorem stl_prefix (l : List UInt8) (x : List (List UInt8) × List UInt8) : x.1 <+: (l.foldl stl x).1 := by
  induction l generalizing x with
  | nil => exact List.prefix_refl _
  | cons c r ih =>
    rw [List.foldl_cons]
    refine List.IsPrefix.trans ?_ (ih _)
    by_cases hc : c = 59
    · have e : stl x c = (x.1 ++ [x.2], []) := by unfold stl; rw [if_pos hc]
      rw [e]; exact List.prefix_append _ _
    · have e : stl x c = (x.1, x.2 ++ [c]) := by unfold stl; rw [if_neg hc]
      rw [e]; exact List.prefix_refl _
/-- What is behind the last sign begins the next line, or the rest. -/
theorem stl_rest (l : List UInt8) (x : List (List UInt8) × List UInt8) : ∃ z ∈ (l.foldl stl x).1 ++ [(l.foldl stl x).2], x.2 <+: z := by
  induction l generalizing x with
  | nil => exact ⟨x.2, by simp, List.prefix_refl _⟩
  | cons c r ih =>
    rw [List.foldl_cons]
    by_cases hc : c = 59
    · have e : stl x c = (x.1 ++ [x.2], []) := by unfold stl; rw [if_pos hc]
      rw [e]
      exact ⟨x.2, List.mem_append_left _ ((stl_prefix r (x.1 ++ [x.2], [])).subset (by simp)), List.prefix_refl _⟩
    · have e : stl x c = (x.1, x.2 ++ [c]) := by unfold stl; rw [if_neg hc]
      rw [e]
      obtain ⟨z, hz, hp⟩ := ih (x.1, x.2 ++ [c])
      exact ⟨z, hz, (List.prefix_append _ _).trans hp⟩
theorem linesF_app (a b : List UInt8) : linesF (a ++ b) = b.foldl stl (linesF a) := by unfold linesF; rw [List.foldl_append]
theorem lines_prefix (a b : List UInt8) : linesL a <+: linesL (a ++ b) := by
  show _ <+: (linesF (a ++ b)).1; rw [linesF_app]; exact stl_prefix b _
theorem lines_take (l : List UInt8) (k : Nat) : linesL (l.take k) <+: linesL l := by
  have := lines_prefix (l.take k) (l.drop k); rwa [List.take_append_drop] at this
/-- Two texts, the first of which ends with a sign, or is empty. -/
theorem lines_join {a : List UInt8} (b : List UInt8) (h : restL a = []) : linesL (a ++ b) = linesL a ++ linesL b ∧ restL (a ++ b) = restL b := by
  have e : linesF (a ++ b) = (linesL a ++ (linesF b).1, (linesF b).2) := by
    rw [linesF_app]
    have e1 : linesF a = (linesL a ++ [], []) := by rw [List.append_nil]; exact Prod.ext rfl h
    rw [e1, stl_shift]; rfl
  constructor
  · show (linesF _).1 = _; rw [e]; rfl
  · show (linesF _).2 = _; rw [e]; rfl
theorem lin_prefix {a b : List UInt8} (h : linB b = true) (hp : a <+: b) : linB a = true := by
  unfold linB at h ⊢
  rw [Bool.and_eq_true] at h ⊢
  obtain ⟨h1, h2⟩ := h
  have hl := hp.length_le
  simp only [decide_eq_true_eq] at h1 ⊢
  exact ⟨by omega, List.all_eq_true.2 fun c hc => List.all_eq_true.1 h2 c (hp.subset hc)⟩
theorem lin_take {l : List UInt8} (h : linB l = true) (k : Nat) : linB (l.take k) = true := lin_prefix h (List.take_prefix _ _)
theorem lin_noSemi {l : List UInt8} (h : linB l = true) : ∀ c ∈ l, c ≠ 59 := by
  intro c hc e
  unfold linB at h
  rw [Bool.and_eq_true] at h
  have := List.all_eq_true.1 h.2 c hc
  rw [e] at this; revert this; decide
theorem lin_semi (l : List UInt8) : linB (l ++ [59]) = false := by
  rcases h : linB (l ++ [59]) with _ | _
  · rfl
  · exact absurd rfl (lin_noSemi h 59 (by simp))
theorem lin_len {l : List UInt8} (h : linB l = true) : l.length ≤ 16 := by
  unfold linB at h; rw [Bool.and_eq_true] at h; simpa using h.1
theorem str_parts {l : List UInt8} (h : strB l = true) : l.length ≤ 120 ∧ (∀ x ∈ linesL l, linB x = true) ∧ linB (restL l) = true := by
  unfold strB at h
  rw [Bool.and_eq_true, Bool.and_eq_true] at h
  exact ⟨by simpa using h.1.1, List.all_eq_true.1 h.1.2, h.2⟩
theorem str_mk {l : List UInt8} (h1 : l.length ≤ 120) (h2 : ∀ x ∈ linesL l, linB x = true) (h3 : linB (restL l) = true) : strB l = true := by
  unfold strB; rw [decide_eq_true h1, List.all_eq_true.2 h2, h3]; rfl
/-- A beginning of a stream is a stream. -/
theorem str_prefix {a b : List UInt8} (h : strB (a ++ b) = true) : strB a = true := by
  obtain ⟨h1, h2, h3⟩ := str_parts h
  rw [List.length_append] at h1
  refine str_mk (by omega) (fun x hx => h2 x ((lines_prefix a b).subset hx)) ?_
  obtain ⟨z, hz, hp⟩ := stl_rest b (linesF a)
  rw [← linesF_app] at hz
  refine lin_prefix (b := z) ?_ hp
  rcases List.mem_append.1 hz with hz | hz
  · exact h2 z hz
  · simp at hz; subst hz; exact h3
theorem str_take {l : List UInt8} (h : strB l = true) (k : Nat) : strB (l.take k) = true := by
  have : strB (l.take k ++ l.drop k) = true := by rw [List.take_append_drop]; exact h
  exact str_prefix this

end Go.Proofs.YtbmdlmckdekibaaGreatDoor

/- The law that two streams go outside as one: at every two codes. Conditions: the codes lie in memory; the variables that are read hold what they are laid with. -/
namespace Go.Proofs.YtbmdlmckdekibaaGreatDoor
open Go.RowKit Go.Sort

theorem boxD {w w' : World} {b i : Nat} {v : Value} (h : w.cell? ⟨b, i, none⟩ = some v) (hb : Below w.heap.size w w') : w'.cell? ⟨b, i, none⟩ = some v := by
  rw [hb.cell (p := ⟨b, i, none⟩) (World.block_lt_of_cell? w _ h)]; exact h
theorem SmE.wfE {us : List (Int × Int)} (h : SmE us) : wfE us := fun x hx => (h x hx).wf
theorem strF_shift (ls : List (List UInt8)) (es : List (Int × Int)) (p : List UInt8) : ls.foldl strF (es, p) = ((ls.foldl strF (es, [])).1, p ++ (ls.foldl strF (es, [])).2) := by
  induction ls generalizing es p with
  | nil => simp
  | cons l r ih =>
    simp only [List.foldl_cons]
    rw [show strF (es, p) l = ((lineE es l).1, p ++ (lineE es l).2 ++ [59]) from rfl, show strF (es, []) l = ((lineE es l).1, [] ++ (lineE es l).2 ++ [59]) from rfl]
    rw [ih (lineE es l).1 (p ++ (lineE es l).2 ++ [59]), ih (lineE es l).1 ([] ++ (lineE es l).2 ++ [59])]
    simp
theorem streamE_join (es : List (Int × Int)) (xs ys : List (List UInt8)) : streamE es (xs ++ ys) = ((streamE (streamE es xs).1 ys).1, (streamE es xs).2 ++ (streamE (streamE es xs).1 ys).2) := by
  unfold streamE
  rw [List.foldl_append]
  obtain ⟨T1, T2⟩ := xs.foldl strF (es, [])
  exact strF_shift ys T1 T2
/-- Two streams, one behind the other, outside. -/
theorem strA_join {es : List (Int × Int)} {a b : List UInt8} (hm : mapB es = true) (ha : strB a = true) (hab : strB (a ++ b) = true) (hr : restL a = []) :
    strA es (a ++ b) = ((strA (strA es a).1 b).1, (strA es a).2 ++ (strA (strA es a).1 b).2) := by
  obtain ⟨hl, hrest⟩ := lines_join b hr
  obtain ⟨h1, h2, h3⟩ := str_parts hab
  have hb : strB b = true := str_mk (by rw [List.length_append] at h1; omega) (fun x hx => h2 x (by rw [hl]; exact List.mem_append_right _ hx)) (by rw [← hrest]; exact h3)
  have e1 : strA es a = streamE es (linesL a) := strA_yes (by rw [hm, ha]; rfl)
  have e2 : strA es (a ++ b) = streamE es (linesL a ++ linesL b) := by rw [← hl]; exact strA_yes (by rw [hm, hab]; rfl)
  have m1 : mapB (streamE es (linesL a)).1 = true := streamE_ok hm _
  have e3 : strA (streamE es (linesL a)).1 b = streamE (streamE es (linesL a)).1 (linesL b) := strA_yes (by rw [m1, hb]; rfl)
  rw [e1, e2, e3]
  exact streamE_join es _ _

set_option maxRecDepth 100000 in
set_option maxHeartbeats 12800000 in
theorem lwRwrJoin_of (ao : Option Addr) (n cap : Nat) (ao2 : Option Addr) (n2 cap2 : Nat) (w : World) (h : BytesIn w ao n) (hn : n ≤ cap) (h2 : BytesIn w ao2 n2) (hn2 : n2 ≤ cap2) (hv : VarsOk w) (hb1 : ¬ 1048576 < n) (hb2 : ¬ 1048576 < n2) :
    Calls Tryz.prog 4 #[.slice ao n cap, .slice ao2 n2 cap2] w fun e w' => e = .returned (.bool true) ∧ Below w.heap.size w w' := by
  have H := Lib.hid h
  have H2 := Lib.hid h2
  have HV : Hid (∀ w', Below w.heap.size w w' → VarsOk w') := fun w' h => hv.below h
  clear h h2 hv
  go_enter Tryz.func4, Tryz.ntmps4
  go_wp2_with fail
  (go_at_call 6; refine (drawRwrStream_any ao n cap _ H.out hn).mono ?_; rintro e w1 ⟨g1, k1, us, a, rfl, o1, ⟨u8, sm1⟩, has, b1⟩)
  have BW := Lib.hid b1
  have H21 := Lib.hid (H2.out.below b1)
  have Tt := Lib.hid o1.tab
  have WU := Lib.hid sm1.wfE
  have HA2 : Hid (∀ o, BytesIn (w1.alloc o) ao2 n2) := fun o => H21.out.below ((Below.refl _ _).alloc (Nat.le_refl _) o)
  clear b1 o1 H H2 sm1
  go_wp2_with fail
  obtain ⟨W1, hW1⟩ : ∃ W, W = (w1.alloc (.cells #[.slice g1 us.length k1] 25)) := ⟨_, rfl⟩
  have qW1 : Below w1.heap.size w1 W1 := by rw [hW1]; exact (Below.refl _ _).alloc (Nat.le_refl _) _
  have zW1 : w1.heap.size + 1 ≤ W1.heap.size := by rw [hW1]; simp
  have ct0 : W1.cell? ⟨w1.heap.size, 0, none⟩ = some (.slice g1 us.length k1) := by rw [hW1]; simp
  replace Tt := Lib.hid (Tt.out.below qW1)
  replace BW := Lib.hid (BW.out.trans (qW1.mono BW.out.size))
  have H2W : Hid (BytesIn W1 ao2 n2) := by rw [hW1]; exact HA2.out _
  rw [← hW1]
  obtain ⟨bt, hbt⟩ : ∃ b, b = w1.heap.size := ⟨_, rfl⟩
  have lt : bt < W1.heap.size := by omega
  rw [← hbt] at ct0 ⊢
  clear hbt hW1
  clear qW1 zW1
  (go_at_call 6; refine (drawRwrStream_any ao2 n2 cap2 _ H2W.out hn2).mono ?_; rintro e w2x ⟨g2, k2, vs, b, rfl, _, _, hbs, qb⟩)
  have zb := qb.size
  replace ct0 := boxD ct0 qb
  replace lt : bt < w2x.heap.size := by omega
  replace Tt := Lib.hid (Tt.out.below qb)
  replace BW := Lib.hid (BW.out.trans (qb.mono BW.out.size))
  clear qb zb
  clear H21 HA2 H2W
  have hxl := strA_le us a.data.toList
  have hq1 := strA_len us a.data.toList
  obtain ⟨xs, hxs⟩ : ∃ xs, xs = (strA us a.data.toList).1 := ⟨_, rfl⟩
  obtain ⟨Q1, hQ1⟩ : ∃ Q1 : ByteArray, Q1 = ⟨(strA us a.data.toList).2.toArray⟩ := ⟨_, rfl⟩
  have hQ1s : Q1.size ≤ 2097152 := by rw [hQ1]; simpa [ByteArray.size] using hq1
  rw [← hxs] at hxl
  have hyl := strA_le xs b.data.toList
  have hq2 := strA_len xs b.data.toList
  obtain ⟨ys, hys⟩ : ∃ ys, ys = (strA xs b.data.toList).1 := ⟨_, rfl⟩
  obtain ⟨Q2, hQ2⟩ : ∃ Q2 : ByteArray, Q2 = ⟨(strA xs b.data.toList).2.toArray⟩ := ⟨_, rfl⟩
  have hQ2s : Q2.size ≤ 2097152 := by rw [hQ2]; simpa [ByteArray.size] using hq2
  rw [← hys] at hyl
  obtain ⟨RS, hRS⟩ : ∃ RS : ByteArray, RS = ⟨(restL a.data.toList).toArray⟩ := ⟨_, rfl⟩
  obtain ⟨mb, hmb⟩ : ∃ mb, mb = mapB us := ⟨_, rfl⟩
  obtain ⟨sab, hsab⟩ : ∃ sab, sab = strB (a ++ b).data.toList := ⟨_, rfl⟩
  obtain ⟨sa, hsa⟩ : ∃ sa, sa = strB a.data.toList := ⟨_, rfl⟩
  have HIA : Hid (∀ w, TabAt w (.slice g1 us.length k1) us → VarsOk w → Calls Tryz.prog 10 #[.agg #[.slice g1 us.length k1], .string a] w fun e w' => ∃ g c, e = .returned (.tuple #[.agg #[.slice g xs.length c], .string (Q1)]) ∧ FreshTab w' w.heap.size (.slice g xs.length c) xs ∧ Below w.heap.size w w') := fun w ht hv => by rw [hxs, hQ1]; exact implStrA _ us a w (by omega) (by omega) WU.out ht hv
  have HSA : Hid (∀ w, TabAt w (.slice g1 us.length k1) us → Calls Tryz.prog 15 #[.agg #[.slice g1 us.length k1], .string a] w fun e w' => ∃ g c, e = .returned (.tuple #[.agg #[.slice g xs.length c], .string (Q1)]) ∧ FreshTab w' w.heap.size (.slice g xs.length c) xs ∧ Below w.heap.size w w') := fun w ht => by rw [hxs, hQ1]; exact specStrA _ us a w (by omega) (by omega) ht
  have HSL : Hid (∀ w, Calls Tryz.prog 16 #[.string a] w fun e w' => ∃ v, e = .returned (.tuple #[v, .string RS]) ∧ Below w.heap.size w w') := fun w => by
    rw [hRS]
    refine (specLines_any a w (by omega)).mono ?_
    rintro e w' ⟨v, rfl, _, hb⟩
    exact ⟨v, rfl, hb⟩
  have HMO : Hid (∀ w, TabAt w (.slice g1 us.length k1) us → Calls Tryz.prog 7 #[.agg #[.slice g1 us.length k1]] w fun e w' => e = .returned (.bool mb) ∧ Below w.heap.size w w') := fun w ht => by rw [hmb]; exact specMapOk_any _ us w (by omega) ht
  have hsz : (a ++ b).size ≤ 400 := by rw [ByteArray.size_append]; omega
  have HOB : Hid (∀ w, Calls Tryz.prog 8 #[.string (a ++ b)] w fun e w' => e = .returned (.bool sab) ∧ Below w.heap.size w w') := fun w => by rw [hsab]; exact specStr_any (a ++ b) w (by omega)
  have HOA : Hid (∀ w, Calls Tryz.prog 8 #[.string a] w fun e w' => e = .returned (.bool sa) ∧ Below w.heap.size w w') := fun w => by rw [hsa]; exact specStr_any a w (by omega)
  have HJ : Hid (mb = true → sab = true → sa = true → RS.toList.isEmpty = true → wfE xs ∧ strA us (a ++ b).data.toList = (ys, (Q1 ++ Q2).data.toList)) := fun e1 e2 e3 e4 => by
    have hdata : (a ++ b).data.toList = a.data.toList ++ b.data.toList := by simp
    rw [hmb] at e1
    rw [hsab, hdata] at e2
    rw [hsa] at e3
    have hr : restL a.data.toList = [] := by
      rw [hRS, Lib.toList_data] at e4
      simpa using e4
    have hj := strA_join e1 e3 e2 hr
    have e5 : strA us a.data.toList = streamE us (linesL a.data.toList) := strA_yes (by rw [e1, e3]; rfl)
    refine ⟨by rw [hxs, e5]; exact mapB_wf (streamE_ok e1 _), ?_⟩
    rw [hdata, hj, ← hxs, ← hys, hQ1, hQ2]
    simp
  have HIB : Hid (wfE xs → ∀ v w, TabAt w v xs → VarsOk w → Calls Tryz.prog 10 #[.agg #[v], .string b] w fun e w' => ∃ g c, e = .returned (.tuple #[.agg #[.slice g ys.length c], .string (Q2)]) ∧ FreshTab w' w.heap.size (.slice g ys.length c) ys ∧ Below w.heap.size w w') := fun hwf v w ht hv => by rw [hys, hQ2]; exact implStrA _ xs b w (by omega) (by omega) hwf ht hv
  have HIC : Hid (strA us (a ++ b).data.toList = (ys, (Q1 ++ Q2).data.toList) → ∀ w, TabAt w (.slice g1 us.length k1) us → VarsOk w → Calls Tryz.prog 10 #[.agg #[.slice g1 us.length k1], .string (a ++ b)] w fun e w' => ∃ g c, e = .returned (.tuple #[.agg #[.slice g ys.length c], .string (Q1 ++ Q2)]) ∧ FreshTab w' w.heap.size (.slice g ys.length c) ys ∧ Below w.heap.size w w') := fun hj w ht hv => by
    have := implStrA _ us (a ++ b) w (by omega) (by omega) WU.out ht hv
    rw [hj] at this
    exact this
  have HHE : Hid (∀ v1 v2 w, TabAt w v1 ys → TabAt w v2 ys → Calls Tryz.prog 11 #[v1, v2] w fun e w' => e = .returned (.bool true) ∧ Below w.heap.size w w') := fun v1 v2 w h1 h2 => haEnds_same ys v1 v2 w (by omega) h1 h2
  clear hxs hQ1 hys hQ2 hRS hmb hsab hsa hq1 hq2
  have at0 : ∀ o, (w2x.alloc o).cell? ⟨bt, 0, none⟩ = some (.slice g1 us.length k1) := fun o => by rw [cell_alloc_lt lt]; exact ct0
  go_wp2_with fail
  obtain ⟨W3, hW3⟩ : ∃ W, W = (w2x.alloc (.cells #[.slice g2 vs.length k2] 25)) := ⟨_, rfl⟩
  have qW3 : Below w2x.heap.size w2x W3 := by rw [hW3]; exact (Below.refl _ _).alloc (Nat.le_refl _) _
  have zW3 : w2x.heap.size + 1 ≤ W3.heap.size := by rw [hW3]; simp
  replace ct0 := boxD ct0 qW3
  replace lt : bt < W3.heap.size := by omega
  have cu0 : W3.cell? ⟨w2x.heap.size, 0, none⟩ = some (.slice g2 vs.length k2) := by rw [hW3]; simp
  replace Tt := Lib.hid (Tt.out.below qW3)
  replace BW := Lib.hid (BW.out.trans (qW3.mono BW.out.size))
  rw [← hW3]
  obtain ⟨bu, hbu⟩ : ∃ b, b = w2x.heap.size := ⟨_, rfl⟩
  have lu : bu < W3.heap.size := by omega
  rw [← hbu] at cu0 ⊢
  clear hbu hW3
  clear at0
  clear qW3 zW3
  (go_at_call 10; refine (HIA.out _ Tt.out (HV.out _ BW.out)).mono ?_; rintro e w4x ⟨g3, k3, rfl, f3, qb⟩)
  have zb := qb.size
  replace ct0 := boxD ct0 qb
  replace lt : bt < w4x.heap.size := by omega
  replace cu0 := boxD cu0 qb
  replace lu : bu < w4x.heap.size := by omega
  replace Tt := Lib.hid (Tt.out.below qb)
  replace BW := Lib.hid (BW.out.trans (qb.mono BW.out.size))
  clear qb zb
  have Tx := Lib.hid f3.tab
  clear f3
  have at0 : ∀ o, (w4x.alloc o).cell? ⟨bt, 0, none⟩ = some (.slice g1 us.length k1) := fun o => by rw [cell_alloc_lt lt]; exact ct0
  have au0 : ∀ o, (w4x.alloc o).cell? ⟨bu, 0, none⟩ = some (.slice g2 vs.length k2) := fun o => by rw [cell_alloc_lt lu]; exact cu0
  go_wp2_with fail
  obtain ⟨W5, hW5⟩ : ∃ W, W = (w4x.alloc (.cells #[.slice g3 xs.length k3] 25)) := ⟨_, rfl⟩
  have qW5 : Below w4x.heap.size w4x W5 := by rw [hW5]; exact (Below.refl _ _).alloc (Nat.le_refl _) _
  have zW5 : w4x.heap.size + 1 ≤ W5.heap.size := by rw [hW5]; simp
  replace ct0 := boxD ct0 qW5
  replace lt : bt < W5.heap.size := by omega
  replace cu0 := boxD cu0 qW5
  replace lu : bu < W5.heap.size := by omega
  have cx0 : W5.cell? ⟨w4x.heap.size, 0, none⟩ = some (.slice g3 xs.length k3) := by rw [hW5]; simp
  replace Tt := Lib.hid (Tt.out.below qW5)
  replace Tx := Lib.hid (Tx.out.below qW5)
  replace BW := Lib.hid (BW.out.trans (qW5.mono BW.out.size))
  rw [← hW5]
  obtain ⟨bx, hbx⟩ : ∃ b, b = w4x.heap.size := ⟨_, rfl⟩
  have lx : bx < W5.heap.size := by omega
  rw [← hbx] at cx0 ⊢
  clear hbx hW5
  clear at0 au0
  clear qW5 zW5
  (go_at_call 15; refine (HSA.out _ Tt.out).mono ?_; rintro e w6x ⟨g4, k4, rfl, _, qb⟩)
  have zb := qb.size
  replace ct0 := boxD ct0 qb
  replace lt : bt < w6x.heap.size := by omega
  replace cu0 := boxD cu0 qb
  replace lu : bu < w6x.heap.size := by omega
  replace cx0 := boxD cx0 qb
  replace lx : bx < w6x.heap.size := by omega
  replace Tt := Lib.hid (Tt.out.below qb)
  replace Tx := Lib.hid (Tx.out.below qb)
  replace BW := Lib.hid (BW.out.trans (qb.mono BW.out.size))
  clear qb zb
  have at0 : ∀ o, (w6x.alloc o).cell? ⟨bt, 0, none⟩ = some (.slice g1 us.length k1) := fun o => by rw [cell_alloc_lt lt]; exact ct0
  have au0 : ∀ o, (w6x.alloc o).cell? ⟨bu, 0, none⟩ = some (.slice g2 vs.length k2) := fun o => by rw [cell_alloc_lt lu]; exact cu0
  have ax0 : ∀ o, (w6x.alloc o).cell? ⟨bx, 0, none⟩ = some (.slice g3 xs.length k3) := fun o => by rw [cell_alloc_lt lx]; exact cx0
  go_wp2_with fail
  obtain ⟨W7, hW7⟩ : ∃ W, W = (w6x.alloc (.cells #[.slice g4 xs.length k4] 25)) := ⟨_, rfl⟩
  have qW7 : Below w6x.heap.size w6x W7 := by rw [hW7]; exact (Below.refl _ _).alloc (Nat.le_refl _) _
  have zW7 : w6x.heap.size + 1 ≤ W7.heap.size := by rw [hW7]; simp
  replace ct0 := boxD ct0 qW7
  replace lt : bt < W7.heap.size := by omega
  replace cu0 := boxD cu0 qW7
  replace lu : bu < W7.heap.size := by omega
  replace cx0 := boxD cx0 qW7
  replace lx : bx < W7.heap.size := by omega
  have cc0 : W7.cell? ⟨w6x.heap.size, 0, none⟩ = some (.slice g4 xs.length k4) := by rw [hW7]; simp
  replace Tt := Lib.hid (Tt.out.below qW7)
  replace Tx := Lib.hid (Tx.out.below qW7)
  replace BW := Lib.hid (BW.out.trans (qW7.mono BW.out.size))
  rw [← hW7]
  obtain ⟨bc, hbc⟩ : ∃ b, b = w6x.heap.size := ⟨_, rfl⟩
  have lc : bc < W7.heap.size := by omega
  rw [← hbc] at cc0 ⊢
  clear hbc hW7
  clear at0 au0 ax0
  clear qW7 zW7
  (go_at_call 16; refine (HSL.out _).mono ?_; rintro e w8x ⟨vl, rfl, qb⟩)
  have zb := qb.size
  replace ct0 := boxD ct0 qb
  replace lt : bt < w8x.heap.size := by omega
  replace cu0 := boxD cu0 qb
  replace lu : bu < w8x.heap.size := by omega
  replace cx0 := boxD cx0 qb
  replace lx : bx < w8x.heap.size := by omega
  replace cc0 := boxD cc0 qb
  replace lc : bc < w8x.heap.size := by omega
  replace Tt := Lib.hid (Tt.out.below qb)
  replace Tx := Lib.hid (Tx.out.below qb)
  replace BW := Lib.hid (BW.out.trans (qb.mono BW.out.size))
  clear qb zb
  go_wp2_with fail
  (go_at_call 7; refine (HMO.out _ Tt.out).mono ?_; rintro e w9x ⟨rfl, qb⟩)
  have zb := qb.size
  replace ct0 := boxD ct0 qb
  replace lt : bt < w9x.heap.size := by omega
  replace cu0 := boxD cu0 qb
  replace lu : bu < w9x.heap.size := by omega
  replace cx0 := boxD cx0 qb
  replace lx : bx < w9x.heap.size := by omega
  replace cc0 := boxD cc0 qb
  replace lc : bc < w9x.heap.size := by omega
  replace Tt := Lib.hid (Tt.out.below qb)
  replace Tx := Lib.hid (Tx.out.below qb)
  replace BW := Lib.hid (BW.out.trans (qb.mono BW.out.size))
  clear qb zb
  cases mb
  · clear HJ
    go_wp2_with fail
    (go_at_call 9; refine (haOk_any _).mono ?_; rintro e wl ⟨rfl, rfl⟩)
    go_wp2_with fail
    go_ret
    exact ⟨rfl, BW.out⟩
  · go_wp2_with fail
    (go_at_call 8; refine (HOB.out _).mono ?_; rintro e w10x ⟨rfl, qb⟩)
    have zb := qb.size
    replace ct0 := boxD ct0 qb
    replace lt : bt < w10x.heap.size := by omega
    replace cu0 := boxD cu0 qb
    replace lu : bu < w10x.heap.size := by omega
    replace cx0 := boxD cx0 qb
    replace lx : bx < w10x.heap.size := by omega
    replace cc0 := boxD cc0 qb
    replace lc : bc < w10x.heap.size := by omega
    replace Tt := Lib.hid (Tt.out.below qb)
    replace Tx := Lib.hid (Tx.out.below qb)
    replace BW := Lib.hid (BW.out.trans (qb.mono BW.out.size))
    clear qb zb
    cases sab
    · clear HJ
      go_wp2_with fail
      (go_at_call 9; refine (haOk_any _).mono ?_; rintro e wl ⟨rfl, rfl⟩)
      go_wp2_with fail
      go_ret
      exact ⟨rfl, BW.out⟩
    · go_wp2_with fail
      (go_at_call 8; refine (HOA.out _).mono ?_; rintro e w11x ⟨rfl, qb⟩)
      have zb := qb.size
      replace ct0 := boxD ct0 qb
      replace lt : bt < w11x.heap.size := by omega
      replace cu0 := boxD cu0 qb
      replace lu : bu < w11x.heap.size := by omega
      replace cx0 := boxD cx0 qb
      replace lx : bx < w11x.heap.size := by omega
      replace cc0 := boxD cc0 qb
      replace lc : bc < w11x.heap.size := by omega
      replace Tt := Lib.hid (Tt.out.below qb)
      replace Tx := Lib.hid (Tx.out.below qb)
      replace BW := Lib.hid (BW.out.trans (qb.mono BW.out.size))
      clear qb zb
      cases sa
      · clear HJ
        go_wp2_with fail
        (go_at_call 9; refine (haOk_any _).mono ?_; rintro e wl ⟨rfl, rfl⟩)
        go_wp2_with fail
        go_ret
        exact ⟨rfl, BW.out⟩
      · by_cases hre : RS.toList.isEmpty = true
        · obtain ⟨hwx, hj⟩ := HJ.out (by simp) (by simp) (by simp) hre
          have HWX := Lib.hid hwx
          have HJJ := Lib.hid hj
          clear hwx hj HJ
          go_wp2_with fail
          (go_at_call 10; refine (HIB.out HWX.out _ _ Tx.out (HV.out _ BW.out)).mono ?_; rintro e w12x ⟨g5, k5, rfl, f5, qb⟩)
          have zb := qb.size
          replace ct0 := boxD ct0 qb
          replace lt : bt < w12x.heap.size := by omega
          replace cu0 := boxD cu0 qb
          replace lu : bu < w12x.heap.size := by omega
          replace cx0 := boxD cx0 qb
          replace lx : bx < w12x.heap.size := by omega
          replace cc0 := boxD cc0 qb
          replace lc : bc < w12x.heap.size := by omega
          replace Tt := Lib.hid (Tt.out.below qb)
          replace Tx := Lib.hid (Tx.out.below qb)
          replace BW := Lib.hid (BW.out.trans (qb.mono BW.out.size))
          clear qb zb
          have Ty := Lib.hid f5.tab
          clear f5
          have at0 : ∀ o, (w12x.alloc o).cell? ⟨bt, 0, none⟩ = some (.slice g1 us.length k1) := fun o => by rw [cell_alloc_lt lt]; exact ct0
          have au0 : ∀ o, (w12x.alloc o).cell? ⟨bu, 0, none⟩ = some (.slice g2 vs.length k2) := fun o => by rw [cell_alloc_lt lu]; exact cu0
          have ax0 : ∀ o, (w12x.alloc o).cell? ⟨bx, 0, none⟩ = some (.slice g3 xs.length k3) := fun o => by rw [cell_alloc_lt lx]; exact cx0
          have ac0 : ∀ o, (w12x.alloc o).cell? ⟨bc, 0, none⟩ = some (.slice g4 xs.length k4) := fun o => by rw [cell_alloc_lt lc]; exact cc0
          go_wp2_with fail
          obtain ⟨W13, hW13⟩ : ∃ W, W = (w12x.alloc (.cells #[.slice g5 ys.length k5] 25)) := ⟨_, rfl⟩
          have qW13 : Below w12x.heap.size w12x W13 := by rw [hW13]; exact (Below.refl _ _).alloc (Nat.le_refl _) _
          have zW13 : w12x.heap.size + 1 ≤ W13.heap.size := by rw [hW13]; simp
          replace ct0 := boxD ct0 qW13
          replace lt : bt < W13.heap.size := by omega
          replace cu0 := boxD cu0 qW13
          replace lu : bu < W13.heap.size := by omega
          replace cx0 := boxD cx0 qW13
          replace lx : bx < W13.heap.size := by omega
          replace cc0 := boxD cc0 qW13
          replace lc : bc < W13.heap.size := by omega
          have cv0 : W13.cell? ⟨w12x.heap.size, 0, none⟩ = some (.slice g5 ys.length k5) := by rw [hW13]; simp
          replace Tt := Lib.hid (Tt.out.below qW13)
          replace Tx := Lib.hid (Tx.out.below qW13)
          replace Ty := Lib.hid (Ty.out.below qW13)
          replace BW := Lib.hid (BW.out.trans (qW13.mono BW.out.size))
          rw [← hW13]
          obtain ⟨bv, hbv⟩ : ∃ b, b = w12x.heap.size := ⟨_, rfl⟩
          have lv : bv < W13.heap.size := by omega
          rw [← hbv] at cv0 ⊢
          clear hbv hW13
          clear at0 au0 ax0 ac0
          clear qW13 zW13
          (go_at_call 10; refine (HIC.out HJJ.out _ Tt.out (HV.out _ BW.out)).mono ?_; rintro e w14x ⟨g6, k6, rfl, f6, qb⟩)
          have zb := qb.size
          replace ct0 := boxD ct0 qb
          replace lt : bt < w14x.heap.size := by omega
          replace cu0 := boxD cu0 qb
          replace lu : bu < w14x.heap.size := by omega
          replace cx0 := boxD cx0 qb
          replace lx : bx < w14x.heap.size := by omega
          replace cc0 := boxD cc0 qb
          replace lc : bc < w14x.heap.size := by omega
          replace cv0 := boxD cv0 qb
          replace lv : bv < w14x.heap.size := by omega
          replace Tt := Lib.hid (Tt.out.below qb)
          replace Tx := Lib.hid (Tx.out.below qb)
          replace Ty := Lib.hid (Ty.out.below qb)
          replace BW := Lib.hid (BW.out.trans (qb.mono BW.out.size))
          clear qb zb
          have Tz := Lib.hid f6.tab
          clear f6
          have at0 : ∀ o, (w14x.alloc o).cell? ⟨bt, 0, none⟩ = some (.slice g1 us.length k1) := fun o => by rw [cell_alloc_lt lt]; exact ct0
          have au0 : ∀ o, (w14x.alloc o).cell? ⟨bu, 0, none⟩ = some (.slice g2 vs.length k2) := fun o => by rw [cell_alloc_lt lu]; exact cu0
          have ax0 : ∀ o, (w14x.alloc o).cell? ⟨bx, 0, none⟩ = some (.slice g3 xs.length k3) := fun o => by rw [cell_alloc_lt lx]; exact cx0
          have ac0 : ∀ o, (w14x.alloc o).cell? ⟨bc, 0, none⟩ = some (.slice g4 xs.length k4) := fun o => by rw [cell_alloc_lt lc]; exact cc0
          have av0 : ∀ o, (w14x.alloc o).cell? ⟨bv, 0, none⟩ = some (.slice g5 ys.length k5) := fun o => by rw [cell_alloc_lt lv]; exact cv0
          go_wp2_with fail
          obtain ⟨W15, hW15⟩ : ∃ W, W = (w14x.alloc (.cells #[.slice g6 ys.length k6] 25)) := ⟨_, rfl⟩
          have qW15 : Below w14x.heap.size w14x W15 := by rw [hW15]; exact (Below.refl _ _).alloc (Nat.le_refl _) _
          have zW15 : w14x.heap.size + 1 ≤ W15.heap.size := by rw [hW15]; simp
          replace ct0 := boxD ct0 qW15
          replace lt : bt < W15.heap.size := by omega
          replace cu0 := boxD cu0 qW15
          replace lu : bu < W15.heap.size := by omega
          replace cx0 := boxD cx0 qW15
          replace lx : bx < W15.heap.size := by omega
          replace cc0 := boxD cc0 qW15
          replace lc : bc < W15.heap.size := by omega
          replace cv0 := boxD cv0 qW15
          replace lv : bv < W15.heap.size := by omega
          have cz0 : W15.cell? ⟨w14x.heap.size, 0, none⟩ = some (.slice g6 ys.length k6) := by rw [hW15]; simp
          replace Tt := Lib.hid (Tt.out.below qW15)
          replace Tx := Lib.hid (Tx.out.below qW15)
          replace Ty := Lib.hid (Ty.out.below qW15)
          replace Tz := Lib.hid (Tz.out.below qW15)
          replace BW := Lib.hid (BW.out.trans (qW15.mono BW.out.size))
          rw [← hW15]
          obtain ⟨bz, hbz⟩ : ∃ b, b = w14x.heap.size := ⟨_, rfl⟩
          have lz : bz < W15.heap.size := by omega
          rw [← hbz] at cz0 ⊢
          clear hbz hW15
          clear at0 au0 ax0 ac0 av0
          clear qW15 zW15
          (go_at_call 11; refine (HHE.out _ _ _ Tz.out Ty.out).mono ?_; rintro e wl ⟨rfl, bl⟩)
          go_wp2_with fail
          go_ret
          exact ⟨by simp, BW.out.trans (bl.mono BW.out.size)⟩
        · have hre' : RS.toList.isEmpty = false := by simpa using hre
          clear hre
          clear HJ
          go_wp2_with fail
          (go_at_call 9; refine (haOk_any _).mono ?_; rintro e wl ⟨rfl, rfl⟩)
          go_wp2_with fail
          go_ret
          exact ⟨rfl, BW.out⟩

set_option maxRecDepth 100000 in
set_option maxHeartbeats 800000 in
theorem lwRwrJoin_any (ao : Option Addr) (n cap : Nat) (ao2 : Option Addr) (n2 cap2 : Nat) (w : World) (h : BytesIn w ao n) (hn : n ≤ cap) (h2 : BytesIn w ao2 n2) (hn2 : n2 ≤ cap2) (hv : VarsOk w) :
    Calls Tryz.prog 4 #[.slice ao n cap, .slice ao2 n2 cap2] w fun e w' => e = .returned (.bool true) ∧ Below w.heap.size w w' := by
  by_cases hb1 : 1048576 < n
  · clear h h2 hv
    go_enter Tryz.func4, Tryz.ntmps4
    go_wp2_with fail
    go_ret
    exact ⟨rfl, Below.refl _ _⟩
  · by_cases hb2 : 1048576 < n2
    · clear h h2 hv
      go_enter Tryz.func4, Tryz.ntmps4
      go_wp2_with fail
      go_ret
      exact ⟨rfl, Below.refl _ _⟩
    · exact lwRwrJoin_of ao n cap ao2 n2 cap2 w h hn h2 hn2 hv hb1 hb2

end Go.Proofs.YtbmdlmckdekibaaGreatDoor
