/- The law that what goes inside names who has the port: at every code. Conditions: the code lies in memory; the variables that are read hold what they are laid with. (Several texts, joined: IBak, Semi, LinesP, PortP, MapP, BakP, IMapE, LwBakLine.) -/
import Derived.Test.YtoidmmedpefjfaaGreatDoorIPorts
import Derived.Test.YtoidmmedpefjfaaGreatDoorIMapO
import Derived.Test.YtoidmmedpefjfaaGreatDoorISays
import Derived.Test.YtoidmmedpefjfaaGreatDoorILin
import Derived.Test.YtoidmmedpefjfaaGreatDoorSBak
import Derived.Test.YtoidmmedpefjfaaGreatDoorLines
import Derived.Lib.LastIndexByte
import Derived.Lib.CutLaws
import Derived.Test.YtoidmmedpefjfaaGreatDoorSSays
import Derived.Test.YtoidmmedpefjfaaGreatDoorVals
import Derived.Deep.RegionWith
import Derived.Test.YtoidmmedpefjfaaGreatDoorDrawBL
import Derived.Test.YtoidmmedpefjfaaGreatDoorHaOk
import Derived.Test.YtoidmmedpefjfaaGreatDoorSPuts

/- BakLine of the program: as the specification's, of every table and text. Conditions: at most 2^22 ends, all numbers ints; the text has at most 2^21 bytes; the variables that are read hold what they are laid with. -/
namespace Go.Proofs.YtoidmmedpefjfaaGreatDoor
open Go.RowKit Go.Sort

theorem box_port {l : List UInt8} {p : Int} (h : boxE l = some p) : 1 ≤ p ∧ p ≤ 999 := by
  unfold boxE at h
  split at h
  · split at h
    · rename_i a q hr
      split at h
      · rename_i ha
        subst ha
        obtain rfl : q = p := by simpa using h
        have he := (rdE_some hr).2
        simp [endB, insB, outB, boxB, inB] at he
        omega
      · cases h
    · cases h
  · cases h

set_option maxRecDepth 100000 in
set_option maxHeartbeats 1600000 in
theorem lineInside_any (g1 g2 : Nat) (es : List (Int × Int)) (s : ByteArray) (w : World) (hs : s.size ≤ 2097152) (hb : Both w g1 g2 es) (hv : VarsOk w) (htb : TabOk w) :
    Calls Tryz.prog 85 #[.agg #[.map (some g1), .map (some g2)], .string s] w fun e w' => e = .returned (.string ⟨(backE es s.data.toList).toArray⟩) ∧ Below w.heap.size w w' := by
  have HBo : Hid (∀ w', Below w.heap.size w w' → Both w' g1 g2 es) := fun w' h => hb.later h
  have HV := Lib.hid hv
  have HTb : Hid (∀ w', Below w.heap.size w w' → TabOk w') := fun w' h => htb.below h (Nat.le_refl _)
  clear hb hv htb
  rcases hx : boxE s.data.toList with _ | p
  · have HB : Hid (∀ w, VarsOk w → Calls Tryz.prog 44 #[.string s] w fun e w' => e = .returned (.tuple #[.int .i64 0, .bool false]) ∧ Below w.heap.size w w') := fun w hv => by have := implBox_any s w hs hv; rw [hx] at this; exact this
    have HE : Hid (backE es s.data.toList = s.data.toList) := by show backE _ _ = _; unfold backE; rw [hx]
    clear hx
    go_enter Tryz.func85, Tryz.ntmps85
    go_wp2_with fail
    (go_at_call 44; refine (HB.out _ (HV.out.below ((Below.refl _ _).alloc (Nat.le_refl _) _))).mono ?_; rintro e w1 ⟨rfl, b1⟩)
    go_wp2_with fail
    go_ret
    exact ⟨by rw [HE.out, str_same]; rfl, ((Below.refl _ _).alloc (Nat.le_refl _) _).trans (b1.mono (by simp))⟩
  · have hp := box_port hx
    have wn : (Lit.int .i64 p).wf = true := WalkArith.wf_i64 (by omega)
    have HB : Hid (∀ w, VarsOk w → Calls Tryz.prog 44 #[.string s] w fun e w' => e = .returned (.tuple #[.int .i64 p, .bool true]) ∧ Below w.heap.size w w') := fun w hv => by have := implBox_any s w hs hv; rw [hx] at this; exact this
    rcases hi : endI es p with _ | ⟨a, q⟩
    · have HE : Hid (backE es s.data.toList = s.data.toList) := by show backE _ _ = _; unfold backE; rw [hx]; simp only [hi]
      have HM : Hid (∀ w, Both w g1 g2 es → Calls Tryz.prog 88 #[.agg #[.map (some g1), .map (some g2)], .int .i64 p] w fun e w' => e = .returned (.tuple #[.agg #[.int .i64 0, .int .i64 0], .bool false]) ∧ Below w.heap.size w w') := fun w h => by have := key_any g1 g2 es p w h wn; rw [hi] at this; exact this
      clear hx hi hp wn
      go_enter Tryz.func85, Tryz.ntmps85
      go_wp2_with fail
      (go_at_call 44; refine (HB.out _ (HV.out.below ((Below.refl _ _).alloc (Nat.le_refl _) _))).mono ?_; rintro e w1 ⟨rfl, b1⟩; have B1 : Hid (Below w.heap.size w w1) := ((Below.refl _ _).alloc (Nat.le_refl _) _).trans (b1.mono (by simp)); have t0 : w1.cell? ⟨w.heap.size, 0, none⟩ = some (.map (some g1)) := (by rw [b1.cell (by simp)]; simp); have t1 : w1.cell? ⟨w.heap.size, 1, none⟩ = some (.map (some g2)) := (by rw [b1.cell (by simp)]; simp); clear b1)
      go_wp2_with fail
      (go_at_call 88; refine (HM.out _ (HBo.out _ B1.out)).mono ?_; rintro e w2 ⟨rfl, b2⟩; have B2 : Hid (Below w.heap.size w w2) := B1.out.trans (b2.mono B1.out.size); clear b2)
      go_wp2_with fail
      go_ret
      exact ⟨by rw [HE.out, str_same]; rfl, B2.out.alloc B2.out.size _⟩
    · have HE : Hid (backE es s.data.toList = lpL a q) := by show backE _ _ = _; unfold backE; rw [hx]; simp only [hi]
      have HM : Hid (∀ w, Both w g1 g2 es → Calls Tryz.prog 88 #[.agg #[.map (some g1), .map (some g2)], .int .i64 p] w fun e w' => e = .returned (.tuple #[.agg #[.int .i64 a, .int .i64 q], .bool true]) ∧ Below w.heap.size w w') := fun w h => by have := key_any g1 g2 es p w h wn; rw [hi] at this; exact this
      clear hx hi hp wn
      go_enter Tryz.func85, Tryz.ntmps85
      go_wp2_with fail
      (go_at_call 44; refine (HB.out _ (HV.out.below ((Below.refl _ _).alloc (Nat.le_refl _) _))).mono ?_; rintro e w1 ⟨rfl, b1⟩; have B1 : Hid (Below w.heap.size w w1) := ((Below.refl _ _).alloc (Nat.le_refl _) _).trans (b1.mono (by simp)); have t0 : w1.cell? ⟨w.heap.size, 0, none⟩ = some (.map (some g1)) := (by rw [b1.cell (by simp)]; simp); have t1 : w1.cell? ⟨w.heap.size, 1, none⟩ = some (.map (some g2)) := (by rw [b1.cell (by simp)]; simp); clear b1)
      go_wp2_with fail
      (go_at_call 88; refine (HM.out _ (HBo.out _ B1.out)).mono ?_; rintro e w2 ⟨rfl, b2⟩; have B2 : Hid (Below w.heap.size w w2) := B1.out.trans (b2.mono B1.out.size); clear b2)
      have B3 := Lib.hid (B2.out.alloc B2.out.size (.cells #[.int .i64 a, .int .i64 q] 34))
      go_wp2_with fail
      (go_at_call 25; refine (implLinPort_any a q _ (HTb.out _ B3.out)).mono ?_; rintro e w3 ⟨rfl, b3⟩)
      go_wp2_with fail
      go_ret
      exact ⟨by rw [HE.out]; rfl, B3.out.trans (b3.mono B3.out.size)⟩

set_option maxRecDepth 100000 in
set_option maxHeartbeats 1600000 in
theorem implBakLine_any (v : Value) (es : List (Int × Int)) (s : ByteArray) (w : World) (hn : es.length ≤ 4194304) (hs : s.size ≤ 2097152) (hwf : wfE es) (ht : TabAt w v es) (hv : VarsOk w) (htb : TabOk w) :
    Calls Tryz.prog 42 #[.agg #[v], .string s] w fun e w' => e = .returned (.string ⟨(bakE es s.data.toList).toArray⟩) ∧ Below w.heap.size w w' := by
  have HT := Lib.hid ht
  obtain ⟨ad, cap, rfl, _, _⟩ := ht
  have HV : Hid (∀ w', Below w.heap.size w w' → VarsOk w' ∧ TabOk w') := fun w' h => ⟨hv.below h, htb.below h (Nat.le_refl _)⟩
  clear hv htb
  by_cases hm : mapB es = true
  · have hM : Hid (∀ w, TabAt w (.slice ad es.length cap) es → Calls Tryz.prog 21 #[.agg #[.slice ad es.length cap]] w fun e w' => e = .returned (.bool true) ∧ Below w.heap.size w w') := fun w h => by rw [← hm]; exact implMapOk_any _ es w hn hwf h
    by_cases hl : linB s.data.toList = true
    · have hL : Hid (∀ w, Calls Tryz.prog 23 #[.string s] w fun e w' => e = .returned (.bool true) ∧ w = w') := fun w => by rw [← hl]; exact implLin_any s w (by omega)
      have HP : Hid (∀ w, TabAt w (.slice ad es.length cap) es → Calls Tryz.prog 51 #[.agg #[.slice ad es.length cap]] w fun e w' => ∃ g1 g2, e = .returned (.agg #[.map (some g1), .map (some g2)]) ∧ w.heap.size ≤ g1 ∧ w.heap.size ≤ g2 ∧ Both w' g1 g2 es ∧ Below w.heap.size w w') := fun w h => portsOf_any _ es w hn hwf h
      have HI : Hid (∀ g1 g2 w, Both w g1 g2 es → VarsOk w → TabOk w → Calls Tryz.prog 85 #[.agg #[.map (some g1), .map (some g2)], .string s] w fun e w' => e = .returned (.string ⟨(bakE es s.data.toList).toArray⟩) ∧ Below w.heap.size w w') := fun g1 g2 w h1 h2 h3 => by
        rw [show bakE es s.data.toList = backE es s.data.toList from if_pos ⟨hm, hl⟩]
        exact lineInside_any g1 g2 es s w hs h1 h2 h3
      obtain ⟨x, hx⟩ : ∃ x, x = (bakE es s.data.toList).toArray := ⟨_, rfl⟩
      rw [← hx] at HI ⊢
      clear hm hl hwf hx hn
      go_enter Tryz.func42, Tryz.ntmps42
      go_wp2_with (first
        | (go_at_call 21; refine (hM.out _ (HT.out.below ((Below.refl _ _).alloc (Nat.le_refl _) _))).mono ?_; rintro e w1 ⟨rfl, b1⟩; have B1 : Hid (Below w.heap.size w w1) := ((Below.refl _ _).alloc (Nat.le_refl _) _).trans (b1.mono (by simp)); have t0 : w1.cell? ⟨w.heap.size, 0, none⟩ = some (.slice ad es.length cap) := (by rw [b1.cell (by simp)]; simp); clear b1)
        | (go_at_call 23; refine (hL.out _).mono ?_; rintro e w2 ⟨rfl, rfl⟩)
        | (go_at_call 51; refine (HP.out _ (HT.out.below B1.out)).mono ?_; rintro e w3 ⟨g1, g2, rfl, _, _, hb, b3⟩; have HB := Lib.hid hb; have B3 : Hid (Below w.heap.size w w3) := B1.out.trans (b3.mono B1.out.size); clear b3 hb)
        | (go_at_call 85; refine (HI.out _ _ _ HB.out (HV.out _ B3.out).1 (HV.out _ B3.out).2).mono ?_; rintro e w4 ⟨rfl, b4⟩; have B4 : Hid (Below w.heap.size w w4) := B3.out.trans (b4.mono B3.out.size)))
      go_ret
      exact ⟨rfl, B4.out⟩
    · have hl' : linB s.data.toList = false := by simpa using hl
      have hL : Hid (∀ w, Calls Tryz.prog 23 #[.string s] w fun e w' => e = .returned (.bool false) ∧ w = w') := fun w => by rw [← hl']; exact implLin_any s w (by omega)
      rw [show bakE es s.data.toList = [] from if_neg (fun h => hl h.2)]
      clear hm hl hl' hwf HV
      go_enter Tryz.func42, Tryz.ntmps42
      go_wp2_with (first
        | (go_at_call 21; refine (hM.out _ (HT.out.below ((Below.refl _ _).alloc (Nat.le_refl _) _))).mono ?_; rintro e w1 ⟨rfl, b1⟩; have B1 : Hid (Below w.heap.size w w1) := ((Below.refl _ _).alloc (Nat.le_refl _) _).trans (b1.mono (by simp)); clear b1)
        | (go_at_call 23; refine (hL.out _).mono ?_; rintro e w2 ⟨rfl, rfl⟩))
      go_ret
      exact ⟨rfl, B1.out⟩
  · have hm' : mapB es = false := by simpa using hm
    have hM : Hid (∀ w, TabAt w (.slice ad es.length cap) es → Calls Tryz.prog 21 #[.agg #[.slice ad es.length cap]] w fun e w' => e = .returned (.bool false) ∧ Below w.heap.size w w') := fun w h => by rw [← hm']; exact implMapOk_any _ es w hn hwf h
    rw [show bakE es s.data.toList = [] from if_neg (fun h => hm h.1)]
    clear hm hm' hwf HV
    go_enter Tryz.func42, Tryz.ntmps42
    go_wp2_with (go_at_call 21; refine (hM.out _ (HT.out.below ((Below.refl _ _).alloc (Nat.le_refl _) _))).mono ?_; rintro e w1 ⟨rfl, b1⟩)
    go_ret
    exact ⟨rfl, ((Below.refl _ _).alloc (Nat.le_refl _) _).trans (b1.mono (by simp))⟩

end Go.Proofs.YtoidmmedpefjfaaGreatDoor

/- Plain facts: a text's lines are those that are cut off one by one at the sign that ends a line; what is behind the last such sign. No program. No condition. -/
namespace Go.Proofs.YtoidmmedpefjfaaGreatDoor

theorem indexK_none {b0 : UInt8} {l : List UInt8} (h : Lib.index l [b0] < 0) : ∀ c ∈ l, c ≠ b0 := by
  induction l with
  | nil => simp
  | cons b r ih =>
    unfold Lib.index at h
    intro c hc
    split at h
    · omega
    · rename_i hb
      have hb' : b ≠ b0 := by
        intro e; subst e; simp at hb
      have hge := Lib.index_ge r [b0]
      split at h
      · rename_i h2
        have h2' : Lib.index r [b0] = -1 := by simpa using h2
        rcases List.mem_cons.1 hc with rfl | hc
        · exact hb'
        · exact ih (by omega) c hc
      · rename_i h2
        have h2' : Lib.index r [b0] ≠ -1 := by simpa using h2
        omega
theorem cutK_yes {b0 : UInt8} {l : List UInt8} (h : 0 ≤ Lib.index l [b0]) : l = (Lib.cut l [b0]).1 ++ b0 :: (Lib.cut l [b0]).2.1 ∧ ∀ c ∈ (Lib.cut l [b0]).1, c ≠ b0 := by
  unfold Lib.cut
  rw [if_pos h]
  simp only [List.length_singleton]
  induction l with
  | nil => simp [Lib.index] at h
  | cons b r ih =>
    by_cases hb : b = b0
    · subst hb
      have e : Lib.index (b :: r) [b] = 0 := by simp [Lib.index]
      rw [e]; simp
    · have hp : List.isPrefixOf [b0] (b :: r) = false := by
        show (b0 == b && List.isPrefixOf [] r) = false
        rw [show (b0 == b) = false by (simp; exact fun e => hb e.symm)]; rfl
      have hge := Lib.index_ge r [b0]
      by_cases h2 : Lib.index r [b0] = -1
      · have e : Lib.index (b :: r) [b0] = -1 := by unfold Lib.index; rw [hp]; simp [h2]
        omega
      · have e : Lib.index (b :: r) [b0] = Lib.index r [b0] + 1 := by
          rw [Lib.index, hp]; simp [h2]
        rw [e]
        have h3 : 0 ≤ Lib.index r [b0] := by omega
        obtain ⟨i1, i2⟩ := ih h3
        have e3 : (Lib.index r [b0] + 1).toNat = (Lib.index r [b0]).toNat + 1 := by omega
        rw [e3]
        refine ⟨?_, ?_⟩
        · rw [List.take_succ_cons, show (Lib.index r [b0]).toNat + 1 + 1 = ((Lib.index r [b0]).toNat + 1) + 1 from rfl, List.drop_succ_cons, List.cons_append, ← i1]
        · intro c hc
          rw [List.take_succ_cons] at hc
          rcases List.mem_cons.1 hc with rfl | hc
          · exact hb
          · exact i2 c hc
theorem cutK_no {b0 : UInt8} {l : List UInt8} (h : ¬ 0 ≤ Lib.index l [b0]) : Lib.cut l [b0] = (l, [], false) := by unfold Lib.cut; rw [if_neg h]

theorem stl_plain (l : List UInt8) (x : List (List UInt8) × List UInt8) (h : ∀ c ∈ l, c ≠ 59) : l.foldl stl x = (x.1, x.2 ++ l) := by
  induction l generalizing x with
  | nil => simp
  | cons c r ih =>
    rw [List.foldl_cons, ih _ (fun c hc => h c (by simp [hc]))]
    unfold stl; rw [if_neg (h c (by simp))]; simp
theorem stl_shift (l : List UInt8) (a x : List (List UInt8)) (y : List UInt8) : l.foldl stl (a ++ x, y) = (a ++ (l.foldl stl (x, y)).1, (l.foldl stl (x, y)).2) := by
  induction l generalizing x y with
  | nil => rfl
  | cons c r ih =>
    rw [List.foldl_cons, List.foldl_cons]
    by_cases h : c = 59
    · have e1 : stl (a ++ x, y) c = (a ++ (x ++ [y]), []) := by unfold stl; rw [if_pos h]; simp
      have e2 : stl (x, y) c = (x ++ [y], []) := by unfold stl; rw [if_pos h]
      rw [e1, e2, ih]
    · have e1 : stl (a ++ x, y) c = (a ++ x, y ++ [c]) := by unfold stl; rw [if_neg h]
      have e2 : stl (x, y) c = (x, y ++ [c]) := by unfold stl; rw [if_neg h]
      rw [e1, e2, ih]
/-- A text that begins with a line and its sign. -/
theorem linesF_cons {p r : List UInt8} (h : ∀ c ∈ p, c ≠ 59) : linesL (p ++ 59 :: r) = p :: linesL r ∧ restL (p ++ 59 :: r) = restL r := by
  have e : linesF (p ++ 59 :: r) = ([p] ++ (linesF r).1, (linesF r).2) := by
    unfold linesF
    rw [List.foldl_append, stl_plain p _ h, List.foldl_cons]
    have e1 : stl (([] : List (List UInt8)), [] ++ p) 59 = ([p] ++ [], []) := by unfold stl; simp
    show r.foldl stl (stl ([], [] ++ p) 59) = _
    rw [e1, stl_shift]
  constructor
  · show (linesF _).1 = _; rw [e]; rfl
  · show (linesF _).2 = _; rw [e]; rfl
theorem lines_none {l : List UInt8} (h : ∀ c ∈ l, c ≠ 59) : linesL l = [] ∧ restL l = l := by
  have e : linesF l = ([], l) := by unfold linesF; rw [stl_plain l _ h]; rfl
  constructor
  · show (linesF _).1 = _; rw [e]
  · show (linesF _).2 = _; rw [e]
/-- What is behind the last sign. -/
theorem rest_last {p r : List UInt8} (h : ∀ c ∈ r, c ≠ 59) : restL (p ++ 59 :: r) = r := by
  show (linesF _).2 = _
  unfold linesF
  rw [List.foldl_append, List.foldl_cons]
  have e1 : ∀ x, stl x 59 = (x.1 ++ [x.2], []) := fun x => by unfold stl; simp
  rw [e1, stl_plain r _ h]; rfl

theorem lines_cut_yes {l : List UInt8} (h : 0 ≤ Lib.index l [59]) : linesL l = (Lib.cut l [59]).1 :: linesL (Lib.cut l [59]).2.1 := by
  obtain ⟨e, hp⟩ := cutK_yes h
  exact (congrArg linesL e).trans (linesF_cons hp).1
theorem lines_cut_no {l : List UInt8} (h : ¬ 0 ≤ Lib.index l [59]) : linesL l = [] := (lines_none (indexK_none (by omega))).1
theorem cut_len {l : List UInt8} (h : 0 ≤ Lib.index l [59]) : (Lib.cut l [59]).2.1.length < l.length := by
  obtain ⟨e, _⟩ := cutK_yes h
  have := congrArg List.length e
  simp at this; omega

theorem bang_list (s : ByteArray) (j : Nat) (hj : j < s.size) : s.data[j]! = s.data.toList[j]'(by simpa using hj) := by
  rw [getElem!_pos s.data j (by simpa using hj)]; simp
/-- What is behind the last sign, by its place. -/
theorem rest_at (s : ByteArray) : ∃ i : Nat, Lib.lastIndexByte s 59 + 1 = i ∧ i ≤ s.size ∧ restL s.data.toList = s.data.toList.drop i := by
  have hl : s.data.toList.length = s.size := by simp
  rcases Lib.lastIndexByte_spec s 59 with ⟨e, hn⟩ | ⟨i, hi, e, hc, hn⟩
  · refine ⟨0, by omega, by omega, ?_⟩
    rw [List.drop_zero]
    refine (lines_none fun c hm => ?_).2
    obtain ⟨j, hj, rfl⟩ := List.getElem_of_mem hm
    have := hn j (by omega)
    rw [bang_list s j (by omega)] at this
    intro e'; rw [e'] at this; exact this rfl
  · refine ⟨i + 1, by omega, by omega, ?_⟩
    have hc' : s.data.toList[i]'(by omega) = 59 := by
      rw [bang_list s i hi] at hc
      apply UInt8.toNat_inj.1
      have : (59 : UInt8).toNat = 59 := rfl
      omega
    have e1 : s.data.toList = s.data.toList.take i ++ 59 :: s.data.toList.drop (i + 1) := by
      rw [← hc', List.getElem_cons_drop, List.take_append_drop]
    rw [e1]
    have e2 : (s.data.toList.take i ++ 59 :: s.data.toList.drop (i + 1)).drop (i + 1) = s.data.toList.drop (i + 1) := by rw [← e1]
    rw [e2]
    refine rest_last fun c hm => ?_
    obtain ⟨j, hj, rfl⟩ := List.getElem_of_mem hm
    rw [List.length_drop] at hj
    rw [List.getElem_drop]
    have := hn (i + 1 + j) (by omega) (by omega)
    rw [bang_list s _ (by omega)] at this
    intro e'; rw [e'] at this; exact this rfl

end Go.Proofs.YtoidmmedpefjfaaGreatDoor

/- Plain facts on lines and streams: beginnings, two texts one behind the other, what no line has. No program. No condition. -/
namespace Go.Proofs.YtoidmmedpefjfaaGreatDoor

theorem stl_noSemi (l : List UInt8) (x : List (List UInt8) × List UInt8) (h1 : ∀ y ∈ x.1, ∀ c ∈ y, c ≠ 59) (h2 : ∀ c ∈ x.2, c ≠ 59) :
    (∀ y ∈ (l.foldl stl x).1, ∀ c ∈ y, c ≠ 59) ∧ ∀ c ∈ (l.foldl stl x).2, c ≠ 59 := by
  induction l generalizing x with
  | nil => exact ⟨h1, h2⟩
  | cons c r ih =>
    rw [List.foldl_cons]
    by_cases hc : c = 59
    · have e : stl x c = (x.1 ++ [x.2], []) := by unfold stl; rw [if_pos hc]
      rw [e]
      exact ih _ (fun y hy => (List.mem_append.1 hy).elim (h1 y) (fun e => by simp at e; subst e; exact h2)) (by simp)
    · have e : stl x c = (x.1, x.2 ++ [c]) := by unfold stl; rw [if_neg hc]
      rw [e]
      exact ih _ h1 (fun d hd => (List.mem_append.1 hd).elim (h2 d) (fun e => by simp at e; subst e; exact hc))
/-- No line, and no rest, has the sign that ends a line. -/
theorem line_noSemi {l x : List UInt8} (h : x ∈ linesL l) : ∀ c ∈ x, c ≠ 59 := (stl_noSemi l ([], []) (by simp) (by simp)).1 x h
theorem rest_noSemi (l : List UInt8) : ∀ c ∈ restL l, c ≠ 59 := (stl_noSemi l ([], []) (by simp) (by simp)).2

theorem stl_prefix (l : List UInt8) (x : List (List UInt8) × List UInt8) : x.1 <+: (l.foldl stl x).1 := by
  induction l generalizing x with
  | nil => exact List.prefix_refl _
  | cons c r ih =>
    rw [List.foldl_cons]
    refine List.IsPrefix.trans ?_ (ih _)
    by_cases hc : c = 59
    · have e : stl x c = (x.1 ++ [x.2], []) := by unfold stl; rw [if_pos hc]
      rw [e]; exact List.prefix_append _ _
    · have e : stl x c = (x.1, x.2 ++ [c]) := by unfold stl; rw [if_neg hc]
      rw [e]; exact List.prefix_refl _
/-- What is behind the last sign begins the next line, or the rest. -/
theorem stl_rest (l : List UInt8) (x : List (List UInt8) × List UInt8) : ∃ z ∈ (l.foldl stl x).1 ++ [(l.foldl stl x).2], x.2 <+: z := by
  induction l generalizing x with
  | nil => exact ⟨x.2, by simp, List.prefix_refl _⟩
  | cons c r ih =>
    rw [List.foldl_cons]
    by_cases hc : c = 59
    · have e : stl x c = (x.1 ++ [x.2], []) := by unfold stl; rw [if_pos hc]
      rw [e]
      exact ⟨x.2, List.mem_append_left _ ((stl_prefix r (x.1 ++ [x.2], [])).subset (by simp)), List.prefix_refl _⟩
    · have e : stl x c = (x.1, x.2 ++ [c]) := by unfold stl; rw [if_neg hc]
      rw [e]
      obtain ⟨z, hz, hp⟩ := ih (x.1, x.2 ++ [c])
      exact ⟨z, hz, (List.prefix_append _ _).trans hp⟩
theorem linesF_app (a b : List UInt8) : linesF (a ++ b) = b.foldl stl (linesF a) := by unfold linesF; rw [List.foldl_append]
theorem lines_prefix (a b : List UInt8) : linesL a <+: linesL (a ++ b) := by
  show _ <+: (linesF (a ++ b)).1; rw [linesF_app]; exact stl_prefix b _
theorem lines_take (l : List UInt8) (k : Nat) : linesL (l.take k) <+: linesL l := by
  have := lines_prefix (l.take k) (l.drop k); rwa [List.take_append_drop] at this
/-- Two texts, the first of which ends with a sign, or is empty. -/
theorem lines_join {a : List UInt8} (b : List UInt8) (h : restL a = []) : linesL (a ++ b) = linesL a ++ linesL b ∧ restL (a ++ b) = restL b := by
  have e : linesF (a ++ b) = (linesL a ++ (linesF b).1, (linesF b).2) := by
    rw [linesF_app]
    have e1 : linesF a = (linesL a ++ [], []) := by rw [List.append_nil]; exact Prod.ext rfl h
    rw [e1, stl_shift]; rfl
  constructor
  · show (linesF _).1 = _; rw [e]; rfl
  · show (linesF _).2 = _; rw [e]; rfl
theorem lin_prefix {a b : List UInt8} (h : linB b = true) (hp : a <+: b) : linB a = true := by
  unfold linB at h ⊢
  rw [Bool.and_eq_true] at h ⊢
  obtain ⟨h1, h2⟩ := h
  have hl := hp.length_le
  simp only [decide_eq_true_eq] at h1 ⊢
  exact ⟨by omega, List.all_eq_true.2 fun c hc => List.all_eq_true.1 h2 c (hp.subset hc)⟩
theorem lin_take {l : List UInt8} (h : linB l = true) (k : Nat) : linB (l.take k) = true := lin_prefix h (List.take_prefix _ _)
theorem lin_noSemi {l : List UInt8} (h : linB l = true) : ∀ c ∈ l, c ≠ 59 := by
  intro c hc e
  unfold linB at h
  rw [Bool.and_eq_true] at h
  have := List.all_eq_true.1 h.2 c hc
  rw [e] at this; revert this; decide
theorem lin_semi (l : List UInt8) : linB (l ++ [59]) = false := by
  rcases h : linB (l ++ [59]) with _ | _
  · rfl
  · exact absurd rfl (lin_noSemi h 59 (by simp))
theorem lin_len {l : List UInt8} (h : linB l = true) : l.length ≤ 16 := by
  unfold linB at h; rw [Bool.and_eq_true] at h; simpa using h.1
theorem str_parts {l : List UInt8} (h : strB l = true) : l.length ≤ 120 ∧ (∀ x ∈ linesL l, linB x = true) ∧ linB (restL l) = true := by
  unfold strB at h
  rw [Bool.and_eq_true, Bool.and_eq_true] at h
  exact ⟨by simpa using h.1.1, List.all_eq_true.1 h.1.2, h.2⟩
theorem str_mk {l : List UInt8} (h1 : l.length ≤ 120) (h2 : ∀ x ∈ linesL l, linB x = true) (h3 : linB (restL l) = true) : strB l = true := by
  unfold strB; rw [decide_eq_true h1, List.all_eq_true.2 h2, h3]; rfl
/-- A beginning of a stream is a stream. -/
theorem str_prefix {a b : List UInt8} (h : strB (a ++ b) = true) : strB a = true := by
  obtain ⟨h1, h2, h3⟩ := str_parts h
  rw [List.length_append] at h1
  refine str_mk (by omega) (fun x hx => h2 x ((lines_prefix a b).subset hx)) ?_
  obtain ⟨z, hz, hp⟩ := stl_rest b (linesF a)
  rw [← linesF_app] at hz
  refine lin_prefix (b := z) ?_ hp
  rcases List.mem_append.1 hz with hz | hz
  · exact h2 z hz
  · simp at hz; subst hz; exact h3
theorem str_take {l : List UInt8} (h : strB l = true) (k : Nat) : strB (l.take k) = true := by
  have : strB (l.take k ++ l.drop k) = true := by rw [List.take_append_drop]; exact h
  exact str_prefix this

end Go.Proofs.YtoidmmedpefjfaaGreatDoor

/- Plain facts on the texts of ends and the lines that name them: what is read is what is written. No condition. -/
namespace Go.Proofs.YtoidmmedpefjfaaGreatDoor
open Go.RowKit

/-- What is read as an end is its text. -/
theorem rdE_text {l : List UInt8} {a p : Int} (h : rdE l = some (a, p)) : l = endL a.toNat p.toNat ∧ endB a p = true := by
  unfold rdE at h
  split at h
  · rename_i x y hw
    split at h
    · rename_i hb
      simp at h
      obtain ⟨rfl, rfl⟩ := h
      obtain ⟨h1, h2, h3, h4⟩ := end_bounds hb
      have ex := numL_inv (show 0 ≤ numL x by omega)
      have ey := numL_inv (show 0 ≤ numL y by omega)
      refine ⟨?_, hb⟩
      rw [words_two hw, endL, ← ex, ← ey]
    · cases h
  · cases h
/-- The text of an end is read as it. -/
theorem rdE_endL {a p : Int} (h : endB a p = true) : rdE (endL a.toNat p.toNat) = some (a, p) := by
  obtain ⟨h1, h2, h3, h4⟩ := end_bounds h
  unfold rdE endL
  rw [words_of_two (dec_no_space a.toNat) (dec_no_space p.toNat)]
  simp only [numL_dec (show a.toNat ≤ 9999 by omega), numL_dec (show p.toNat ≤ 9999 by omega)]
  rw [Int.toNat_of_nonneg (by omega), Int.toNat_of_nonneg (by omega), if_pos h]
theorem rdE_inj {l m : List UInt8} {a p : Int} (h1 : rdE l = some (a, p)) (h2 : rdE m = some (a, p)) : l = m := (rdE_text h1).1.trans (rdE_text h2).1.symm

theorem lpL_yes {a p : Int} (h : endB a p = true) : lpL a p = portL ++ endL a.toNat p.toNat := if_pos h
theorem lpL_no {a p : Int} (h : endB a p = false) : lpL a p = [] := if_neg (by simp [h])
theorem lpL_take {a p : Int} (h : endB a p = true) : (lpL a p).take 5 = portL ∧ (lpL a p).drop 5 = endL a.toNat p.toNat := by
  rw [lpL_yes h]; exact ⟨rfl, rfl⟩
/-- What a line that names an end says. -/
theorem says_lpL {a p : Int} (h : endB a p = true) : saysE (lpL a p) = (if insB a p = true then some (a, p) else none) := by
  obtain ⟨e1, e2⟩ := lpL_take h
  unfold saysE; rw [if_pos e1, e2, rdE_endL h]
theorem box_lpL {a p : Int} (h : endB a p = true) : boxE (lpL a p) = (if a = 50 then some p else none) := by
  obtain ⟨e1, e2⟩ := lpL_take h
  unfold boxE; rw [if_pos e1, e2, rdE_endL h]
theorem says_line {l : List UInt8} {a p : Int} (h : saysE l = some (a, p)) : insB a p = true ∧ endB a p = true ∧ l = lpL a p := by
  unfold saysE at h
  split at h
  · rename_i ht
    split at h
    · rename_i a' p' hr
      split at h
      · rename_i hi
        simp at h
        obtain ⟨rfl, rfl⟩ := h
        obtain ⟨e1, e2⟩ := rdE_text hr
        refine ⟨hi, e2, ?_⟩
        rw [lpL_yes e2, ← e1, ← ht, List.take_append_drop]
      · cases h
    · cases h
  · cases h
theorem box_line {l : List UInt8} {p : Int} (h : boxE l = some p) : endB 50 p = true ∧ l = lpL 50 p := by
  unfold boxE at h
  split at h
  · rename_i ht
    split at h
    · rename_i a' p' hr
      split at h
      · rename_i hi
        simp at h
        subst hi h
        obtain ⟨e1, e2⟩ := rdE_text hr
        refine ⟨e2, ?_⟩
        rw [lpL_yes e2, ← e1, ← ht, List.take_append_drop]
      · cases h
    · cases h
  · cases h
/-- A line of the box's names no end inside. -/
theorem box_no_says {l : List UInt8} {p : Int} (h : boxE l = some p) : saysE l = none := by
  obtain ⟨e1, rfl⟩ := box_line h
  rw [says_lpL e1]; rw [if_neg (by simp [insB, inB])]
theorem dec_byte {k : Nat} : ∀ c ∈ Lib.decDigits k, byteB c = true := by
  intro c hc
  have := dec_digs k c hc
  unfold isDig at this
  simp [byteB, this]
/-- A line that names an end is a line. -/
theorem lpL_lin {a p : Int} (h : endB a p = true) : linB (lpL a p) = true := by
  obtain ⟨h1, h2, h3, h4⟩ := end_bounds h
  have l1 := dec_len4 (k := a.toNat) (by omega)
  have l2 := dec_len4 (k := p.toNat) (by omega)
  rw [lpL_yes h]
  unfold linB
  rw [decide_eq_true (by simp [portL, endL]; omega), Bool.true_and, List.all_eq_true]
  intro c hc
  rcases List.mem_append.1 hc with hc | hc
  · have hp : ∀ c ∈ portL, byteB c = true := by decide
    exact hp c hc
  · unfold endL at hc
    rcases List.mem_append.1 hc with hc | hc
    · exact dec_byte c hc
    · rcases List.mem_cons.1 hc with rfl | hc
      · decide
      · exact dec_byte c hc

end Go.Proofs.YtoidmmedpefjfaaGreatDoor

/- Ports and ends of a table are each other's, as data. No condition. -/
namespace Go.Proofs.YtoidmmedpefjfaaGreatDoor
open Go.RowKit

theorem mapB_take {es : List (Int × Int)} (hm : mapB es = true) {k : Nat} (hk : k < es.length) : es[k] ∉ es.take k := by
  unfold mapB at hm
  simp only [Bool.and_eq_true, decide_eq_true_eq, List.all_eq_true, List.mem_range] at hm
  have := hm.2 k hk
  unfold mapP at this
  simp only [Bool.and_eq_true, decide_eq_true_eq] at this
  rw [List.getD_eq_getElem?_getD, List.getElem?_eq_getElem hk] at this
  exact findI_neg.1 this.2
theorem findI_at {es : List (Int × Int)} (hm : mapB es = true) {k : Nat} (hk : k < es.length) : findI es es[k] = k := by
  obtain ⟨j, hj, he, hn, hf⟩ := findI_mem (List.getElem_mem hk)
  rw [hf]
  rcases Nat.lt_trichotomy j k with h | h | h
  · exfalso
    refine mapB_take hm hk ?_
    rw [← he]
    exact List.mem_take_iff_getElem.2 ⟨j, by omega, rfl⟩
  · rw [h]
  · exfalso
    exact hn (List.mem_take_iff_getElem.2 ⟨k, by omega, rfl⟩)
/-- An end that a port names has that port. -/
theorem port_of_end {es : List (Int × Int)} {q : Int} {e : Int × Int} (hm : mapB es = true) (h : endI es q = some e) : portI es e = q := by
  unfold endI at h
  split at h
  · rename_i hq
    obtain ⟨hk, he⟩ := List.getElem?_eq_some_iff.1 h
    have hf := findI_at hm hk
    rw [he] at hf
    unfold portI
    rw [hf, if_neg (by omega)]
    omega
  · cases h
/-- A port that an end has names that end. -/
theorem end_of_port {es : List (Int × Int)} {e : Int × Int} (h : portI es e ≠ 0) : endI es (portI es e) = some e := by
  unfold portI at h ⊢
  split
  · rename_i hf
    rw [if_pos hf] at h
    exact absurd rfl h
  · rename_i hf
    have hmem : e ∈ es := by
      refine Classical.byContradiction fun hn => ?_
      exact hf (findI_neg.2 hn)
    obtain ⟨k, hk, he, _, hfk⟩ := findI_mem hmem
    rw [hfk]
    unfold endI
    rw [if_pos (by omega), show (500 + (k : Int) - 500).toNat = k by omega, List.getElem?_eq_getElem hk, he]

end Go.Proofs.YtoidmmedpefjfaaGreatDoor

/- What a line is as it goes inside, as data: a line; once more it is the same; whom it names. No condition. -/
namespace Go.Proofs.YtoidmmedpefjfaaGreatDoor
open Go.RowKit

theorem data_injB {a b : ByteArray} (h : a.data.toList = b.data.toList) : a = b := by
  rw [← Lib.mk_data a, ← Lib.mk_data b, h]
theorem endI_mem {es : List (Int × Int)} {q : Int} {e : Int × Int} (h : endI es q = some e) : e ∈ es := by
  unfold endI at h
  split at h
  · exact List.mem_of_getElem? h
  · cases h
theorem ins_end {a p : Int} (h : insB a p = true) : endB a p = true ∧ a ≠ 50 := by
  refine ⟨by unfold endB; rw [h]; rfl, ?_⟩
  unfold insB inB at h
  simp at h
  omega
theorem bakE_yes {es : List (Int × Int)} {l : List UInt8} (h1 : mapB es = true) (h2 : linB l = true) : bakE es l = backE es l := if_pos ⟨h1, h2⟩
theorem bakE_not {es : List (Int × Int)} {l : List UInt8} (h : (mapB es && linB l) = false) : bakE es l = [] := if_neg (fun hh => by rw [hh.1, hh.2] at h; cases h)
theorem backE_none {es : List (Int × Int)} {l : List UInt8} (h : boxE l = none) : backE es l = l := by unfold backE; rw [h]
theorem backE_free {es : List (Int × Int)} {l : List UInt8} {p : Int} (h : boxE l = some p) (h2 : endI es p = none) : backE es l = l := by unfold backE; rw [h]; simp only; rw [h2]
theorem backE_has {es : List (Int × Int)} {l : List UInt8} {p a q : Int} (h : boxE l = some p) (h2 : endI es p = some (a, q)) : backE es l = lpL a q := by unfold backE; rw [h]; simp only; rw [h2]
/-- What goes inside is a line; it names no port of the box's that an end has. -/
theorem backE_lin {es : List (Int × Int)} {l : List UInt8} (hm : mapB es = true) (hl : linB l = true) : linB (backE es l) = true := by
  rcases hb : boxE l with _ | p
  · rw [backE_none hb]; exact hl
  · rcases he : endI es p with _ | ⟨a, q⟩
    · rw [backE_free hb he]; exact hl
    · rw [backE_has hb he]
      exact lpL_lin (ins_end (mapB_ins hm _ (endI_mem he))).1
theorem backE_again {es : List (Int × Int)} {l : List UInt8} (hm : mapB es = true) : backE es (backE es l) = backE es l := by
  rcases hb : boxE l with _ | p
  · rw [backE_none hb, backE_none hb]
  · rcases he : endI es p with _ | ⟨a, q⟩
    · rw [backE_free hb he, backE_free hb he]
    · rw [backE_has hb he]
      obtain ⟨h1, h2⟩ := ins_end (mapB_ins hm _ (endI_mem he))
      refine backE_none ?_
      rw [box_lpL h1, if_neg h2]
theorem backE_says {es : List (Int × Int)} {l : List UInt8} {p a q : Int} (hm : mapB es = true) (hb : boxE l = some p) (he : endI es p = some (a, q)) : saysE (backE es l) = some (a, q) := by
  have hi : insB a q = true := mapB_ins hm _ (endI_mem he)
  rw [backE_has hb he, says_lpL (ins_end hi).1, if_pos hi]
theorem bakE_len (es : List (Int × Int)) (l : List UInt8) : (bakE es l).length ≤ l.length + 20 := by
  unfold bakE
  split
  · unfold backE
    split
    · omega
    · split
      · omega
      · rename_i a q _
        have : (lpL a q).length ≤ 20 := by
          unfold lpL
          split
          · rename_i h
            obtain ⟨h1, h2, h3, h4⟩ := end_bounds h
            have l1 := dec_len4 (k := a.toNat) (by omega)
            have l2 := dec_len4 (k := q.toNat) (by omega)
            simp [portL, endL]; omega
          · simp
        omega
  · simp

end Go.Proofs.YtoidmmedpefjfaaGreatDoor

/- The program's MapEnd and MapPort answer as the document says. Conditions: at most 2^22 ends; all numbers are ints. -/
namespace Go.Proofs.YtoidmmedpefjfaaGreatDoor
open Go.RowKit Go.Sort

theorem endV_form' (x : Option (Int × Int)) : ∃ (a p : Int) (b : Bool), endV x = .tuple #[.agg #[.int .i64 a, .int .i64 p], .bool b] := by
  rcases x with _ | ⟨a, p⟩
  · exact ⟨0, 0, false, rfl⟩
  · exact ⟨a, p, true, rfl⟩

set_option maxRecDepth 100000 in
set_option maxHeartbeats 1600000 in
theorem implMapEnd_any (v : Value) (es : List (Int × Int)) (port : Int) (w : World) (hn : es.length ≤ 4194304) (hwf : wfE es) (wn : (Lit.int .i64 port).wf = true) (ht : TabAt w v es) :
    Calls Tryz.prog 45 #[.agg #[v], .int .i64 port] w fun e w' => e = .returned (endV (endI es port)) ∧ Below w.heap.size w w' := by
  have HT := Lib.hid ht
  obtain ⟨ad, cap, rfl, _, _⟩ := ht
  have HP : Hid (∀ w, TabAt w (.slice ad es.length cap) es → Calls Tryz.prog 51 #[.agg #[.slice ad es.length cap]] w fun e w' => ∃ g1 g2, e = .returned (.agg #[.map (some g1), .map (some g2)]) ∧ w.heap.size ≤ g1 ∧ w.heap.size ≤ g2 ∧ Both w' g1 g2 es ∧ Below w.heap.size w w') := fun w h => portsOf_any _ es w hn hwf h
  obtain ⟨a, p, b, hv⟩ := endV_form' (endI es port)
  have HK : Hid (∀ g1 g2 w, Both w g1 g2 es → Calls Tryz.prog 88 #[.agg #[.map (some g1), .map (some g2)], .int .i64 port] w fun e w' => e = .returned (.tuple #[.agg #[.int .i64 a, .int .i64 p], .bool b]) ∧ Below w.heap.size w w') := fun g1 g2 w h => by rw [← hv]; exact key_any g1 g2 es port w h wn
  rw [hv]
  clear hwf wn hv hn
  go_enter Tryz.func45, Tryz.ntmps45
  go_wp2_with fail
  (go_at_call 51; refine (HP.out _ (HT.out.below (((Below.refl _ _).alloc (Nat.le_refl _) _).alloc (by simp) _))).mono ?_; rintro e w1 ⟨g1, g2, rfl, _, _, hb, b1⟩; have HB := Lib.hid hb; obtain ⟨_, cB, b01, z1⟩ := cell_two b1; have r0 := (cB 0).1; have r1 := (cB 1).1; have f0 := (cB 0).2; have f1 := (cB 1).2; simp at r0 r1; clear cB b1 hb)
  go_wp2_with fail
  (go_at_call 88; refine (HK.out g1 g2 _ HB.out).mono ?_; rintro e w2 ⟨rfl, b2⟩; have r20 : w2.cell? ⟨w.heap.size + 1, 0, none⟩ = some (.int .i64 0) := (by rw [b2.cell (by simp; omega)]; exact r0); have r21 : w2.cell? ⟨w.heap.size + 1, 1, none⟩ = some (.int .i64 0) := (by rw [b2.cell (by simp; omega)]; exact r1); have f20 : w2.frozen? ⟨w.heap.size + 1, 0, none⟩ = false := (by rw [b2.frozen (by simp; omega)]; exact f0); have f21 : w2.frozen? ⟨w.heap.size + 1, 1, none⟩ = false := (by rw [b2.frozen (by simp; omega)]; exact f1); have BW : Hid (Below w.heap.size w w2) := b01.trans (b2.mono (by omega)); obtain ⟨e0, e1, e2⟩ := set_two (.int .i64 a) (.int .i64 p) r20 r21; have E1 := Lib.hid e1; have E2 := Lib.hid e2; clear e1 e2 b2)
  go_wp2_with fail
  refine bodyPost_ret (v := .tuple #[.agg #[.int .i64 a, .int .i64 p], .bool b]) (by simp [results, Tryz.results45, go_sem, E1.out, E2.out]) rfl ⟨rfl, (BW.out.setCell (by simp) _).setCell (by simp) _⟩

set_option maxRecDepth 100000 in
set_option maxHeartbeats 1600000 in
theorem implMapPort_any (v : Value) (es : List (Int × Int)) (a p : Int) (w : World) (hn : es.length ≤ 4194304) (hwf : wfE es) (wa : (Lit.int .i64 a).wf = true) (wp : (Lit.int .i64 p).wf = true) (ht : TabAt w v es) :
    Calls Tryz.prog 24 #[.agg #[v], .agg #[.int .i64 a, .int .i64 p]] w fun e w' => e = .returned (.int .i64 (portI es (a, p))) ∧ Below w.heap.size w w' := by
  have HT := Lib.hid ht
  obtain ⟨ad, cap, rfl, _, _⟩ := ht
  have HP : Hid (∀ w, TabAt w (.slice ad es.length cap) es → Calls Tryz.prog 51 #[.agg #[.slice ad es.length cap]] w fun e w' => ∃ g1 g2, e = .returned (.agg #[.map (some g1), .map (some g2)]) ∧ w.heap.size ≤ g1 ∧ w.heap.size ≤ g2 ∧ Both w' g1 g2 es ∧ Below w.heap.size w w') := fun w h => portsOf_any _ es w hn hwf h
  obtain ⟨q, hq⟩ : ∃ q, q = portI es (a, p) := ⟨_, rfl⟩
  obtain ⟨b, hbb⟩ : ∃ b, b = decide ((a, p) ∈ es) := ⟨_, rfl⟩
  have HV : Hid (∀ g1 g2 w, Both w g1 g2 es → Calls Tryz.prog 64 #[.agg #[.map (some g1), .map (some g2)], .agg #[.int .i64 a, .int .i64 p]] w fun e w' => e = .returned (.tuple #[.int .i64 q, .bool b]) ∧ Below w.heap.size w w') := fun g1 g2 w h => by rw [hq, hbb]; exact value_any g1 g2 es a p w h wa wp
  rw [← hq]
  clear hwf wa wp hq hn hbb
  go_enter Tryz.func24, Tryz.ntmps24
  go_wp2_with fail
  obtain ⟨W0, hW0⟩ : ∃ W0, W0 = (w.alloc (.cells #[.slice ad es.length cap] 25)).alloc (.cells #[.int .i64 a, .int .i64 p] 34) := ⟨_, rfl⟩
  have t0 : W0.cell? ⟨w.heap.size, 0, none⟩ = some (.slice ad es.length cap) := by rw [hW0, cell_alloc_lt (by simp)]; exact (cell_new w _ _ 0).1
  have e0 : W0.cell? ⟨w.heap.size + 1, 0, none⟩ = some (.int .i64 a) := by rw [hW0]; simp
  have e1 : W0.cell? ⟨w.heap.size + 1, 1, none⟩ = some (.int .i64 p) := by rw [hW0]; simp
  have B0 : Hid (Below w.heap.size w W0) := by rw [hW0]; exact ((Below.refl _ _).alloc (Nat.le_refl _) _).alloc (by simp) _
  have z0 : W0.heap.size = w.heap.size + 2 := by rw [hW0]; simp
  rw [← hW0]
  clear hW0
  have HT0 := Lib.hid (HT.out.below B0.out)
  go_region_with (first
    | (go_at_call 51; refine (HP.out _ (HT0.out.below ((Below.refl _ _).drew))).mono ?_; rintro e w1 ⟨g1, g2, rfl, _, _, hb, b1⟩; have HB := Lib.hid hb; have b1 : Below W0.heap.size W0 w1 := ((Below.refl _ _).drew).trans b1; have e0 : w1.cell? ⟨w.heap.size + 1, 0, none⟩ = some (.int .i64 a) := (by rw [b1.cell (by simp; omega)]; exact e0); have e1 : w1.cell? ⟨w.heap.size + 1, 1, none⟩ = some (.int .i64 p) := (by rw [b1.cell (by simp; omega)]; exact e1); clear hb)
    | (go_at_call 64; refine (HV.out _ _ _ HB.out).mono ?_; rintro e w2 ⟨rfl, b2⟩; have BW : Hid (Below w.heap.size w w2) := B0.out.trans ((b1.trans (b2.mono b1.size)).mono (by omega))))
  all_goals
    go_wp2_with fail
    go_ret
    exact ⟨rfl, BW.out⟩

end Go.Proofs.YtoidmmedpefjfaaGreatDoor

/- The law that what goes inside names who has the port: at every code. Conditions: the code lies in memory; the variables that are read hold what they are laid with. -/
namespace Go.Proofs.YtoidmmedpefjfaaGreatDoor
open Go.RowKit Go.Sort

theorem boxD {w w' : World} {b i : Nat} {v : Value} (h : w.cell? ⟨b, i, none⟩ = some v) (hb : Below w.heap.size w w') : w'.cell? ⟨b, i, none⟩ = some v := by
  rw [hb.cell (p := ⟨b, i, none⟩) (World.block_lt_of_cell? w _ h)]; exact h
theorem SmE.wfE {us : List (Int × Int)} (h : SmE us) : wfE us := fun x hx => (h x hx).wf

set_option maxRecDepth 100000 in
set_option maxHeartbeats 12800000 in
theorem lwBakLine_of (ao : Option Addr) (n cap : Nat) (w : World) (h : BytesIn w ao n) (hn : n ≤ cap) (hv : VarsOk w) (hb1 : ¬ 1048576 < n) :
    Calls Tryz.prog 8 #[.slice ao n cap] w fun e w' => e = .returned (.bool true) ∧ Below w.heap.size w w' := by
  have H := Lib.hid h
  have HV : Hid (∀ w', Below w.heap.size w w' → VarsOk w') := fun w' h => hv.below h
  clear h hv
  go_enter Tryz.func8, Tryz.ntmps8
  go_wp2_with fail
  (go_at_call 41; refine (drawBakLine_any ao n cap _ H.out hn).mono ?_; rintro e w1 ⟨g1, k1, us, s, rfl, o1, ⟨u8, sm1⟩, hss, b1⟩)
  have BW := Lib.hid b1
  have Tt := Lib.hid o1.tab
  have WU := Lib.hid sm1.wfE
  clear b1 o1 H sm1
  obtain ⟨X, hX⟩ : ∃ X : ByteArray, X = ⟨(bakE us s.data.toList).toArray⟩ := ⟨_, rfl⟩
  have hXl : X.data.toList = bakE us s.data.toList := by rw [hX]
  have hXs : X.size ≤ 2097152 := by have := bakE_len us s.data.toList; rw [← hXl, len_list, len_list] at this; omega
  obtain ⟨mb, hmb⟩ : ∃ mb, mb = mapB us := ⟨_, rfl⟩
  obtain ⟨lb, hlb⟩ : ∃ lb, lb = linB s.data.toList := ⟨_, rfl⟩
  have HIB : Hid (∀ w, TabAt w (.slice g1 us.length k1) us → VarsOk w → Calls Tryz.prog 42 #[.agg #[.slice g1 us.length k1], .string s] w fun e w' => e = .returned (.string X) ∧ Below w.heap.size w w') := fun w ht hv => by rw [hX]; exact implBakLine_any _ us s w (by omega) (by omega) WU.out ht hv hv.tab
  have HSB : Hid (∀ w, TabAt w (.slice g1 us.length k1) us → Calls Tryz.prog 43 #[.agg #[.slice g1 us.length k1], .string s] w fun e w' => e = .returned (.string X) ∧ Below w.heap.size w w') := fun w ht => by rw [hX]; exact specBakLine_any _ us s w (by omega) (by omega) ht
  have HMT : Hid (∀ w, TabAt w (.slice g1 us.length k1) us → Calls Tryz.prog 17 #[.agg #[.slice g1 us.length k1]] w fun e w' => e = .returned (.bool mb) ∧ Below w.heap.size w w') := fun w ht => by rw [hmb]; exact specMapOk_any _ us w (by omega) ht
  have HLO : Hid (∀ w, Calls Tryz.prog 18 #[.string s] w fun e w' => e = .returned (.bool lb) ∧ w = w') := fun w => by rw [hlb]; exact specLin_any s w (by omega)
  have HNO : Hid ((mb && lb) = false → X = ⟨#[]⟩) := fun e1 => by
    rw [hmb, hlb] at e1
    rw [hX, bakE_not e1]
  obtain ⟨bp, bb, xa, xp, ob, hbw, hbv, hev, hbf⟩ : ∃ (bp : Int) (bb : Bool) (xa xp : Int) (ob : Bool), (Lit.int .i64 bp).wf = true ∧ boxV (boxE s.data.toList) = .tuple #[.int .i64 bp, .bool bb] ∧ endV (endI us bp) = .tuple #[.agg #[.int .i64 xa, .int .i64 xp], .bool ob] ∧ (((bb && ob) = false → backE us s.data.toList = s.data.toList) ∧ ((bb && ob) = true → mapB us = true → saysE (backE us s.data.toList) = some (xa, xp))) := by
    rcases h : boxE s.data.toList with _ | p
    · rcases h2 : endI us 0 with _ | ⟨a, q⟩
      · exact ⟨0, false, 0, 0, false, by decide, rfl, by rw [h2]; rfl, fun _ => backE_none h, fun e => by cases e⟩
      · exact ⟨0, false, a, q, true, by decide, rfl, by rw [h2]; rfl, fun _ => backE_none h, fun e => by cases e⟩
    · have hp := box_port h
      rcases h2 : endI us p with _ | ⟨a, q⟩
      · exact ⟨p, true, 0, 0, false, WalkArith.wf_i64 (by omega), rfl, by rw [h2]; rfl, fun _ => backE_free h h2, fun e => by cases e⟩
      · exact ⟨p, true, a, q, true, WalkArith.wf_i64 (by omega), rfl, by rw [h2]; rfl, fun e => (by cases e), fun _ hm => backE_says hm h h2⟩
  have HBX : Hid (∀ w, VarsOk w → Calls Tryz.prog 44 #[.string s] w fun e w' => e = .returned (.tuple #[.int .i64 bp, .bool bb]) ∧ Below w.heap.size w w') := fun w hv => by rw [← hbv]; exact implBox_any s w (by omega) hv
  have HME : Hid (∀ w, TabAt w (.slice g1 us.length k1) us → Calls Tryz.prog 45 #[.agg #[.slice g1 us.length k1], .int .i64 bp] w fun e w' => e = .returned (.tuple #[.agg #[.int .i64 xa, .int .i64 xp], .bool ob]) ∧ Below w.heap.size w w') := fun w ht => by rw [← hev]; exact implMapEnd_any _ us bp w (by omega) WU.out hbw ht
  have HSAME : Hid (mb = true → lb = true → (bb && ob) = false → X = s) := fun e1 e2 e3 => by
    rw [hmb] at e1
    rw [hlb] at e2
    exact data_injB (by rw [hXl, bakE_yes e1 e2, hbf.1 e3])
  have HSX : Hid (mb = true → lb = true → (bb && ob) = true → ∀ w, VarsOk w → Calls Tryz.prog 20 #[.string X] w fun e w' => e = .returned (.tuple #[.agg #[.int .i64 xa, .int .i64 xp], .bool true]) ∧ Below w.heap.size w w') := fun e1 e2 e3 w hv => by
    rw [hmb] at e1
    rw [hlb] at e2
    have := implSays_any X w hXs hv
    rw [hXl, bakE_yes e1 e2, hbf.2 e3 e1] at this
    exact this
  have HLX : Hid (mb = true → lb = true → ∀ w, Calls Tryz.prog 23 #[.string X] w fun e w' => e = .returned (.bool true) ∧ w = w') := fun e1 e2 w => by
    rw [hmb] at e1
    rw [hlb] at e2
    have := implLin_all X w
    rw [hXl, bakE_yes e1 e2, backE_lin e1 e2] at this
    exact this
  clear hX hXl hmb hlb hbv hev hbf hbw
  go_wp2_with fail
  obtain ⟨W1, hW1⟩ : ∃ W, W = (w1.alloc (.cells #[.slice g1 us.length k1] 25)) := ⟨_, rfl⟩
  have qW1 : Below w1.heap.size w1 W1 := by rw [hW1]; exact (Below.refl _ _).alloc (Nat.le_refl _) _
  have zW1 : w1.heap.size + 1 ≤ W1.heap.size := by rw [hW1]; simp
  have ct0 : W1.cell? ⟨w1.heap.size, 0, none⟩ = some (.slice g1 us.length k1) := by rw [hW1]; simp
  replace Tt := Lib.hid (Tt.out.below qW1)
  replace BW := Lib.hid (BW.out.trans (qW1.mono BW.out.size))
  rw [← hW1]
  obtain ⟨bt, hbt⟩ : ∃ b, b = w1.heap.size := ⟨_, rfl⟩
  have lt : bt < W1.heap.size := by omega
  rw [← hbt] at ct0 ⊢
  clear hbt hW1
  clear qW1 zW1
  (go_at_call 42; refine (HIB.out _ Tt.out (HV.out _ BW.out)).mono ?_; rintro e w2x ⟨rfl, qb⟩)
  have zb := qb.size
  replace ct0 := boxD ct0 qb
  replace lt : bt < w2x.heap.size := by omega
  replace Tt := Lib.hid (Tt.out.below qb)
  replace BW := Lib.hid (BW.out.trans (qb.mono BW.out.size))
  clear qb zb
  go_wp2_with fail
  (go_at_call 43; refine (HSB.out _ Tt.out).mono ?_; rintro e w3x ⟨rfl, qb⟩)
  have zb := qb.size
  replace ct0 := boxD ct0 qb
  replace lt : bt < w3x.heap.size := by omega
  replace Tt := Lib.hid (Tt.out.below qb)
  replace BW := Lib.hid (BW.out.trans (qb.mono BW.out.size))
  clear qb zb
  go_wp2_with fail
  (go_at_call 17; refine (HMT.out _ Tt.out).mono ?_; rintro e w4x ⟨rfl, qb⟩)
  have zb := qb.size
  replace ct0 := boxD ct0 qb
  replace lt : bt < w4x.heap.size := by omega
  replace Tt := Lib.hid (Tt.out.below qb)
  replace BW := Lib.hid (BW.out.trans (qb.mono BW.out.size))
  clear qb zb
  cases mb
  · have e1 := HNO.out (by simp)
    subst e1
    go_wp2_with fail
    (go_at_call 19; refine (haOk_any _).mono ?_; rintro e wl ⟨rfl, rfl⟩)
    go_wp2_with fail
    go_ret
    exact ⟨by simp, BW.out⟩
  · go_wp2_with fail
    (go_at_call 18; refine (HLO.out _).mono ?_; rintro e wl ⟨rfl, rfl⟩)
    cases lb
    · have e1 := HNO.out (by simp)
      subst e1
      go_wp2_with fail
      (go_at_call 19; refine (haOk_any _).mono ?_; rintro e wl ⟨rfl, rfl⟩)
      go_wp2_with fail
      go_ret
      exact ⟨by simp, BW.out⟩
    · go_wp2_with fail
      (go_at_call 44; refine (HBX.out _ (HV.out _ BW.out)).mono ?_; rintro e w5x ⟨rfl, qb⟩)
      have zb := qb.size
      replace ct0 := boxD ct0 qb
      replace lt : bt < w5x.heap.size := by omega
      replace Tt := Lib.hid (Tt.out.below qb)
      replace BW := Lib.hid (BW.out.trans (qb.mono BW.out.size))
      clear qb zb
      go_wp2_with fail
      (go_at_call 45; refine (HME.out _ Tt.out).mono ?_; rintro e w6x ⟨rfl, qb⟩)
      have zb := qb.size
      replace ct0 := boxD ct0 qb
      replace lt : bt < w6x.heap.size := by omega
      replace Tt := Lib.hid (Tt.out.below qb)
      replace BW := Lib.hid (BW.out.trans (qb.mono BW.out.size))
      clear qb zb
      rcases hbo : (bb && ob) with _ | _
      · have e1 := HSAME.out (by simp) (by simp) hbo
        subst e1
        clear HSAME HSX HLX HNO
        rcases bb with _ | _
        · clear hbo
          have at0 : ∀ o, (w6x.alloc o).cell? ⟨bt, 0, none⟩ = some (.slice g1 us.length k1) := fun o => by rw [cell_alloc_lt lt]; exact ct0
          go_wp2_with fail
          obtain ⟨W7, hW7⟩ : ∃ W, W = (w6x.alloc (.cells #[.int .i64 xa, .int .i64 xp] 34)) := ⟨_, rfl⟩
          have qW7 : Below w6x.heap.size w6x W7 := by rw [hW7]; exact (Below.refl _ _).alloc (Nat.le_refl _) _
          have zW7 : w6x.heap.size + 1 ≤ W7.heap.size := by rw [hW7]; simp
          replace ct0 := boxD ct0 qW7
          replace lt : bt < W7.heap.size := by omega
          have ce0 : W7.cell? ⟨w6x.heap.size, 0, none⟩ = some (.int .i64 xa) := by rw [hW7]; simp
          have ce1 : W7.cell? ⟨w6x.heap.size, 1, none⟩ = some (.int .i64 xp) := by rw [hW7]; simp
          replace Tt := Lib.hid (Tt.out.below qW7)
          replace BW := Lib.hid (BW.out.trans (qW7.mono BW.out.size))
          rw [← hW7]
          obtain ⟨be, hbe⟩ : ∃ b, b = w6x.heap.size := ⟨_, rfl⟩
          have le : be < W7.heap.size := by omega
          rw [← hbe] at ce0 ce1 ⊢
          clear hbe hW7
          clear at0
          clear qW7 zW7
          (go_at_call 19; refine (haOk_any _).mono ?_; rintro e wl ⟨rfl, rfl⟩)
          go_wp2_with fail
          go_ret
          exact ⟨by simp, BW.out⟩
        · have e2 : ob = false := by simpa using hbo
          subst e2
          clear hbo
          have at0 : ∀ o, (w6x.alloc o).cell? ⟨bt, 0, none⟩ = some (.slice g1 us.length k1) := fun o => by rw [cell_alloc_lt lt]; exact ct0
          go_wp2_with fail
          obtain ⟨W7, hW7⟩ : ∃ W, W = (w6x.alloc (.cells #[.int .i64 xa, .int .i64 xp] 34)) := ⟨_, rfl⟩
          have qW7 : Below w6x.heap.size w6x W7 := by rw [hW7]; exact (Below.refl _ _).alloc (Nat.le_refl _) _
          have zW7 : w6x.heap.size + 1 ≤ W7.heap.size := by rw [hW7]; simp
          replace ct0 := boxD ct0 qW7
          replace lt : bt < W7.heap.size := by omega
          have ce0 : W7.cell? ⟨w6x.heap.size, 0, none⟩ = some (.int .i64 xa) := by rw [hW7]; simp
          have ce1 : W7.cell? ⟨w6x.heap.size, 1, none⟩ = some (.int .i64 xp) := by rw [hW7]; simp
          replace Tt := Lib.hid (Tt.out.below qW7)
          replace BW := Lib.hid (BW.out.trans (qW7.mono BW.out.size))
          rw [← hW7]
          obtain ⟨be, hbe⟩ : ∃ b, b = w6x.heap.size := ⟨_, rfl⟩
          have le : be < W7.heap.size := by omega
          rw [← hbe] at ce0 ce1 ⊢
          clear hbe hW7
          clear at0
          clear qW7 zW7
          (go_at_call 19; refine (haOk_any _).mono ?_; rintro e wl ⟨rfl, rfl⟩)
          go_wp2_with fail
          go_ret
          exact ⟨by simp, BW.out⟩
      · obtain ⟨e1, e2⟩ : bb = true ∧ ob = true := by simpa using hbo
        subst e1
        subst e2
        clear hbo
        have at0 : ∀ o, (w6x.alloc o).cell? ⟨bt, 0, none⟩ = some (.slice g1 us.length k1) := fun o => by rw [cell_alloc_lt lt]; exact ct0
        go_wp2_with fail
        obtain ⟨W7, hW7⟩ : ∃ W, W = (w6x.alloc (.cells #[.int .i64 xa, .int .i64 xp] 34)) := ⟨_, rfl⟩
        have qW7 : Below w6x.heap.size w6x W7 := by rw [hW7]; exact (Below.refl _ _).alloc (Nat.le_refl _) _
        have zW7 : w6x.heap.size + 1 ≤ W7.heap.size := by rw [hW7]; simp
        replace ct0 := boxD ct0 qW7
        replace lt : bt < W7.heap.size := by omega
        have ce0 : W7.cell? ⟨w6x.heap.size, 0, none⟩ = some (.int .i64 xa) := by rw [hW7]; simp
        have ce1 : W7.cell? ⟨w6x.heap.size, 1, none⟩ = some (.int .i64 xp) := by rw [hW7]; simp
        replace Tt := Lib.hid (Tt.out.below qW7)
        replace BW := Lib.hid (BW.out.trans (qW7.mono BW.out.size))
        rw [← hW7]
        obtain ⟨be, hbe⟩ : ∃ b, b = w6x.heap.size := ⟨_, rfl⟩
        have le : be < W7.heap.size := by omega
        rw [← hbe] at ce0 ce1 ⊢
        clear hbe hW7
        clear at0
        clear qW7 zW7
        (go_at_call 20; refine (HSX.out (by simp) (by simp) (by simp) _ (HV.out _ BW.out)).mono ?_; rintro e w8x ⟨rfl, qb⟩)
        have zb := qb.size
        replace ct0 := boxD ct0 qb
        replace lt : bt < w8x.heap.size := by omega
        replace ce0 := boxD ce0 qb
        replace ce1 := boxD ce1 qb
        replace le : be < w8x.heap.size := by omega
        replace Tt := Lib.hid (Tt.out.below qb)
        replace BW := Lib.hid (BW.out.trans (qb.mono BW.out.size))
        clear qb zb
        have at0 : ∀ o, (w8x.alloc o).cell? ⟨bt, 0, none⟩ = some (.slice g1 us.length k1) := fun o => by rw [cell_alloc_lt lt]; exact ct0
        have ae0 : ∀ o, (w8x.alloc o).cell? ⟨be, 0, none⟩ = some (.int .i64 xa) := fun o => by rw [cell_alloc_lt le]; exact ce0
        have ae1 : ∀ o, (w8x.alloc o).cell? ⟨be, 1, none⟩ = some (.int .i64 xp) := fun o => by rw [cell_alloc_lt le]; exact ce1
        go_wp2_with fail
        obtain ⟨W9, hW9⟩ : ∃ W, W = (w8x.alloc (.cells #[.int .i64 xa, .int .i64 xp] 34)) := ⟨_, rfl⟩
        have qW9 : Below w8x.heap.size w8x W9 := by rw [hW9]; exact (Below.refl _ _).alloc (Nat.le_refl _) _
        have zW9 : w8x.heap.size + 1 ≤ W9.heap.size := by rw [hW9]; simp
        replace ct0 := boxD ct0 qW9
        replace lt : bt < W9.heap.size := by omega
        replace ce0 := boxD ce0 qW9
        replace ce1 := boxD ce1 qW9
        replace le : be < W9.heap.size := by omega
        have cv0 : W9.cell? ⟨w8x.heap.size, 0, none⟩ = some (.int .i64 xa) := by rw [hW9]; simp
        have cv1 : W9.cell? ⟨w8x.heap.size, 1, none⟩ = some (.int .i64 xp) := by rw [hW9]; simp
        replace Tt := Lib.hid (Tt.out.below qW9)
        replace BW := Lib.hid (BW.out.trans (qW9.mono BW.out.size))
        rw [← hW9]
        obtain ⟨bv, hbv⟩ : ∃ b, b = w8x.heap.size := ⟨_, rfl⟩
        have lv : bv < W9.heap.size := by omega
        rw [← hbv] at cv0 cv1 ⊢
        clear hbv hW9
        clear at0 ae0 ae1
        clear qW9 zW9
        (go_at_call 23; refine (HLX.out (by simp) (by simp) _).mono ?_; rintro e wl ⟨rfl, rfl⟩)
        go_wp2_with fail
        go_ret
        exact ⟨by simp, BW.out⟩

set_option maxRecDepth 100000 in
set_option maxHeartbeats 800000 in
theorem lwBakLine_any (ao : Option Addr) (n cap : Nat) (w : World) (h : BytesIn w ao n) (hn : n ≤ cap) (hv : VarsOk w) :
    Calls Tryz.prog 8 #[.slice ao n cap] w fun e w' => e = .returned (.bool true) ∧ Below w.heap.size w w' := by
  by_cases hb1 : 1048576 < n
  · clear h hv
    go_enter Tryz.func8, Tryz.ntmps8
    go_wp2_with fail
    go_ret
    exact ⟨rfl, Below.refl _ _⟩
  · exact lwBakLine_of ao n cap w h hn hv hb1

end Go.Proofs.YtoidmmedpefjfaaGreatDoor
