/- The law that what went outside comes back as it was: at every two codes. Conditions: the codes lie in memory; the variables that are read hold what they are laid with. (Several texts, joined: RwrP, IBak, BakP, LwBakRwr.) -/
import Derived.Test.YtoidmmedpefjfaaGreatDoorTBkrc
import Derived.Test.YtoidmmedpefjfaaGreatDoorTBkrd
import Derived.Test.YtoidmmedpefjfaaGreatDoorIPorts
import Derived.Test.YtoidmmedpefjfaaGreatDoorTBkra
import Derived.Test.YtoidmmedpefjfaaGreatDoorTBkrb
import Derived.Test.YtoidmmedpefjfaaGreatDoorILin
import Derived.Test.YtoidmmedpefjfaaGreatDoorSBak
import Derived.Test.YtoidmmedpefjfaaGreatDoorVals
import Derived.Test.YtoidmmedpefjfaaGreatDoorDrawRL
import Derived.Test.YtoidmmedpefjfaaGreatDoorDrawBL
import Derived.Test.YtoidmmedpefjfaaGreatDoorHaOk
import Derived.Test.YtoidmmedpefjfaaGreatDoorHaEnds
import Derived.Test.YtoidmmedpefjfaaGreatDoorSPuts

/- What a line is as it goes outside, as data: its port, its length, and that it is a line. No condition. -/
namespace Go.Proofs.YtoidmmedpefjfaaGreatDoor
open Go.RowKit

theorem data_inj {a b : ByteArray} (h : a.data.toList = b.data.toList) : a = b := by
  rw [← Lib.mk_data a, ← Lib.mk_data b, h]
theorem putE_low {us : List (Int × Int)} {e : Int × Int} (h : (putE us e).2 ≠ 0) : 500 ≤ (putE us e).2 := by
  have hb := findI_bounds us e
  unfold putE at h ⊢
  split at h
  · rename_i h1
    rw [if_pos h1]
    unfold portI at h1 ⊢
    split at h1
    · omega
    · rename_i h2
      simp only
      rw [if_neg h2]; omega
  · rename_i h1
    rw [if_neg h1]
    split at h
    · exact absurd rfl h
    · rename_i h2
      rw [if_neg h2]
      simp only; omega
theorem box_end {q : Int} (h0 : 500 ≤ q) (h1 : q ≤ 506) : endB 50 q = true := by
  unfold endB boxB inB
  simp
  right; omega
theorem lin_line {es : List (Int × Int)} {l : List UInt8} (hm : mapB es = true) (hl : linB l = true) : linB (lineE es l).2 = true := by
  rcases h : saysE l with _ | e
  · rw [lineE_none h]; exact hl
  · rw [lineE_some h]
    simp only
    have hb := putE_snd_bound es e (mapB_le hm)
    by_cases h0 : (putE es e).2 = 0
    · rw [if_pos h0]; decide
    · rw [if_neg h0]
      exact lpL_lin (box_end (putE_low h0) hb.2)
theorem rwrA_len (es : List (Int × Int)) (l : List UInt8) : (rwrA es l).2.length ≤ l.length + 20 := by
  unfold rwrA
  split
  · exact lineE_len es l
  · simp
theorem findI_snoc {us : List (Int × Int)} {e : Int × Int} (h : e ∉ us) : findI (us ++ [e]) e = us.length := by
  refine findI_hit (k := us.length) (by simp) (by simp) ?_
  intro j hj he
  rw [List.getElem_append_left hj] at he
  exact h (he ▸ List.getElem_mem _)
/-- The port that an end has behind it is the one that is told. -/
theorem rwr_port (us : List (Int × Int)) (e : Int × Int) (_ : us.length ≤ 6) : portI (putE us e).1 e = (putE us e).2 := by
  by_cases h0 : (putE us e).2 = 0
  · obtain ⟨h1, _, h3⟩ := putE_zero h0
    rw [h3, h1, h0]
  · exact putE_port h0

end Go.Proofs.YtoidmmedpefjfaaGreatDoor

/- BakLine of the program: as the specification's, of every table and text. Conditions: at most 2^22 ends, all numbers ints; the text has at most 2^21 bytes; the variables that are read hold what they are laid with. -/
namespace Go.Proofs.YtoidmmedpefjfaaGreatDoor
open Go.RowKit Go.Sort

theorem box_port {l : List UInt8} {p : Int} (h : boxE l = some p) : 1 ≤ p ∧ p ≤ 999 := by
  unfold boxE at h
  split at h
  · split at h
    · rename_i a q hr
      split at h
      · rename_i ha
        subst ha
        obtain rfl : q = p := by simpa using h
        have he := (rdE_some hr).2
        simp [endB, insB, outB, boxB, inB] at he
        omega
      · cases h
    · cases h
  · cases h

set_option maxRecDepth 100000 in
set_option maxHeartbeats 1600000 in
theorem lineInside_any (g1 g2 : Nat) (es : List (Int × Int)) (s : ByteArray) (w : World) (hs : s.size ≤ 2097152) (hb : Both w g1 g2 es) (hv : VarsOk w) (htb : TabOk w) :
    Calls Tryz.prog 85 #[.agg #[.map (some g1), .map (some g2)], .string s] w fun e w' => e = .returned (.string ⟨(backE es s.data.toList).toArray⟩) ∧ Below w.heap.size w w' := by
  have HBo : Hid (∀ w', Below w.heap.size w w' → Both w' g1 g2 es) := fun w' h => hb.later h
  have HV := Lib.hid hv
  have HTb : Hid (∀ w', Below w.heap.size w w' → TabOk w') := fun w' h => htb.below h (Nat.le_refl _)
  clear hb hv htb
  rcases hx : boxE s.data.toList with _ | p
  · have HB : Hid (∀ w, VarsOk w → Calls Tryz.prog 44 #[.string s] w fun e w' => e = .returned (.tuple #[.int .i64 0, .bool false]) ∧ Below w.heap.size w w') := fun w hv => by have := implBox_any s w hs hv; rw [hx] at this; exact this
    have HE : Hid (backE es s.data.toList = s.data.toList) := by show backE _ _ = _; unfold backE; rw [hx]
    clear hx
    go_enter Tryz.func85, Tryz.ntmps85
    go_wp2_with fail
    (go_at_call 44; refine (HB.out _ (HV.out.below ((Below.refl _ _).alloc (Nat.le_refl _) _))).mono ?_; rintro e w1 ⟨rfl, b1⟩)
    go_wp2_with fail
    go_ret
    exact ⟨by rw [HE.out, str_same]; rfl, ((Below.refl _ _).alloc (Nat.le_refl _) _).trans (b1.mono (by simp))⟩
  · have hp := box_port hx
    have wn : (Lit.int .i64 p).wf = true := WalkArith.wf_i64 (by omega)
    have HB : Hid (∀ w, VarsOk w → Calls Tryz.prog 44 #[.string s] w fun e w' => e = .returned (.tuple #[.int .i64 p, .bool true]) ∧ Below w.heap.size w w') := fun w hv => by have := implBox_any s w hs hv; rw [hx] at this; exact this
    rcases hi : endI es p with _ | ⟨a, q⟩
    · have HE : Hid (backE es s.data.toList = s.data.toList) := by show backE _ _ = _; unfold backE; rw [hx]; simp only [hi]
      have HM : Hid (∀ w, Both w g1 g2 es → Calls Tryz.prog 88 #[.agg #[.map (some g1), .map (some g2)], .int .i64 p] w fun e w' => e = .returned (.tuple #[.agg #[.int .i64 0, .int .i64 0], .bool false]) ∧ Below w.heap.size w w') := fun w h => by have := key_any g1 g2 es p w h wn; rw [hi] at this; exact this
      clear hx hi hp wn
      go_enter Tryz.func85, Tryz.ntmps85
      go_wp2_with fail
      (go_at_call 44; refine (HB.out _ (HV.out.below ((Below.refl _ _).alloc (Nat.le_refl _) _))).mono ?_; rintro e w1 ⟨rfl, b1⟩; have B1 : Hid (Below w.heap.size w w1) := ((Below.refl _ _).alloc (Nat.le_refl _) _).trans (b1.mono (by simp)); have t0 : w1.cell? ⟨w.heap.size, 0, none⟩ = some (.map (some g1)) := (by rw [b1.cell (by simp)]; simp); have t1 : w1.cell? ⟨w.heap.size, 1, none⟩ = some (.map (some g2)) := (by rw [b1.cell (by simp)]; simp); clear b1)
      go_wp2_with fail
      (go_at_call 88; refine (HM.out _ (HBo.out _ B1.out)).mono ?_; rintro e w2 ⟨rfl, b2⟩; have B2 : Hid (Below w.heap.size w w2) := B1.out.trans (b2.mono B1.out.size); clear b2)
      go_wp2_with fail
      go_ret
      exact ⟨by rw [HE.out, str_same]; rfl, B2.out.alloc B2.out.size _⟩
    · have HE : Hid (backE es s.data.toList = lpL a q) := by show backE _ _ = _; unfold backE; rw [hx]; simp only [hi]
      have HM : Hid (∀ w, Both w g1 g2 es → Calls Tryz.prog 88 #[.agg #[.map (some g1), .map (some g2)], .int .i64 p] w fun e w' => e = .returned (.tuple #[.agg #[.int .i64 a, .int .i64 q], .bool true]) ∧ Below w.heap.size w w') := fun w h => by have := key_any g1 g2 es p w h wn; rw [hi] at this; exact this
      clear hx hi hp wn
      go_enter Tryz.func85, Tryz.ntmps85
      go_wp2_with fail
      (go_at_call 44; refine (HB.out _ (HV.out.below ((Below.refl _ _).alloc (Nat.le_refl _) _))).mono ?_; rintro e w1 ⟨rfl, b1⟩; have B1 : Hid (Below w.heap.size w w1) := ((Below.refl _ _).alloc (Nat.le_refl _) _).trans (b1.mono (by simp)); have t0 : w1.cell? ⟨w.heap.size, 0, none⟩ = some (.map (some g1)) := (by rw [b1.cell (by simp)]; simp); have t1 : w1.cell? ⟨w.heap.size, 1, none⟩ = some (.map (some g2)) := (by rw [b1.cell (by simp)]; simp); clear b1)
      go_wp2_with fail
      (go_at_call 88; refine (HM.out _ (HBo.out _ B1.out)).mono ?_; rintro e w2 ⟨rfl, b2⟩; have B2 : Hid (Below w.heap.size w w2) := B1.out.trans (b2.mono B1.out.size); clear b2)
      have B3 := Lib.hid (B2.out.alloc B2.out.size (.cells #[.int .i64 a, .int .i64 q] 34))
      go_wp2_with fail
      (go_at_call 25; refine (implLinPort_any a q _ (HTb.out _ B3.out)).mono ?_; rintro e w3 ⟨rfl, b3⟩)
      go_wp2_with fail
      go_ret
      exact ⟨by rw [HE.out]; rfl, B3.out.trans (b3.mono B3.out.size)⟩

set_option maxRecDepth 100000 in
set_option maxHeartbeats 1600000 in
theorem implBakLine_any (v : Value) (es : List (Int × Int)) (s : ByteArray) (w : World) (hn : es.length ≤ 4194304) (hs : s.size ≤ 2097152) (hwf : wfE es) (ht : TabAt w v es) (hv : VarsOk w) (htb : TabOk w) :
    Calls Tryz.prog 42 #[.agg #[v], .string s] w fun e w' => e = .returned (.string ⟨(bakE es s.data.toList).toArray⟩) ∧ Below w.heap.size w w' := by
  have HT := Lib.hid ht
  obtain ⟨ad, cap, rfl, _, _⟩ := ht
  have HV : Hid (∀ w', Below w.heap.size w w' → VarsOk w' ∧ TabOk w') := fun w' h => ⟨hv.below h, htb.below h (Nat.le_refl _)⟩
  clear hv htb
  by_cases hm : mapB es = true
  · have hM : Hid (∀ w, TabAt w (.slice ad es.length cap) es → Calls Tryz.prog 21 #[.agg #[.slice ad es.length cap]] w fun e w' => e = .returned (.bool true) ∧ Below w.heap.size w w') := fun w h => by rw [← hm]; exact implMapOk_any _ es w hn hwf h
    by_cases hl : linB s.data.toList = true
    · have hL : Hid (∀ w, Calls Tryz.prog 23 #[.string s] w fun e w' => e = .returned (.bool true) ∧ w = w') := fun w => by rw [← hl]; exact implLin_any s w (by omega)
      have HP : Hid (∀ w, TabAt w (.slice ad es.length cap) es → Calls Tryz.prog 51 #[.agg #[.slice ad es.length cap]] w fun e w' => ∃ g1 g2, e = .returned (.agg #[.map (some g1), .map (some g2)]) ∧ w.heap.size ≤ g1 ∧ w.heap.size ≤ g2 ∧ Both w' g1 g2 es ∧ Below w.heap.size w w') := fun w h => portsOf_any _ es w hn hwf h
      have HI : Hid (∀ g1 g2 w, Both w g1 g2 es → VarsOk w → TabOk w → Calls Tryz.prog 85 #[.agg #[.map (some g1), .map (some g2)], .string s] w fun e w' => e = .returned (.string ⟨(bakE es s.data.toList).toArray⟩) ∧ Below w.heap.size w w') := fun g1 g2 w h1 h2 h3 => by
        rw [show bakE es s.data.toList = backE es s.data.toList from if_pos ⟨hm, hl⟩]
        exact lineInside_any g1 g2 es s w hs h1 h2 h3
      obtain ⟨x, hx⟩ : ∃ x, x = (bakE es s.data.toList).toArray := ⟨_, rfl⟩
      rw [← hx] at HI ⊢
      clear hm hl hwf hx hn
      go_enter Tryz.func42, Tryz.ntmps42
      go_wp2_with (first
        | (go_at_call 21; refine (hM.out _ (HT.out.below ((Below.refl _ _).alloc (Nat.le_refl _) _))).mono ?_; rintro e w1 ⟨rfl, b1⟩; have B1 : Hid (Below w.heap.size w w1) := ((Below.refl _ _).alloc (Nat.le_refl _) _).trans (b1.mono (by simp)); have t0 : w1.cell? ⟨w.heap.size, 0, none⟩ = some (.slice ad es.length cap) := (by rw [b1.cell (by simp)]; simp); clear b1)
        | (go_at_call 23; refine (hL.out _).mono ?_; rintro e w2 ⟨rfl, rfl⟩)
        | (go_at_call 51; refine (HP.out _ (HT.out.below B1.out)).mono ?_; rintro e w3 ⟨g1, g2, rfl, _, _, hb, b3⟩; have HB := Lib.hid hb; have B3 : Hid (Below w.heap.size w w3) := B1.out.trans (b3.mono B1.out.size); clear b3 hb)
        | (go_at_call 85; refine (HI.out _ _ _ HB.out (HV.out _ B3.out).1 (HV.out _ B3.out).2).mono ?_; rintro e w4 ⟨rfl, b4⟩; have B4 : Hid (Below w.heap.size w w4) := B3.out.trans (b4.mono B3.out.size)))
      go_ret
      exact ⟨rfl, B4.out⟩
    · have hl' : linB s.data.toList = false := by simpa using hl
      have hL : Hid (∀ w, Calls Tryz.prog 23 #[.string s] w fun e w' => e = .returned (.bool false) ∧ w = w') := fun w => by rw [← hl']; exact implLin_any s w (by omega)
      rw [show bakE es s.data.toList = [] from if_neg (fun h => hl h.2)]
      clear hm hl hl' hwf HV
      go_enter Tryz.func42, Tryz.ntmps42
      go_wp2_with (first
        | (go_at_call 21; refine (hM.out _ (HT.out.below ((Below.refl _ _).alloc (Nat.le_refl _) _))).mono ?_; rintro e w1 ⟨rfl, b1⟩; have B1 : Hid (Below w.heap.size w w1) := ((Below.refl _ _).alloc (Nat.le_refl _) _).trans (b1.mono (by simp)); clear b1)
        | (go_at_call 23; refine (hL.out _).mono ?_; rintro e w2 ⟨rfl, rfl⟩))
      go_ret
      exact ⟨rfl, B1.out⟩
  · have hm' : mapB es = false := by simpa using hm
    have hM : Hid (∀ w, TabAt w (.slice ad es.length cap) es → Calls Tryz.prog 21 #[.agg #[.slice ad es.length cap]] w fun e w' => e = .returned (.bool false) ∧ Below w.heap.size w w') := fun w h => by rw [← hm']; exact implMapOk_any _ es w hn hwf h
    rw [show bakE es s.data.toList = [] from if_neg (fun h => hm h.1)]
    clear hm hm' hwf HV
    go_enter Tryz.func42, Tryz.ntmps42
    go_wp2_with (go_at_call 21; refine (hM.out _ (HT.out.below ((Below.refl _ _).alloc (Nat.le_refl _) _))).mono ?_; rintro e w1 ⟨rfl, b1⟩)
    go_ret
    exact ⟨rfl, ((Below.refl _ _).alloc (Nat.le_refl _) _).trans (b1.mono (by simp))⟩

end Go.Proofs.YtoidmmedpefjfaaGreatDoor

/- What a line is as it goes inside, as data: a line; once more it is the same; whom it names. No condition. -/
namespace Go.Proofs.YtoidmmedpefjfaaGreatDoor
open Go.RowKit

theorem data_injB {a b : ByteArray} (h : a.data.toList = b.data.toList) : a = b := by
  rw [← Lib.mk_data a, ← Lib.mk_data b, h]
theorem endI_mem {es : List (Int × Int)} {q : Int} {e : Int × Int} (h : endI es q = some e) : e ∈ es := by
  unfold endI at h
  split at h
  · exact List.mem_of_getElem? h
  · cases h
theorem ins_end {a p : Int} (h : insB a p = true) : endB a p = true ∧ a ≠ 50 := by
  refine ⟨by unfold endB; rw [h]; rfl, ?_⟩
  unfold insB inB at h
  simp at h
  omega
theorem bakE_yes {es : List (Int × Int)} {l : List UInt8} (h1 : mapB es = true) (h2 : linB l = true) : bakE es l = backE es l := if_pos ⟨h1, h2⟩
theorem bakE_not {es : List (Int × Int)} {l : List UInt8} (h : (mapB es && linB l) = false) : bakE es l = [] := if_neg (fun hh => by rw [hh.1, hh.2] at h; cases h)
theorem backE_none {es : List (Int × Int)} {l : List UInt8} (h : boxE l = none) : backE es l = l := by unfold backE; rw [h]
theorem backE_free {es : List (Int × Int)} {l : List UInt8} {p : Int} (h : boxE l = some p) (h2 : endI es p = none) : backE es l = l := by unfold backE; rw [h]; simp only; rw [h2]
theorem backE_has {es : List (Int × Int)} {l : List UInt8} {p a q : Int} (h : boxE l = some p) (h2 : endI es p = some (a, q)) : backE es l = lpL a q := by unfold backE; rw [h]; simp only; rw [h2]
/-- What goes inside is a line; it names no port of the box's that an end has. -/
theorem backE_lin {es : List (Int × Int)} {l : List UInt8} (hm : mapB es = true) (hl : linB l = true) : linB (backE es l) = true := by
  rcases hb : boxE l with _ | p
  · rw [backE_none hb]; exact hl
  · rcases he : endI es p with _ | ⟨a, q⟩
    · rw [backE_free hb he]; exact hl
    · rw [backE_has hb he]
      exact lpL_lin (ins_end (mapB_ins hm _ (endI_mem he))).1
theorem backE_again {es : List (Int × Int)} {l : List UInt8} (hm : mapB es = true) : backE es (backE es l) = backE es l := by
  rcases hb : boxE l with _ | p
  · rw [backE_none hb, backE_none hb]
  · rcases he : endI es p with _ | ⟨a, q⟩
    · rw [backE_free hb he, backE_free hb he]
    · rw [backE_has hb he]
      obtain ⟨h1, h2⟩ := ins_end (mapB_ins hm _ (endI_mem he))
      refine backE_none ?_
      rw [box_lpL h1, if_neg h2]
theorem backE_says {es : List (Int × Int)} {l : List UInt8} {p a q : Int} (hm : mapB es = true) (hb : boxE l = some p) (he : endI es p = some (a, q)) : saysE (backE es l) = some (a, q) := by
  have hi : insB a q = true := mapB_ins hm _ (endI_mem he)
  rw [backE_has hb he, says_lpL (ins_end hi).1, if_pos hi]
theorem bakE_len (es : List (Int × Int)) (l : List UInt8) : (bakE es l).length ≤ l.length + 20 := by
  unfold bakE
  split
  · unfold backE
    split
    · omega
    · split
      · omega
      · rename_i a q _
        have : (lpL a q).length ≤ 20 := by
          unfold lpL
          split
          · rename_i h
            obtain ⟨h1, h2, h3, h4⟩ := end_bounds h
            have l1 := dec_len4 (k := a.toNat) (by omega)
            have l2 := dec_len4 (k := q.toNat) (by omega)
            simp [portL, endL]; omega
          · simp
        omega
  · simp

end Go.Proofs.YtoidmmedpefjfaaGreatDoor

/- The law that what went outside comes back as it was: at every two codes. Conditions: the codes lie in memory; the variables that are read hold what they are laid with. -/
namespace Go.Proofs.YtoidmmedpefjfaaGreatDoor
open Go.RowKit Go.Sort

theorem boxD {w w' : World} {b i : Nat} {v : Value} (h : w.cell? ⟨b, i, none⟩ = some v) (hb : Below w.heap.size w w') : w'.cell? ⟨b, i, none⟩ = some v := by
  rw [hb.cell (p := ⟨b, i, none⟩) (World.block_lt_of_cell? w _ h)]; exact h
theorem SmE.wfE {us : List (Int × Int)} (h : SmE us) : wfE us := fun x hx => (h x hx).wf

set_option maxRecDepth 100000 in
set_option maxHeartbeats 12800000 in
theorem lwBakRwr_of (ao : Option Addr) (n cap : Nat) (ao2 : Option Addr) (n2 cap2 : Nat) (w : World) (h : BytesIn w ao n) (hn : n ≤ cap) (h2 : BytesIn w ao2 n2) (hn2 : n2 ≤ cap2) (hv : VarsOk w) (hb1 : ¬ 1048576 < n) (hb2 : ¬ 1048576 < n2) :
    Calls Tryz.prog 9 #[.slice ao n cap, .slice ao2 n2 cap2] w fun e w' => e = .returned (.bool true) ∧ Below w.heap.size w w' := by
  have H := Lib.hid h
  have HB2 : Hid (∀ w', Below w.heap.size w w' → BytesIn w' ao2 n2) := fun w' hb => h2.below hb
  have HV : Hid (∀ w', Below w.heap.size w w' → VarsOk w') := fun w' h => hv.below h
  clear h h2 hv
  go_enter Tryz.func9, Tryz.ntmps9
  go_wp2_with fail
  (go_at_call 13; refine (drawRwrLine_any ao n cap _ H.out hn).mono ?_; rintro e w1 ⟨g1, k1, us, s, rfl, o1, ⟨u8, sm1⟩, hss, b1⟩)
  have BW := Lib.hid b1
  have Tt := Lib.hid o1.tab
  have WU := Lib.hid sm1.wfE
  clear b1 o1 H sm1
  go_wp2_with fail
  obtain ⟨W1, hW1⟩ : ∃ W, W = (w1.alloc (.cells #[.slice g1 us.length k1] 25)) := ⟨_, rfl⟩
  have qW1 : Below w1.heap.size w1 W1 := by rw [hW1]; exact (Below.refl _ _).alloc (Nat.le_refl _) _
  have zW1 : w1.heap.size + 1 ≤ W1.heap.size := by rw [hW1]; simp
  have ct0 : W1.cell? ⟨w1.heap.size, 0, none⟩ = some (.slice g1 us.length k1) := by rw [hW1]; simp
  replace Tt := Lib.hid (Tt.out.below qW1)
  replace BW := Lib.hid (BW.out.trans (qW1.mono BW.out.size))
  rw [← hW1]
  obtain ⟨bt, hbt⟩ : ∃ b, b = w1.heap.size := ⟨_, rfl⟩
  have lt : bt < W1.heap.size := by omega
  rw [← hbt] at ct0 ⊢
  clear hbt hW1
  clear qW1 zW1
  (go_at_call 41; refine (drawBakLine_any ao2 n2 cap2 _ (HB2.out _ BW.out) hn2).mono ?_; rintro e w2x ⟨g2, k2, vs, r, rfl, o2, ⟨v8, sm2⟩, hrs, qb⟩)
  have zb := qb.size
  replace ct0 := boxD ct0 qb
  replace lt : bt < w2x.heap.size := by omega
  replace Tt := Lib.hid (Tt.out.below qb)
  replace BW := Lib.hid (BW.out.trans (qb.mono BW.out.size))
  clear qb zb
  have Tu := Lib.hid o2.tab
  have WV := Lib.hid sm2.wfE
  clear o2 sm2 HB2
  have hxl := rwrA_le us s.data.toList
  obtain ⟨xs, hxs⟩ : ∃ xs, xs = (rwrA us s.data.toList).1 := ⟨_, rfl⟩
  obtain ⟨Q1, hQ1⟩ : ∃ Q1 : ByteArray, Q1 = ⟨(rwrA us s.data.toList).2.toArray⟩ := ⟨_, rfl⟩
  have hQl : Q1.data.toList = (rwrA us s.data.toList).2 := by rw [hQ1]
  have hQ1s : Q1.size ≤ 2097152 := by have := rwrA_len us s.data.toList; rw [← hQl, len_list, len_list] at this; omega
  rw [← hxs] at hxl
  obtain ⟨X, hX⟩ : ∃ X : ByteArray, X = ⟨(bakE vs r.data.toList).toArray⟩ := ⟨_, rfl⟩
  have hXl : X.data.toList = bakE vs r.data.toList := by rw [hX]
  have hXs : X.size ≤ 2097152 := by have := bakE_len vs r.data.toList; rw [← hXl, len_list, len_list] at this; omega
  obtain ⟨mb, hmb⟩ : ∃ mb, mb = mapB us := ⟨_, rfl⟩
  obtain ⟨lb, hlb⟩ : ∃ lb, lb = linB s.data.toList := ⟨_, rfl⟩
  obtain ⟨vb, hvb⟩ : ∃ vb, vb = mapB vs := ⟨_, rfl⟩
  obtain ⟨rb, hrb⟩ : ∃ rb, rb = linB r.data.toList := ⟨_, rfl⟩
  have HIA : Hid (∀ w, TabAt w (.slice g1 us.length k1) us → VarsOk w → Calls Tryz.prog 14 #[.agg #[.slice g1 us.length k1], .string s] w fun e w' => ∃ g c, e = .returned (.tuple #[.agg #[.slice g xs.length c], .string (Q1)]) ∧ FreshTab w' w.heap.size (.slice g xs.length c) xs ∧ Below w.heap.size w w') := fun w ht hv => by rw [hxs, hQ1]; exact implRwrA _ us s w (by omega) (by omega) WU.out ht hv
  have HSA : Hid (∀ w, TabAt w (.slice g1 us.length k1) us → Calls Tryz.prog 15 #[.agg #[.slice g1 us.length k1], .string s] w fun e w' => ∃ g c, e = .returned (.tuple #[.agg #[.slice g xs.length c], .string (Q1)]) ∧ FreshTab w' w.heap.size (.slice g xs.length c) xs ∧ Below w.heap.size w w') := fun w ht => by rw [hxs, hQ1]; exact specRwrA _ us s w (by omega) (by omega) ht
  have HMT : Hid (∀ w, TabAt w (.slice g1 us.length k1) us → Calls Tryz.prog 17 #[.agg #[.slice g1 us.length k1]] w fun e w' => e = .returned (.bool mb) ∧ Below w.heap.size w w') := fun w ht => by rw [hmb]; exact specMapOk_any _ us w (by omega) ht
  have HMU : Hid (∀ w, TabAt w (.slice g2 vs.length k2) vs → Calls Tryz.prog 17 #[.agg #[.slice g2 vs.length k2]] w fun e w' => e = .returned (.bool vb) ∧ Below w.heap.size w w') := fun w ht => by rw [hvb]; exact specMapOk_any _ vs w (by omega) ht
  have HLS : Hid (∀ w, Calls Tryz.prog 18 #[.string s] w fun e w' => e = .returned (.bool lb) ∧ w = w') := fun w => by rw [hlb]; exact specLin_any s w (by omega)
  have HLR : Hid (∀ w, Calls Tryz.prog 18 #[.string r] w fun e w' => e = .returned (.bool rb) ∧ w = w') := fun w => by rw [hrb]; exact specLin_any r w (by omega)
  have HIB : Hid (∀ w, TabAt w (.slice g2 vs.length k2) vs → VarsOk w → Calls Tryz.prog 42 #[.agg #[.slice g2 vs.length k2], .string r] w fun e w' => e = .returned (.string X) ∧ Below w.heap.size w w') := fun w ht hv => by rw [hX]; exact implBakLine_any _ vs r w (by omega) (by omega) WV.out ht hv hv.tab
  obtain ⟨ea, ep, eb, hsv, hsc⟩ : ∃ (ea ep : Int) (eb : Bool), saysV (saysE s.data.toList) = .tuple #[.agg #[.int .i64 ea, .int .i64 ep], .bool eb] ∧ (mb = true → lb = true → eb = true → ((Q1.data.toList == noneL) = false) → mapB xs = true ∧ bakE xs Q1.data.toList = s.data.toList) := by
    rcases hs : saysE s.data.toList with _ | ⟨a, p⟩
    · exact ⟨0, 0, false, rfl, fun _ _ e => by cases e⟩
    · refine ⟨a, p, true, rfl, fun e1 e2 _ e4 => ?_⟩
      rw [hmb] at e1
      rw [hlb] at e2
      have e3 := rwrA_yes (es := us) (l := s.data.toList) (by rw [e1, e2]; rfl)
      have e5 := lineE_some (es := us) hs
      have hx1 : xs = (putE us (a, p)).1 := by rw [hxs, e3, e5]
      have hq1 : Q1.data.toList = if (putE us (a, p)).2 = 0 then noneL else lpL 50 (putE us (a, p)).2 := by rw [hQl, e3, e5]
      have h0 : (putE us (a, p)).2 ≠ 0 := fun h0 => by
        rw [if_pos h0] at hq1
        rw [hq1] at e4
        simp at e4
      rw [if_neg h0] at hq1
      obtain ⟨hi, he, hl⟩ := says_line hs
      have hm : mapB xs = true := by rw [hx1]; exact putE_ok e1 hi
      have hb := putE_snd_bound us (a, p) (mapB_le e1)
      have hbe := box_end (putE_low h0) hb.2
      have hbx : boxE Q1.data.toList = some (putE us (a, p)).2 := by rw [hq1, box_lpL hbe]; rfl
      have hpo : portI xs (a, p) = (putE us (a, p)).2 := by rw [hx1]; exact putE_port h0
      have hen : endI xs (putE us (a, p)).2 = some (a, p) := by rw [← hpo]; exact end_of_port (by rw [hpo]; exact h0)
      refine ⟨hm, ?_⟩
      rw [bakE_yes hm (by rw [hq1]; exact lpL_lin hbe), backE_has hbx hen, hl]
  have HSY : Hid (∀ w, VarsOk w → Calls Tryz.prog 20 #[.string s] w fun e w' => e = .returned (.tuple #[.agg #[.int .i64 ea, .int .i64 ep], .bool eb]) ∧ Below w.heap.size w w') := fun w hv => by rw [← hsv]; exact implSays_any s w (by omega) hv
  have HBX : Hid (mb = true → lb = true → eb = true → ((Q1.data.toList == noneL) = false) → ∀ v w, TabAt w v xs → VarsOk w → Calls Tryz.prog 42 #[.agg #[v], .string Q1] w fun e w' => e = .returned (.string s) ∧ Below w.heap.size w w') := fun e1 e2 e3 e4 v w ht hv => by
    obtain ⟨h1, h2⟩ := hsc e1 e2 e3 e4
    have := implBakLine_any v xs Q1 w (by omega) hQ1s (mapB_wf h1) ht hv hv.tab
    rw [h2, str_same] at this
    exact this
  have HNR : Hid (vb = true → rb = true → ((X.data.toList == r.data.toList) = false) → ∀ w, TabAt w (.slice g2 vs.length k2) vs → VarsOk w → Calls Tryz.prog 14 #[.agg #[.slice g2 vs.length k2], .string X] w fun e w' => ∃ g c, e = .returned (.tuple #[.agg #[.slice g vs.length c], .string (r)]) ∧ FreshTab w' w.heap.size (.slice g vs.length c) vs ∧ Below w.heap.size w w') := fun e1 e2 e3 w ht hv => by
    rw [hvb] at e1
    rw [hrb] at e2
    have hx : X.data.toList = backE vs r.data.toList := by rw [hXl, bakE_yes e1 e2]
    have h1 : rwrA vs X.data.toList = (vs, r.data.toList) := by
      rcases hb : boxE r.data.toList with _ | p
      · rw [hx, backE_none hb] at e3; simp at e3
      · rcases he : endI vs p with _ | ⟨a, q⟩
        · rw [hx, backE_free hb he] at e3; simp at e3
        · have hsy := backE_says e1 hb he
          have hmem := endI_mem he
          have hpo := port_of_end e1 he
          obtain ⟨hbe, hbl⟩ := box_line hb
          have hp := box_port hb
          rw [hx, rwrA_yes (by rw [e1, backE_lin e1 e2]; rfl), lineE_some hsy, putE_has hmem]
          simp only
          rw [hpo, if_neg (by omega), ← hbl]
    have := implRwrA _ vs X w (by omega) hXs WV.out ht hv
    rw [h1] at this
    simp only [show (⟨r.data.toList.toArray⟩ : ByteArray) = r from Lib.mk_data r] at this
    exact this
  have HHE : Hid (∀ v1 v2 w, TabAt w v1 vs → TabAt w v2 vs → Calls Tryz.prog 16 #[v1, v2] w fun e w' => e = .returned (.bool true) ∧ Below w.heap.size w w') := fun v1 v2 w h1 h2 => haEnds_same vs v1 v2 w (by omega) h1 h2
  clear hxs hQ1 hX hXl hQl hmb hvb hlb hrb hsv hsc
  have at0 : ∀ o, (w2x.alloc o).cell? ⟨bt, 0, none⟩ = some (.slice g1 us.length k1) := fun o => by rw [cell_alloc_lt lt]; exact ct0
  go_wp2_with fail
  obtain ⟨W3, hW3⟩ : ∃ W, W = (w2x.alloc (.cells #[.slice g2 vs.length k2] 25)) := ⟨_, rfl⟩
  have qW3 : Below w2x.heap.size w2x W3 := by rw [hW3]; exact (Below.refl _ _).alloc (Nat.le_refl _) _
  have zW3 : w2x.heap.size + 1 ≤ W3.heap.size := by rw [hW3]; simp
  replace ct0 := boxD ct0 qW3
  replace lt : bt < W3.heap.size := by omega
  have cu0 : W3.cell? ⟨w2x.heap.size, 0, none⟩ = some (.slice g2 vs.length k2) := by rw [hW3]; simp
  replace Tt := Lib.hid (Tt.out.below qW3)
  replace Tu := Lib.hid (Tu.out.below qW3)
  replace BW := Lib.hid (BW.out.trans (qW3.mono BW.out.size))
  rw [← hW3]
  obtain ⟨bu, hbu⟩ : ∃ b, b = w2x.heap.size := ⟨_, rfl⟩
  have lu : bu < W3.heap.size := by omega
  rw [← hbu] at cu0 ⊢
  clear hbu hW3
  clear at0
  clear qW3 zW3
  (go_at_call 14; refine (HIA.out _ Tt.out (HV.out _ BW.out)).mono ?_; rintro e w4x ⟨g3, k3, rfl, f3, qb⟩)
  have zb := qb.size
  replace ct0 := boxD ct0 qb
  replace lt : bt < w4x.heap.size := by omega
  replace cu0 := boxD cu0 qb
  replace lu : bu < w4x.heap.size := by omega
  replace Tt := Lib.hid (Tt.out.below qb)
  replace Tu := Lib.hid (Tu.out.below qb)
  replace BW := Lib.hid (BW.out.trans (qb.mono BW.out.size))
  clear qb zb
  have Tx := Lib.hid f3.tab
  clear f3
  have at0 : ∀ o, (w4x.alloc o).cell? ⟨bt, 0, none⟩ = some (.slice g1 us.length k1) := fun o => by rw [cell_alloc_lt lt]; exact ct0
  have au0 : ∀ o, (w4x.alloc o).cell? ⟨bu, 0, none⟩ = some (.slice g2 vs.length k2) := fun o => by rw [cell_alloc_lt lu]; exact cu0
  go_wp2_with fail
  obtain ⟨W5, hW5⟩ : ∃ W, W = (w4x.alloc (.cells #[.slice g3 xs.length k3] 25)) := ⟨_, rfl⟩
  have qW5 : Below w4x.heap.size w4x W5 := by rw [hW5]; exact (Below.refl _ _).alloc (Nat.le_refl _) _
  have zW5 : w4x.heap.size + 1 ≤ W5.heap.size := by rw [hW5]; simp
  replace ct0 := boxD ct0 qW5
  replace lt : bt < W5.heap.size := by omega
  replace cu0 := boxD cu0 qW5
  replace lu : bu < W5.heap.size := by omega
  have cx0 : W5.cell? ⟨w4x.heap.size, 0, none⟩ = some (.slice g3 xs.length k3) := by rw [hW5]; simp
  replace Tt := Lib.hid (Tt.out.below qW5)
  replace Tu := Lib.hid (Tu.out.below qW5)
  replace Tx := Lib.hid (Tx.out.below qW5)
  replace BW := Lib.hid (BW.out.trans (qW5.mono BW.out.size))
  rw [← hW5]
  obtain ⟨bx, hbx⟩ : ∃ b, b = w4x.heap.size := ⟨_, rfl⟩
  have lx : bx < W5.heap.size := by omega
  rw [← hbx] at cx0 ⊢
  clear hbx hW5
  clear at0 au0
  clear qW5 zW5
  (go_at_call 15; refine (HSA.out _ Tt.out).mono ?_; rintro e w6x ⟨g4, k4, rfl, f4, qb⟩)
  have zb := qb.size
  replace ct0 := boxD ct0 qb
  replace lt : bt < w6x.heap.size := by omega
  replace cu0 := boxD cu0 qb
  replace lu : bu < w6x.heap.size := by omega
  replace cx0 := boxD cx0 qb
  replace lx : bx < w6x.heap.size := by omega
  replace Tt := Lib.hid (Tt.out.below qb)
  replace Tu := Lib.hid (Tu.out.below qb)
  replace Tx := Lib.hid (Tx.out.below qb)
  replace BW := Lib.hid (BW.out.trans (qb.mono BW.out.size))
  clear qb zb
  clear f4
  have at0 : ∀ o, (w6x.alloc o).cell? ⟨bt, 0, none⟩ = some (.slice g1 us.length k1) := fun o => by rw [cell_alloc_lt lt]; exact ct0
  have au0 : ∀ o, (w6x.alloc o).cell? ⟨bu, 0, none⟩ = some (.slice g2 vs.length k2) := fun o => by rw [cell_alloc_lt lu]; exact cu0
  have ax0 : ∀ o, (w6x.alloc o).cell? ⟨bx, 0, none⟩ = some (.slice g3 xs.length k3) := fun o => by rw [cell_alloc_lt lx]; exact cx0
  go_wp2_with fail
  obtain ⟨W7, hW7⟩ : ∃ W, W = (w6x.alloc (.cells #[.slice g4 xs.length k4] 25)) := ⟨_, rfl⟩
  have qW7 : Below w6x.heap.size w6x W7 := by rw [hW7]; exact (Below.refl _ _).alloc (Nat.le_refl _) _
  have zW7 : w6x.heap.size + 1 ≤ W7.heap.size := by rw [hW7]; simp
  replace ct0 := boxD ct0 qW7
  replace lt : bt < W7.heap.size := by omega
  replace cu0 := boxD cu0 qW7
  replace lu : bu < W7.heap.size := by omega
  replace cx0 := boxD cx0 qW7
  replace lx : bx < W7.heap.size := by omega
  have cc0 : W7.cell? ⟨w6x.heap.size, 0, none⟩ = some (.slice g4 xs.length k4) := by rw [hW7]; simp
  replace Tt := Lib.hid (Tt.out.below qW7)
  replace Tu := Lib.hid (Tu.out.below qW7)
  replace Tx := Lib.hid (Tx.out.below qW7)
  replace BW := Lib.hid (BW.out.trans (qW7.mono BW.out.size))
  rw [← hW7]
  obtain ⟨bc, hbc⟩ : ∃ b, b = w6x.heap.size := ⟨_, rfl⟩
  have lc : bc < W7.heap.size := by omega
  rw [← hbc] at cc0 ⊢
  clear hbc hW7
  clear at0 au0 ax0
  clear qW7 zW7
  (go_at_call 20; refine (HSY.out _ (HV.out _ BW.out)).mono ?_; rintro e w8x ⟨rfl, qb⟩)
  have zb := qb.size
  replace ct0 := boxD ct0 qb
  replace lt : bt < w8x.heap.size := by omega
  replace cu0 := boxD cu0 qb
  replace lu : bu < w8x.heap.size := by omega
  replace cx0 := boxD cx0 qb
  replace lx : bx < w8x.heap.size := by omega
  replace cc0 := boxD cc0 qb
  replace lc : bc < w8x.heap.size := by omega
  replace Tt := Lib.hid (Tt.out.below qb)
  replace Tu := Lib.hid (Tu.out.below qb)
  replace Tx := Lib.hid (Tx.out.below qb)
  replace BW := Lib.hid (BW.out.trans (qb.mono BW.out.size))
  clear qb zb
  have at0 : ∀ o, (w8x.alloc o).cell? ⟨bt, 0, none⟩ = some (.slice g1 us.length k1) := fun o => by rw [cell_alloc_lt lt]; exact ct0
  have au0 : ∀ o, (w8x.alloc o).cell? ⟨bu, 0, none⟩ = some (.slice g2 vs.length k2) := fun o => by rw [cell_alloc_lt lu]; exact cu0
  have ax0 : ∀ o, (w8x.alloc o).cell? ⟨bx, 0, none⟩ = some (.slice g3 xs.length k3) := fun o => by rw [cell_alloc_lt lx]; exact cx0
  have ac0 : ∀ o, (w8x.alloc o).cell? ⟨bc, 0, none⟩ = some (.slice g4 xs.length k4) := fun o => by rw [cell_alloc_lt lc]; exact cc0
  go_upto_region 10 with fail
  obtain ⟨W9, hW9⟩ : ∃ W, W = (w8x.alloc (.cells #[.int .i64 ea, .int .i64 ep] 34)) := ⟨_, rfl⟩
  have qW9 : Below w8x.heap.size w8x W9 := by rw [hW9]; exact (Below.refl _ _).alloc (Nat.le_refl _) _
  have zW9 : w8x.heap.size + 1 ≤ W9.heap.size := by rw [hW9]; simp
  replace ct0 := boxD ct0 qW9
  replace lt : bt < W9.heap.size := by omega
  replace cu0 := boxD cu0 qW9
  replace lu : bu < W9.heap.size := by omega
  replace cx0 := boxD cx0 qW9
  replace lx : bx < W9.heap.size := by omega
  replace cc0 := boxD cc0 qW9
  replace lc : bc < W9.heap.size := by omega
  have cz0 : W9.cell? ⟨w8x.heap.size, 0, none⟩ = some (.int .i64 ea) := by rw [hW9]; simp
  have cz1 : W9.cell? ⟨w8x.heap.size, 1, none⟩ = some (.int .i64 ep) := by rw [hW9]; simp
  replace Tt := Lib.hid (Tt.out.below qW9)
  replace Tu := Lib.hid (Tu.out.below qW9)
  replace Tx := Lib.hid (Tx.out.below qW9)
  replace BW := Lib.hid (BW.out.trans (qW9.mono BW.out.size))
  rw [← hW9]
  obtain ⟨bz, hbz⟩ : ∃ b, b = w8x.heap.size := ⟨_, rfl⟩
  have lz : bz < W9.heap.size := by omega
  rw [← hbz] at cz0 cz1 ⊢
  clear hbz hW9
  clear at0 au0 ax0 ac0
  clear qW9 zW9
  go_cut [75] (fun s75 wx => s75 = .bool false ∧ Below W9.heap.size W9 wx)
  case first =>
    clear HNR HIB HMU HLR HHE HIA HSA
    have CW : Hid (Below W9.heap.size W9 W9) := Below.refl _ _
    go_wp2_with fail
    (go_at_call 17; refine (HMT.out _ Tt.out).mono ?_; rintro e w10x ⟨rfl, qb⟩)
    have zb := qb.size
    replace ct0 := boxD ct0 qb
    replace lt : bt < w10x.heap.size := by omega
    replace cu0 := boxD cu0 qb
    replace lu : bu < w10x.heap.size := by omega
    replace cx0 := boxD cx0 qb
    replace lx : bx < w10x.heap.size := by omega
    replace cc0 := boxD cc0 qb
    replace lc : bc < w10x.heap.size := by omega
    replace cz0 := boxD cz0 qb
    replace cz1 := boxD cz1 qb
    replace lz : bz < w10x.heap.size := by omega
    replace Tt := Lib.hid (Tt.out.below qb)
    replace Tu := Lib.hid (Tu.out.below qb)
    replace Tx := Lib.hid (Tx.out.below qb)
    replace CW := Lib.hid (CW.out.trans (qb.mono CW.out.size))
    replace BW := Lib.hid (BW.out.trans (qb.mono BW.out.size))
    clear qb zb
    cases mb
    · go_wp2_with fail
      go_meet
      exact ⟨rfl, CW.out⟩
    · go_wp2_with fail
      (go_at_call 18; refine (HLS.out _).mono ?_; rintro e wl ⟨rfl, rfl⟩)
      cases lb
      · go_wp2_with fail
        go_meet
        exact ⟨rfl, CW.out⟩
      · cases eb
        · go_wp2_with fail
          go_meet
          exact ⟨rfl, CW.out⟩
        · rcases hno : (Q1.data.toList == noneL) with _ | _
          · have HC := Lib.hid (HBX.out (by simp) (by simp) (by simp) hno)
            have hno2 : ¬ Q1.toList = [110, 111, 110, 101] := by intro e; rw [← Lib.toList_data, e] at hno; simp [noneL] at hno
            go_wp2_with fail
            (go_at_call 42; refine (HC.out _ _ Tx.out (HV.out _ BW.out)).mono ?_; rintro e w11x ⟨rfl, qb⟩)
            have zb := qb.size
            replace ct0 := boxD ct0 qb
            replace lt : bt < w11x.heap.size := by omega
            replace cu0 := boxD cu0 qb
            replace lu : bu < w11x.heap.size := by omega
            replace cx0 := boxD cx0 qb
            replace lx : bx < w11x.heap.size := by omega
            replace cc0 := boxD cc0 qb
            replace lc : bc < w11x.heap.size := by omega
            replace cz0 := boxD cz0 qb
            replace cz1 := boxD cz1 qb
            replace lz : bz < w11x.heap.size := by omega
            replace Tt := Lib.hid (Tt.out.below qb)
            replace Tu := Lib.hid (Tu.out.below qb)
            replace Tx := Lib.hid (Tx.out.below qb)
            replace CW := Lib.hid (CW.out.trans (qb.mono CW.out.size))
            replace BW := Lib.hid (BW.out.trans (qb.mono BW.out.size))
            clear qb zb
            go_wp2_with fail
            go_meet
            exact ⟨rfl, CW.out⟩
          · have hq : Q1 = ⟨noneL.toArray⟩ := data_inj (by simpa using hno)
            subst hq
            clear HBX hno
            go_wp2_with fail
            go_meet
            exact ⟨rfl, CW.out⟩
  case rest =>
    obtain ⟨rfl, qb⟩ := hcut
    clear HIA HSA HMT HLS HSY HBX
    have zb := qb.size
    replace ct0 := boxD ct0 qb
    replace lt : bt < wc.heap.size := by omega
    replace cu0 := boxD cu0 qb
    replace lu : bu < wc.heap.size := by omega
    replace cx0 := boxD cx0 qb
    replace lx : bx < wc.heap.size := by omega
    replace cc0 := boxD cc0 qb
    replace lc : bc < wc.heap.size := by omega
    replace cz0 := boxD cz0 qb
    replace cz1 := boxD cz1 qb
    replace lz : bz < wc.heap.size := by omega
    replace Tt := Lib.hid (Tt.out.below qb)
    replace Tu := Lib.hid (Tu.out.below qb)
    replace Tx := Lib.hid (Tx.out.below qb)
    replace BW := Lib.hid (BW.out.trans (qb.mono BW.out.size))
    clear qb zb
    go_wp2_with fail
    (go_at_call 42; refine (HIB.out _ Tu.out (HV.out _ BW.out)).mono ?_; rintro e w10x ⟨rfl, qb⟩)
    have zb := qb.size
    replace ct0 := boxD ct0 qb
    replace lt : bt < w10x.heap.size := by omega
    replace cu0 := boxD cu0 qb
    replace lu : bu < w10x.heap.size := by omega
    replace cx0 := boxD cx0 qb
    replace lx : bx < w10x.heap.size := by omega
    replace cc0 := boxD cc0 qb
    replace lc : bc < w10x.heap.size := by omega
    replace cz0 := boxD cz0 qb
    replace cz1 := boxD cz1 qb
    replace lz : bz < w10x.heap.size := by omega
    replace Tt := Lib.hid (Tt.out.below qb)
    replace Tu := Lib.hid (Tu.out.below qb)
    replace Tx := Lib.hid (Tx.out.below qb)
    replace BW := Lib.hid (BW.out.trans (qb.mono BW.out.size))
    clear qb zb
    go_wp2_with fail
    (go_at_call 17; refine (HMU.out _ Tu.out).mono ?_; rintro e w11x ⟨rfl, qb⟩)
    have zb := qb.size
    replace ct0 := boxD ct0 qb
    replace lt : bt < w11x.heap.size := by omega
    replace cu0 := boxD cu0 qb
    replace lu : bu < w11x.heap.size := by omega
    replace cx0 := boxD cx0 qb
    replace lx : bx < w11x.heap.size := by omega
    replace cc0 := boxD cc0 qb
    replace lc : bc < w11x.heap.size := by omega
    replace cz0 := boxD cz0 qb
    replace cz1 := boxD cz1 qb
    replace lz : bz < w11x.heap.size := by omega
    replace Tt := Lib.hid (Tt.out.below qb)
    replace Tu := Lib.hid (Tu.out.below qb)
    replace Tx := Lib.hid (Tx.out.below qb)
    replace BW := Lib.hid (BW.out.trans (qb.mono BW.out.size))
    clear qb zb
    cases vb
    · go_wp2_with fail
      (go_at_call 19; refine (haOk_any _).mono ?_; rintro e wl ⟨rfl, rfl⟩)
      go_wp2_with fail
      go_ret
      exact ⟨rfl, BW.out⟩
    · go_wp2_with fail
      (go_at_call 18; refine (HLR.out _).mono ?_; rintro e wl ⟨rfl, rfl⟩)
      cases rb
      · go_wp2_with fail
        (go_at_call 19; refine (haOk_any _).mono ?_; rintro e wl ⟨rfl, rfl⟩)
        go_wp2_with fail
        go_ret
        exact ⟨rfl, BW.out⟩
      · rcases hne : (X.data.toList == r.data.toList) with _ | _
        · have HC := Lib.hid (HNR.out (by simp) (by simp) hne)
          have hne2 : (X.toList == r.toList) = false := by rw [Lib.toList_data, Lib.toList_data]; exact hne
          clear HNR hne
          go_wp2_with fail
          (go_at_call 14; refine (HC.out _ Tu.out (HV.out _ BW.out)).mono ?_; rintro e w12x ⟨g5, k5, rfl, f5, qb⟩)
          have zb := qb.size
          replace ct0 := boxD ct0 qb
          replace lt : bt < w12x.heap.size := by omega
          replace cu0 := boxD cu0 qb
          replace lu : bu < w12x.heap.size := by omega
          replace cx0 := boxD cx0 qb
          replace lx : bx < w12x.heap.size := by omega
          replace cc0 := boxD cc0 qb
          replace lc : bc < w12x.heap.size := by omega
          replace cz0 := boxD cz0 qb
          replace cz1 := boxD cz1 qb
          replace lz : bz < w12x.heap.size := by omega
          replace Tt := Lib.hid (Tt.out.below qb)
          replace Tu := Lib.hid (Tu.out.below qb)
          replace Tx := Lib.hid (Tx.out.below qb)
          replace BW := Lib.hid (BW.out.trans (qb.mono BW.out.size))
          clear qb zb
          have Tv := Lib.hid f5.tab
          clear f5
          have at0 : ∀ o, (w12x.alloc o).cell? ⟨bt, 0, none⟩ = some (.slice g1 us.length k1) := fun o => by rw [cell_alloc_lt lt]; exact ct0
          have au0 : ∀ o, (w12x.alloc o).cell? ⟨bu, 0, none⟩ = some (.slice g2 vs.length k2) := fun o => by rw [cell_alloc_lt lu]; exact cu0
          have ax0 : ∀ o, (w12x.alloc o).cell? ⟨bx, 0, none⟩ = some (.slice g3 xs.length k3) := fun o => by rw [cell_alloc_lt lx]; exact cx0
          have ac0 : ∀ o, (w12x.alloc o).cell? ⟨bc, 0, none⟩ = some (.slice g4 xs.length k4) := fun o => by rw [cell_alloc_lt lc]; exact cc0
          have az0 : ∀ o, (w12x.alloc o).cell? ⟨bz, 0, none⟩ = some (.int .i64 ea) := fun o => by rw [cell_alloc_lt lz]; exact cz0
          have az1 : ∀ o, (w12x.alloc o).cell? ⟨bz, 1, none⟩ = some (.int .i64 ep) := fun o => by rw [cell_alloc_lt lz]; exact cz1
          go_wp2_with fail
          obtain ⟨W13, hW13⟩ : ∃ W, W = (w12x.alloc (.cells #[.slice g5 vs.length k5] 25)) := ⟨_, rfl⟩
          have qW13 : Below w12x.heap.size w12x W13 := by rw [hW13]; exact (Below.refl _ _).alloc (Nat.le_refl _) _
          have zW13 : w12x.heap.size + 1 ≤ W13.heap.size := by rw [hW13]; simp
          replace ct0 := boxD ct0 qW13
          replace lt : bt < W13.heap.size := by omega
          replace cu0 := boxD cu0 qW13
          replace lu : bu < W13.heap.size := by omega
          replace cx0 := boxD cx0 qW13
          replace lx : bx < W13.heap.size := by omega
          replace cc0 := boxD cc0 qW13
          replace lc : bc < W13.heap.size := by omega
          replace cz0 := boxD cz0 qW13
          replace cz1 := boxD cz1 qW13
          replace lz : bz < W13.heap.size := by omega
          have cv0 : W13.cell? ⟨w12x.heap.size, 0, none⟩ = some (.slice g5 vs.length k5) := by rw [hW13]; simp
          replace Tt := Lib.hid (Tt.out.below qW13)
          replace Tu := Lib.hid (Tu.out.below qW13)
          replace Tx := Lib.hid (Tx.out.below qW13)
          replace Tv := Lib.hid (Tv.out.below qW13)
          replace BW := Lib.hid (BW.out.trans (qW13.mono BW.out.size))
          rw [← hW13]
          obtain ⟨bv, hbv⟩ : ∃ b, b = w12x.heap.size := ⟨_, rfl⟩
          have lv : bv < W13.heap.size := by omega
          rw [← hbv] at cv0 ⊢
          clear hbv hW13
          clear at0 au0 ax0 ac0 az0 az1
          clear qW13 zW13
          (go_at_call 16; refine (HHE.out _ _ _ Tv.out Tu.out).mono ?_; rintro e wl ⟨rfl, bl⟩)
          go_wp2_with fail
          go_ret
          exact ⟨by simp, BW.out.trans (bl.mono BW.out.size)⟩
        · have hxr : X = r := data_inj (by simpa using hne)
          subst hxr
          clear HNR hne
          go_wp2_with fail
          (go_at_call 19; refine (haOk_any _).mono ?_; rintro e wl ⟨rfl, rfl⟩)
          go_wp2_with fail
          go_ret
          exact ⟨rfl, BW.out⟩

set_option maxRecDepth 100000 in
set_option maxHeartbeats 800000 in
theorem lwBakRwr_any (ao : Option Addr) (n cap : Nat) (ao2 : Option Addr) (n2 cap2 : Nat) (w : World) (h : BytesIn w ao n) (hn : n ≤ cap) (h2 : BytesIn w ao2 n2) (hn2 : n2 ≤ cap2) (hv : VarsOk w) :
    Calls Tryz.prog 9 #[.slice ao n cap, .slice ao2 n2 cap2] w fun e w' => e = .returned (.bool true) ∧ Below w.heap.size w w' := by
  by_cases hb1 : 1048576 < n
  · clear h h2 hv
    go_enter Tryz.func9, Tryz.ntmps9
    go_wp2_with fail
    go_ret
    exact ⟨rfl, Below.refl _ _⟩
  · by_cases hb2 : 1048576 < n2
    · clear h h2 hv
      go_enter Tryz.func9, Tryz.ntmps9
      go_wp2_with fail
      go_ret
      exact ⟨rfl, Below.refl _ _⟩
    · exact lwBakRwr_of ao n cap ao2 n2 cap2 w h hn h2 hn2 hv hb1 hb2

end Go.Proofs.YtoidmmedpefjfaaGreatDoor
