/- BakLine of the program: as the specification's, of every table and text. Conditions: at most 2^22 ends, all numbers ints; the text has at most 2^21 bytes; the variables that are read hold what they are laid with. -/
import Derived.Test.YtpilmldcmpbabaaDoorIPorts
import Derived.Test.YtpilmldcmpbabaaDoorIMapO
import Derived.Test.YtpilmldcmpbabaaDoorISays
import Derived.Test.YtpilmldcmpbabaaDoorILin
import Derived.Test.YtpilmldcmpbabaaDoorSBak
namespace Go.Proofs.YtpilmldcmpbabaaDoor
open Go.RowKit Go.Sort

theorem box_port {l : List UInt8} {p : Int} (h : boxE l = some p) : 1 ≤ p ∧ p ≤ 999 := by
  unfold boxE at h
  split at h
  · split at h
    · rename_i a q hr
      split at h
      · rename_i ha
        subst ha
        obtain rfl : q = p := by simpa using h
        have he := (rdE_some hr).2
        simp [endB, insB, outB, boxB, inB] at he
        omega
      · cases h
    · cases h
  · cases h

set_option maxRecDepth 100000 in
set_option maxHeartbeats 1600000 in
theorem lineInside_any (g1 g2 : Nat) (es : List (Int × Int)) (s : ByteArray) (w : World) (hs : s.size ≤ 2097152) (hb : Both w g1 g2 es) (hv : VarsOk w) (htb : TabOk w) :
    Calls Tryd.prog 16 #[.agg #[.map (some g1), .map (some g2)], .string s] w fun e w' => e = .returned (.string ⟨(backE es s.data.toList).toArray⟩) ∧ Below w.heap.size w w' := by
  have HBo : Hid (∀ w', Below w.heap.size w w' → Both w' g1 g2 es) := fun w' h => hb.later h
  have HV := Lib.hid hv
  have HTb : Hid (∀ w', Below w.heap.size w w' → TabOk w') := fun w' h => htb.below h (Nat.le_refl _)
  clear hb hv htb
  rcases hx : boxE s.data.toList with _ | p
  · have HB : Hid (∀ w, VarsOk w → Calls Tryd.prog 29 #[.string s] w fun e w' => e = .returned (.tuple #[.int .i64 0, .bool false]) ∧ Below w.heap.size w w') := fun w hv => by have := implBox_any s w hs hv; rw [hx] at this; exact this
    have HE : Hid (backE es s.data.toList = s.data.toList) := by show backE _ _ = _; unfold backE; rw [hx]
    clear hx
    go_enter Tryd.func16, Tryd.ntmps16
    go_wp2_with fail
    (go_at_call 29; refine (HB.out _ (HV.out.below ((Below.refl _ _).alloc (Nat.le_refl _) _))).mono ?_; rintro e w1 ⟨rfl, b1⟩)
    go_wp2_with fail
    go_ret
    exact ⟨by rw [HE.out, str_same]; rfl, ((Below.refl _ _).alloc (Nat.le_refl _) _).trans (b1.mono (by simp))⟩
  · have hp := box_port hx
    have wn : (Lit.int .i64 p).wf = true := WalkArith.wf_i64 (by omega)
    have HB : Hid (∀ w, VarsOk w → Calls Tryd.prog 29 #[.string s] w fun e w' => e = .returned (.tuple #[.int .i64 p, .bool true]) ∧ Below w.heap.size w w') := fun w hv => by have := implBox_any s w hs hv; rw [hx] at this; exact this
    rcases hi : endI es p with _ | ⟨a, q⟩
    · have HE : Hid (backE es s.data.toList = s.data.toList) := by show backE _ _ = _; unfold backE; rw [hx]; simp only [hi]
      have HM : Hid (∀ w, Both w g1 g2 es → Calls Tryd.prog 30 #[.agg #[.map (some g1), .map (some g2)], .int .i64 p] w fun e w' => e = .returned (.tuple #[.agg #[.int .i64 0, .int .i64 0], .bool false]) ∧ Below w.heap.size w w') := fun w h => by have := key_any g1 g2 es p w h wn; rw [hi] at this; exact this
      clear hx hi hp wn
      go_enter Tryd.func16, Tryd.ntmps16
      go_wp2_with fail
      (go_at_call 29; refine (HB.out _ (HV.out.below ((Below.refl _ _).alloc (Nat.le_refl _) _))).mono ?_; rintro e w1 ⟨rfl, b1⟩; have B1 : Hid (Below w.heap.size w w1) := ((Below.refl _ _).alloc (Nat.le_refl _) _).trans (b1.mono (by simp)); have t0 : w1.cell? ⟨w.heap.size, 0, none⟩ = some (.map (some g1)) := (by rw [b1.cell (by simp)]; simp); have t1 : w1.cell? ⟨w.heap.size, 1, none⟩ = some (.map (some g2)) := (by rw [b1.cell (by simp)]; simp); clear b1)
      go_wp2_with fail
      (go_at_call 30; refine (HM.out _ (HBo.out _ B1.out)).mono ?_; rintro e w2 ⟨rfl, b2⟩; have B2 : Hid (Below w.heap.size w w2) := B1.out.trans (b2.mono B1.out.size); clear b2)
      go_wp2_with fail
      go_ret
      exact ⟨by rw [HE.out, str_same]; rfl, B2.out.alloc B2.out.size _⟩
    · have HE : Hid (backE es s.data.toList = lpL a q) := by show backE _ _ = _; unfold backE; rw [hx]; simp only [hi]
      have HM : Hid (∀ w, Both w g1 g2 es → Calls Tryd.prog 30 #[.agg #[.map (some g1), .map (some g2)], .int .i64 p] w fun e w' => e = .returned (.tuple #[.agg #[.int .i64 a, .int .i64 q], .bool true]) ∧ Below w.heap.size w w') := fun w h => by have := key_any g1 g2 es p w h wn; rw [hi] at this; exact this
      clear hx hi hp wn
      go_enter Tryd.func16, Tryd.ntmps16
      go_wp2_with fail
      (go_at_call 29; refine (HB.out _ (HV.out.below ((Below.refl _ _).alloc (Nat.le_refl _) _))).mono ?_; rintro e w1 ⟨rfl, b1⟩; have B1 : Hid (Below w.heap.size w w1) := ((Below.refl _ _).alloc (Nat.le_refl _) _).trans (b1.mono (by simp)); have t0 : w1.cell? ⟨w.heap.size, 0, none⟩ = some (.map (some g1)) := (by rw [b1.cell (by simp)]; simp); have t1 : w1.cell? ⟨w.heap.size, 1, none⟩ = some (.map (some g2)) := (by rw [b1.cell (by simp)]; simp); clear b1)
      go_wp2_with fail
      (go_at_call 30; refine (HM.out _ (HBo.out _ B1.out)).mono ?_; rintro e w2 ⟨rfl, b2⟩; have B2 : Hid (Below w.heap.size w w2) := B1.out.trans (b2.mono B1.out.size); clear b2)
      have B3 := Lib.hid (B2.out.alloc B2.out.size (.cells #[.int .i64 a, .int .i64 q] 46))
      go_wp2_with fail
      (go_at_call 31; refine (implLinPort_any a q _ (HTb.out _ B3.out)).mono ?_; rintro e w3 ⟨rfl, b3⟩)
      go_wp2_with fail
      go_ret
      exact ⟨by rw [HE.out]; rfl, B3.out.trans (b3.mono B3.out.size)⟩

set_option maxRecDepth 100000 in
set_option maxHeartbeats 1600000 in
theorem implBakLine_any (v : Value) (es : List (Int × Int)) (s : ByteArray) (w : World) (hn : es.length ≤ 4194304) (hs : s.size ≤ 2097152) (hwf : wfE es) (ht : TabAt w v es) (hv : VarsOk w) (htb : TabOk w) :
    Calls Tryd.prog 7 #[.agg #[v], .string s] w fun e w' => e = .returned (.string ⟨(bakE es s.data.toList).toArray⟩) ∧ Below w.heap.size w w' := by
  have HT := Lib.hid ht
  obtain ⟨ad, cap, rfl, _, _⟩ := ht
  have HV : Hid (∀ w', Below w.heap.size w w' → VarsOk w' ∧ TabOk w') := fun w' h => ⟨hv.below h, htb.below h (Nat.le_refl _)⟩
  clear hv htb
  by_cases hm : mapB es = true
  · have hM : Hid (∀ w, TabAt w (.slice ad es.length cap) es → Calls Tryd.prog 14 #[.agg #[.slice ad es.length cap]] w fun e w' => e = .returned (.bool true) ∧ Below w.heap.size w w') := fun w h => by rw [← hm]; exact implMapOk_any _ es w hn hwf h
    by_cases hl : linB s.data.toList = true
    · have hL : Hid (∀ w, Calls Tryd.prog 15 #[.string s] w fun e w' => e = .returned (.bool true) ∧ w = w') := fun w => by rw [← hl]; exact implLin_any s w (by omega)
      have HP : Hid (∀ w, TabAt w (.slice ad es.length cap) es → Calls Tryd.prog 17 #[.agg #[.slice ad es.length cap]] w fun e w' => ∃ g1 g2, e = .returned (.agg #[.map (some g1), .map (some g2)]) ∧ w.heap.size ≤ g1 ∧ w.heap.size ≤ g2 ∧ Both w' g1 g2 es ∧ Below w.heap.size w w') := fun w h => portsOf_any _ es w hn hwf h
      have HI : Hid (∀ g1 g2 w, Both w g1 g2 es → VarsOk w → TabOk w → Calls Tryd.prog 16 #[.agg #[.map (some g1), .map (some g2)], .string s] w fun e w' => e = .returned (.string ⟨(bakE es s.data.toList).toArray⟩) ∧ Below w.heap.size w w') := fun g1 g2 w h1 h2 h3 => by
        rw [show bakE es s.data.toList = backE es s.data.toList from if_pos ⟨hm, hl⟩]
        exact lineInside_any g1 g2 es s w hs h1 h2 h3
      obtain ⟨x, hx⟩ : ∃ x, x = (bakE es s.data.toList).toArray := ⟨_, rfl⟩
      rw [← hx] at HI ⊢
      clear hm hl hwf hx hn
      go_enter Tryd.func7, Tryd.ntmps7
      go_wp2_with (first
        | (go_at_call 14; refine (hM.out _ (HT.out.below ((Below.refl _ _).alloc (Nat.le_refl _) _))).mono ?_; rintro e w1 ⟨rfl, b1⟩; have B1 : Hid (Below w.heap.size w w1) := ((Below.refl _ _).alloc (Nat.le_refl _) _).trans (b1.mono (by simp)); have t0 : w1.cell? ⟨w.heap.size, 0, none⟩ = some (.slice ad es.length cap) := (by rw [b1.cell (by simp)]; simp); clear b1)
        | (go_at_call 15; refine (hL.out _).mono ?_; rintro e w2 ⟨rfl, rfl⟩)
        | (go_at_call 17; refine (HP.out _ (HT.out.below B1.out)).mono ?_; rintro e w3 ⟨g1, g2, rfl, _, _, hb, b3⟩; have HB := Lib.hid hb; have B3 : Hid (Below w.heap.size w w3) := B1.out.trans (b3.mono B1.out.size); clear b3 hb)
        | (go_at_call 16; refine (HI.out _ _ _ HB.out (HV.out _ B3.out).1 (HV.out _ B3.out).2).mono ?_; rintro e w4 ⟨rfl, b4⟩; have B4 : Hid (Below w.heap.size w w4) := B3.out.trans (b4.mono B3.out.size)))
      go_ret
      exact ⟨rfl, B4.out⟩
    · have hl' : linB s.data.toList = false := by simpa using hl
      have hL : Hid (∀ w, Calls Tryd.prog 15 #[.string s] w fun e w' => e = .returned (.bool false) ∧ w = w') := fun w => by rw [← hl']; exact implLin_any s w (by omega)
      rw [show bakE es s.data.toList = [] from if_neg (fun h => hl h.2)]
      clear hm hl hl' hwf HV
      go_enter Tryd.func7, Tryd.ntmps7
      go_wp2_with (first
        | (go_at_call 14; refine (hM.out _ (HT.out.below ((Below.refl _ _).alloc (Nat.le_refl _) _))).mono ?_; rintro e w1 ⟨rfl, b1⟩; have B1 : Hid (Below w.heap.size w w1) := ((Below.refl _ _).alloc (Nat.le_refl _) _).trans (b1.mono (by simp)); clear b1)
        | (go_at_call 15; refine (hL.out _).mono ?_; rintro e w2 ⟨rfl, rfl⟩))
      go_ret
      exact ⟨rfl, B1.out⟩
  · have hm' : mapB es = false := by simpa using hm
    have hM : Hid (∀ w, TabAt w (.slice ad es.length cap) es → Calls Tryd.prog 14 #[.agg #[.slice ad es.length cap]] w fun e w' => e = .returned (.bool false) ∧ Below w.heap.size w w') := fun w h => by rw [← hm']; exact implMapOk_any _ es w hn hwf h
    rw [show bakE es s.data.toList = [] from if_neg (fun h => hm h.1)]
    clear hm hm' hwf HV
    go_enter Tryd.func7, Tryd.ntmps7
    go_wp2_with (go_at_call 14; refine (hM.out _ (HT.out.below ((Below.refl _ _).alloc (Nat.le_refl _) _))).mono ?_; rintro e w1 ⟨rfl, b1⟩)
    go_ret
    exact ⟨rfl, ((Below.refl _ _).alloc (Nat.le_refl _) _).trans (b1.mono (by simp))⟩

end Go.Proofs.YtpilmldcmpbabaaDoor
