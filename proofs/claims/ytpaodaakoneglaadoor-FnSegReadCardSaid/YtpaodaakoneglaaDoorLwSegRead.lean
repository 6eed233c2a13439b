/- The law that what is read is a segment, and has these bytes: at every code. Conditions: the code lies in memory; the sentinels that are read are there. -/
import Derived.Test.YtpaodaakoneglaaDoorDrawSegRead
import Derived.Test.YtpaodaakoneglaaDoorLawSegRead
import Derived.Test.YtpaodaakoneglaaDoorHaBytes
import Derived.Test.YtpaodaakoneglaaDoorSegBy
import Derived.Test.YtpaodaakoneglaaDoorHaOk
namespace Go.Proofs.YtpaodaakoneglaaDoor
open Go.RowKit

theorem bS_dr {w w' : World} {B : Nat} (h : Below B w w') : Below B w w'.drew := h.trans ⟨rfl, rfl, rfl, Nat.le_refl _, fun _ _ => rfl⟩
theorem specRead5_cap (g c : Nat) (l : List UInt8) (w : World) (hl : l.length ≤ 2097152) (hc : l.length ≤ c) (hg : g < w.heap.size) (hr : RowAt w g (byV l)) :
    Calls Tryd.prog 17 #[.slice (some ⟨g, 0, none⟩) l.length c] w fun e w' => e = .returned (rdAns5 l) ∧ Below w.heap.size w w' := by
  by_cases h1 : l.length < 15 ∨ 27 < l.length
  · exact specRead5_short g c l.length l w rfl hl h1
  · obtain ⟨n, hn⟩ : ∃ n, n = l.length - 15 := ⟨_, rfl⟩
    by_cases h2 : (l[12]?.getD 0).toNat = n
    · by_cases h3 : numAt l (13 + n) = sumL (l.take (13 + n))
      · exact specRead5_fit g c l.length n l w rfl hc (by omega) (by omega) hg hr h2 h3
      · exact specRead5_sum g c l.length n l w rfl hc (by omega) (by omega) hg hr h2 h3
    · exact specRead5_size g c l.length n l w rfl (by omega) (by omega) hg hr h2

set_option maxRecDepth 100000 in
set_option maxHeartbeats 3200000 in
theorem lwSegRead_any (ao : Option Addr) (n cap : Nat) (w : World) (h : BytesIn w ao n) (hn : n ≤ cap) (hv : VarsE w) :
    Calls Tryd.prog 4 #[.slice ao n cap] w fun e w' => e = .returned (.bool true) ∧ Below w.heap.size w w' := by
  have H := Lib.hid h
  have HV : Hid (∀ w', Below w.heap.size w w' → VarsE w') := fun w' hb => hv.below hb
  clear h hv
  by_cases hn2 : 1048576 < n
  · go_enter Tryd.func4, Tryd.ntmps4
    go_wp2_with fail
    go_ret
    exact ⟨rfl, Below.refl _ _⟩
  · go_enter Tryd.func4, Tryd.ntmps4
    go_wp2_with fail
    (go_at_call 16; refine (drawSegRead_any ao n cap _ H.out hn).mono ?_; rintro e w1 ⟨g, c, N, l, rfl, hN, o1, hl, b1⟩)
    subst hN
    obtain ⟨p1, p2, p3, p4⟩ := own_parts o1
    have B1 := Lib.hid b1
    have s1 := b1.size
    have HR1 : Hid (∀ w', Below w1.heap.size w1 w' → RowAt w' g (byV l) ∧ g < w'.heap.size) := fun w' hb => ⟨p4.below hb p2, Nat.lt_of_lt_of_le p2 hb.size⟩
    have HRd : Hid (∀ w', Below w1.heap.size w1 w' → RdB w' (.slice (some ⟨g, 0, none⟩) l.length c) l) := fun w' hb => ⟨_, _, rfl, p3, fun _ => ⟨g, rfl, p4.below hb p2⟩⟩
    have HI0 : Hid (∀ w', Below w1.heap.size w1 w' → Calls Tryd.prog 15 #[.slice (some ⟨g, 0, none⟩) l.length c] w' fun e w'' => e = .returned (rdAns5 l) ∧ Below w'.heap.size w' w'') := fun w' hb => implRead5_any g c l w' (by omega) p3 (HV.out w' (B1.out.trans (hb.mono s1))) (HR1.out w' hb).2 (HR1.out w' hb).1
    have HS0 : Hid (∀ w', Below w1.heap.size w1 w' → Calls Tryd.prog 17 #[.slice (some ⟨g, 0, none⟩) l.length c] w' fun e w'' => e = .returned (rdAns5 l) ∧ Below w'.heap.size w' w'') := fun w' hb => specRead5_cap g c l w' (by omega) p3 (HR1.out w' hb).2 (HR1.out w' hb).1
    clear o1 p1 p4 b1 HR1
    rcases ho : readL l with _ | sg
    · have HI : Hid (∀ w', Below w1.heap.size w1 w' → Calls Tryd.prog 15 #[.slice (some ⟨g, 0, none⟩) l.length c] w' fun e w'' => e = .returned (.tuple #[.agg #[.int .i64 0, .int .i64 0, .int .i64 0, .int .i64 0, .int .i64 0, .int .i64 0, .string ⟨#[]⟩], .bool false]) ∧ Below w'.heap.size w' w'') := fun w' hb => by
        have := HI0.out w' hb
        unfold rdAns5 at this
        rw [ho] at this
        exact this
      have HS : Hid (∀ w', Below w1.heap.size w1 w' → Calls Tryd.prog 17 #[.slice (some ⟨g, 0, none⟩) l.length c] w' fun e w'' => e = .returned (.tuple #[.agg #[.int .i64 0, .int .i64 0, .int .i64 0, .int .i64 0, .int .i64 0, .int .i64 0, .string ⟨#[]⟩], .bool false]) ∧ Below w'.heap.size w' w'') := fun w' hb => by
        have := HS0.out w' hb
        unfold rdAns5 at this
        rw [ho] at this
        exact this
      clear ho HI0 HS0
      go_wp2_with fail
      (go_at_call 15; refine (HI.out _ (Below.refl _ _)).mono ?_; rintro e w2 ⟨rfl, b2⟩; have B2 : Hid (Below w1.heap.size w1 w2) := b2; have s2 := b2.size; clear b2)
      go_wp2_with fail
      generalize hW : World.alloc w2 _ = W2
      have E2 : Box7 W2 w2.heap.size (.int .i64 0) (.int .i64 0) (.int .i64 0) (.int .i64 0) (.int .i64 0) (.int .i64 0) (.string ⟨#[]⟩) := by rw [← hW]; exact box7_new w2 _ _ _ _ _ _ _ _
      have BW2 : Hid (Below w1.heap.size w1 W2) := by rw [← hW]; exact B2.out.alloc (by omega) _
      have sW2 : W2.heap.size = w2.heap.size + 1 := by rw [← hW]; simp
      clear hW
      (go_at_call 17; refine (HS.out _ BW2.out).mono ?_; rintro e w3 ⟨rfl, b3⟩; have E3 : Hid (Box7 w3 w2.heap.size (.int .i64 0) (.int .i64 0) (.int .i64 0) (.int .i64 0) (.int .i64 0) (.int .i64 0) (.string ⟨#[]⟩)) := E2.below b3 (by omega); have B3 : Hid (Below w1.heap.size w1 w3) := BW2.out.trans (b3.mono (by omega)); have s3 := b3.size; clear b3 E2)
      obtain ⟨x0, x1, x2, x3, x4, x5, x6⟩ := E3.out
      have z3 : w2.heap.size < w3.heap.size := by omega
      have HB4 : Hid (∀ o, Below w1.heap.size w1 (w3.alloc o) ∧ Box7 (w3.alloc o) w2.heap.size (.int .i64 0) (.int .i64 0) (.int .i64 0) (.int .i64 0) (.int .i64 0) (.int .i64 0) (.string ⟨#[]⟩)) := fun o => ⟨B3.out.alloc B3.out.size o, E3.out.below ((Below.refl _ _).alloc (Nat.le_refl _) o) z3⟩
      go_wp2_with (go_at_call 14; refine (haOk_any _).mono ?_; rintro e w6 ⟨rfl, rfl⟩)
      all_goals go_ret
      all_goals exact ⟨rfl, B1.out.trans ((by first | exact (HB4.out _).1 | exact bS_dr (HB4.out _).1 : Below w1.heap.size w1 _).mono s1)⟩
    · obtain ⟨hok, hsg⟩ := readL_some ho
      obtain ⟨sa, sp, da, dp, sq, ak, dt⟩ := sg
      have HI : Hid (∀ w', Below w1.heap.size w1 w' → Calls Tryd.prog 15 #[.slice (some ⟨g, 0, none⟩) l.length c] w' fun e w'' => e = .returned (.tuple #[.agg #[.int .i64 sa, .int .i64 sp, .int .i64 da, .int .i64 dp, .int .i64 sq, .int .i64 ak, .string ⟨dt.toArray⟩], .bool true]) ∧ Below w'.heap.size w' w'') := fun w' hb => by
        have := HI0.out w' hb
        unfold rdAns5 at this
        rw [ho] at this
        exact this
      have HS : Hid (∀ w', Below w1.heap.size w1 w' → Calls Tryd.prog 17 #[.slice (some ⟨g, 0, none⟩) l.length c] w' fun e w'' => e = .returned (.tuple #[.agg #[.int .i64 sa, .int .i64 sp, .int .i64 da, .int .i64 dp, .int .i64 sq, .int .i64 ak, .string ⟨dt.toArray⟩], .bool true]) ∧ Below w'.heap.size w' w'') := fun w' hb => by
        have := HS0.out w' hb
        unfold rdAns5 at this
        rw [ho] at this
        exact this
      have hdl : dt.length ≤ 300 := by
        have := segL_len ⟨sa, sp, da, dp, sq, ak, dt⟩
        rw [hsg] at this
        simp only at this
        omega
      have hds : (⟨dt.toArray⟩ : ByteArray).size ≤ 2097152 := by show dt.toArray.size ≤ 2097152; simp; omega
      have HO : Hid (∀ w', Calls Tryd.prog 10 #[.agg #[.int .i64 sa, .int .i64 sp, .int .i64 da, .int .i64 dp, .int .i64 sq, .int .i64 ak, .string ⟨dt.toArray⟩]] w' fun e w'' => e = .returned (.bool true) ∧ Below w'.heap.size w' w'') := fun w' => by
        have := implSegOk_any sa sp da dp sq ak ⟨dt.toArray⟩ w' hds
        rw [show (⟨dt.toArray⟩ : ByteArray).data.toList = dt by simp, hok] at this
        exact this
      have HB : Hid (∀ w', Calls Tryd.prog 7 #[.agg #[.int .i64 sa, .int .i64 sp, .int .i64 da, .int .i64 dp, .int .i64 sq, .int .i64 ak, .string ⟨dt.toArray⟩]] w' fun e w'' => ∃ v, e = .returned v ∧ RdB w'' v l ∧ Below w'.heap.size w' w'') := fun w' => by
        refine (implBytes_any sa sp da dp sq ak ⟨dt.toArray⟩ w' hds).mono ?_
        rintro e w'' ⟨v, rfl, o, b⟩
        refine ⟨v, rfl, ?_, b⟩
        rw [show (⟨dt.toArray⟩ : ByteArray).data.toList = dt by simp] at o
        have e2 : segBytesL ⟨sa, sp, da, dp, sq, ak, dt⟩ = l := by unfold segBytesL; rw [if_pos hok]; exact hsg
        rw [e2] at o
        exact o.rd
      clear ho HI0 HS0
      go_wp2_with fail
      (go_at_call 15; refine (HI.out _ (Below.refl _ _)).mono ?_; rintro e w2 ⟨rfl, b2⟩; have B2 : Hid (Below w1.heap.size w1 w2) := b2; have s2 := b2.size; clear b2)
      go_wp2_with fail
      generalize hW : World.alloc w2 _ = W2
      have E2 : Box7 W2 w2.heap.size (.int .i64 sa) (.int .i64 sp) (.int .i64 da) (.int .i64 dp) (.int .i64 sq) (.int .i64 ak) (.string ⟨dt.toArray⟩) := by rw [← hW]; exact box7_new w2 _ _ _ _ _ _ _ _
      have BW2 : Hid (Below w1.heap.size w1 W2) := by rw [← hW]; exact B2.out.alloc (by omega) _
      have sW2 : W2.heap.size = w2.heap.size + 1 := by rw [← hW]; simp
      clear hW
      (go_at_call 17; refine (HS.out _ BW2.out).mono ?_; rintro e w3 ⟨rfl, b3⟩; have E3 : Hid (Box7 w3 w2.heap.size (.int .i64 sa) (.int .i64 sp) (.int .i64 da) (.int .i64 dp) (.int .i64 sq) (.int .i64 ak) (.string ⟨dt.toArray⟩)) := E2.below b3 (by omega); have B3 : Hid (Below w1.heap.size w1 w3) := BW2.out.trans (b3.mono (by omega)); have s3 := b3.size; clear b3 E2)
      obtain ⟨x0, x1, x2, x3, x4, x5, x6⟩ := E3.out
      have z3 : w2.heap.size < w3.heap.size := by omega
      have HB4 : Hid (∀ o, Below w1.heap.size w1 (w3.alloc o) ∧ Box7 (w3.alloc o) w2.heap.size (.int .i64 sa) (.int .i64 sp) (.int .i64 da) (.int .i64 dp) (.int .i64 sq) (.int .i64 ak) (.string ⟨dt.toArray⟩)) := fun o => ⟨B3.out.alloc B3.out.size o, E3.out.below ((Below.refl _ _).alloc (Nat.le_refl _) o) z3⟩
      go_wp2_with fail
      all_goals
        (go_at_call 10
         refine (HO.out _).mono ?_
         rintro e w5 ⟨rfl, b5⟩
         have B5 : Hid (Below w1.heap.size w1 w5) := (by first | exact (HB4.out _).1.trans (b5.mono (HB4.out _).1.size) | exact (bS_dr (HB4.out _).1).trans (b5.mono (bS_dr (HB4.out _).1).size))
         have E5 : Hid (Box7 w5 w2.heap.size (.int .i64 sa) (.int .i64 sp) (.int .i64 da) (.int .i64 dp) (.int .i64 sq) (.int .i64 ak) (.string ⟨dt.toArray⟩)) := (HB4.out _).2.below b5 (by simp; omega)
         have z5 : w2.heap.size < w5.heap.size := (by have := b5.size; simp at this; omega)
         clear b5)
      all_goals
        obtain ⟨y0, y1, y2, y3, y4, y5, y6⟩ := E5.out
        clear x0 x1 x2 x3 x4 x5 x6
        go_wp2_with fail
      all_goals
        (go_at_call 7
         refine (HB.out _).mono ?_
         rintro e w6 ⟨v, rfl, rv, b6⟩
         have RV := Lib.hid rv
         obtain ⟨av, cv, rfl, _, _⟩ := rv
         have B6 : Hid (Below w1.heap.size w1 w6) := B5.out.trans (b6.mono B5.out.size)
         clear b6)
      all_goals
        go_wp2_with fail
        (go_at_call 8
         refine (haBytes_same l _ _ _ (by omega) RV.out (HRd.out _ B6.out)).mono ?_
         rintro e w7 ⟨rfl, b7⟩)
        go_wp2_with fail
        go_ret
        exact ⟨rfl, B1.out.trans ((B6.out.trans (b7.mono B6.out.size)).mono s1)⟩

end Go.Proofs.YtpaodaakoneglaaDoor
