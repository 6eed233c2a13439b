/- The law that ends are told apart by their texts: at every two codes. Conditions: the codes lie in memory; the variables that are read hold what they are laid with. -/
import Derived.Test.YtllekjkmjadohaaDoorRdSays
import Derived.Test.YtllekjkmjadohaaDoorDrawTxt
import Derived.Test.YtllekjkmjadohaaDoorHaOk
namespace Go.Proofs.YtllekjkmjadohaaDoor
open Go.RowKit

set_option maxRecDepth 100000 in
set_option maxHeartbeats 3200000 in
theorem lwEndRead_of (ao : Option Addr) (n cap : Nat) (ao2 : Option Addr) (n2 cap2 : Nat) (w : World) (h : BytesIn w ao n) (hn : n ≤ cap) (h2 : BytesIn w ao2 n2) (hn2 : n2 ≤ cap2) (hv : VarsOk w) (hb1 : ¬ 1048576 < n) (hb2 : ¬ 1048576 < n2) :
    Calls Tryd.prog 7 #[.slice ao n cap, .slice ao2 n2 cap2] w fun e w' => e = .returned (.bool true) ∧ Below w.heap.size w w' := by
  have H := Lib.hid h
  have H2 := Lib.hid h2
  have HV := Lib.hid hv
  clear h h2 hv
  go_enter Tryd.func7, Tryd.ntmps7
  go_wp2_with fail
  (go_at_call 9; refine (drawEndRead_any ao n cap _ H.out hn).mono ?_; rintro e w1 ⟨s, rfl, hs, b1⟩)
  have B1 := Lib.hid b1
  have H21 := Lib.hid (H2.out.below b1)
  clear b1
  go_wp2_with fail
  (go_at_call 9; refine (drawEndRead_any ao2 n2 cap2 _ H21.out hn2).mono ?_; rintro e w2 ⟨t, rfl, ht, b2⟩)
  have B2 := Lib.hid (B1.out.trans (b2.mono B1.out.size))
  have V2 := Lib.hid (HV.out.below B2.out)
  clear b2
  obtain ⟨a1, p1, o1, e1, hf1⟩ : ∃ (a p : Int) (o : Bool), saysV (rdE s.data.toList) = .tuple #[.agg #[.int .i64 a, .int .i64 p], .bool o] ∧ ((o = true ∧ rdE s.data.toList = some (a, p)) ∨ (o = false ∧ a = 0 ∧ p = 0)) := by
    rcases says_form (rdE s.data.toList) with ⟨a, p, h1, h2⟩ | ⟨h1, h2⟩
    · exact ⟨a, p, true, h2, .inl ⟨rfl, h1⟩⟩
    · exact ⟨0, 0, false, h2, .inr ⟨rfl, rfl, rfl⟩⟩
  obtain ⟨a2, p2, o2, e2, hf2⟩ : ∃ (a p : Int) (o : Bool), saysV (rdE t.data.toList) = .tuple #[.agg #[.int .i64 a, .int .i64 p], .bool o] ∧ ((o = true ∧ rdE t.data.toList = some (a, p)) ∨ (o = false ∧ a = 0 ∧ p = 0)) := by
    rcases says_form (rdE t.data.toList) with ⟨a, p, h1, h2⟩ | ⟨h1, h2⟩
    · exact ⟨a, p, true, h2, .inl ⟨rfl, h1⟩⟩
    · exact ⟨0, 0, false, h2, .inr ⟨rfl, rfl, rfl⟩⟩
  have HI1 : Hid (∀ w, VarsOk w → Calls Tryd.prog 10 #[.string s] w fun e w' => e = .returned (.tuple #[.agg #[.int .i64 a1, .int .i64 p1], .bool o1]) ∧ Below w.heap.size w w') := fun w hv => by rw [← e1]; exact implRead_says s w (by omega) hv
  have HI2 : Hid (∀ w, VarsOk w → Calls Tryd.prog 10 #[.string t] w fun e w' => e = .returned (.tuple #[.agg #[.int .i64 a2, .int .i64 p2], .bool o2]) ∧ Below w.heap.size w w') := fun w hv => by rw [← e2]; exact implRead_says t w (by omega) hv
  have HS1 : Hid (∀ w, Calls Tryd.prog 11 #[.string s] w fun e w' => e = .returned (.tuple #[.agg #[.int .i64 a1, .int .i64 p1], .bool o1]) ∧ Below w.heap.size w w') := fun w => by rw [← e1]; exact specRead_says s w (by omega)
  have F1 := Lib.hid hf1
  have F2 := Lib.hid hf2
  clear e1 e2 hf1 hf2
  go_wp2_with fail
  (go_at_call 10; refine (HI1.out _ V2.out).mono ?_; rintro e w3 ⟨rfl, b3⟩)
  have B3 := Lib.hid (B2.out.trans (b3.mono B2.out.size))
  have V3 := Lib.hid (HV.out.below (B3.out.alloc B3.out.size (.cells #[.int .i64 a1, .int .i64 p1] 24)))
  clear b3
  go_wp2_with fail
  (go_at_call 10; refine (HI2.out _ V3.out).mono ?_; rintro e w4 ⟨rfl, b4⟩; obtain ⟨c4, f4⟩ := bcell b4; have z4 : w3.heap.size < w4.heap.size := by (have := b4.size; simp at this; omega))
  have B4 := Lib.hid ((B3.out.alloc B3.out.size (.cells #[.int .i64 a1, .int .i64 p1] 24)).trans (b4.mono (by have := B3.out.size; simp; omega)))
  clear b4
  go_wp2_with fail
  (go_at_call 11; refine (HS1.out _).mono ?_; rintro e w5 ⟨rfl, b5⟩; obtain ⟨c5, f5⟩ := bcell b5; have z5 : w4.heap.size < w5.heap.size := by (have := b5.size; simp at this; omega))
  have B5 := Lib.hid ((B4.out.alloc B4.out.size (.cells #[.int .i64 a2, .int .i64 p2] 24)).trans (b5.mono (by have := B4.out.size; simp; omega)))
  have z35 : w3.heap.size < w5.heap.size := by omega
  have qx : ∀ i, (w5.alloc (.cells #[.int .i64 a1, .int .i64 p1] 24)).cell? ⟨w3.heap.size, i, none⟩ = (w3.alloc (.cells #[.int .i64 a1, .int .i64 p1] 24)).cell? ⟨w3.heap.size, i, none⟩ := fun i => by
    rw [cell_alloc_lt z35, c5 _ _ (by simp; omega), cell_alloc_lt z4, c4 _ _ (by simp)]
  have qy : ∀ i, (w5.alloc (.cells #[.int .i64 a1, .int .i64 p1] 24)).cell? ⟨w4.heap.size, i, none⟩ = (w4.alloc (.cells #[.int .i64 a2, .int .i64 p2] 24)).cell? ⟨w4.heap.size, i, none⟩ := fun i => by
    rw [cell_alloc_lt z5, c5 _ _ (by simp)]
  have dx0 : (w5.alloc (.cells #[.int .i64 a1, .int .i64 p1] 24)).cell? ⟨w3.heap.size, 0, none⟩ = some (.int .i64 a1) := by rw [qx]; simp
  have dx1 : (w5.alloc (.cells #[.int .i64 a1, .int .i64 p1] 24)).cell? ⟨w3.heap.size, 1, none⟩ = some (.int .i64 p1) := by rw [qx]; simp
  have dy0 : (w5.alloc (.cells #[.int .i64 a1, .int .i64 p1] 24)).cell? ⟨w4.heap.size, 0, none⟩ = some (.int .i64 a2) := by rw [qy]; simp
  have dy1 : (w5.alloc (.cells #[.int .i64 a1, .int .i64 p1] 24)).cell? ⟨w4.heap.size, 1, none⟩ = some (.int .i64 p2) := by rw [qy]; simp
  have ex0 : w5.cell? ⟨w3.heap.size, 0, none⟩ = some (.int .i64 a1) := by rw [← cell_alloc_lt z35, dx0]
  have ex1 : w5.cell? ⟨w3.heap.size, 1, none⟩ = some (.int .i64 p1) := by rw [← cell_alloc_lt z35, dx1]
  have ey0 : w5.cell? ⟨w4.heap.size, 0, none⟩ = some (.int .i64 a2) := by rw [← cell_alloc_lt z5, dy0]
  have ey1 : w5.cell? ⟨w4.heap.size, 1, none⟩ = some (.int .i64 p2) := by rw [← cell_alloc_lt z5, dy1]
  clear b5 qx qy c4 c5 f4 f5 dx0 dx1 dy0 dy1
  rcases F1.out with ⟨rfl, hr1⟩ | ⟨rfl, rfl, rfl⟩
  · rcases F2.out with ⟨rfl, hr2⟩ | ⟨rfl, rfl, rfl⟩
    · by_cases hst : s = t
      · have hl : s.toList = t.toList := by rw [hst]
        have heq : some (a1, p1) = some (a2, p2) := by rw [← hr1, ← hr2, hst]
        simp only [Option.some.injEq, Prod.mk.injEq] at heq
        obtain ⟨rfl, rfl⟩ := heq
        clear hr1 hr2 hst
        go_wp2_with fail
        go_ret
        exact ⟨rfl, B5.out.alloc B5.out.size _⟩
      · have hl := bytes_ne hst
        have hne : ¬ (a1 = a2 ∧ p1 = p2) := by
          rintro ⟨rfl, rfl⟩
          have := rdE_inj hr1 hr2
          exact hst (by rw [← Lib.mk_data s, ← Lib.mk_data t, this])
        clear hr1 hr2 hst
        by_cases ha : a1 = a2
        · have hp : (p1 == p2) = false := by simp; intro e; exact hne ⟨ha, e⟩
          have ha' : (a1 == a2) = true := by simp [ha]
          clear hne ha
          go_wp2_with fail
          go_ret
          exact ⟨ret_bool (by simp [hl]), B5.out.alloc B5.out.size _⟩
        · have ha' : (a1 == a2) = false := by simp [ha]
          clear hne ha
          go_wp2_with fail
          go_ret
          exact ⟨ret_bool (by simp [hl]), B5.out.alloc B5.out.size _⟩
    · clear hr1
      go_wp2_with fail
      (go_at_call 16; refine (haOk_any _).mono ?_; rintro e w6 ⟨rfl, rfl⟩)
      go_wp2_with fail
      go_ret
      exact ⟨rfl, B5.out.alloc B5.out.size _⟩
  · go_wp2_with fail
    (go_at_call 16; refine (haOk_any _).mono ?_; rintro e w6 ⟨rfl, rfl⟩)
    go_wp2_with fail
    go_ret
    exact ⟨rfl, B5.out.alloc B5.out.size _⟩

set_option maxRecDepth 100000 in
set_option maxHeartbeats 800000 in
theorem lwEndRead_any (ao : Option Addr) (n cap : Nat) (ao2 : Option Addr) (n2 cap2 : Nat) (w : World) (h : BytesIn w ao n) (hn : n ≤ cap) (h2 : BytesIn w ao2 n2) (hn2 : n2 ≤ cap2) (hv : VarsOk w) :
    Calls Tryd.prog 7 #[.slice ao n cap, .slice ao2 n2 cap2] w fun e w' => e = .returned (.bool true) ∧ Below w.heap.size w w' := by
  by_cases hb1 : 1048576 < n
  · clear h h2 hv
    go_enter Tryd.func7, Tryd.ntmps7
    go_wp2_with fail
    go_ret
    exact ⟨rfl, Below.refl _ _⟩
  · by_cases hb2 : 1048576 < n2
    · clear h h2 hv
      go_enter Tryd.func7, Tryd.ntmps7
      go_wp2_with fail
      go_ret
      exact ⟨rfl, Below.refl _ _⟩
    · exact lwEndRead_of ao n cap ao2 n2 cap2 w h hn h2 hn2 hv hb1 hb2

end Go.Proofs.YtllekjkmjadohaaDoor
