/- readEnd of the program: address and port of a text that has both, cut at its first space; else nothing and an error. Conditions: the text has at most 2^48 bytes; the variables that are read hold what they are laid with. -/
import Derived.Test.YtoidmmedpefjfaaGreatDoorReadNum
import Derived.Test.YtoidmmedpefjfaaGreatDoorSRead
import Derived.Deep.RegionHeld
namespace Go.Proofs.YtoidmmedpefjfaaGreatDoor
open Go.RowKit Go.Sort

theorem cut_parts (s : ByteArray) (hs : s.size ≤ 281474976710656) : ∃ (X Y : ByteArray) (f : Bool), X.data.toList = (Lib.cut s.data.toList [32]).1 ∧ Y.data.toList = (Lib.cut s.data.toList [32]).2.1 ∧ X.size ≤ 281474976710656 ∧ Y.size ≤ 281474976710656 ∧
    ∀ w, Calls Tryz.prog 107 #[.string s, .string ⟨#[32]⟩] w fun e w' => e = .returned (.tuple #[.string X, .string Y, .bool f]) ∧ Below w.heap.size w w' := by
  have h1 : (Lib.cut s.data.toList [32]).1.length ≤ s.size := by
    unfold Lib.cut; split
    · simp; omega
    · simp
  have h2 : (Lib.cut s.data.toList [32]).2.1.length ≤ s.size := by
    unfold Lib.cut; split
    · simp
    · simp
  refine ⟨⟨(Lib.cut s.data.toList [32]).1.toArray⟩, ⟨(Lib.cut s.data.toList [32]).2.1.toArray⟩, (Lib.cut s.data.toList [32]).2.2, by simp, by simp, by simp [ByteArray.size]; omega, by simp [ByteArray.size]; omega, fun w => (cut_any s w hs).mono ?_⟩
  rintro e w' ⟨rfl, n, rfl⟩
  exact ⟨rfl, Joins.below_draws _ _ _⟩

set_option maxRecDepth 100000 in
set_option maxHeartbeats 800000 in
theorem readEnd_bad1 (s : ByteArray) (w : World) (hs : s.size ≤ 281474976710656) (h : numI (Lib.cut s.data.toList [32]).1 = none) (hv : VarsOk w) :
    Calls Tryz.prog 124 #[.string s] w fun e w' => ∃ t p, e = .returned (.tuple #[.agg #[.int .i64 0, .int .i64 0], .iface t p]) ∧ Below w.heap.size w w' := by
  obtain ⟨X, Y, f, hX, hY, sX, sY, hc⟩ := cut_parts s hs
  rw [← hX] at h
  have HC := Lib.hid hc
  have H := Lib.hid h
  have HV := Lib.hid hv
  clear hc h hv hX hY
  go_enter Tryz.func124, Tryz.ntmps124
  go_wp2_with (first
    | (go_at_call 107; refine (HC.out _).mono ?_; rintro e w1 ⟨rfl, b1⟩; obtain ⟨c1, f1⟩ := bcell b1; have z1 : w.heap.size < w1.heap.size := by (have hq := b1.size; simp at hq; omega))
    | (go_at_call 136; refine (readNumber_bad _ _ sX H.out (HV.out.below (below_box b1))).mono ?_; rintro e w2 ⟨t2, p2, rfl, b2⟩; obtain ⟨c2, f2⟩ := bcell b2))
  obtain ⟨q0, q1, q2⟩ := set_two (w := w2) (b := w.heap.size) (x := .int .i64 0) (y := .int .i64 0) (.int .i64 0) (.int .i64 0) (by rw [c2 _ _ z1, c1 _ _ (by simp)]; simp) (by rw [c2 _ _ z1, c1 _ _ (by simp)]; simp)
  refine bodyPost_ret (v := .tuple #[.agg #[.int .i64 0, .int .i64 0], .iface t2 p2]) (by simp [results, Tryz.results124, go_sem, q1, q2]) rfl ⟨_, _, rfl, ?_⟩
  exact ((((below_box b1).trans (b2.mono (by omega))).setCell (Nat.le_refl _) _).setCell (Nat.le_refl _) _)

set_option maxRecDepth 100000 in
set_option maxHeartbeats 800000 in
theorem readEnd_bad2 (s : ByteArray) (a : Int) (w : World) (hs : s.size ≤ 281474976710656) (h : numI (Lib.cut s.data.toList [32]).1 = some a) (h2 : numI (Lib.cut s.data.toList [32]).2.1 = none) (hv : VarsOk w) :
    Calls Tryz.prog 124 #[.string s] w fun e w' => ∃ t p, e = .returned (.tuple #[.agg #[.int .i64 0, .int .i64 0], .iface t p]) ∧ Below w.heap.size w w' := by
  obtain ⟨X, Y, f, hX, hY, sX, sY, hc⟩ := cut_parts s hs
  rw [← hX] at h
  rw [← hY] at h2
  have HC := Lib.hid hc
  have H := Lib.hid h
  have H2 := Lib.hid h2
  have HV := Lib.hid hv
  clear hc h h2 hv hX hY
  go_enter Tryz.func124, Tryz.ntmps124
  go_wp2_with fail
  (go_at_call 107; refine (HC.out _).mono ?_; rintro e w1 ⟨rfl, b1⟩; obtain ⟨c1, f1⟩ := bcell b1; have z1 : w.heap.size < w1.heap.size := by (have hq := b1.size; simp at hq; omega))
  have V1 : Hid (VarsOk w1) := HV.out.below (below_box b1)
  go_wp2_with fail
  (go_at_call 136; refine (readNumber_ok _ _ _ sX H.out V1.out).mono ?_; rintro e w2 ⟨rfl, b2⟩; obtain ⟨c2, f2⟩ := bcell b2; have z2 : w.heap.size < w2.heap.size := by (have hq := b2.size; omega))
  have V2 : Hid (VarsOk w2) := V1.out.below b2
  go_wp2_with fail
  (go_at_call 136; refine (readNumber_bad _ _ sY H2.out V2.out).mono ?_; rintro e w3 ⟨t3, p3, rfl, b3⟩; obtain ⟨c3, f3⟩ := bcell b3)
  go_wp2
  obtain ⟨q0, q1, q2⟩ := set_two (w := w3) (b := w.heap.size) (x := .int .i64 0) (y := .int .i64 0) (.int .i64 0) (.int .i64 0) (by rw [c3 _ _ z2, c2 _ _ z1, c1 _ _ (by simp)]; simp) (by rw [c3 _ _ z2, c2 _ _ z1, c1 _ _ (by simp)]; simp)
  refine bodyPost_ret (v := .tuple #[.agg #[.int .i64 0, .int .i64 0], .iface t3 p3]) (by simp [results, Tryz.results124, go_sem, q1, q2]) rfl ⟨_, _, rfl, ?_⟩
  exact ((((below_box b1).trans ((b2.mono (by omega)).trans (b3.mono (by omega)))).setCell (Nat.le_refl _) _).setCell (Nat.le_refl _) _)

/-- The variable errNoEnd, in a later world. -/
theorem noEnd_at {w w' : World} {t : TypeId} {p : Value} (h : w.cell? ⟨0, 0, none⟩ = some (.iface t p)) (hb : Below w.heap.size w w') : w'.cell? ⟨0, 0, none⟩ = some (.iface t p) :=
  (hb.cell (World.block_lt_of_cell? _ _ h)).trans h

set_option maxRecDepth 100000 in
set_option maxHeartbeats 1600000 in
theorem readEnd_last (s : ByteArray) (a p : Int) (w : World) (hs : s.size ≤ 281474976710656) (h : numI (Lib.cut s.data.toList [32]).1 = some a) (h2 : numI (Lib.cut s.data.toList [32]).2.1 = some p) (hv : VarsOk w) :
    Calls Tryz.prog 124 #[.string s] w fun e w' => (endB a p = true → e = .returned (.tuple #[.agg #[.int .i64 a, .int .i64 p], .nilIface])) ∧ (endB a p = false → ∃ t q, e = .returned (.tuple #[.agg #[.int .i64 0, .int .i64 0], .iface t q])) ∧ Below w.heap.size w w' := by
  obtain ⟨X, Y, f, hX, hY, sX, sY, hc⟩ := cut_parts s hs
  rw [← hX] at h
  rw [← hY] at h2
  obtain ⟨te, pe, hne⟩ := hv.noEnd
  have HC := Lib.hid hc
  have H := Lib.hid h
  have H2 := Lib.hid h2
  have HV := Lib.hid hv
  have HE := Lib.hid hne
  clear hc h h2 hv hX hY hne
  go_enter Tryz.func124, Tryz.ntmps124
  go_wp2_with fail
  (go_at_call 107; refine (HC.out _).mono ?_; rintro e w1 ⟨rfl, b1⟩; obtain ⟨c1, f1⟩ := bcell b1; have z1 : w.heap.size < w1.heap.size := by (have hq := b1.size; simp at hq; omega))
  have V1 : Hid (VarsOk w1) := HV.out.below (below_box b1)
  go_wp2_with fail
  (go_at_call 136; refine (readNumber_ok _ _ _ sX H.out V1.out).mono ?_; rintro e w2 ⟨rfl, b2⟩; obtain ⟨c2, f2⟩ := bcell b2; have z2 : w.heap.size < w2.heap.size := by (have hq := b2.size; omega))
  have V2 : Hid (VarsOk w2) := V1.out.below b2
  go_wp2_with fail
  (go_at_call 136; refine (readNumber_ok _ _ _ sY H2.out V2.out).mono ?_; rintro e w3 ⟨rfl, b3⟩; obtain ⟨c3, f3⟩ := bcell b3; have z3 : w.heap.size < w3.heap.size := by (have hq := b3.size; omega))
  have b13 : Below w.heap.size w w3 := (below_box b1).trans ((b2.mono (by omega)).trans (b3.mono (by omega)))
  go_wp2_with fail
  (go_at_call 65; refine (implOk_any _ _ _).mono ?_; rintro e w4 ⟨rfl, b4⟩; obtain ⟨c4, f4⟩ := bcell b4)
  have b14 : Below w.heap.size w w4 := b13.trans (((Below.refl _ w3).alloc (Nat.le_refl _) _ |>.trans (b4.mono (by simp))).mono (by omega))
  have k0 : w4.cell? ⟨w.heap.size, 0, none⟩ = some (.int .i64 0) := by rw [c4 _ _ (by simp; omega), cell_alloc_lt z3, c3 _ _ z2, c2 _ _ z1, c1 _ _ (by simp)]; simp
  have k1 : w4.cell? ⟨w.heap.size, 1, none⟩ = some (.int .i64 0) := by rw [c4 _ _ (by simp; omega), cell_alloc_lt z3, c3 _ _ z2, c2 _ _ z1, c1 _ _ (by simp)]; simp
  by_cases hb : endB a p = true
  · obtain ⟨q0, q1, q2⟩ := set_two (.int .i64 a) (.int .i64 p) k0 k1
    go_wp2
    refine bodyPost_ret (v := .tuple #[.agg #[.int .i64 a, .int .i64 p], .nilIface]) (by simp [results, Tryz.results124, go_sem, q1, q2]) rfl ⟨fun _ => rfl, fun h => absurd hb (by simp [h]), ?_⟩
    exact (b14.setCell (Nat.le_refl _) _).setCell (Nat.le_refl _) _
  · have hE := noEnd_at HE.out b14
    obtain ⟨q0, q1, q2⟩ := set_two (.int .i64 0) (.int .i64 0) k0 k1
    have r0 : w4.frozen? ⟨w.heap.size, 0, none⟩ = false := by rw [f4 _ _ (by simp; omega), frozen_alloc_lt z3, f3 _ _ z2, f2 _ _ z1, f1 _ _ (by simp)]; simp
    have r1 : w4.frozen? ⟨w.heap.size, 1, none⟩ = false := by rw [f4 _ _ (by simp; omega), frozen_alloc_lt z3, f3 _ _ z2, f2 _ _ z1, f1 _ _ (by simp)]; simp
    have hlt : 0 < w.heap.size := World.block_lt_of_cell? w _ HE.out
    have hE2 : (w4.setCell ⟨w.heap.size, 0, none⟩ (.int .i64 0)).cell? ⟨0, 0, none⟩ = some (.iface te pe) := by
      rw [World.cell?_setCell_far _ _ _ _ (Nat.ne_of_gt hlt)]; exact hE
    clear c1 c2 c3 c4 f1 f2 f3 f4
    go_wp2
    go_region
    go_wp2
    refine bodyPost_ret (v := .tuple #[.agg #[.int .i64 0, .int .i64 0], .iface te pe]) (by simp [results, Tryz.results124, go_sem, q1, q2]) rfl ⟨fun h => absurd h hb, fun _ => ⟨_, _, rfl⟩, ?_⟩
    exact ((b14.setCell (Nat.le_refl _) _).setCell (Nat.le_refl _) _).drew

end Go.Proofs.YtoidmmedpefjfaaGreatDoor
