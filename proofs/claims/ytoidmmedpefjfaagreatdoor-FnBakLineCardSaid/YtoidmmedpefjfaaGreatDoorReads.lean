/- EndRead of the program and of the specification answer the same of every text. Conditions: the text has at most 2^20 bytes; the variables that are read hold what they are laid with. -/
import Derived.Test.YtoidmmedpefjfaaGreatDoorReadEnd
import Derived.Test.YtoidmmedpefjfaaGreatDoorRds
namespace Go.Proofs.YtoidmmedpefjfaaGreatDoor
open Go.RowKit Go.Sort

set_option maxRecDepth 100000 in
set_option maxHeartbeats 800000 in
theorem implRead_good (s : ByteArray) (a p : Int) (w : World) (hv : VarsOk w)
    (h : ∀ w, VarsOk w → Calls Tryz.prog 124 #[.string s] w fun e w' => e = .returned (.tuple #[.agg #[.int .i64 a, .int .i64 p], .nilIface]) ∧ Below w.heap.size w w') :
    Calls Tryz.prog 100 #[.string s] w fun e w' => e = .returned (.tuple #[.agg #[.int .i64 a, .int .i64 p], .bool true]) ∧ Below w.heap.size w w' := by
  have H := Lib.hid h
  have HV := Lib.hid hv
  clear h hv
  go_enter Tryz.func100, Tryz.ntmps100
  go_wp2_with (go_at_call 124; refine (H.out _ (HV.out.below ((Below.refl _ _).alloc (Nat.le_refl _) _))).mono ?_; rintro e w1 ⟨rfl, b1⟩; obtain ⟨c1, f1⟩ := bcell b1)
  have z1 : w.heap.size < w1.heap.size := by have hq := b1.size; simp at hq; omega
  have k0 : w1.cell? ⟨w.heap.size, 0, none⟩ = some (.int .i64 0) := by rw [c1 _ _ (by simp)]; simp
  have k1 : w1.cell? ⟨w.heap.size, 1, none⟩ = some (.int .i64 0) := by rw [c1 _ _ (by simp)]; simp
  have r0 : w1.frozen? ⟨w.heap.size, 0, none⟩ = false := by rw [f1 _ _ (by simp)]; simp
  have r1 : w1.frozen? ⟨w.heap.size, 1, none⟩ = false := by rw [f1 _ _ (by simp)]; simp
  clear c1 f1
  go_region
  go_wp2
  obtain ⟨q0, q1, q2⟩ := set_two (w := w1) (.int .i64 a) (.int .i64 p) k0 k1
  refine bodyPost_ret (v := .tuple #[.agg #[.int .i64 a, .int .i64 p], .bool true]) (by simp [results, Tryz.results100, go_sem, cell_alloc_lt, z1, q1, q2]) rfl ⟨rfl, ?_⟩
  exact ((((((below_box b1).setCell (Nat.le_refl _) _).setCell (Nat.le_refl _) _).alloc (by simp; omega) _)).drew)

set_option maxRecDepth 100000 in
set_option maxHeartbeats 800000 in
theorem implRead_bad (s : ByteArray) (w : World) (hv : VarsOk w)
    (h : ∀ w, VarsOk w → Calls Tryz.prog 124 #[.string s] w fun e w' => ∃ t q, e = .returned (.tuple #[.agg #[.int .i64 0, .int .i64 0], .iface t q]) ∧ Below w.heap.size w w') :
    Calls Tryz.prog 100 #[.string s] w fun e w' => e = .returned (.tuple #[.agg #[.int .i64 0, .int .i64 0], .bool false]) ∧ Below w.heap.size w w' := by
  have H := Lib.hid h
  have HV := Lib.hid hv
  clear h hv
  go_enter Tryz.func100, Tryz.ntmps100
  go_wp2_with (go_at_call 124; refine (H.out _ (HV.out.below ((Below.refl _ _).alloc (Nat.le_refl _) _))).mono ?_; rintro e w1 ⟨t1, p1, rfl, b1⟩; obtain ⟨c1, f1⟩ := bcell b1)
  have z1 : w.heap.size < w1.heap.size := by have hq := b1.size; simp at hq; omega
  have k0 : w1.cell? ⟨w.heap.size, 0, none⟩ = some (.int .i64 0) := by rw [c1 _ _ (by simp)]; simp
  have k1 : w1.cell? ⟨w.heap.size, 1, none⟩ = some (.int .i64 0) := by rw [c1 _ _ (by simp)]; simp
  have r0 : w1.frozen? ⟨w.heap.size, 0, none⟩ = false := by rw [f1 _ _ (by simp)]; simp
  have r1 : w1.frozen? ⟨w.heap.size, 1, none⟩ = false := by rw [f1 _ _ (by simp)]; simp
  clear c1 f1
  go_region
  go_wp2
  obtain ⟨q0, q1, q2⟩ := set_two (w := w1) (.int .i64 0) (.int .i64 0) k0 k1
  refine bodyPost_ret (v := .tuple #[.agg #[.int .i64 0, .int .i64 0], .bool false]) (by simp [results, Tryz.results100, go_sem, cell_alloc_lt, z1, q1, q2]) rfl ⟨rfl, ?_⟩
  exact ((((((below_box b1).setCell (Nat.le_refl _) _).setCell (Nat.le_refl _) _).alloc (by simp; omega) _)).drew)

/-- What the program reads. -/
def rdO (l : List UInt8) : Value := match numI (Lib.cut l [32]).1, numI (Lib.cut l [32]).2.1 with | some a, some p => rdV a p | _, _ => noneV
theorem numI_dec {k : Nat} (hk : k ≤ 1000000000000000000) : numI (Lib.decDigits k) = some (k : Int) := by
  unfold numI; rw [atoi_dec k hk]; simp [itoa_nat]
theorem numI_inv {l : List UInt8} {v : Int} (h : numI l = some v) : Lib.itoa v = l := by
  unfold numI at h
  split at h
  · split at h
    · simp at h; subst h; assumption
    · cases h
  · cases h
theorem itoa_pos {v : Int} (h : 0 ≤ v) : Lib.itoa v = Lib.decDigits v.toNat := by
  unfold Lib.itoa; rw [if_neg (by omega)]

theorem rdO_yes {a p : Nat} (h : endB a p = true) : rdO (endL a p) = rdV a p := by
  obtain ⟨h1, h2, h3, h4⟩ := end_bounds h
  have hi : 0 ≤ Lib.index (endL a p) [32] := by
    rcases Int.lt_or_le (Lib.index (endL a p) [32]) 0 with hn | hn
    · exact absurd rfl (index_none hn 32 (by simp [endL]))
    · exact hn
  obtain ⟨e1, e2⟩ := cut_yes hi
  obtain ⟨u1, u2⟩ := split_uniq (dec_no_space a) e2 (show Lib.decDigits a ++ 32 :: Lib.decDigits p = _ from e1)
  unfold rdO
  rw [← u1, ← u2, numI_dec (by omega), numI_dec (by omega)]
theorem rdO_no {l : List UInt8} (h : ∀ a p : Nat, endB a p = true → l ≠ endL a p) : rdO l = noneV := by
  unfold rdO
  split
  · rename_i a p ha hp
    by_cases hb : endB a p = true
    · obtain ⟨h1, h2, h3, h4⟩ := end_bounds hb
      have ea := numI_inv ha
      have ep := numI_inv hp
      rw [itoa_pos (by omega)] at ea ep
      refine absurd ?_ (h a.toNat p.toNat (by rw [Int.toNat_of_nonneg (by omega), Int.toNat_of_nonneg (by omega)]; exact hb))
      by_cases hi : 0 ≤ Lib.index l [32]
      · rw [endL, ea, ep]; exact (cut_yes hi).1
      · rw [cut_no hi] at ep
        have := dec_pos p.toNat
        rw [ep] at this; simp at this
    · exact rdV_none (by simpa using hb)
  · rfl
theorem rd_same (l : List UInt8) : rdO l = rdS l := by
  by_cases h : ∃ a p : Nat, endB a p = true ∧ l = endL a p
  · obtain ⟨a, p, h1, rfl⟩ := h; rw [rdO_yes h1, rdS_yes h1]
  · have h' : ∀ a p : Nat, endB a p = true → l ≠ endL a p := fun a p h1 h2 => h ⟨a, p, h1, h2⟩
    rw [rdO_no h', rdS_no h']

theorem implRead_any (s : ByteArray) (w : World) (hs : s.size ≤ 281474976710656) (hv : VarsOk w) :
    Calls Tryz.prog 100 #[.string s] w fun e w' => e = .returned (rdO s.data.toList) ∧ Below w.heap.size w w' := by
  rcases ha : numI (Lib.cut s.data.toList [32]).1 with _ | a
  · have e : rdO s.data.toList = noneV := by unfold rdO; rw [ha]
    rw [e]
    exact implRead_bad s w hv fun w hv => (readEnd_bad1 s w hs ha hv).mono fun _ _ ⟨t, p, he, hb⟩ => ⟨t, p, he, hb⟩
  · rcases hp : numI (Lib.cut s.data.toList [32]).2.1 with _ | p
    · have e : rdO s.data.toList = noneV := by unfold rdO; rw [ha, hp]
      rw [e]
      exact implRead_bad s w hv fun w hv => (readEnd_bad2 s a w hs ha hp hv).mono fun _ _ ⟨t, p, he, hb⟩ => ⟨t, p, he, hb⟩
    · have e : rdO s.data.toList = rdV a p := by unfold rdO; rw [ha, hp]
      rw [e]
      by_cases hb : endB a p = true
      · rw [show rdV a p = _ from if_pos hb]
        exact implRead_good s a p w hv fun w hv => (readEnd_last s a p w hs ha hp hv).mono fun _ _ ⟨h1, _, h3⟩ => ⟨h1 hb, h3⟩
      · rw [show rdV a p = _ from if_neg hb]
        exact implRead_bad s w hv fun w hv => (readEnd_last s a p w hs ha hp hv).mono fun _ _ ⟨_, h2, h3⟩ => by
          obtain ⟨t, q, he⟩ := h2 (by simpa using hb)
          exact ⟨t, q, he, h3⟩

end Go.Proofs.YtoidmmedpefjfaaGreatDoor
