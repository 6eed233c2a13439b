/- readNumber of the program: the number that is written back the same; else 0 and an error. Conditions: the text has at most 2^48 bytes; the variables that are read hold what they are laid with. -/
import Derived.Test.YtglpijjkihpeeaaGreatDoorText
import Derived.Test.YtglpijjkihpeeaaGreatDoorCut
import Derived.Shelf.Strconv.ErrVarAll
import Derived.Lib.AtoiAllCases
import Derived.RegionTactic
import Derived.IntWalk
import Derived.Lib.SmallJoins
namespace Go.Proofs.YtglpijjkihpeeaaGreatDoor
open Go.RowKit Go.Sort

/-- What the program's package-level variables and the library's hold: the table of powers of ten, four errors. -/
structure VarsOk (w : World) : Prop where
  tab : TabOk w
  syn : ∃ t p, w.var? Tryz.prog "strconv.ErrSyntax" = some #[.iface t p]
  rng : ∃ t p, w.var? Tryz.prog "strconv.ErrRange" = some #[.iface t p]
  noNum : ∃ t p, w.cell? ⟨2, 0, none⟩ = some (.iface t p)
  noEnd : ∃ t p, w.cell? ⟨1, 0, none⟩ = some (.iface t p)
theorem VarsOk.below {w w' : World} (h : VarsOk w) (hb : Below w.heap.size w w') : VarsOk w' := by
  obtain ⟨h1, ⟨t2, p2, h2⟩, ⟨t3, p3, h3⟩, ⟨t4, p4, h4⟩, ⟨t5, p5, h5⟩⟩ := h
  exact ⟨h1.below hb (Nat.le_refl _), ⟨t2, p2, Joins.var_stays (g := 4) (by kernel_rfl) h2 hb (Nat.le_refl _)⟩, ⟨t3, p3, Joins.var_stays (g := 5) (by kernel_rfl) h3 hb (Nat.le_refl _)⟩,
    ⟨t4, p4, (hb.cell (World.block_lt_of_cell? _ _ h4)).trans h4⟩, ⟨t5, p5, (hb.cell (World.block_lt_of_cell? _ _ h5)).trans h5⟩⟩

theorem below_bytes {w w' : World} {e : TypeId} (h : w' = w ∨ ∃ t, w' = Lib.bytesWorld w e t) : Below w.heap.size w w' := by
  rcases h with rfl | ⟨t, rfl⟩
  · exact Below.refl _ _
  · exact Joins.below_bytesWorld _ _ _ _ (Nat.le_refl _)

theorem atoi_ok (s : ByteArray) (v : Int) (w : World) (hs : s.size ≤ 281474976710656) (h : Lib.atoiAll s.data.toList = .ok v) :
    Calls Tryz.prog 211 #[.string s] w fun e w' => e = .returned (.tuple #[.int .i64 v, .nilIface]) ∧ Below w.heap.size w w' := by
  refine (Any.strconv_Atoi_ok Tryz.laysC172 s (by omega) v h w).mono ?_
  rintro e w' ⟨rfl, hw⟩
  exact ⟨rfl, below_bytes hw⟩

theorem atoi_bad (s : ByteArray) (w : World) (hs : s.size ≤ 281474976710656) (h : ∀ v, Lib.atoiAll s.data.toList ≠ .ok v) (hv : VarsOk w) :
    Calls Tryz.prog 211 #[.string s] w fun e w' => ∃ n t a, e = .returned (.tuple #[.int .i64 n, .iface t (.pointer (some a))]) ∧ Below w.heap.size w w' := by
  obtain ⟨t2, p2, h2⟩ := hv.syn
  obtain ⟨t3, p3, h3⟩ := hv.rng
  rcases hl : Lib.atoiAll s.data.toList with v | _ | _
  · exact absurd hl (h v)
  · refine (Any.strconv_Atoi_syntax_var Tryz.laysC172 s hs hl t2 p2 w h2).mono ?_
    rintro e w' ⟨N, rfl, _, _, hb⟩
    exact ⟨_, _, _, rfl, hb⟩
  · refine (Any.strconv_Atoi_range_var Tryz.laysC172 s hs hl t3 p3 w h3).mono ?_
    rintro e w' ⟨N, rfl, _, _, hb⟩
    exact ⟨_, _, _, rfl, hb⟩

theorem itoa_int (n : Int) (w : World) (h0 : -9223372036854775808 ≤ n) (h1 : n ≤ 9223372036854775807) (ht : TabOk w) :
    Calls Tryz.prog 194 #[.int .i64 n] w fun e w' => e = .returned (.string ⟨(Lib.itoa n).toArray⟩) ∧ Below w.heap.size w w' := by
  refine Calls.mono (Any.strconv_Itoa Tryz.laysM171 n h0 h1 w ht) ?_
  rintro e w' ⟨rfl, k, os, rfl⟩
  exact ⟨rfl, below_growN _ _ _⟩

/-- What the program reads of a number: the one that is written back the same. -/
def numI (l : List UInt8) : Option Int := match Lib.atoiAll l with | .ok v => if Lib.itoa v = l then some v else none | _ => none

set_option maxRecDepth 100000 in
set_option maxHeartbeats 800000 in
theorem readNumber_ok (s : ByteArray) (v : Int) (w : World) (hs : s.size ≤ 281474976710656) (h : numI s.data.toList = some v) (hv : VarsOk w) :
    Calls Tryz.prog 209 #[.string s] w fun e w' => e = .returned (.tuple #[.int .i64 v, .nilIface]) ∧ Below w.heap.size w w' := by
  obtain ⟨ha, hi⟩ : Lib.atoiAll s.data.toList = .ok v ∧ Lib.itoa v = s.data.toList := by
    unfold numI at h
    cases hl : Lib.atoiAll s.data.toList with
    | ok u => rw [hl] at h; simp at h; exact ⟨by rw [h.2], by rw [← h.2]; exact h.1⟩
    | _ => rw [hl] at h; cases h
  obtain ⟨hb0, hb1⟩ := Lib.atoiAll_bounds ha
  have HA := Lib.hid ha
  have HV := Lib.hid hv
  have HI : Hid (Lib.itoa v = s.toList) := by rw [Lib.toList_data]; exact hi
  have HB : Hid (-9223372036854775808 ≤ v ∧ v ≤ 9223372036854775807) := ⟨hb0, hb1⟩
  have hq : (!Lib.itoa v == s.toList) = false := by rw [HI.out]; simp
  clear ha hv hi h hb0 hb1
  go_enter Tryz.func209, Tryz.ntmps209
  go_wp2_with (first
    | (go_at_call 211; refine (atoi_ok _ v _ hs HA.out).mono ?_; rintro e w1 ⟨rfl, b1⟩)
    | (go_at_call 194; refine (itoa_int v _ HB.out.1 HB.out.2 (HV.out.below b1).tab).mono ?_; rintro e w2 ⟨rfl, b2⟩))
  go_ret2
  exact ⟨rfl, b1.trans (b2.mono b1.size)⟩

/-- What readNumber answers of what is no number: 0 and the error that the program's variable holds. -/
theorem readNumber_bad (s : ByteArray) (w : World) (hs : s.size ≤ 281474976710656) (h : numI s.data.toList = none) (hv : VarsOk w) :
    Calls Tryz.prog 209 #[.string s] w fun e w' => ∃ t p, e = .returned (.tuple #[.int .i64 0, .iface t p]) ∧ Below w.heap.size w w' := by
  obtain ⟨t, p, hn⟩ := hv.noNum
  have hlt := World.block_lt_of_cell? w _ hn
  by_cases ha : ∃ v, Lib.atoiAll s.data.toList = .ok v
  · obtain ⟨v, ha⟩ := ha
    have hi : Lib.itoa v ≠ s.data.toList := by
      intro hi; unfold numI at h; rw [ha] at h; simp [hi] at h
    obtain ⟨hb0, hb1⟩ := Lib.atoiAll_bounds ha
    have HA := Lib.hid ha
    have HV := Lib.hid hv
    have HB : Hid (-9223372036854775808 ≤ v ∧ v ≤ 9223372036854775807) := ⟨hb0, hb1⟩
    have hq : (!Lib.itoa v == s.toList) = true := by rw [Lib.toList_data]; simpa using hi
    clear ha hv hi h hb0 hb1
    go_enter Tryz.func209, Tryz.ntmps209
    go_wp2_with (first
      | (go_at_call 211; refine (atoi_ok _ v _ hs HA.out).mono ?_; rintro e w1 ⟨rfl, b1⟩; obtain ⟨c1, f1⟩ := bcell b1)
      | (go_at_call 194; refine (itoa_int v _ HB.out.1 HB.out.2 (HV.out.below b1).tab).mono ?_; rintro e w2 ⟨rfl, b2⟩; obtain ⟨c2, f2⟩ := bcell b2; have z1 := b1.size))
    have hn2 : w2.cell? ⟨2, 0, none⟩ = some (.iface t p) := by rw [c2 _ _ (by omega), c1 _ _ hlt]; exact hn
    clear c1 c2 f1 f2
    go_region
    go_wp2
    go_ret2
    exact ⟨t, p, rfl, (b1.trans (b2.mono b1.size)).drew⟩
  · have HA : Hid (∀ v, Lib.atoiAll s.data.toList ≠ .ok v) := fun v hv => ha ⟨v, hv⟩
    have HV := Lib.hid hv
    clear ha hv h
    go_enter Tryz.func209, Tryz.ntmps209
    go_wp2_with (first
      | (go_at_call 211; refine (atoi_bad _ _ hs HA.out HV.out).mono ?_; rintro e w1 ⟨n1, t1, a1, rfl, b1⟩; obtain ⟨c1, f1⟩ := bcell b1))
    have hn1 : w1.cell? ⟨2, 0, none⟩ = some (.iface t p) := by rw [c1 _ _ hlt]; exact hn
    clear c1 f1
    go_region
    go_wp2
    go_ret2
    exact ⟨t, p, rfl, b1.drew⟩

end Go.Proofs.YtglpijjkihpeeaaGreatDoor
