/- RwrStream of the program. Conditions: the table is ok; the text is a stream; the variables that are read hold what they are laid with. (Several texts, joined: Cut, ReadNum, ReadEnd, Reads, IPort, ISays, IRwr, IStrm.) -/
import Derived.Test.YtglpijjkihpeeaaGreatDoorTBxTf
import Derived.Shelf.Strings.Search2
import Derived.Lib.CutLaws
import Derived.Lib.IndexBytes
import Derived.RegionTactic
import Derived.IntWalk
import Derived.Lib.SmallJoins
import Derived.Shelf.Strconv.ErrVarAll
import Derived.Lib.AtoiAllCases
import Derived.Test.YtglpijjkihpeeaaGreatDoorSRead
import Derived.Deep.RegionHeld
import Derived.Test.YtglpijjkihpeeaaGreatDoorRds
import Derived.Test.YtglpijjkihpeeaaGreatDoorTBxTa
import Derived.Test.YtglpijjkihpeeaaGreatDoorTBxTb
import Derived.Test.YtglpijjkihpeeaaGreatDoorTBxTe
import Derived.RangeFuncWrites

/- The text cut at its first space, by the library. Condition: the text has at most 2^48 bytes. -/
namespace Go.Proofs.YtglpijjkihpeeaaGreatDoor
open Go.RowKit Go.Sort

set_option maxRecDepth 100000 in
set_option maxHeartbeats 800000 in
theorem cutS_any (s : ByteArray) (w : World) (hs : s.size ≤ 281474976710656) :
    Calls Tryz.prog 182 #[.string s, .string ⟨#[32]⟩] w fun e w' => e = .returned (.tuple #[.string ⟨(Lib.cut s.data.toList [32]).1.toArray⟩, .string ⟨(Lib.cut s.data.toList [32]).2.1.toArray⟩, .bool (Lib.cut s.data.toList [32]).2.2]) ∧ ∃ n, w' = w.drewN n := by
  have hc : ∀ w, Calls Tryz.prog 191 #[.string s, .string ⟨#[32]⟩] w fun e w' => e = .returned (.int .i64 (Lib.index s.data.toList [32])) ∧ w' = w := by
    intro w; have := Any.stringslite_Index_one Tryz.lays219 s 32 w; rw [← Lib.index_one] at this; exact this
  have HC := Lib.hid hc
  clear hc
  rcases Lib.indexB_cases s ⟨#[32]⟩ with hix | ⟨i, hix, hroom⟩
  · obtain ⟨e1, e2, e3⟩ := Lib.cutB_miss s ⟨#[32]⟩ hix
    have hix' : Lib.index s.data.toList [32] = -1 := hix
    have E1 : Hid ((⟨(Lib.cut s.data.toList [32]).1.toArray⟩ : ByteArray) = s) := e1
    have E2 : Hid ((⟨(Lib.cut s.data.toList [32]).2.1.toArray⟩ : ByteArray) = ByteArray.empty) := e2
    have E3 : Hid ((Lib.cut s.data.toList [32]).2.2 = false) := e3
    have HI := Lib.hid hix'
    clear e1 e2 e3 hix hix'
    go_enter Tryz.func182, Tryz.ntmps182
    go_wp2_with (go_at_call 191; refine (HC.out _).mono ?_; rintro e w' ⟨rfl, rfl⟩; rw [HI.out])
    go_ret3
    exact ⟨by rw [E1.out, E2.out, E3.out]; rfl, 0, rfl⟩
  · obtain ⟨e1, e2, e3⟩ := Lib.cutB_hit s ⟨#[32]⟩ i hix
    have hix' : Lib.index s.data.toList [32] = i := hix
    have hr : i + 1 ≤ s.size := hroom
    have E1 : Hid ((⟨(Lib.cut s.data.toList [32]).1.toArray⟩ : ByteArray) = s.extract 0 i) := e1
    have E2 : Hid ((⟨(Lib.cut s.data.toList [32]).2.1.toArray⟩ : ByteArray) = s.extract (i + 1) s.size) := e2
    have E3 : Hid ((Lib.cut s.data.toList [32]).2.2 = true) := e3
    have HI := Lib.hid hix'
    clear e1 e2 e3 hix hix' hroom
    have c1 : (0 : Int) ≤ ↑i := by omega
    have c2 : (↑i : Int) ≤ ↑s.size := by omega
    have c3 : (0 : Int) ≤ ↑i + 1 := by omega
    have c4 : (↑i + 1 : Int) ≤ ↑s.size := by omega
    have c5 : IntKind.i64.wrap ((i : Int) + 1) = (i : Int) + 1 := IntWalk.i64_in _ (by omega)
    have c6 : ((i : Int) + 1).toNat = i + 1 := by omega
    go_enter Tryz.func182, Tryz.ntmps182
    go_wp2_with (go_at_call 191; refine (HC.out _).mono ?_; rintro e w' ⟨rfl, rfl⟩; rw [HI.out])
    go_region
    go_wp2
    go_ret3
    exact ⟨by rw [E1.out, E2.out, E3.out]; rfl, 1, rfl⟩

theorem cut_any (s : ByteArray) (w : World) (hs : s.size ≤ 281474976710656) :
    Calls Tryz.prog 172 #[.string s, .string ⟨#[32]⟩] w fun e w' => e = .returned (.tuple #[.string ⟨(Lib.cut s.data.toList [32]).1.toArray⟩, .string ⟨(Lib.cut s.data.toList [32]).2.1.toArray⟩, .bool (Lib.cut s.data.toList [32]).2.2]) ∧ ∃ n, w' = w.drewN n := by
  go_enter Tryz.func172, Tryz.ntmps172
  go_wp2_with (go_at_call 182; refine (cutS_any _ _ hs).mono ?_; rintro e w' ⟨rfl, n, rfl⟩)
  go_ret3
  exact ⟨rfl, n, rfl⟩

end Go.Proofs.YtglpijjkihpeeaaGreatDoor

/- readNumber of the program: the number that is written back the same; else 0 and an error. Conditions: the text has at most 2^48 bytes; the variables that are read hold what they are laid with. -/
namespace Go.Proofs.YtglpijjkihpeeaaGreatDoor
open Go.RowKit Go.Sort

/-- What the program's package-level variables and the library's hold: the table of powers of ten, four errors. -/
structure VarsOk (w : World) : Prop where
  tab : TabOk w
  syn : ∃ t p, w.var? Tryz.prog "strconv.ErrSyntax" = some #[.iface t p]
  rng : ∃ t p, w.var? Tryz.prog "strconv.ErrRange" = some #[.iface t p]
  noNum : ∃ t p, w.cell? ⟨2, 0, none⟩ = some (.iface t p)
  noEnd : ∃ t p, w.cell? ⟨1, 0, none⟩ = some (.iface t p)
theorem VarsOk.below {w w' : World} (h : VarsOk w) (hb : Below w.heap.size w w') : VarsOk w' := by
  obtain ⟨h1, ⟨t2, p2, h2⟩, ⟨t3, p3, h3⟩, ⟨t4, p4, h4⟩, ⟨t5, p5, h5⟩⟩ := h
  exact ⟨h1.below hb (Nat.le_refl _), ⟨t2, p2, Joins.var_stays (g := 4) (by kernel_rfl) h2 hb (Nat.le_refl _)⟩, ⟨t3, p3, Joins.var_stays (g := 5) (by kernel_rfl) h3 hb (Nat.le_refl _)⟩,
    ⟨t4, p4, (hb.cell (World.block_lt_of_cell? _ _ h4)).trans h4⟩, ⟨t5, p5, (hb.cell (World.block_lt_of_cell? _ _ h5)).trans h5⟩⟩

theorem below_bytes {w w' : World} {e : TypeId} (h : w' = w ∨ ∃ t, w' = Lib.bytesWorld w e t) : Below w.heap.size w w' := by
  rcases h with rfl | ⟨t, rfl⟩
  · exact Below.refl _ _
  · exact Joins.below_bytesWorld _ _ _ _ (Nat.le_refl _)

theorem atoi_ok (s : ByteArray) (v : Int) (w : World) (hs : s.size ≤ 281474976710656) (h : Lib.atoiAll s.data.toList = .ok v) :
    Calls Tryz.prog 211 #[.string s] w fun e w' => e = .returned (.tuple #[.int .i64 v, .nilIface]) ∧ Below w.heap.size w w' := by
  refine (Any.strconv_Atoi_ok Tryz.laysC172 s (by omega) v h w).mono ?_
  rintro e w' ⟨rfl, hw⟩
  exact ⟨rfl, below_bytes hw⟩

theorem atoi_bad (s : ByteArray) (w : World) (hs : s.size ≤ 281474976710656) (h : ∀ v, Lib.atoiAll s.data.toList ≠ .ok v) (hv : VarsOk w) :
    Calls Tryz.prog 211 #[.string s] w fun e w' => ∃ n t a, e = .returned (.tuple #[.int .i64 n, .iface t (.pointer (some a))]) ∧ Below w.heap.size w w' := by
  obtain ⟨t2, p2, h2⟩ := hv.syn
  obtain ⟨t3, p3, h3⟩ := hv.rng
  rcases hl : Lib.atoiAll s.data.toList with v | _ | _
  · exact absurd hl (h v)
  · refine (Any.strconv_Atoi_syntax_var Tryz.laysC172 s hs hl t2 p2 w h2).mono ?_
    rintro e w' ⟨N, rfl, _, _, hb⟩
    exact ⟨_, _, _, rfl, hb⟩
  · refine (Any.strconv_Atoi_range_var Tryz.laysC172 s hs hl t3 p3 w h3).mono ?_
    rintro e w' ⟨N, rfl, _, _, hb⟩
    exact ⟨_, _, _, rfl, hb⟩

theorem itoa_int (n : Int) (w : World) (h0 : -9223372036854775808 ≤ n) (h1 : n ≤ 9223372036854775807) (ht : TabOk w) :
    Calls Tryz.prog 194 #[.int .i64 n] w fun e w' => e = .returned (.string ⟨(Lib.itoa n).toArray⟩) ∧ Below w.heap.size w w' := by
  refine Calls.mono (Any.strconv_Itoa Tryz.laysM171 n h0 h1 w ht) ?_
  rintro e w' ⟨rfl, k, os, rfl⟩
  exact ⟨rfl, below_growN _ _ _⟩

/-- What the program reads of a number: the one that is written back the same. -/
def numI (l : List UInt8) : Option Int := match Lib.atoiAll l with | .ok v => if Lib.itoa v = l then some v else none | _ => none

set_option maxRecDepth 100000 in
set_option maxHeartbeats 800000 in
theorem readNumber_ok (s : ByteArray) (v : Int) (w : World) (hs : s.size ≤ 281474976710656) (h : numI s.data.toList = some v) (hv : VarsOk w) :
    Calls Tryz.prog 209 #[.string s] w fun e w' => e = .returned (.tuple #[.int .i64 v, .nilIface]) ∧ Below w.heap.size w w' := by
  obtain ⟨ha, hi⟩ : Lib.atoiAll s.data.toList = .ok v ∧ Lib.itoa v = s.data.toList := by
    unfold numI at h
    cases hl : Lib.atoiAll s.data.toList with
    | ok u => rw [hl] at h; simp at h; exact ⟨by rw [h.2], by rw [← h.2]; exact h.1⟩
    | _ => rw [hl] at h; cases h
  obtain ⟨hb0, hb1⟩ := Lib.atoiAll_bounds ha
  have HA := Lib.hid ha
  have HV := Lib.hid hv
  have HI : Hid (Lib.itoa v = s.toList) := by rw [Lib.toList_data]; exact hi
  have HB : Hid (-9223372036854775808 ≤ v ∧ v ≤ 9223372036854775807) := ⟨hb0, hb1⟩
  have hq : (!Lib.itoa v == s.toList) = false := by rw [HI.out]; simp
  clear ha hv hi h hb0 hb1
  go_enter Tryz.func209, Tryz.ntmps209
  go_wp2_with (first
    | (go_at_call 211; refine (atoi_ok _ v _ hs HA.out).mono ?_; rintro e w1 ⟨rfl, b1⟩)
    | (go_at_call 194; refine (itoa_int v _ HB.out.1 HB.out.2 (HV.out.below b1).tab).mono ?_; rintro e w2 ⟨rfl, b2⟩))
  go_ret2
  exact ⟨rfl, b1.trans (b2.mono b1.size)⟩

/-- What readNumber answers of what is no number: 0 and the error that the program's variable holds. -/
theorem readNumber_bad (s : ByteArray) (w : World) (hs : s.size ≤ 281474976710656) (h : numI s.data.toList = none) (hv : VarsOk w) :
    Calls Tryz.prog 209 #[.string s] w fun e w' => ∃ t p, e = .returned (.tuple #[.int .i64 0, .iface t p]) ∧ Below w.heap.size w w' := by
  obtain ⟨t, p, hn⟩ := hv.noNum
  have hlt := World.block_lt_of_cell? w _ hn
  by_cases ha : ∃ v, Lib.atoiAll s.data.toList = .ok v
  · obtain ⟨v, ha⟩ := ha
    have hi : Lib.itoa v ≠ s.data.toList := by
      intro hi; unfold numI at h; rw [ha] at h; simp [hi] at h
    obtain ⟨hb0, hb1⟩ := Lib.atoiAll_bounds ha
    have HA := Lib.hid ha
    have HV := Lib.hid hv
    have HB : Hid (-9223372036854775808 ≤ v ∧ v ≤ 9223372036854775807) := ⟨hb0, hb1⟩
    have hq : (!Lib.itoa v == s.toList) = true := by rw [Lib.toList_data]; simpa using hi
    clear ha hv hi h hb0 hb1
    go_enter Tryz.func209, Tryz.ntmps209
    go_wp2_with (first
      | (go_at_call 211; refine (atoi_ok _ v _ hs HA.out).mono ?_; rintro e w1 ⟨rfl, b1⟩; obtain ⟨c1, f1⟩ := bcell b1)
      | (go_at_call 194; refine (itoa_int v _ HB.out.1 HB.out.2 (HV.out.below b1).tab).mono ?_; rintro e w2 ⟨rfl, b2⟩; obtain ⟨c2, f2⟩ := bcell b2; have z1 := b1.size))
    have hn2 : w2.cell? ⟨2, 0, none⟩ = some (.iface t p) := by rw [c2 _ _ (by omega), c1 _ _ hlt]; exact hn
    clear c1 c2 f1 f2
    go_region
    go_wp2
    go_ret2
    exact ⟨t, p, rfl, (b1.trans (b2.mono b1.size)).drew⟩
  · have HA : Hid (∀ v, Lib.atoiAll s.data.toList ≠ .ok v) := fun v hv => ha ⟨v, hv⟩
    have HV := Lib.hid hv
    clear ha hv h
    go_enter Tryz.func209, Tryz.ntmps209
    go_wp2_with (first
      | (go_at_call 211; refine (atoi_bad _ _ hs HA.out HV.out).mono ?_; rintro e w1 ⟨n1, t1, a1, rfl, b1⟩; obtain ⟨c1, f1⟩ := bcell b1))
    have hn1 : w1.cell? ⟨2, 0, none⟩ = some (.iface t p) := by rw [c1 _ _ hlt]; exact hn
    clear c1 f1
    go_region
    go_wp2
    go_ret2
    exact ⟨t, p, rfl, b1.drew⟩

end Go.Proofs.YtglpijjkihpeeaaGreatDoor

/- readEnd of the program: address and port of a text that has both, cut at its first space; else nothing and an error. Conditions: the text has at most 2^48 bytes; the variables that are read hold what they are laid with. -/
namespace Go.Proofs.YtglpijjkihpeeaaGreatDoor
open Go.RowKit Go.Sort

theorem cut_parts (s : ByteArray) (hs : s.size ≤ 281474976710656) : ∃ (X Y : ByteArray) (f : Bool), X.data.toList = (Lib.cut s.data.toList [32]).1 ∧ Y.data.toList = (Lib.cut s.data.toList [32]).2.1 ∧ X.size ≤ 281474976710656 ∧ Y.size ≤ 281474976710656 ∧
    ∀ w, Calls Tryz.prog 172 #[.string s, .string ⟨#[32]⟩] w fun e w' => e = .returned (.tuple #[.string X, .string Y, .bool f]) ∧ Below w.heap.size w w' := by
  have h1 : (Lib.cut s.data.toList [32]).1.length ≤ s.size := by
    unfold Lib.cut; split
    · simp; omega
    · simp
  have h2 : (Lib.cut s.data.toList [32]).2.1.length ≤ s.size := by
    unfold Lib.cut; split
    · simp
    · simp
  refine ⟨⟨(Lib.cut s.data.toList [32]).1.toArray⟩, ⟨(Lib.cut s.data.toList [32]).2.1.toArray⟩, (Lib.cut s.data.toList [32]).2.2, by simp, by simp, by simp [ByteArray.size]; omega, by simp [ByteArray.size]; omega, fun w => (cut_any s w hs).mono ?_⟩
  rintro e w' ⟨rfl, n, rfl⟩
  exact ⟨rfl, Joins.below_draws _ _ _⟩

set_option maxRecDepth 100000 in
set_option maxHeartbeats 800000 in
theorem readEnd_bad1 (s : ByteArray) (w : World) (hs : s.size ≤ 281474976710656) (h : numI (Lib.cut s.data.toList [32]).1 = none) (hv : VarsOk w) :
    Calls Tryz.prog 204 #[.string s] w fun e w' => ∃ t p, e = .returned (.tuple #[.agg #[.int .i64 0, .int .i64 0], .iface t p]) ∧ Below w.heap.size w w' := by
  obtain ⟨X, Y, f, hX, hY, sX, sY, hc⟩ := cut_parts s hs
  rw [← hX] at h
  have HC := Lib.hid hc
  have H := Lib.hid h
  have HV := Lib.hid hv
  clear hc h hv hX hY
  go_enter Tryz.func204, Tryz.ntmps204
  go_wp2_with (first
    | (go_at_call 172; refine (HC.out _).mono ?_; rintro e w1 ⟨rfl, b1⟩; obtain ⟨c1, f1⟩ := bcell b1; have z1 : w.heap.size < w1.heap.size := by (have hq := b1.size; simp at hq; omega))
    | (go_at_call 209; refine (readNumber_bad _ _ sX H.out (HV.out.below (below_box b1))).mono ?_; rintro e w2 ⟨t2, p2, rfl, b2⟩; obtain ⟨c2, f2⟩ := bcell b2))
  obtain ⟨q0, q1, q2⟩ := set_two (w := w2) (b := w.heap.size) (x := .int .i64 0) (y := .int .i64 0) (.int .i64 0) (.int .i64 0) (by rw [c2 _ _ z1, c1 _ _ (by simp)]; simp) (by rw [c2 _ _ z1, c1 _ _ (by simp)]; simp)
  refine bodyPost_ret (v := .tuple #[.agg #[.int .i64 0, .int .i64 0], .iface t2 p2]) (by simp [results, Tryz.results204, go_sem, q1, q2]) rfl ⟨_, _, rfl, ?_⟩
  exact ((((below_box b1).trans (b2.mono (by omega))).setCell (Nat.le_refl _) _).setCell (Nat.le_refl _) _)

set_option maxRecDepth 100000 in
set_option maxHeartbeats 800000 in
theorem readEnd_bad2 (s : ByteArray) (a : Int) (w : World) (hs : s.size ≤ 281474976710656) (h : numI (Lib.cut s.data.toList [32]).1 = some a) (h2 : numI (Lib.cut s.data.toList [32]).2.1 = none) (hv : VarsOk w) :
    Calls Tryz.prog 204 #[.string s] w fun e w' => ∃ t p, e = .returned (.tuple #[.agg #[.int .i64 0, .int .i64 0], .iface t p]) ∧ Below w.heap.size w w' := by
  obtain ⟨X, Y, f, hX, hY, sX, sY, hc⟩ := cut_parts s hs
  rw [← hX] at h
  rw [← hY] at h2
  have HC := Lib.hid hc
  have H := Lib.hid h
  have H2 := Lib.hid h2
  have HV := Lib.hid hv
  clear hc h h2 hv hX hY
  go_enter Tryz.func204, Tryz.ntmps204
  go_wp2_with fail
  (go_at_call 172; refine (HC.out _).mono ?_; rintro e w1 ⟨rfl, b1⟩; obtain ⟨c1, f1⟩ := bcell b1; have z1 : w.heap.size < w1.heap.size := by (have hq := b1.size; simp at hq; omega))
  have V1 : Hid (VarsOk w1) := HV.out.below (below_box b1)
  go_wp2_with fail
  (go_at_call 209; refine (readNumber_ok _ _ _ sX H.out V1.out).mono ?_; rintro e w2 ⟨rfl, b2⟩; obtain ⟨c2, f2⟩ := bcell b2; have z2 : w.heap.size < w2.heap.size := by (have hq := b2.size; omega))
  have V2 : Hid (VarsOk w2) := V1.out.below b2
  go_wp2_with fail
  (go_at_call 209; refine (readNumber_bad _ _ sY H2.out V2.out).mono ?_; rintro e w3 ⟨t3, p3, rfl, b3⟩; obtain ⟨c3, f3⟩ := bcell b3)
  go_wp2
  obtain ⟨q0, q1, q2⟩ := set_two (w := w3) (b := w.heap.size) (x := .int .i64 0) (y := .int .i64 0) (.int .i64 0) (.int .i64 0) (by rw [c3 _ _ z2, c2 _ _ z1, c1 _ _ (by simp)]; simp) (by rw [c3 _ _ z2, c2 _ _ z1, c1 _ _ (by simp)]; simp)
  refine bodyPost_ret (v := .tuple #[.agg #[.int .i64 0, .int .i64 0], .iface t3 p3]) (by simp [results, Tryz.results204, go_sem, q1, q2]) rfl ⟨_, _, rfl, ?_⟩
  exact ((((below_box b1).trans ((b2.mono (by omega)).trans (b3.mono (by omega)))).setCell (Nat.le_refl _) _).setCell (Nat.le_refl _) _)

/-- The variable errNoEnd, in a later world. -/
theorem noEnd_at {w w' : World} {t : TypeId} {p : Value} (h : w.cell? ⟨1, 0, none⟩ = some (.iface t p)) (hb : Below w.heap.size w w') : w'.cell? ⟨1, 0, none⟩ = some (.iface t p) :=
  (hb.cell (World.block_lt_of_cell? _ _ h)).trans h

set_option maxRecDepth 100000 in
set_option maxHeartbeats 1600000 in
theorem readEnd_last (s : ByteArray) (a p : Int) (w : World) (hs : s.size ≤ 281474976710656) (h : numI (Lib.cut s.data.toList [32]).1 = some a) (h2 : numI (Lib.cut s.data.toList [32]).2.1 = some p) (hv : VarsOk w) :
    Calls Tryz.prog 204 #[.string s] w fun e w' => (endB a p = true → e = .returned (.tuple #[.agg #[.int .i64 a, .int .i64 p], .nilIface])) ∧ (endB a p = false → ∃ t q, e = .returned (.tuple #[.agg #[.int .i64 0, .int .i64 0], .iface t q])) ∧ Below w.heap.size w w' := by
  obtain ⟨X, Y, f, hX, hY, sX, sY, hc⟩ := cut_parts s hs
  rw [← hX] at h
  rw [← hY] at h2
  obtain ⟨te, pe, hne⟩ := hv.noEnd
  have HC := Lib.hid hc
  have H := Lib.hid h
  have H2 := Lib.hid h2
  have HV := Lib.hid hv
  have HE := Lib.hid hne
  clear hc h h2 hv hX hY hne
  go_enter Tryz.func204, Tryz.ntmps204
  go_wp2_with fail
  (go_at_call 172; refine (HC.out _).mono ?_; rintro e w1 ⟨rfl, b1⟩; obtain ⟨c1, f1⟩ := bcell b1; have z1 : w.heap.size < w1.heap.size := by (have hq := b1.size; simp at hq; omega))
  have V1 : Hid (VarsOk w1) := HV.out.below (below_box b1)
  go_wp2_with fail
  (go_at_call 209; refine (readNumber_ok _ _ _ sX H.out V1.out).mono ?_; rintro e w2 ⟨rfl, b2⟩; obtain ⟨c2, f2⟩ := bcell b2; have z2 : w.heap.size < w2.heap.size := by (have hq := b2.size; omega))
  have V2 : Hid (VarsOk w2) := V1.out.below b2
  go_wp2_with fail
  (go_at_call 209; refine (readNumber_ok _ _ _ sY H2.out V2.out).mono ?_; rintro e w3 ⟨rfl, b3⟩; obtain ⟨c3, f3⟩ := bcell b3; have z3 : w.heap.size < w3.heap.size := by (have hq := b3.size; omega))
  have b13 : Below w.heap.size w w3 := (below_box b1).trans ((b2.mono (by omega)).trans (b3.mono (by omega)))
  go_wp2_with fail
  (go_at_call 119; refine (implOk_any _ _ _).mono ?_; rintro e w4 ⟨rfl, b4⟩; obtain ⟨c4, f4⟩ := bcell b4)
  have b14 : Below w.heap.size w w4 := b13.trans (((Below.refl _ w3).alloc (Nat.le_refl _) _ |>.trans (b4.mono (by simp))).mono (by omega))
  have k0 : w4.cell? ⟨w.heap.size, 0, none⟩ = some (.int .i64 0) := by rw [c4 _ _ (by simp; omega), cell_alloc_lt z3, c3 _ _ z2, c2 _ _ z1, c1 _ _ (by simp)]; simp
  have k1 : w4.cell? ⟨w.heap.size, 1, none⟩ = some (.int .i64 0) := by rw [c4 _ _ (by simp; omega), cell_alloc_lt z3, c3 _ _ z2, c2 _ _ z1, c1 _ _ (by simp)]; simp
  by_cases hb : endB a p = true
  · obtain ⟨q0, q1, q2⟩ := set_two (.int .i64 a) (.int .i64 p) k0 k1
    go_wp2
    refine bodyPost_ret (v := .tuple #[.agg #[.int .i64 a, .int .i64 p], .nilIface]) (by simp [results, Tryz.results204, go_sem, q1, q2]) rfl ⟨fun _ => rfl, fun h => absurd hb (by simp [h]), ?_⟩
    exact (b14.setCell (Nat.le_refl _) _).setCell (Nat.le_refl _) _
  · have hE := noEnd_at HE.out b14
    obtain ⟨q0, q1, q2⟩ := set_two (.int .i64 0) (.int .i64 0) k0 k1
    have r0 : w4.frozen? ⟨w.heap.size, 0, none⟩ = false := by rw [f4 _ _ (by simp; omega), frozen_alloc_lt z3, f3 _ _ z2, f2 _ _ z1, f1 _ _ (by simp)]; simp
    have r1 : w4.frozen? ⟨w.heap.size, 1, none⟩ = false := by rw [f4 _ _ (by simp; omega), frozen_alloc_lt z3, f3 _ _ z2, f2 _ _ z1, f1 _ _ (by simp)]; simp
    have hlt : 1 < w.heap.size := World.block_lt_of_cell? w _ HE.out
    have hE2 : (w4.setCell ⟨w.heap.size, 0, none⟩ (.int .i64 0)).cell? ⟨1, 0, none⟩ = some (.iface te pe) := by
      rw [World.cell?_setCell_far _ _ _ _ (Nat.ne_of_gt hlt)]; exact hE
    clear c1 c2 c3 c4 f1 f2 f3 f4
    go_wp2
    go_region
    go_wp2
    refine bodyPost_ret (v := .tuple #[.agg #[.int .i64 0, .int .i64 0], .iface te pe]) (by simp [results, Tryz.results204, go_sem, q1, q2]) rfl ⟨fun h => absurd h hb, fun _ => ⟨_, _, rfl⟩, ?_⟩
    exact ((b14.setCell (Nat.le_refl _) _).setCell (Nat.le_refl _) _).drew

end Go.Proofs.YtglpijjkihpeeaaGreatDoor

/- EndRead of the program and of the specification answer the same of every text. Conditions: the text has at most 2^20 bytes; the variables that are read hold what they are laid with. -/
namespace Go.Proofs.YtglpijjkihpeeaaGreatDoor
open Go.RowKit Go.Sort

set_option maxRecDepth 100000 in
set_option maxHeartbeats 800000 in
theorem implRead_good (s : ByteArray) (a p : Int) (w : World) (hv : VarsOk w)
    (h : ∀ w, VarsOk w → Calls Tryz.prog 204 #[.string s] w fun e w' => e = .returned (.tuple #[.agg #[.int .i64 a, .int .i64 p], .nilIface]) ∧ Below w.heap.size w w') :
    Calls Tryz.prog 193 #[.string s] w fun e w' => e = .returned (.tuple #[.agg #[.int .i64 a, .int .i64 p], .bool true]) ∧ Below w.heap.size w w' := by
  have H := Lib.hid h
  have HV := Lib.hid hv
  clear h hv
  go_enter Tryz.func193, Tryz.ntmps193
  go_wp2_with (go_at_call 204; refine (H.out _ (HV.out.below ((Below.refl _ _).alloc (Nat.le_refl _) _))).mono ?_; rintro e w1 ⟨rfl, b1⟩; obtain ⟨c1, f1⟩ := bcell b1)
  have z1 : w.heap.size < w1.heap.size := by have hq := b1.size; simp at hq; omega
  have k0 : w1.cell? ⟨w.heap.size, 0, none⟩ = some (.int .i64 0) := by rw [c1 _ _ (by simp)]; simp
  have k1 : w1.cell? ⟨w.heap.size, 1, none⟩ = some (.int .i64 0) := by rw [c1 _ _ (by simp)]; simp
  have r0 : w1.frozen? ⟨w.heap.size, 0, none⟩ = false := by rw [f1 _ _ (by simp)]; simp
  have r1 : w1.frozen? ⟨w.heap.size, 1, none⟩ = false := by rw [f1 _ _ (by simp)]; simp
  clear c1 f1
  go_region
  go_wp2
  obtain ⟨q0, q1, q2⟩ := set_two (w := w1) (.int .i64 a) (.int .i64 p) k0 k1
  refine bodyPost_ret (v := .tuple #[.agg #[.int .i64 a, .int .i64 p], .bool true]) (by simp [results, Tryz.results193, go_sem, cell_alloc_lt, z1, q1, q2]) rfl ⟨rfl, ?_⟩
  exact ((((((below_box b1).setCell (Nat.le_refl _) _).setCell (Nat.le_refl _) _).alloc (by simp; omega) _)).drew)

set_option maxRecDepth 100000 in
set_option maxHeartbeats 800000 in
theorem implRead_bad (s : ByteArray) (w : World) (hv : VarsOk w)
    (h : ∀ w, VarsOk w → Calls Tryz.prog 204 #[.string s] w fun e w' => ∃ t q, e = .returned (.tuple #[.agg #[.int .i64 0, .int .i64 0], .iface t q]) ∧ Below w.heap.size w w') :
    Calls Tryz.prog 193 #[.string s] w fun e w' => e = .returned (.tuple #[.agg #[.int .i64 0, .int .i64 0], .bool false]) ∧ Below w.heap.size w w' := by
  have H := Lib.hid h
  have HV := Lib.hid hv
  clear h hv
  go_enter Tryz.func193, Tryz.ntmps193
  go_wp2_with (go_at_call 204; refine (H.out _ (HV.out.below ((Below.refl _ _).alloc (Nat.le_refl _) _))).mono ?_; rintro e w1 ⟨t1, p1, rfl, b1⟩; obtain ⟨c1, f1⟩ := bcell b1)
  have z1 : w.heap.size < w1.heap.size := by have hq := b1.size; simp at hq; omega
  have k0 : w1.cell? ⟨w.heap.size, 0, none⟩ = some (.int .i64 0) := by rw [c1 _ _ (by simp)]; simp
  have k1 : w1.cell? ⟨w.heap.size, 1, none⟩ = some (.int .i64 0) := by rw [c1 _ _ (by simp)]; simp
  have r0 : w1.frozen? ⟨w.heap.size, 0, none⟩ = false := by rw [f1 _ _ (by simp)]; simp
  have r1 : w1.frozen? ⟨w.heap.size, 1, none⟩ = false := by rw [f1 _ _ (by simp)]; simp
  clear c1 f1
  go_region
  go_wp2
  obtain ⟨q0, q1, q2⟩ := set_two (w := w1) (.int .i64 0) (.int .i64 0) k0 k1
  refine bodyPost_ret (v := .tuple #[.agg #[.int .i64 0, .int .i64 0], .bool false]) (by simp [results, Tryz.results193, go_sem, cell_alloc_lt, z1, q1, q2]) rfl ⟨rfl, ?_⟩
  exact ((((((below_box b1).setCell (Nat.le_refl _) _).setCell (Nat.le_refl _) _).alloc (by simp; omega) _)).drew)

/-- What the program reads. -/
def rdO (l : List UInt8) : Value := match numI (Lib.cut l [32]).1, numI (Lib.cut l [32]).2.1 with | some a, some p => rdV a p | _, _ => noneV
theorem numI_dec {k : Nat} (hk : k ≤ 1000000000000000000) : numI (Lib.decDigits k) = some (k : Int) := by
  unfold numI; rw [atoi_dec k hk]; simp [itoa_nat]
theorem numI_inv {l : List UInt8} {v : Int} (h : numI l = some v) : Lib.itoa v = l := by
  unfold numI at h
  split at h
  · split at h
    · simp at h; subst h; assumption
    · cases h
  · cases h
theorem itoa_pos {v : Int} (h : 0 ≤ v) : Lib.itoa v = Lib.decDigits v.toNat := by
  unfold Lib.itoa; rw [if_neg (by omega)]

theorem rdO_yes {a p : Nat} (h : endB a p = true) : rdO (endL a p) = rdV a p := by
  obtain ⟨h1, h2, h3, h4⟩ := end_bounds h
  have hi : 0 ≤ Lib.index (endL a p) [32] := by
    rcases Int.lt_or_le (Lib.index (endL a p) [32]) 0 with hn | hn
    · exact absurd rfl (index_none hn 32 (by simp [endL]))
    · exact hn
  obtain ⟨e1, e2⟩ := cut_yes hi
  obtain ⟨u1, u2⟩ := split_uniq (dec_no_space a) e2 (show Lib.decDigits a ++ 32 :: Lib.decDigits p = _ from e1)
  unfold rdO
  rw [← u1, ← u2, numI_dec (by omega), numI_dec (by omega)]
theorem rdO_no {l : List UInt8} (h : ∀ a p : Nat, endB a p = true → l ≠ endL a p) : rdO l = noneV := by
  unfold rdO
  split
  · rename_i a p ha hp
    by_cases hb : endB a p = true
    · obtain ⟨h1, h2, h3, h4⟩ := end_bounds hb
      have ea := numI_inv ha
      have ep := numI_inv hp
      rw [itoa_pos (by omega)] at ea ep
      refine absurd ?_ (h a.toNat p.toNat (by rw [Int.toNat_of_nonneg (by omega), Int.toNat_of_nonneg (by omega)]; exact hb))
      by_cases hi : 0 ≤ Lib.index l [32]
      · rw [endL, ea, ep]; exact (cut_yes hi).1
      · rw [cut_no hi] at ep
        have := dec_pos p.toNat
        rw [ep] at this; simp at this
    · exact rdV_none (by simpa using hb)
  · rfl
theorem rd_same (l : List UInt8) : rdO l = rdS l := by
  by_cases h : ∃ a p : Nat, endB a p = true ∧ l = endL a p
  · obtain ⟨a, p, h1, rfl⟩ := h; rw [rdO_yes h1, rdS_yes h1]
  · have h' : ∀ a p : Nat, endB a p = true → l ≠ endL a p := fun a p h1 h2 => h ⟨a, p, h1, h2⟩
    rw [rdO_no h', rdS_no h']

theorem implRead_any (s : ByteArray) (w : World) (hs : s.size ≤ 281474976710656) (hv : VarsOk w) :
    Calls Tryz.prog 193 #[.string s] w fun e w' => e = .returned (rdO s.data.toList) ∧ Below w.heap.size w w' := by
  rcases ha : numI (Lib.cut s.data.toList [32]).1 with _ | a
  · have e : rdO s.data.toList = noneV := by unfold rdO; rw [ha]
    rw [e]
    exact implRead_bad s w hv fun w hv => (readEnd_bad1 s w hs ha hv).mono fun _ _ ⟨t, p, he, hb⟩ => ⟨t, p, he, hb⟩
  · rcases hp : numI (Lib.cut s.data.toList [32]).2.1 with _ | p
    · have e : rdO s.data.toList = noneV := by unfold rdO; rw [ha, hp]
      rw [e]
      exact implRead_bad s w hv fun w hv => (readEnd_bad2 s a w hs ha hp hv).mono fun _ _ ⟨t, p, he, hb⟩ => ⟨t, p, he, hb⟩
    · have e : rdO s.data.toList = rdV a p := by unfold rdO; rw [ha, hp]
      rw [e]
      by_cases hb : endB a p = true
      · rw [show rdV a p = _ from if_pos hb]
        exact implRead_good s a p w hv fun w hv => (readEnd_last s a p w hs ha hp hv).mono fun _ _ ⟨h1, _, h3⟩ => ⟨h1 hb, h3⟩
      · rw [show rdV a p = _ from if_neg hb]
        exact implRead_bad s w hv fun w hv => (readEnd_last s a p w hs ha hp hv).mono fun _ _ ⟨_, h2, h3⟩ => by
          obtain ⟨t, q, he⟩ := h2 (by simpa using hb)
          exact ⟨t, q, he, h3⟩

end Go.Proofs.YtglpijjkihpeeaaGreatDoor

/- LinPort of the program, and the end that a line of the form of LinPort's says. Conditions: the text has at most 2^48 bytes; the variables that are read hold what they are laid with. -/
namespace Go.Proofs.YtglpijjkihpeeaaGreatDoor
open Go.RowKit Go.Sort

set_option maxRecDepth 100000 in
set_option maxHeartbeats 800000 in
theorem implLinPort_any (a p : Int) (w : World) (ht : TabOk w) :
    Calls Tryz.prog 175 #[.agg #[.int .i64 a, .int .i64 p]] w fun e w' => e = .returned (.string ⟨(lpL a p).toArray⟩) ∧ Below w.heap.size w w' := by
  have HT0 := Lib.hid ht
  clear ht
  by_cases hb : endB a p = true
  · obtain ⟨h1, h2, h3, h4⟩ := end_bounds hb
    obtain ⟨m, rfl⟩ := Int.eq_ofNat_of_zero_le (show 0 ≤ a by omega)
    obtain ⟨n, rfl⟩ := Int.eq_ofNat_of_zero_le (show 0 ≤ p by omega)
    have HL : Hid (lpL m n = portL ++ endL m n) := if_pos hb
    have n1 : ¬ 9223372036854775807 < 5 + (endL m n).length := by
      have := dec_len4 (k := m) (by omega); have := dec_len4 (k := n) (by omega)
      simp [endL]; omega
    have HI : Hid (∀ w, TabOk w → Calls Tryz.prog 185 #[.agg #[.int .i64 (m : Int), .int .i64 (n : Int)]] w fun e w' => e = .returned (.string ⟨(endL m n).toArray⟩) ∧ Below w.heap.size w w') := fun w ht => implText_yes m n w hb ht
    go_enter Tryz.func175, Tryz.ntmps175
    go_wp2_with (first
      | (go_at_call 119; refine (implOk_any _ _ _).mono ?_; rintro e w1 ⟨rfl, b1⟩; obtain ⟨c1, f1⟩ := bcell b1; have T1 : Hid (TabOk w1) := HT0.out.below (below_box b1) (Nat.le_refl _))
      | (go_at_call 185; refine (HI.out _ T1.out).mono ?_; rintro e w2 ⟨rfl, b2⟩))
    go_ret
    refine ⟨?_, (below_box b1).trans (b2.mono (by have := b1.size; simp at this; omega))⟩
    rw [HL.out, ← port_cat]; rfl
  · have HL : Hid (lpL a p = []) := if_neg hb
    go_enter Tryz.func175, Tryz.ntmps175
    go_wp2_with (go_at_call 119; refine (implOk_any _ _ _).mono ?_; rintro e w1 ⟨rfl, b1⟩)
    go_ret
    exact ⟨by rw [HL.out]; rfl, below_box b1⟩

/-- The end, of whichever side, that a line says. -/
def rpE (l : List UInt8) : Option (Int × Int) := if l.take 5 = portL then rdE (l.drop 5) else none

set_option maxRecDepth 100000 in
set_option maxHeartbeats 800000 in
theorem prefix_any (s : ByteArray) (w : World) :
    Calls Tryz.prog 208 #[.string s, .string ⟨#[112, 111, 114, 116, 32]⟩] w fun e w' => e = .returned (.bool (decide (s.data.toList.take 5 = portL))) ∧ w' = w := by
  by_cases h5 : s.size < 5
  · have hno : ¬ s.data.toList.take 5 = portL := by
      intro h; have := congrArg List.length h; simp [portL] at this; omega
    have HD : Hid (decide (s.data.toList.take 5 = portL) = false) := decide_eq_false hno
    clear hno
    go_enter Tryz.func208, Tryz.ntmps208
    go_wp2_with fail
    go_ret
    exact ⟨ret_bool HD.out.symm, rfl⟩
  · have HD : Hid (((s.extract 0 5).toList == [112, 111, 114, 116, 32]) = decide (s.data.toList.take 5 = portL)) := by
      show ((s.extract 0 5).toList == [112, 111, 114, 116, 32]) = decide (s.data.toList.take 5 = portL)
      rw [Lib.toList_data, ext_take, Bool.eq_iff_iff, beq_iff_eq, decide_eq_true_iff]; rfl
    go_enter Tryz.func208, Tryz.ntmps208
    go_wp2_with fail
    go_ret
    exact ⟨ret_bool HD.out, rfl⟩

set_option maxRecDepth 100000 in
set_option maxHeartbeats 800000 in
theorem cutPortS_yes (s : ByteArray) (w : World) (ht : s.data.toList.take 5 = portL) :
    Calls Tryz.prog 203 #[.string s, .string ⟨#[112, 111, 114, 116, 32]⟩] w fun e w' => e = .returned (.tuple #[.string (s.extract 5 s.size), .bool true]) ∧ w' = w := by
  have h5 : 5 ≤ s.size := by have := congrArg List.length ht; simp [portL] at this; omega
  have HD : Hid (decide (s.data.toList.take 5 = portL) = true) := decide_eq_true ht
  clear ht
  go_enter Tryz.func203, Tryz.ntmps203
  go_wp2_with (go_at_call 208; refine (prefix_any _ _).mono ?_; rintro e w' ⟨rfl, rfl⟩; rw [HD.out])
  go_ret2
  exact ⟨rfl, rfl⟩

set_option maxRecDepth 100000 in
set_option maxHeartbeats 800000 in
theorem cutPortS_no (s : ByteArray) (w : World) (ht : ¬ s.data.toList.take 5 = portL) :
    Calls Tryz.prog 203 #[.string s, .string ⟨#[112, 111, 114, 116, 32]⟩] w fun e w' => e = .returned (.tuple #[.string s, .bool false]) ∧ w' = w := by
  have HD : Hid (decide (s.data.toList.take 5 = portL) = false) := decide_eq_false ht
  clear ht
  go_enter Tryz.func203, Tryz.ntmps203
  go_wp2_with (go_at_call 208; refine (prefix_any _ _).mono ?_; rintro e w' ⟨rfl, rfl⟩; rw [HD.out])
  go_ret2
  exact ⟨rfl, rfl⟩

set_option maxRecDepth 100000 in
set_option maxHeartbeats 800000 in
theorem cutPort_yes (s : ByteArray) (w : World) (ht : s.data.toList.take 5 = portL) :
    Calls Tryz.prog 192 #[.string s, .string ⟨#[112, 111, 114, 116, 32]⟩] w fun e w' => e = .returned (.tuple #[.string (s.extract 5 s.size), .bool true]) ∧ w' = w := by
  have HC := Lib.hid (fun w => cutPortS_yes s w ht)
  clear ht
  go_enter Tryz.func192, Tryz.ntmps192
  go_wp2_with (go_at_call 203; refine (HC.out _).mono ?_; rintro e w' ⟨rfl, rfl⟩)
  go_ret2
  exact ⟨rfl, rfl⟩

set_option maxRecDepth 100000 in
set_option maxHeartbeats 800000 in
theorem cutPort_no (s : ByteArray) (w : World) (ht : ¬ s.data.toList.take 5 = portL) :
    Calls Tryz.prog 192 #[.string s, .string ⟨#[112, 111, 114, 116, 32]⟩] w fun e w' => e = .returned (.tuple #[.string s, .bool false]) ∧ w' = w := by
  have HC := Lib.hid (fun w => cutPortS_no s w ht)
  clear ht
  go_enter Tryz.func192, Tryz.ntmps192
  go_wp2_with (go_at_call 203; refine (HC.out _).mono ?_; rintro e w' ⟨rfl, rfl⟩)
  go_ret2
  exact ⟨rfl, rfl⟩

end Go.Proofs.YtglpijjkihpeeaaGreatDoor

/- LinSays and LinBox of the program: as the specification's, of every text. Conditions: the text has at most 2^21 bytes; the variables that are read hold what they are laid with. -/
namespace Go.Proofs.YtglpijjkihpeeaaGreatDoor
open Go.RowKit Go.Sort

/-- EndRead of the program at what is behind the word. -/
theorem implRead_drop (s : ByteArray) (w : World) (hs : s.size ≤ 2097152) (hv : VarsOk w) :
    Calls Tryz.prog 193 #[.string (s.extract 5 s.size)] w fun e w' => e = .returned (saysV (rdE (s.data.toList.drop 5))) ∧ Below w.heap.size w w' := by
  have h := implRead_any (s.extract 5 s.size) w (by simp; omega) hv
  rw [ext_drop, rd_same] at h
  rcases hr : rdE (s.data.toList.drop 5) with _ | ⟨a, p⟩
  · rw [rdE_none hr] at h; exact h
  · rw [(rdE_some hr).1] at h; exact h

set_option maxRecDepth 100000 in
set_option maxHeartbeats 800000 in
theorem readPort_form (s : ByteArray) (a p : Int) (b : Bool) (w : World) (hv : VarsOk w) (ht : s.data.toList.take 5 = portL)
    (h : ∀ w, VarsOk w → Calls Tryz.prog 193 #[.string (s.extract 5 s.size)] w fun e w' => e = .returned (.tuple #[.agg #[.int .i64 a, .int .i64 p], .bool b]) ∧ Below w.heap.size w w') :
    Calls Tryz.prog 184 #[.string s] w fun e w' => e = .returned (.tuple #[.agg #[.int .i64 a, .int .i64 p], .bool b]) ∧ Below w.heap.size w w' := by
  have H := Lib.hid h
  have HV := Lib.hid hv
  have HC := Lib.hid (fun w => cutPort_yes s w ht)
  clear h hv ht
  go_enter Tryz.func184, Tryz.ntmps184
  go_wp2_with (first
    | (go_at_call 192; refine (HC.out _).mono ?_; rintro e w' ⟨rfl, rfl⟩)
    | (go_at_call 193; refine (H.out _ (HV.out.below ((Below.refl _ _).alloc (Nat.le_refl _) _))).mono ?_; rintro e w1 ⟨rfl, b1⟩; obtain ⟨c1, f1⟩ := bcell b1; have z1 : w.heap.size < w1.heap.size := by (have hq := b1.size; simp at hq; omega)))
  obtain ⟨q0, q1, q2⟩ := set_two (w := w1) (b := w.heap.size) (x := .int .i64 0) (y := .int .i64 0) (.int .i64 a) (.int .i64 p) (by rw [c1 _ _ (by simp)]; simp) (by rw [c1 _ _ (by simp)]; simp)
  refine bodyPost_ret (v := .tuple #[.agg #[.int .i64 a, .int .i64 p], .bool b]) (by simp [results, Tryz.results184, go_sem, q1, q2]) rfl ⟨rfl, ?_⟩
  exact ((below_box b1).setCell (Nat.le_refl _) _).setCell (Nat.le_refl _) _

set_option maxRecDepth 100000 in
set_option maxHeartbeats 800000 in
theorem readPort_no (s : ByteArray) (w : World) (ht : ¬ s.data.toList.take 5 = portL) :
    Calls Tryz.prog 184 #[.string s] w fun e w' => e = .returned (.tuple #[.agg #[.int .i64 0, .int .i64 0], .bool false]) ∧ Below w.heap.size w w' := by
  have HC := Lib.hid (fun w => cutPort_no s w ht)
  clear ht
  go_enter Tryz.func184, Tryz.ntmps184
  go_wp2_with (go_at_call 192; refine (HC.out _).mono ?_; rintro e w' ⟨rfl, rfl⟩)
  refine bodyPost_ret (v := .tuple #[.agg #[.int .i64 0, .int .i64 0], .bool false]) (by simp [results, Tryz.results184, go_sem]) rfl ⟨rfl, ?_⟩
  exact (Below.refl _ _).alloc (Nat.le_refl _) _

theorem readPort_any (s : ByteArray) (w : World) (hs : s.size ≤ 2097152) (hv : VarsOk w) :
    Calls Tryz.prog 184 #[.string s] w fun e w' => e = .returned (saysV (rpE s.data.toList)) ∧ Below w.heap.size w w' := by
  by_cases ht : s.data.toList.take 5 = portL
  · have e : rpE s.data.toList = rdE (s.data.toList.drop 5) := if_pos ht
    rw [e]
    have hd := fun w hv => implRead_drop s w hs hv
    rcases hr : rdE (s.data.toList.drop 5) with _ | ⟨a, p⟩
    · simp only [hr] at hd; exact readPort_form s 0 0 false w hv ht hd
    · simp only [hr] at hd; exact readPort_form s a p true w hv ht hd
  · have e : rpE s.data.toList = none := if_neg ht
    rw [e]; exact readPort_no s w ht

/-- What LinSays and LinBox make of the end that a line says. -/
theorem says_none {l : List UInt8} (h : rpE l = none) : saysE l = none ∧ boxE l = none := by
  unfold rpE at h
  unfold saysE boxE
  split
  · rename_i ht
    rw [if_pos ht] at h
    rw [h]; exact ⟨rfl, rfl⟩
  · exact ⟨rfl, rfl⟩
theorem says_some {l : List UInt8} {a p : Int} (h : rpE l = some (a, p)) : saysE l = (if insB a p = true then some (a, p) else none) ∧ boxE l = (if boxB a p = true then some p else none) := by
  unfold rpE at h
  unfold saysE boxE
  split
  · rename_i ht
    rw [if_pos ht] at h
    rw [h]
    refine ⟨rfl, ?_⟩
    have hb := (rdE_some h).2
    by_cases ha : a = 50
    · subst ha
      have : boxB 50 p = true := by
        simp [endB, insB, outB, boxB, inB] at hb ⊢; omega
      simp [this]
    · simp [boxB, ha]
  · rename_i ht
    rw [if_neg ht] at h; cases h

set_option maxRecDepth 100000 in
set_option maxHeartbeats 800000 in
theorem implSays_some (s : ByteArray) (a p : Int) (w : World) (hv : VarsOk w)
    (h : ∀ w, VarsOk w → Calls Tryz.prog 184 #[.string s] w fun e w' => e = .returned (.tuple #[.agg #[.int .i64 a, .int .i64 p], .bool true]) ∧ Below w.heap.size w w') :
    Calls Tryz.prog 174 #[.string s] w fun e w' => e = .returned (saysV (if insB a p = true then some (a, p) else none)) ∧ Below w.heap.size w w' := by
  have H := Lib.hid h
  have HV := Lib.hid hv
  clear h hv
  by_cases hin : insB a p = true
  · rw [if_pos hin]
    go_enter Tryz.func174, Tryz.ntmps174
    go_wp2_with (first
      | (go_at_call 184; refine (H.out _ (HV.out.below ((Below.refl _ _).alloc (Nat.le_refl _) _))).mono ?_; rintro e w1 ⟨rfl, b1⟩; obtain ⟨c1, f1⟩ := bcell b1; have z1 : w.heap.size < w1.heap.size := by (have hq := b1.size; simp at hq; omega))
      | (go_at_call 63; refine (implInside_any _ _ _).mono ?_; rintro e w3 ⟨rfl, b3⟩; obtain ⟨c3, f3⟩ := bcell b3; have z3 : w1.heap.size < w3.heap.size := by (have hq := b3.size; simp at hq; omega)))
    obtain ⟨q0, q1, q2⟩ := set_two (w := w3) (b := w.heap.size) (x := .int .i64 0) (y := .int .i64 0) (.int .i64 a) (.int .i64 p) (by rw [c3 _ _ (by simp; omega), cell_alloc_lt z1, c1 _ _ (by simp)]; simp) (by rw [c3 _ _ (by simp; omega), cell_alloc_lt z1, c1 _ _ (by simp)]; simp)
    refine bodyPost_ret (v := .tuple #[.agg #[.int .i64 a, .int .i64 p], .bool true]) (by simp [results, Tryz.results174, go_sem, q1, q2]) rfl ⟨rfl, ?_⟩
    exact ((((below_box b1).trans (((Below.refl _ w1).alloc (Nat.le_refl _) _ |>.trans (b3.mono (by simp))).mono (by omega))).setCell (Nat.le_refl _) _).setCell (Nat.le_refl _) _)
  · rw [if_neg hin]
    go_enter Tryz.func174, Tryz.ntmps174
    go_wp2_with (first
      | (go_at_call 184; refine (H.out _ (HV.out.below ((Below.refl _ _).alloc (Nat.le_refl _) _))).mono ?_; rintro e w1 ⟨rfl, b1⟩; obtain ⟨c1, f1⟩ := bcell b1; have z1 : w.heap.size < w1.heap.size := by (have hq := b1.size; simp at hq; omega))
      | (go_at_call 63; refine (implInside_any _ _ _).mono ?_; rintro e w3 ⟨rfl, b3⟩; obtain ⟨c3, f3⟩ := bcell b3; have z3 : w1.heap.size < w3.heap.size := by (have hq := b3.size; simp at hq; omega)))
    obtain ⟨q0, q1, q2⟩ := set_two (w := w3) (b := w.heap.size) (x := .int .i64 0) (y := .int .i64 0) (.int .i64 0) (.int .i64 0) (by rw [c3 _ _ (by simp; omega), cell_alloc_lt z1, c1 _ _ (by simp)]; simp) (by rw [c3 _ _ (by simp; omega), cell_alloc_lt z1, c1 _ _ (by simp)]; simp)
    refine bodyPost_ret (v := .tuple #[.agg #[.int .i64 0, .int .i64 0], .bool false]) (by simp [results, Tryz.results174, go_sem, q1, q2]) rfl ⟨rfl, ?_⟩
    exact ((((below_box b1).trans (((Below.refl _ w1).alloc (Nat.le_refl _) _ |>.trans (b3.mono (by simp))).mono (by omega))).setCell (Nat.le_refl _) _).setCell (Nat.le_refl _) _)

set_option maxRecDepth 100000 in
set_option maxHeartbeats 800000 in
theorem implSays_none (s : ByteArray) (w : World) (hv : VarsOk w)
    (h : ∀ w, VarsOk w → Calls Tryz.prog 184 #[.string s] w fun e w' => e = .returned (.tuple #[.agg #[.int .i64 0, .int .i64 0], .bool false]) ∧ Below w.heap.size w w') :
    Calls Tryz.prog 174 #[.string s] w fun e w' => e = .returned (saysV none) ∧ Below w.heap.size w w' := by
  have H := Lib.hid h
  have HV := Lib.hid hv
  clear h hv
  go_enter Tryz.func174, Tryz.ntmps174
  go_wp2_with (go_at_call 184; refine (H.out _ (HV.out.below ((Below.refl _ _).alloc (Nat.le_refl _) _))).mono ?_; rintro e w1 ⟨rfl, b1⟩; obtain ⟨c1, f1⟩ := bcell b1; have z1 : w.heap.size < w1.heap.size := by (have hq := b1.size; simp at hq; omega))
  obtain ⟨q0, q1, q2⟩ := set_two (w := w1) (b := w.heap.size) (x := .int .i64 0) (y := .int .i64 0) (.int .i64 0) (.int .i64 0) (by rw [c1 _ _ (by simp)]; simp) (by rw [c1 _ _ (by simp)]; simp)
  refine bodyPost_ret (v := .tuple #[.agg #[.int .i64 0, .int .i64 0], .bool false]) (by simp [results, Tryz.results174, go_sem, cell_alloc_lt, z1, q1, q2]) rfl ⟨rfl, ?_⟩
  exact (((below_box b1).setCell (Nat.le_refl _) _).setCell (Nat.le_refl _) _).alloc (by simp; omega) _

theorem implSays_any (s : ByteArray) (w : World) (hs : s.size ≤ 2097152) (hv : VarsOk w) :
    Calls Tryz.prog 174 #[.string s] w fun e w' => e = .returned (saysV (saysE s.data.toList)) ∧ Below w.heap.size w w' := by
  have hd := fun w hv => readPort_any s w hs hv
  rcases hr : rpE s.data.toList with _ | ⟨a, p⟩
  · rw [(says_none hr).1]; simp only [hr] at hd; exact implSays_none s w hv hd
  · rw [(says_some hr).1]; simp only [hr] at hd; exact implSays_some s a p w hv hd

set_option maxRecDepth 100000 in
set_option maxHeartbeats 800000 in
theorem implBox_some (s : ByteArray) (a p : Int) (w : World) (hv : VarsOk w)
    (h : ∀ w, VarsOk w → Calls Tryz.prog 184 #[.string s] w fun e w' => e = .returned (.tuple #[.agg #[.int .i64 a, .int .i64 p], .bool true]) ∧ Below w.heap.size w w') :
    Calls Tryz.prog 178 #[.string s] w fun e w' => e = .returned (boxV (if boxB a p = true then some p else none)) ∧ Below w.heap.size w w' := by
  have H := Lib.hid h
  have HV := Lib.hid hv
  clear h hv
  by_cases hin : boxB a p = true <;>
  · simp only [hin, if_true, if_false, Bool.false_eq_true]
    go_enter Tryz.func178, Tryz.ntmps178
    go_wp2_with (first
      | (go_at_call 184; refine (H.out _ HV.out).mono ?_; rintro e w1 ⟨rfl, b1⟩; have z1 := b1.size)
      | (go_at_call 64; refine (isBox_any _ _ _).mono ?_; rintro e w3 ⟨rfl, b3⟩; obtain ⟨c3, f3⟩ := bcell b3; have z3 : w1.heap.size < w3.heap.size := by (have hq := b3.size; simp at hq; omega)))
    go_ret2
    exact ⟨rfl, b1.trans ((((Below.refl _ w1).alloc (Nat.le_refl _) _).trans (b3.mono (by simp))).mono z1)⟩

set_option maxRecDepth 100000 in
set_option maxHeartbeats 800000 in
theorem implBox_none (s : ByteArray) (w : World) (hv : VarsOk w)
    (h : ∀ w, VarsOk w → Calls Tryz.prog 184 #[.string s] w fun e w' => e = .returned (.tuple #[.agg #[.int .i64 0, .int .i64 0], .bool false]) ∧ Below w.heap.size w w') :
    Calls Tryz.prog 178 #[.string s] w fun e w' => e = .returned (boxV none) ∧ Below w.heap.size w w' := by
  have H := Lib.hid h
  have HV := Lib.hid hv
  clear h hv
  go_enter Tryz.func178, Tryz.ntmps178
  go_wp2_with (go_at_call 184; refine (H.out _ HV.out).mono ?_; rintro e w1 ⟨rfl, b1⟩; have z1 := b1.size)
  go_ret2
  exact ⟨rfl, b1.alloc z1 _⟩

theorem implBox_any (s : ByteArray) (w : World) (hs : s.size ≤ 2097152) (hv : VarsOk w) :
    Calls Tryz.prog 178 #[.string s] w fun e w' => e = .returned (boxV (boxE s.data.toList)) ∧ Below w.heap.size w w' := by
  have hd := fun w hv => readPort_any s w hs hv
  rcases hr : rpE s.data.toList with _ | ⟨a, p⟩
  · rw [(says_none hr).2]; simp only [hr] at hd; exact implBox_none s w hv hd
  · rw [(says_some hr).2]; simp only [hr] at hd; exact implBox_some s a p w hv hd

end Go.Proofs.YtglpijjkihpeeaaGreatDoor

/- A line as it goes outside, and RwrLine, of the program. Conditions: the table is ok; the text has at most 2^21 bytes; the variables that are read hold what they are laid with. -/
namespace Go.Proofs.YtglpijjkihpeeaaGreatDoor
open Go.RowKit Go.Sort

set_option maxRecDepth 100000 in
set_option maxHeartbeats 1600000 in
theorem lineOutside_any (g1 g2 : Nat) (es : List (Int × Int)) (s : ByteArray) (w : World) (hs : s.size ≤ 2097152) (hb : Both w g1 g2 es) (hm : mapB es = true) (hv : ∀ w', Two g1 g2 w w' → VarsOk w') :
    Calls Tryz.prog 160 #[.agg #[.map (some g1), .map (some g2)], .string s] w fun e w' => e = .returned (.string ⟨(lineE es s.data.toList).2.toArray⟩) ∧ Both w' g1 g2 (lineE es s.data.toList).1 ∧ Two g1 g2 w w' := by
  have HBo : Hid (∀ w', Below w.heap.size w w' → Both w' g1 g2 es) := fun w' h => hb.later h
  have HV := Lib.hid hv
  have l1 := hb.lt.1
  have l2 := hb.lt.2
  clear hb hv
  rcases hx : saysE s.data.toList with _ | ⟨a, p⟩
  · have HB : Hid (∀ w, VarsOk w → Calls Tryz.prog 174 #[.string s] w fun e w' => e = .returned (.tuple #[.agg #[.int .i64 0, .int .i64 0], .bool false]) ∧ Below w.heap.size w w') := fun w hv => by have := implSays_any s w hs hv; rw [hx] at this; exact this
    have HE : Hid (lineE es s.data.toList = (es, s.data.toList)) := lineE_none hx
    rw [HE.out, str_same]
    clear hx HE hm
    go_enter Tryz.func160, Tryz.ntmps160
    go_wp2_with fail
    (go_at_call 174; refine (HB.out _ (HV.out _ (Two.of_below ((Below.refl _ _).alloc (Nat.le_refl _) _)))).mono ?_; rintro e w1 ⟨rfl, b1⟩; have B1 : Hid (Below w.heap.size w w1) := ((Below.refl _ _).alloc (Nat.le_refl _) _).trans (b1.mono (by simp)); clear b1)
    go_wp2_with fail
    go_ret
    have B2 : Below w.heap.size w (w1.alloc (.cells #[.int .i64 0, .int .i64 0] 53)) := B1.out.alloc B1.out.size _
    exact ⟨rfl, HBo.out _ B2, Two.of_below B2⟩
  · have HB : Hid (∀ w, VarsOk w → Calls Tryz.prog 174 #[.string s] w fun e w' => e = .returned (.tuple #[.agg #[.int .i64 a, .int .i64 p], .bool true]) ∧ Below w.heap.size w w') := fun w hv => by have := implSays_any s w hs hv; rw [hx] at this; exact this
    have hE := lineE_some (es := es) hx
    have hi := says_ins hx
    obtain ⟨us, hus⟩ : ∃ us, us = (putE es (a, p)).1 := ⟨_, rfl⟩
    obtain ⟨q, hq⟩ : ∃ q, q = (putE es (a, p)).2 := ⟨_, rfl⟩
    rw [← hus, ← hq] at hE
    have HG : Hid (∀ w, Both w g1 g2 es → Calls Tryz.prog 149 #[.agg #[.map (some g1), .map (some g2)], .agg #[.int .i64 a, .int .i64 p]] w fun e w' => e = .returned (.int .i64 q) ∧ Both w' g1 g2 us ∧ Two g1 g2 w w') := fun w h => by rw [hus, hq]; exact givePort_any g1 g2 es a p w h hm hi
    by_cases h0 : q = 0
    · rw [hE, if_pos h0]
      subst h0
      clear hE hx hus hq hm hi
      go_enter Tryz.func160, Tryz.ntmps160
      go_wp2_with fail
      (go_at_call 174; refine (HB.out _ (HV.out _ (Two.of_below ((Below.refl _ _).alloc (Nat.le_refl _) _)))).mono ?_; rintro e w1 ⟨rfl, b1⟩; have B1 : Hid (Below w.heap.size w w1) := ((Below.refl _ _).alloc (Nat.le_refl _) _).trans (b1.mono (by simp)); have t0 : ∀ o, (w1.alloc o).cell? ⟨w.heap.size, 0, none⟩ = some (.map (some g1)) := (fun o => by rw [cell_alloc_lt (by have := b1.size; simp at this; omega), b1.cell (by simp)]; simp); have t1 : ∀ o, (w1.alloc o).cell? ⟨w.heap.size, 1, none⟩ = some (.map (some g2)) := (fun o => by rw [cell_alloc_lt (by have := b1.size; simp at this; omega), b1.cell (by simp)]; simp); clear b1)
      have B2 : Hid (∀ o, Below w.heap.size w (w1.alloc o)) := fun o => B1.out.alloc B1.out.size o
      go_wp2_with fail
      (go_at_call 149; refine (HG.out _ (HBo.out _ (B2.out _))).mono ?_; rintro e w2 ⟨rfl, hb2, t2⟩; have HB2 := Lib.hid hb2; have T2 : Hid (Two g1 g2 w w2) := (Two.of_below (B2.out _)).trans t2; clear hb2 t2)
      go_wp2_with fail
      go_ret
      exact ⟨rfl, HB2.out, T2.out⟩
    · rw [hE, if_neg h0]
      have hqb : (q == 0) = false := by simpa using h0
      clear hE hx hus hq hm hi
      go_enter Tryz.func160, Tryz.ntmps160
      go_wp2_with fail
      (go_at_call 174; refine (HB.out _ (HV.out _ (Two.of_below ((Below.refl _ _).alloc (Nat.le_refl _) _)))).mono ?_; rintro e w1 ⟨rfl, b1⟩; have B1 : Hid (Below w.heap.size w w1) := ((Below.refl _ _).alloc (Nat.le_refl _) _).trans (b1.mono (by simp)); have t0 : ∀ o, (w1.alloc o).cell? ⟨w.heap.size, 0, none⟩ = some (.map (some g1)) := (fun o => by rw [cell_alloc_lt (by have := b1.size; simp at this; omega), b1.cell (by simp)]; simp); have t1 : ∀ o, (w1.alloc o).cell? ⟨w.heap.size, 1, none⟩ = some (.map (some g2)) := (fun o => by rw [cell_alloc_lt (by have := b1.size; simp at this; omega), b1.cell (by simp)]; simp); clear b1)
      have B2 : Hid (∀ o, Below w.heap.size w (w1.alloc o)) := fun o => B1.out.alloc B1.out.size o
      go_wp2_with fail
      (go_at_call 149; refine (HG.out _ (HBo.out _ (B2.out _))).mono ?_; rintro e w2 ⟨rfl, hb2, t2⟩; have HB2 := Lib.hid hb2; have T2 : Hid (Two g1 g2 w w2) := (Two.of_below (B2.out _)).trans t2; clear hb2 t2)
      go_wp2_with fail
      (go_at_call 66; refine (boxAt_any q _).mono ?_; rintro e w25 ⟨rfl, b25⟩; have HB25 := Lib.hid (HB2.out.later b25); have T25 : Hid (Two g1 g2 w w25) := T2.out.trans (Two.of_below b25); clear b25)
      go_wp2_with fail
      (go_at_call 175; refine (implLinPort_any 50 q _ (HV.out _ T25.out).tab).mono ?_; rintro e w3 ⟨rfl, b3⟩)
      go_wp2_with fail
      go_ret
      exact ⟨rfl, HB25.out.later b3, T25.out.trans (Two.of_below b3)⟩

/-- What RwrLine answers. -/
def rwrA (es : List (Int × Int)) (l : List UInt8) : List (Int × Int) × List UInt8 := if mapB es = true ∧ linB l = true then lineE es l else ([], [])

end Go.Proofs.YtglpijjkihpeeaaGreatDoor

/- RwrStream of the program. Conditions: the table is ok; the text is a stream; the variables that are read hold what they are laid with. -/
namespace Go.Proofs.YtglpijjkihpeeaaGreatDoor
open Go.RowKit Go.Shelf Go.Sort
attribute [local go_sem] Oper.semAt_some

/-- What stays when a block that is no cells turns. -/
theorem heap_kept {w w' : World} {row : Option Nat} {b : Nat} {cs : Array Value} {t : TypeId} {fz : Nat × Nat} (h : w.heap[b]? = some (.cells cs t fz)) (hg : w.grownBy w' row) (hr : ∀ r, row = some r → ∃ o : Obj, w.heap[r]? = some o ∧ o.isCells = false) : w'.heap[b]? = some (.cells cs t fz) := by
  refine (hg.block b (Array.getElem?_eq_some_iff.1 h).1 fun e => ?_).trans h
  obtain ⟨o, ho, hc⟩ := hr b e.symm
  rw [h] at ho
  cases ho
  cases hc
theorem Bld.kept {w w' : World} {row : Option Nat} {B b : Nat} {l : List UInt8} (h : Bld B b l w) (hg : w.grownBy w' row) (hr : ∀ r, row = some r → ∃ o : Obj, w.heap[r]? = some o ∧ o.isCells = false) : Bld B b l w' := by
  have one : ∀ p, Lib.BuilderAtF 186 5 B b p (Lib.byteCells l) w → Lib.BuilderAtF 186 5 B b p (Lib.byteCells l) w' := by
    rintro p ⟨hB, v, hb, hown, hne⟩
    refine ⟨hB, v, heap_kept hb hg hr, ⟨hown.1, ?_⟩, hne⟩
    rcases hown.2 with h2 | ⟨g, cap, cur, fz, hv, hBg, hh, r⟩
    · exact .inl h2
    · exact .inr ⟨g, cap, cur, fz, hv, hBg, heap_kept hh hg hr, r⟩
  rcases h with h | h
  · exact .inl (one _ h)
  · exact .inr (one _ h)
theorem OwnTab.kept {w w' : World} {row : Option Nat} {B : Nat} {v : Value} {es : List (Int × Int)} (h : OwnTab w B v es) (hg : w.grownBy w' row) (hr : ∀ r, row = some r → ∃ o : Obj, w.heap[r]? = some o ∧ o.isCells = false) : OwnTab w' B v es := by
  refine ⟨h.1, ?_⟩
  rcases h.2 with h2 | ⟨g, cap, cur, hv, hB, hh, r⟩
  · exact .inl h2
  · exact .inr ⟨g, cap, cur, hv, hB, heap_kept hh hg hr, r⟩
theorem MapAt.kind {P : Program} {k : TypeId} {w : World} {b : Nat} {L : List (Value × Value)} (h : MapAt P k w b L) : ∃ o : Obj, w.heap[b]? = some o ∧ o.isCells = false ∧ ∀ c t fz, o ≠ .cells c t fz := by
  obtain ⟨es, clock, hb, _⟩ := h
  exact ⟨_, hb, rfl, fun _ _ _ e => by cases e⟩
/-- A builder stays one, when the two maps turn. -/
theorem Bld.two {w w' : World} {g1 g2 B b : Nat} {l : List UInt8} {us : List (Int × Int)} (h : Bld B b l w) (ht : Two g1 g2 w w') (hb : Both w g1 g2 us) : Bld B b l w' := by
  obtain ⟨o1, k1, c1, _⟩ := hb.1.kind
  obtain ⟨o2, k2, c2, _⟩ := hb.2.1.kind
  have keep : ∀ (c : Nat) (cs : Array Value) (t : TypeId) (fz : Nat × Nat), w.heap[c]? = some (.cells cs t fz) → w'.heap[c]? = some (.cells cs t fz) := fun c cs t fz hc => by
    refine (ht.block c (Array.getElem?_eq_some_iff.1 hc).1 (fun e => ?_) (fun e => ?_)).trans hc
    · rw [e, k1] at hc; cases hc; cases c1
    · rw [e, k2] at hc; cases hc; cases c2
  have one : ∀ p, Lib.BuilderAtF 186 5 B b p (Lib.byteCells l) w → Lib.BuilderAtF 186 5 B b p (Lib.byteCells l) w' := by
    rintro p ⟨hB, v, hb, hown, hne⟩
    refine ⟨hB, v, keep _ _ _ _ hb, ⟨hown.1, ?_⟩, hne⟩
    rcases hown.2 with h2 | ⟨g, cap, cur, fz, hv, hBg, hh, r⟩
    · exact .inl h2
    · exact .inr ⟨g, cap, cur, fz, hv, hBg, keep _ _ _ _ hh, r⟩
  rcases h with h | h
  · exact .inl (one _ h)
  · exact .inr (one _ h)
theorem Both.kept {w w' : World} {g1 g2 b : Nat} {us : List (Int × Int)} (h : Both w g1 g2 us) (hk : Kept b w w') (h1 : g1 ≠ b) (h2 : g2 ≠ b) : Both w' g1 g2 us := by
  obtain ⟨o1, k1, _, c1⟩ := h.1.kind
  obtain ⟨o2, k2, _, c2⟩ := h.2.1.kind
  exact ⟨h.1.same ((hk g1 o1 k1 (by simpa using h1) fun c fz => c1 c _ fz).trans k1.symm), h.2.1.same ((hk g2 o2 k2 (by simpa using h2) fun c fz => c2 c _ fz).trans k2.symm), h.2.2⟩
theorem heap_other {w w' : World} {b k : Nat} {cs : Array Value} {t : TypeId} {fz : Nat × Nat} (h : w.heap[k]? = some (.cells cs t fz)) (hk : Kept b w w') (hb : k ≠ b) (ht : t ≠ 5) : w'.heap[k]? = some (.cells cs t fz) :=
  hk k _ h (by simpa using hb) fun c fz' e => by injection e with _ e2 _; exact ht e2
theorem both_ne8 : (138 : TypeId) ≠ 5 := by decide
theorem tab_ne8 : (27 : TypeId) ≠ 5 := by decide
theorem keeps_two {B g1 g2 : Nat} {w w' : World} (h : Two g1 g2 w w') (h1 : g1 < B) (h2 : g2 < B) : KeepsFrom B w w' :=
  ⟨h.size, fun k o hB hk _ => (h.block k (Array.getElem?_eq_some_iff.1 hk).1 (by omega) (by omega)).trans hk⟩
theorem keeps_kept {B b : Nat} {w w' : World} (h : Kept b w w') (hs : w.heap.size ≤ w'.heap.size) (hb : b < B) : KeepsFrom B w w' :=
  ⟨hs, fun k o hB hk ho => h k o hk (by simp; omega) fun c fz e => by subst e; cases ho⟩
theorem cells_at {w : World} {b : Nat} {cs : Array Value} {t : TypeId} (h : w.heap[b]? = some (.cells cs t (0, 0))) (i : Nat) : w.cell? ⟨b, i, none⟩ = cs[i]? ∧ w.frozen? ⟨b, i, none⟩ = false :=
  ⟨by simp only [World.cell?, h]; simp, by simp only [World.frozen?, h]; simp⟩

theorem end_ne8 : (53 : TypeId) ≠ 5 := by decide
theorem OwnTab.other {w w' : World} {B b : Nat} {v : Value} {es : List (Int × Int)} (h : OwnTab w B v es) (hk : Kept b w w') (hb : b < B) : OwnTab w' B v es := by
  refine ⟨h.1, ?_⟩
  rcases h.2 with h2 | ⟨g, cap, cur, hv, hB, hh, r⟩
  · exact .inl h2
  · exact .inr ⟨g, cap, cur, hv, hB, heap_other hh hk (by omega) end_ne8, r⟩

/-- What a round finds: the table and the text of the lines that have gone. -/
def RoundOk (es : List (Int × Int)) (w0 : World) (s : ByteArray) (g1 g2 b3 r : Nat) (pre : List (LineOf s)) (W : World) : Prop :=
  ∃ us x, (us, x) = streamE es (pre.map Subtype.val) ∧ x.length ≤ pre.length * 2097173 ∧ Both W g1 g2 us ∧ Bld (b3 + 1) (b3 + 1) x W ∧ W.heap[b3]? = some (.cells #[.map (some g1), .map (some g2)] 138 (0, 0)) ∧ W.heap[r]? = some (.cells #[.slice none 0 0] 27 (0, 0)) ∧ Below w0.heap.size w0 W ∧ b3 + 3 ≤ W.heap.size
theorem roundOk_own (es : List (Int × Int)) (w0 : World) (s : ByteArray) (g1 g2 b3 r B : Nat) (h1 : g1 < B) (h2 : g2 < B) (hB : w0.heap.size ≤ B) : OwnFrom B (RoundOk es w0 s g1 g2 b3 r) := by
  rintro pre X Y row ⟨us, x, hT, hx, hb, hl, h3, hr3, hbl, hz⟩ hg hr
  have hr' : ∀ r, row = some r → ∃ o : Obj, X.heap[r]? = some o ∧ o.isCells = false := fun r e => (hr r e).2
  have hn : ∀ g, g < B → some g ≠ row := fun g hlt e => by have := (hr g e.symm).1; omega
  refine ⟨us, x, hT, hx, ⟨hb.1.same (hg.block g1 hb.1.lt (hn _ h1)), hb.2.1.same (hg.block g2 hb.2.1.lt (hn _ h2)), hb.2.2⟩, hl.kept hg hr', heap_kept h3 hg hr', heap_kept hr3 hg hr', hbl.grown hg hbl.size (fun k e => Nat.le_trans hB (hr k e).1), Nat.le_trans hz hg.size⟩

set_option maxRecDepth 100000 in
set_option maxHeartbeats 4000000 in
theorem implStream_in (n : Nat) (hn3 : 3 ≤ n) (v : Value) (es : List (Int × Int)) (s : ByteArray) (w : World) (hn : es.length ≤ 4194304) (hs : s.size ≤ 2097152) (ht : TabAt w v es) (hm : mapB es = true) (hl : strB s.data.toList = true) (hv : VarsOk w) :
    CallsIn Fence.wide n Tryz.prog 140 #[.agg #[v], .string s] w fun e w' => ∃ g c, e = .returned (.tuple #[.agg #[.slice g (streamE es (linesL s.data.toList)).1.length c], .string ⟨(streamE es (linesL s.data.toList)).2.toArray⟩]) ∧ OwnTab w' w.heap.size (.slice g (streamE es (linesL s.data.toList)).1.length c) (streamE es (linesL s.data.toList)).1 ∧ Below w.heap.size w w' := by
  have h1 : 1 ≤ n := by omega
  have HT := Lib.hid ht
  have hwf := mapB_wf hm
  obtain ⟨ad, cap, rfl, hcap, hr⟩ := ht
  have hM : Hid (∀ w, TabAt w (.slice ad es.length cap) es → Calls Tryz.prog 46 #[.agg #[.slice ad es.length cap]] w fun e w' => e = .returned (.bool true) ∧ Below w.heap.size w w') := fun w h => by rw [← hm]; exact implMapOk_any _ es w hn hwf h
  have hL : Hid (∀ w, Calls Tryz.prog 141 #[.string s] w fun e w' => e = .returned (.bool true) ∧ Below w.heap.size w w') := fun w => by rw [← hl]; exact implStr_any s w hs
  have HP : Hid (∀ w, TabAt w (.slice ad es.length cap) es → Calls Tryz.prog 98 #[.agg #[.slice ad es.length cap]] w fun e w' => ∃ g1 g2, e = .returned (.agg #[.map (some g1), .map (some g2)]) ∧ w.heap.size ≤ g1 ∧ w.heap.size ≤ g2 ∧ Both w' g1 g2 es ∧ Below w.heap.size w w') := fun w h => portsOf_any _ es w hn hwf h
  have HV : Hid (∀ w', Below w.heap.size w w' → VarsOk w') := fun w' h => hv.below h
  have HM := Lib.hid hm
  clear hr hm hwf hcap hn hl hv
  refine callsIn_of_wp_marks Tryz.func140 rfl trivial ?_ rfl
  simp only [Tryz.ntmps140, List.size_toArray, List.length_cons, List.length_nil, Nat.reduceAdd, Nat.reduceSub, Array.replicate_succ, Array.replicate_zero, List.push_toArray, List.append_toArray, List.nil_append, List.cons_append]
  gi_wp2_with (refine ⟨trivial, ?_⟩; first
    | (gi_at_call 46; refine (callsIn_wide.2 (hM.out _ (HT.out.below (((Below.refl _ _).alloc (Nat.le_refl _) _).alloc (by simp) _)))).mono ?_; rintro e w1 ⟨rfl, b1⟩; obtain ⟨cA, _, b01, z1⟩ := cell_two b1; have t0 := (cA 0).1; simp at t0; have hR1 : w1.heap[w.heap.size + 1]? = some (.cells #[.slice none 0 0] 27 (0, 0)) := (by have h := heap_alloc_new (w.alloc (.cells #[.slice ad es.length cap] 27)) (.cells #[.slice none 0 0] 27); simp only [World.size_alloc] at h; exact (b1.block (w.heap.size + 1) (by simp)).trans h); have HR1 := Lib.hid hR1; clear cA b1 hR1)
    | (gi_at_call 141; refine (callsIn_wide.2 (hL.out _)).mono ?_; rintro e w2 ⟨rfl, b2⟩; replace t0 := box_below t0 b2; replace HR1 := Lib.hid ((b2.block _ (by omega)).trans HR1.out); replace b01 := b01.trans (b2.mono (by omega)); replace z1 := Nat.le_trans z1 b2.size; clear b2)
    | (gi_at_call 98; refine (callsIn_wide.2 (HP.out _ (HT.out.below b01))).mono ?_; rintro e w3 ⟨g1, g2, rfl, l1, l2, hb, b3⟩; replace HR1 := Lib.hid ((b3.block _ (by omega)).trans HR1.out); have B3 := Lib.hid (b01.trans (b3.mono (by omega))); have z3 := b3.size; have m1 := hb.lt.1; have m2 := hb.lt.2; have HB := Lib.hid hb; clear b01 b3 hb t0)
    | (gi_at_call 158; refine (callsIn_wide.2 (linesOf_any _ _)).mono ?_; rintro e w' ⟨rfl, rfl⟩))
  obtain ⟨W0, hW0⟩ : ∃ W0, ((w3.alloc (.cells #[.map (some g1), .map (some g2)] 138)).alloc (.cells #[.pointer none, .slice none 0 0] 186)).alloc (.cells #[.string s] 9) = W0 := ⟨_, rfl⟩
  obtain ⟨b3, hb3⟩ : ∃ b3, b3 = w3.heap.size := ⟨_, rfl⟩
  have hs0 : W0.heap.size = b3 + 3 := by rw [← hW0, hb3]; simp
  have BW : Hid (Below w3.heap.size w3 W0) := by rw [← hW0]; exact (((Below.refl _ _).alloc (Nat.le_refl _) _).alloc (by simp) _).alloc (by simp; omega) _
  have hS : W0.cell? ⟨b3 + 2, 0, none⟩ = some (.string s) := by
    have := (cell_new ((w3.alloc (.cells #[.map (some g1), .map (some g2)] 138)).alloc (.cells #[.pointer none, .slice none 0 0] 186)) #[.string s] 9 0).1
    simp only [World.size_alloc] at this
    rw [← hW0, hb3]; exact this
  have I0 : RoundOk es w s g1 g2 b3 (w.heap.size + 1) [] W0 := by
    refine ⟨es, [], rfl, by simp, HB.out.later BW.out, ?_, ?_, ?_, B3.out.trans (BW.out.mono B3.out.size), by omega⟩
    · refine .inl ⟨Nat.le_refl _, .slice none 0 0, ?_, ⟨rfl, .inl ⟨rfl, rfl⟩⟩, fun e => by cases e⟩
      have := heap_alloc_new (w3.alloc (.cells #[.map (some g1), .map (some g2)] 138)) (.cells #[.pointer none, .slice none 0 0] 186)
      simp only [World.size_alloc] at this
      rw [← hW0, hb3, Below.heap_alloc _ _ _ (by simp)]
      exact this
    · rw [← hW0, hb3, Below.heap_alloc _ _ _ (by simp; omega), Below.heap_alloc _ _ _ (by simp)]
      exact heap_alloc_new w3 _
    · exact (BW.out.block _ (by omega)).trans HR1.out
  rw [hW0]
  rw [← hb3] at m1 m2 z3 ⊢
  have hs1 : W0.heap.size ≤ b3 + 3 := Nat.le_of_eq hs0
  have hs2 : b3 + 3 ≤ W0.heap.size := Nat.le_of_eq hs0.symm
  have hzw : w.heap.size + 2 ≤ b3 := by omega
  have HI0 := Lib.hid I0
  have HSt := Lib.hid hS
  have hln : (linesL s.data.toList).length ≤ 2097152 := by have := lines_len s.data.toList; rw [len_list] at this; omega
  clear hs0 hW0 hb3 I0 hS BW
  refine wpIn_rangeFunc_ownG rfl h1 (gf := 171) (lb := #[.pointer (some ⟨b3 + 1 + 1, 0, none⟩)]) rfl trivial (enters_of Tryz.func171 (by kernel_rfl) rfl)
    (tell_stopsS (n - 1) (by omega) (b3 + 2) s hs W0 (by omega) HSt.out) (fun _ _ => trivial) (fun _ _ _ _ _ _ _ _ => trivial) (Below.refl _ _) (fun _ => rfl)
    (RoundOk es w s g1 g2 b3 (w.heap.size + 1))
    (fun _ _ _ => False)
    (roundOk_own es w s g1 g2 b3 (w.heap.size + 1) W0.heap.size (by omega) (by omega) (by omega))
    (fun c => fun _ _ _ _ h _ _ => h.elim)
    HI0.out
    (fun x => { tmps := #[.agg #[.slice ad es.length cap], .string s, .pointer (some ⟨w.heap.size, 0, none⟩), undef, .pointer (some ⟨w.heap.size + 1, 0, none⟩), .string ⟨#[]⟩, .pointer (some ⟨b3, 0, none⟩), .pointer (some ⟨b3 + 1, 0, none⟩), .string ⟨x.1.toArray⟩, .agg #[.slice ad es.length cap], .bool true, .bool false, .bool false, .string s, .bool true, .bool false, .bool false, undef, .agg #[.slice ad es.length cap], .agg #[.map (some g1), .map (some g2)], .string s, .func (.func 171) #[] #[.pointer (some ⟨b3 + 1 + 1, 0, none⟩)], .string ⟨x.1.toArray⟩, undef, undef, undef, undef, undef, undef, undef, undef], defers := [] }) ?assign ?body ?done ?stop
  case assign =>
    intro l x W K hK
    gi_wp2
    exact hK
  case body =>
    rintro l pre x W ⟨us, y, hT, hy, hb, hbl, h3, hr3, hB, hz⟩ hpre
    have hmu : mapB us = true := by
      have := streamE_ok HM.out (pre.map Subtype.val)
      rw [← hT] at this
      exact this
    have hxl : x.1.length ≤ 2097152 := by have := line_len x.2; rw [len_list] at this; omega
    obtain ⟨us', hus⟩ : ∃ us', us' = (lineE us x.1).1 := ⟨_, rfl⟩
    obtain ⟨x', hx'⟩ : ∃ x', x' = (lineE us x.1).2 := ⟨_, rfl⟩
    have hx'l : x'.length ≤ 2097172 := by have := lineE_len us x.1; rw [hx']; omega
    have hyb : y.length ≤ 4400000000000 := by have : pre.length * 2097173 ≤ 2097152 * 2097173 := Nat.mul_le_mul_right _ (by omega); omega
    have HY : Hid ((y ++ (x' ++ [59])).length ≤ (pre ++ [x]).length * 2097173) := by show _ ≤ _; simp; omega
    have HN : Hid ((us', y ++ (x' ++ [59])) = streamE es ((pre ++ [x]).map Subtype.val)) := by
      show _ = _
      rw [List.map_append, List.map_singleton, streamE_snoc, ← hT, hus, hx']
      simp [strF]
    have HC : Hid (Calls Tryz.prog 160 #[.agg #[.map (some g1), .map (some g2)], .string ⟨x.1.toArray⟩] W fun e w' => e = .returned (.string ⟨x'.toArray⟩) ∧ Both w' g1 g2 us' ∧ Two g1 g2 W w') := by
      rw [hus, hx']
      exact lineOutside_any g1 g2 us ⟨x.1.toArray⟩ W (by show x.1.toArray.size ≤ _; simpa using hxl) hb hmu fun w' h => HV.out _ (hB.trans (h.below hB.size (by omega) (by omega)))
    have HW : Hid (∀ w, Bld (b3 + 1) (b3 + 1) y w → b3 + 1 ≤ w.heap.size → Calls Tryz.prog 159 #[.pointer (some ⟨b3 + 1, 0, none⟩), .string (⟨x'.toArray⟩ ++ ⟨#[59]⟩)] w fun e w' => e = .returned (.tuple #[.int .i64 ((x' ++ [59]).length : Int), .nilIface]) ∧ Bld (b3 + 1) (b3 + 1) (y ++ (x' ++ [59])) w' ∧ Below (b3 + 1) w w' ∧ Kept (b3 + 1) w w') := fun w h1 h2 => by
      rw [show (⟨x'.toArray⟩ ++ ⟨#[59]⟩ : ByteArray) = ⟨(x' ++ [59]).toArray⟩ from by apply ByteArray.ext; apply Array.ext'; simp]
      exact write_any (b3 + 1) (b3 + 1) y (x' ++ [59]) w h1 (by simp; omega) h2
    have p0 := (cells_at h3 0).1
    have p1 := (cells_at h3 1).1
    simp at p0 p1
    have HBo := Lib.hid hb
    have HBl := Lib.hid hbl
    have H3 := Lib.hid h3
    have HR3 := Lib.hid hr3
    have HB := Lib.hid hB
    have hd : 1 ≤ n - 1 - 1 := by omega
    clear hT hy hb hbl h3 hr3 hB hmu hus hx' hxl hyb
    gi_wp2_with (refine ⟨trivial, ?_⟩; first
      | (gi_at_call 160; refine (CallsIn.inRound l (callsIn_wide.2 HC.out)).mono ?_; rintro e W1 ⟨rfl, hb1, t1⟩; have HB1 := Lib.hid hb1; have T1 := Lib.hid t1; have zW := t1.size; clear hb1 t1)
      | (gi_at_call 159; refine (CallsIn.inRound l (callsIn_wide.2 (HW.out _ (HBl.out.two T1.out HBo.out) (by omega)))).mono ?_; rintro e W2 ⟨rfl, hl2, b2, k2⟩))
    have T1 := T1.out
    have e3 : W1.heap[b3]? = some (.cells #[.map (some g1), .map (some g2)] 138 (0, 0)) := (T1.block b3 (by omega) (by omega) (by omega)).trans H3.out
    have er : W1.heap[w.heap.size + 1]? = some (.cells #[.slice none 0 0] 27 (0, 0)) := (T1.block _ (by omega) (by omega) (by omega)).trans HR3.out
    exact ⟨(keeps_two T1 (by omega) (by omega)).trans (keeps_kept k2 b2.size (by omega)), trivial, us', y ++ (x' ++ [59]), HN.out, HY.out, HB1.out.kept k2 (by omega) (by omega), hl2, heap_other e3 k2 (by omega) both_ne8, heap_other er k2 (by omega) tab_ne8, (HB.out.trans (T1.below HB.out.size (by omega) (by omega))).trans (b2.mono (by omega)), by have := b2.size; omega⟩
  case done =>
    rintro D xs W hD hxs ⟨us, y, hT, hy, hb, hbl, h3, hr3, hB, hz⟩ hK
    rw [hxs] at hT
    have hmu : mapB us = true := by
      have := streamE_ok HM.out (linesL s.data.toList)
      rw [← hT] at this
      exact this
    have HO : Hid (Calls Tryz.prog 150 #[.agg #[.map (some g1), .map (some g2)]] W fun e w' => ∃ a c, e = .returned (.agg #[.slice a us.length c]) ∧ OwnTab w' W.heap.size (.slice a us.length c) us ∧ Below W.heap.size W w') := tableOf_any g1 g2 us W hb (valsL_ok hmu) (by have := mapB_le hmu; omega)
    have HS : Hid (∀ w, Bld (b3 + 1) (b3 + 1) y w → b3 + 1 ≤ w.heap.size → Calls Tryz.prog 161 #[.pointer (some ⟨b3 + 1, 0, none⟩)] w fun e w' => e = .returned (.string ⟨y.toArray⟩) ∧ Bld (b3 + 1) (b3 + 1) y w' ∧ Below (b3 + 1) w w' ∧ Kept (b3 + 1) w w') := fun w h1 h2 => buildString_any (b3 + 1) (b3 + 1) y w h1 h2
    have p0 := (cells_at h3 0).1
    have p1 := (cells_at h3 1).1
    simp at p0 p1
    have HBo := Lib.hid hb
    have HBl := Lib.hid hbl
    have HR3 := Lib.hid hr3
    have HB := Lib.hid hB
    have HK := Lib.hid hK
    have HTT := Lib.hid hT
    clear hT hy hb hbl h3 hr3 hB hmu hxs hK
    gi_wp2_with (refine ⟨trivial, ?_⟩; first
      | (gi_at_call 150; refine (callsIn_wide.2 HO.out).mono ?_; rintro e W1 ⟨ga, ca, rfl, o1, b1⟩; have O1 := Lib.hid o1; have B1 := Lib.hid b1; have zW := b1.size; clear o1 b1)
      | (gi_at_call 161; refine (callsIn_wide.2 (HS.out _ (HBl.out.two (Two.of_below B1.out) HBo.out) (by omega))).mono ?_; rintro e W2 ⟨rfl, _, b2, k2⟩; have z2 := b2.size; have hr2 := heap_other ((B1.out.block _ (by omega)).trans HR3.out) k2 (by omega) tab_ne8; have hc2 := (cells_at hr2 0).1; have hf2 := (cells_at hr2 0).2; simp at hc2; have HR2 := Lib.hid hr2; have B2 := Lib.hid b2; have K2 := Lib.hid k2; clear b2 k2 hr2))
    have hD2 : W2.heap[D]? = some (.deferred (some [])) := K2.out D _ ((B1.out.block D (Array.getElem?_eq_some_iff.1 HK.out).1).trans HK.out) (by simp; omega) (fun c fz e => by cases e)
    have hK' := (KeepsOthers.setCell W2 ⟨w.heap.size + 1, 0, none⟩ (.slice ga us.length ca)).same D _ hD2 rfl
    have O2 : OwnTab W2 W.heap.size (.slice ga us.length ca) us := O1.out.other K2.out (by omega)
    have BB : Below w.heap.size w W2 := (HB.out.trans (B1.out.mono (by omega))).trans (B2.out.mono (by omega))
    have hc3 : (W2.setCell ⟨w.heap.size + 1, 0, none⟩ (.slice ga us.length ca)).cell? ⟨w.heap.size + 1, 0, none⟩ = some (.slice ga us.length ca) := World.cell?_setCell_same _ _ _ hc2
    have hg := grownBy_putObj' (W2.setCell ⟨w.heap.size + 1, 0, none⟩ (.slice ga us.length ca)) D (.deferred none)
    have hrw : ∀ r, some D = some r → ∃ o : Obj, (W2.setCell ⟨w.heap.size + 1, 0, none⟩ (.slice ga us.length ca)).heap[r]? = some o ∧ o.isCells = false := fun r e => by cases e; exact ⟨_, hK', rfl⟩
    refine ⟨by simp, .inl ⟨_, _, rfl, run_takeDeferred hK', ?_⟩⟩
    have hc5 := cell_kept hc3 hg hrw
    refine ⟨.tuple #[.agg #[.slice ga us.length ca], .string ⟨y.toArray⟩], ?_, ga, ca, ?_, ?_, ?_⟩
    · simp [results, Tryz.results140, go_sem, hc5]
    · rw [← HTT.out]
    · rw [← HTT.out]
      exact OwnTab.kept (OwnTab.mono (B := W.heap.size) (ownsRow_setCell_below (a := ⟨w.heap.size + 1, 0, none⟩) O2 (by simp; omega) _) (by omega)) hg hrw
    · exact (BB.setCell (by simp) _).trans (belowK_b (w := w) (Nat.le_refl _) _ D _ _ (by omega) hK' rfl rfl)
  case stop =>
    intro D c pre W hD hpre hx
    exact hx.elim

end Go.Proofs.YtglpijjkihpeeaaGreatDoor
