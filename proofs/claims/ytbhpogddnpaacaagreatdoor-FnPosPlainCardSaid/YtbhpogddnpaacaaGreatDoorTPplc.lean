/- LinSays and LinBox of the program: as the specification's, of every text. Conditions: the text has at most 2^21 bytes; the variables that are read hold what they are laid with. (Several texts, joined: IMapO, Text, Cut, ReadNum, ReadEnd, Reads, IPort, ISays.) -/
import Derived.Test.YtbhpogddnpaacaaGreatDoorTPplb
import Derived.Test.YtbhpogddnpaacaaGreatDoorSText
import Derived.Lib.SmallJoins
import Derived.Shelf.Strconv.Itoa3
import Derived.Test.YtbhpogddnpaacaaGreatDoorShelf
import Derived.Shelf.Strings.Search2
import Derived.Lib.CutLaws
import Derived.Lib.IndexBytes
import Derived.RegionTactic
import Derived.IntWalk
import Derived.Shelf.Strconv.ErrVarAll
import Derived.Lib.AtoiAllCases
import Derived.Test.YtbhpogddnpaacaaGreatDoorTPpla
import Derived.Deep.RegionHeld

/- The program's MapOk answers as the document says. Conditions: at most 2^22 ends; all numbers are ints. -/
namespace Go.Proofs.YtbhpogddnpaacaaGreatDoor
open Go.RowKit

theorem implMapOk_any (v : Value) (es : List (Int × Int)) (w : World) (hn : es.length ≤ 4194304) (hwf : wfE es) (ht : TabAt w v es) :
    Calls Tryz.prog 28 #[.agg #[v]] w fun e w' => e = .returned (.bool (mapB es)) ∧ Below w.heap.size w w' := by
  by_cases h6 : 6 < es.length
  · exact implMapOk_big v es w ht h6
  · by_cases hin : es.all (fun e => insB e.1 e.2) = true
    · exact implMapOk_all v es w hn hwf ht h6 hin
    · exact implMapOk_not v es w hn ht h6 hin

end Go.Proofs.YtbhpogddnpaacaaGreatDoor

/- EndText of the program: address and port in decimals, a space between; nothing of what is no end. Condition: the table of powers of ten of the library's Itoa holds what it is laid with. -/
namespace Go.Proofs.YtbhpogddnpaacaaGreatDoor
open Go.RowKit Go.Sort

/-- The library's table of powers of ten, as the row lists it. -/
def TabOk (w : World) : Prop := Lib.TabIs Tryz.prog w "internal/strconv.uint64pow10" .u64 Lib.pow10Tab
theorem TabOk.below {w w' : World} {B : Nat} (h : TabOk w) (hb : Below B w w') (hB : w.heap.size ≤ B) : TabOk w' :=
  Joins.tab_stays (g := 5) (by kernel_rfl) h hb hB
theorem below_growN (w : World) (k : Nat) (os : Array Obj) : Below w.heap.size w (grow (w.drewN k) os) :=
  ⟨rfl, rfl, rfl, by simp [grow, World.drewN], fun k hk => by simp [grow, World.drewN, Array.getElem?_append, hk]⟩
theorem itoa_nat (n : Nat) : Lib.itoa (n : Int) = Lib.decDigits n := by
  unfold Lib.itoa; rw [if_neg (by omega)]; simp

theorem itoa_any (n : Nat) (w : World) (hn : n ≤ 1000000000000000000) (ht : TabOk w) :
    Calls Tryz.prog 91 #[.int .i64 n] w fun e w' => e = .returned (.string ⟨(Lib.decDigits n).toArray⟩) ∧ Below w.heap.size w w' := by
  have h := Any.strconv_Itoa Tryz.laysM171 (n : Int) (by omega) (by omega) w ht
  rw [itoa_nat] at h
  refine Calls.mono h ?_
  rintro e w' ⟨rfl, k, os, rfl⟩
  exact ⟨rfl, below_growN _ _ _⟩

set_option maxRecDepth 100000 in
set_option maxHeartbeats 400000 in
theorem implText_no (a p : Int) (w : World) (h : endB a p = false) :
    Calls Tryz.prog 76 #[.agg #[.int .i64 a, .int .i64 p]] w fun e w' => e = .returned (.string ⟨#[]⟩) ∧ Below w.heap.size w w' := by
  go_enter Tryz.func76, Tryz.ntmps76
  go_wp2_with (go_at_call 75; refine (implOk_any _ _ _).mono ?_; rintro e w1 ⟨rfl, b1⟩)
  go_ret
  exact ⟨rfl, below_box b1⟩

set_option maxRecDepth 100000 in
set_option maxHeartbeats 400000 in
theorem implText_yes (a p : Nat) (w : World) (h : endB a p = true) (ht : TabOk w) :
    Calls Tryz.prog 76 #[.agg #[.int .i64 a, .int .i64 p]] w fun e w' => e = .returned (.string ⟨(endL a p).toArray⟩) ∧ Below w.heap.size w w' := by
  obtain ⟨h1, h2, h3, h4⟩ := end_bounds h
  have la := dec_len a
  have lp := dec_len p
  have n1 : ¬ 9223372036854775807 < (Lib.decDigits a).length + 1 := by omega
  have n2 : ¬ 9223372036854775807 < (Lib.decDigits a).length + 1 + (Lib.decDigits p).length := by omega
  clear la lp
  have HT := Lib.hid ht
  clear ht
  go_enter Tryz.func76, Tryz.ntmps76
  go_wp2_with (go_at_call 75; refine (implOk_any _ _ _).mono ?_; rintro e w1 ⟨rfl, b1⟩)
  have s1 : w.heap.size < w1.heap.size := by (have := b1.size; simp at this; omega)
  have k0 := cell_regrown (show w1.cell? ⟨w.heap.size, 0, none⟩ = some (.int .i64 a) by rw [b1.cell (by simp)]; simp)
  have k1 := cell_regrown (show w1.cell? ⟨w.heap.size, 1, none⟩ = some (.int .i64 p) by rw [b1.cell (by simp)]; simp)
  have cN : ∀ (k : Nat) (hk : k ≤ 1000) d os, Calls Tryz.prog 91 #[.int .i64 (k : Int)] (grow (redrawn w1 d) os) fun e w'' => e = .returned (.string ⟨(Lib.decDigits k).toArray⟩) ∧ ∃ p : Regrown, w'' = grow (redrawn w1 p.d) p.os := fun k hk d os => Calls.regrown_of (itoa_any k _ (by omega) (HT.out.below ((below_box b1).trans ((below_regrown w1 d os).mono (by omega))) (Nat.le_refl _)))
  refine wp_region_quiet_below (by kernel_rfl) (by kernel_rfl) ?_
  repeat (quiet_step (exact cN _ (by omega) _ _))
  refine wpQuiet_nil ?_
  intro _ hw'
  obtain ⟨⟨dq, osq⟩, hw''⟩ := hw'
  subst hw''
  go_wp2
  go_ret
  exact ⟨by rw [text_cat]; rfl, (below_box b1).trans ((below_regrown w1 dq osq).mono (by omega))⟩

end Go.Proofs.YtbhpogddnpaacaaGreatDoor

/- The text cut at its first space, by the library. Condition: the text has at most 2^48 bytes. -/
namespace Go.Proofs.YtbhpogddnpaacaaGreatDoor
open Go.RowKit Go.Sort

set_option maxRecDepth 100000 in
set_option maxHeartbeats 800000 in
theorem cutS_any (s : ByteArray) (w : World) (hs : s.size ≤ 281474976710656) :
    Calls Tryz.prog 68 #[.string s, .string ⟨#[32]⟩] w fun e w' => e = .returned (.tuple #[.string ⟨(Lib.cut s.data.toList [32]).1.toArray⟩, .string ⟨(Lib.cut s.data.toList [32]).2.1.toArray⟩, .bool (Lib.cut s.data.toList [32]).2.2]) ∧ ∃ n, w' = w.drewN n := by
  have hc : ∀ w, Calls Tryz.prog 85 #[.string s, .string ⟨#[32]⟩] w fun e w' => e = .returned (.int .i64 (Lib.index s.data.toList [32])) ∧ w' = w := by
    intro w; have := Any.stringslite_Index_one Tryz.lays219 s 32 w; rw [← Lib.index_one] at this; exact this
  have HC := Lib.hid hc
  clear hc
  rcases Lib.indexB_cases s ⟨#[32]⟩ with hix | ⟨i, hix, hroom⟩
  · obtain ⟨e1, e2, e3⟩ := Lib.cutB_miss s ⟨#[32]⟩ hix
    have hix' : Lib.index s.data.toList [32] = -1 := hix
    have E1 : Hid ((⟨(Lib.cut s.data.toList [32]).1.toArray⟩ : ByteArray) = s) := e1
    have E2 : Hid ((⟨(Lib.cut s.data.toList [32]).2.1.toArray⟩ : ByteArray) = ByteArray.empty) := e2
    have E3 : Hid ((Lib.cut s.data.toList [32]).2.2 = false) := e3
    have HI := Lib.hid hix'
    clear e1 e2 e3 hix hix'
    go_enter Tryz.func68, Tryz.ntmps68
    go_wp2_with (go_at_call 85; refine (HC.out _).mono ?_; rintro e w' ⟨rfl, rfl⟩; rw [HI.out])
    go_ret3
    exact ⟨by rw [E1.out, E2.out, E3.out]; rfl, 0, rfl⟩
  · obtain ⟨e1, e2, e3⟩ := Lib.cutB_hit s ⟨#[32]⟩ i hix
    have hix' : Lib.index s.data.toList [32] = i := hix
    have hr : i + 1 ≤ s.size := hroom
    have E1 : Hid ((⟨(Lib.cut s.data.toList [32]).1.toArray⟩ : ByteArray) = s.extract 0 i) := e1
    have E2 : Hid ((⟨(Lib.cut s.data.toList [32]).2.1.toArray⟩ : ByteArray) = s.extract (i + 1) s.size) := e2
    have E3 : Hid ((Lib.cut s.data.toList [32]).2.2 = true) := e3
    have HI := Lib.hid hix'
    clear e1 e2 e3 hix hix' hroom
    have c1 : (0 : Int) ≤ ↑i := by omega
    have c2 : (↑i : Int) ≤ ↑s.size := by omega
    have c3 : (0 : Int) ≤ ↑i + 1 := by omega
    have c4 : (↑i + 1 : Int) ≤ ↑s.size := by omega
    have c5 : IntKind.i64.wrap ((i : Int) + 1) = (i : Int) + 1 := IntWalk.i64_in _ (by omega)
    have c6 : ((i : Int) + 1).toNat = i + 1 := by omega
    go_enter Tryz.func68, Tryz.ntmps68
    go_wp2_with (go_at_call 85; refine (HC.out _).mono ?_; rintro e w' ⟨rfl, rfl⟩; rw [HI.out])
    go_region
    go_wp2
    go_ret3
    exact ⟨by rw [E1.out, E2.out, E3.out]; rfl, 1, rfl⟩

theorem cut_any (s : ByteArray) (w : World) (hs : s.size ≤ 281474976710656) :
    Calls Tryz.prog 48 #[.string s, .string ⟨#[32]⟩] w fun e w' => e = .returned (.tuple #[.string ⟨(Lib.cut s.data.toList [32]).1.toArray⟩, .string ⟨(Lib.cut s.data.toList [32]).2.1.toArray⟩, .bool (Lib.cut s.data.toList [32]).2.2]) ∧ ∃ n, w' = w.drewN n := by
  go_enter Tryz.func48, Tryz.ntmps48
  go_wp2_with (go_at_call 68; refine (cutS_any _ _ hs).mono ?_; rintro e w' ⟨rfl, n, rfl⟩)
  go_ret3
  exact ⟨rfl, n, rfl⟩

end Go.Proofs.YtbhpogddnpaacaaGreatDoor

/- readNumber of the program: the number that is written back the same; else 0 and an error. Conditions: the text has at most 2^48 bytes; the variables that are read hold what they are laid with. -/
namespace Go.Proofs.YtbhpogddnpaacaaGreatDoor
open Go.RowKit Go.Sort

/-- What the program's package-level variables and the library's hold: the table of powers of ten, four errors. -/
structure VarsOk (w : World) : Prop where
  tab : TabOk w
  syn : ∃ t p, w.var? Tryz.prog "strconv.ErrSyntax" = some #[.iface t p]
  rng : ∃ t p, w.var? Tryz.prog "strconv.ErrRange" = some #[.iface t p]
  noNum : ∃ t p, w.cell? ⟨2, 0, none⟩ = some (.iface t p)
  noEnd : ∃ t p, w.cell? ⟨1, 0, none⟩ = some (.iface t p)
theorem VarsOk.below {w w' : World} (h : VarsOk w) (hb : Below w.heap.size w w') : VarsOk w' := by
  obtain ⟨h1, ⟨t2, p2, h2⟩, ⟨t3, p3, h3⟩, ⟨t4, p4, h4⟩, ⟨t5, p5, h5⟩⟩ := h
  exact ⟨h1.below hb (Nat.le_refl _), ⟨t2, p2, Joins.var_stays (g := 3) (by kernel_rfl) h2 hb (Nat.le_refl _)⟩, ⟨t3, p3, Joins.var_stays (g := 4) (by kernel_rfl) h3 hb (Nat.le_refl _)⟩,
    ⟨t4, p4, (hb.cell (World.block_lt_of_cell? _ _ h4)).trans h4⟩, ⟨t5, p5, (hb.cell (World.block_lt_of_cell? _ _ h5)).trans h5⟩⟩

theorem below_bytes {w w' : World} {e : TypeId} (h : w' = w ∨ ∃ t, w' = Lib.bytesWorld w e t) : Below w.heap.size w w' := by
  rcases h with rfl | ⟨t, rfl⟩
  · exact Below.refl _ _
  · exact Joins.below_bytesWorld _ _ _ _ (Nat.le_refl _)

theorem atoi_ok (s : ByteArray) (v : Int) (w : World) (hs : s.size ≤ 281474976710656) (h : Lib.atoiAll s.data.toList = .ok v) :
    Calls Tryz.prog 101 #[.string s] w fun e w' => e = .returned (.tuple #[.int .i64 v, .nilIface]) ∧ Below w.heap.size w w' := by
  refine (Any.strconv_Atoi_ok Tryz.laysC172 s (by omega) v h w).mono ?_
  rintro e w' ⟨rfl, hw⟩
  exact ⟨rfl, below_bytes hw⟩

theorem atoi_bad (s : ByteArray) (w : World) (hs : s.size ≤ 281474976710656) (h : ∀ v, Lib.atoiAll s.data.toList ≠ .ok v) (hv : VarsOk w) :
    Calls Tryz.prog 101 #[.string s] w fun e w' => ∃ n t a, e = .returned (.tuple #[.int .i64 n, .iface t (.pointer (some a))]) ∧ Below w.heap.size w w' := by
  obtain ⟨t2, p2, h2⟩ := hv.syn
  obtain ⟨t3, p3, h3⟩ := hv.rng
  rcases hl : Lib.atoiAll s.data.toList with v | _ | _
  · exact absurd hl (h v)
  · refine (Any.strconv_Atoi_syntax_var Tryz.laysC172 s hs hl t2 p2 w h2).mono ?_
    rintro e w' ⟨N, rfl, _, _, hb⟩
    exact ⟨_, _, _, rfl, hb⟩
  · refine (Any.strconv_Atoi_range_var Tryz.laysC172 s hs hl t3 p3 w h3).mono ?_
    rintro e w' ⟨N, rfl, _, _, hb⟩
    exact ⟨_, _, _, rfl, hb⟩

theorem itoa_int (n : Int) (w : World) (h0 : -9223372036854775808 ≤ n) (h1 : n ≤ 9223372036854775807) (ht : TabOk w) :
    Calls Tryz.prog 91 #[.int .i64 n] w fun e w' => e = .returned (.string ⟨(Lib.itoa n).toArray⟩) ∧ Below w.heap.size w w' := by
  refine Calls.mono (Any.strconv_Itoa Tryz.laysM171 n h0 h1 w ht) ?_
  rintro e w' ⟨rfl, k, os, rfl⟩
  exact ⟨rfl, below_growN _ _ _⟩

/-- What the program reads of a number: the one that is written back the same. -/
def numI (l : List UInt8) : Option Int := match Lib.atoiAll l with | .ok v => if Lib.itoa v = l then some v else none | _ => none

set_option maxRecDepth 100000 in
set_option maxHeartbeats 800000 in
theorem readNumber_ok (s : ByteArray) (v : Int) (w : World) (hs : s.size ≤ 281474976710656) (h : numI s.data.toList = some v) (hv : VarsOk w) :
    Calls Tryz.prog 88 #[.string s] w fun e w' => e = .returned (.tuple #[.int .i64 v, .nilIface]) ∧ Below w.heap.size w w' := by
  obtain ⟨ha, hi⟩ : Lib.atoiAll s.data.toList = .ok v ∧ Lib.itoa v = s.data.toList := by
    unfold numI at h
    cases hl : Lib.atoiAll s.data.toList with
    | ok u => rw [hl] at h; simp at h; exact ⟨by rw [h.2], by rw [← h.2]; exact h.1⟩
    | _ => rw [hl] at h; cases h
  obtain ⟨hb0, hb1⟩ := Lib.atoiAll_bounds ha
  have HA := Lib.hid ha
  have HV := Lib.hid hv
  have HI : Hid (Lib.itoa v = s.toList) := by rw [Lib.toList_data]; exact hi
  have HB : Hid (-9223372036854775808 ≤ v ∧ v ≤ 9223372036854775807) := ⟨hb0, hb1⟩
  have hq : (!Lib.itoa v == s.toList) = false := by rw [HI.out]; simp
  clear ha hv hi h hb0 hb1
  go_enter Tryz.func88, Tryz.ntmps88
  go_wp2_with (first
    | (go_at_call 101; refine (atoi_ok _ v _ hs HA.out).mono ?_; rintro e w1 ⟨rfl, b1⟩)
    | (go_at_call 91; refine (itoa_int v _ HB.out.1 HB.out.2 (HV.out.below b1).tab).mono ?_; rintro e w2 ⟨rfl, b2⟩))
  go_ret2
  exact ⟨rfl, b1.trans (b2.mono b1.size)⟩

/-- What readNumber answers of what is no number: 0 and the error that the program's variable holds. -/
theorem readNumber_bad (s : ByteArray) (w : World) (hs : s.size ≤ 281474976710656) (h : numI s.data.toList = none) (hv : VarsOk w) :
    Calls Tryz.prog 88 #[.string s] w fun e w' => ∃ t p, e = .returned (.tuple #[.int .i64 0, .iface t p]) ∧ Below w.heap.size w w' := by
  obtain ⟨t, p, hn⟩ := hv.noNum
  have hlt := World.block_lt_of_cell? w _ hn
  by_cases ha : ∃ v, Lib.atoiAll s.data.toList = .ok v
  · obtain ⟨v, ha⟩ := ha
    have hi : Lib.itoa v ≠ s.data.toList := by
      intro hi; unfold numI at h; rw [ha] at h; simp [hi] at h
    obtain ⟨hb0, hb1⟩ := Lib.atoiAll_bounds ha
    have HA := Lib.hid ha
    have HV := Lib.hid hv
    have HB : Hid (-9223372036854775808 ≤ v ∧ v ≤ 9223372036854775807) := ⟨hb0, hb1⟩
    have hq : (!Lib.itoa v == s.toList) = true := by rw [Lib.toList_data]; simpa using hi
    clear ha hv hi h hb0 hb1
    go_enter Tryz.func88, Tryz.ntmps88
    go_wp2_with (first
      | (go_at_call 101; refine (atoi_ok _ v _ hs HA.out).mono ?_; rintro e w1 ⟨rfl, b1⟩; obtain ⟨c1, f1⟩ := bcell b1)
      | (go_at_call 91; refine (itoa_int v _ HB.out.1 HB.out.2 (HV.out.below b1).tab).mono ?_; rintro e w2 ⟨rfl, b2⟩; obtain ⟨c2, f2⟩ := bcell b2; have z1 := b1.size))
    have hn2 : w2.cell? ⟨2, 0, none⟩ = some (.iface t p) := by rw [c2 _ _ (by omega), c1 _ _ hlt]; exact hn
    clear c1 c2 f1 f2
    go_region
    go_wp2
    go_ret2
    exact ⟨t, p, rfl, (b1.trans (b2.mono b1.size)).drew⟩
  · have HA : Hid (∀ v, Lib.atoiAll s.data.toList ≠ .ok v) := fun v hv => ha ⟨v, hv⟩
    have HV := Lib.hid hv
    clear ha hv h
    go_enter Tryz.func88, Tryz.ntmps88
    go_wp2_with (first
      | (go_at_call 101; refine (atoi_bad _ _ hs HA.out HV.out).mono ?_; rintro e w1 ⟨n1, t1, a1, rfl, b1⟩; obtain ⟨c1, f1⟩ := bcell b1))
    have hn1 : w1.cell? ⟨2, 0, none⟩ = some (.iface t p) := by rw [c1 _ _ hlt]; exact hn
    clear c1 f1
    go_region
    go_wp2
    go_ret2
    exact ⟨t, p, rfl, b1.drew⟩

end Go.Proofs.YtbhpogddnpaacaaGreatDoor

/- readEnd of the program: address and port of a text that has both, cut at its first space; else nothing and an error. Conditions: the text has at most 2^48 bytes; the variables that are read hold what they are laid with. -/
namespace Go.Proofs.YtbhpogddnpaacaaGreatDoor
open Go.RowKit Go.Sort

theorem cut_parts (s : ByteArray) (hs : s.size ≤ 281474976710656) : ∃ (X Y : ByteArray) (f : Bool), X.data.toList = (Lib.cut s.data.toList [32]).1 ∧ Y.data.toList = (Lib.cut s.data.toList [32]).2.1 ∧ X.size ≤ 281474976710656 ∧ Y.size ≤ 281474976710656 ∧
    ∀ w, Calls Tryz.prog 48 #[.string s, .string ⟨#[32]⟩] w fun e w' => e = .returned (.tuple #[.string X, .string Y, .bool f]) ∧ Below w.heap.size w w' := by
  have h1 : (Lib.cut s.data.toList [32]).1.length ≤ s.size := by
    unfold Lib.cut; split
    · simp; omega
    · simp
  have h2 : (Lib.cut s.data.toList [32]).2.1.length ≤ s.size := by
    unfold Lib.cut; split
    · simp
    · simp
  refine ⟨⟨(Lib.cut s.data.toList [32]).1.toArray⟩, ⟨(Lib.cut s.data.toList [32]).2.1.toArray⟩, (Lib.cut s.data.toList [32]).2.2, by simp, by simp, by simp [ByteArray.size]; omega, by simp [ByteArray.size]; omega, fun w => (cut_any s w hs).mono ?_⟩
  rintro e w' ⟨rfl, n, rfl⟩
  exact ⟨rfl, Joins.below_draws _ _ _⟩

set_option maxRecDepth 100000 in
set_option maxHeartbeats 800000 in
theorem readEnd_bad1 (s : ByteArray) (w : World) (hs : s.size ≤ 281474976710656) (h : numI (Lib.cut s.data.toList [32]).1 = none) (hv : VarsOk w) :
    Calls Tryz.prog 72 #[.string s] w fun e w' => ∃ t p, e = .returned (.tuple #[.agg #[.int .i64 0, .int .i64 0], .iface t p]) ∧ Below w.heap.size w w' := by
  obtain ⟨X, Y, f, hX, hY, sX, sY, hc⟩ := cut_parts s hs
  rw [← hX] at h
  have HC := Lib.hid hc
  have H := Lib.hid h
  have HV := Lib.hid hv
  clear hc h hv hX hY
  go_enter Tryz.func72, Tryz.ntmps72
  go_wp2_with (first
    | (go_at_call 48; refine (HC.out _).mono ?_; rintro e w1 ⟨rfl, b1⟩; obtain ⟨c1, f1⟩ := bcell b1; have z1 : w.heap.size < w1.heap.size := by (have hq := b1.size; simp at hq; omega))
    | (go_at_call 88; refine (readNumber_bad _ _ sX H.out (HV.out.below (below_box b1))).mono ?_; rintro e w2 ⟨t2, p2, rfl, b2⟩; obtain ⟨c2, f2⟩ := bcell b2))
  obtain ⟨q0, q1, q2⟩ := set_two (w := w2) (b := w.heap.size) (x := .int .i64 0) (y := .int .i64 0) (.int .i64 0) (.int .i64 0) (by rw [c2 _ _ z1, c1 _ _ (by simp)]; simp) (by rw [c2 _ _ z1, c1 _ _ (by simp)]; simp)
  refine bodyPost_ret (v := .tuple #[.agg #[.int .i64 0, .int .i64 0], .iface t2 p2]) (by simp [results, Tryz.results72, go_sem, q1, q2]) rfl ⟨_, _, rfl, ?_⟩
  exact ((((below_box b1).trans (b2.mono (by omega))).setCell (Nat.le_refl _) _).setCell (Nat.le_refl _) _)

set_option maxRecDepth 100000 in
set_option maxHeartbeats 800000 in
theorem readEnd_bad2 (s : ByteArray) (a : Int) (w : World) (hs : s.size ≤ 281474976710656) (h : numI (Lib.cut s.data.toList [32]).1 = some a) (h2 : numI (Lib.cut s.data.toList [32]).2.1 = none) (hv : VarsOk w) :
    Calls Tryz.prog 72 #[.string s] w fun e w' => ∃ t p, e = .returned (.tuple #[.agg #[.int .i64 0, .int .i64 0], .iface t p]) ∧ Below w.heap.size w w' := by
  obtain ⟨X, Y, f, hX, hY, sX, sY, hc⟩ := cut_parts s hs
  rw [← hX] at h
  rw [← hY] at h2
  have HC := Lib.hid hc
  have H := Lib.hid h
  have H2 := Lib.hid h2
  have HV := Lib.hid hv
  clear hc h h2 hv hX hY
  go_enter Tryz.func72, Tryz.ntmps72
  go_wp2_with fail
  (go_at_call 48; refine (HC.out _).mono ?_; rintro e w1 ⟨rfl, b1⟩; obtain ⟨c1, f1⟩ := bcell b1; have z1 : w.heap.size < w1.heap.size := by (have hq := b1.size; simp at hq; omega))
  have V1 : Hid (VarsOk w1) := HV.out.below (below_box b1)
  go_wp2_with fail
  (go_at_call 88; refine (readNumber_ok _ _ _ sX H.out V1.out).mono ?_; rintro e w2 ⟨rfl, b2⟩; obtain ⟨c2, f2⟩ := bcell b2; have z2 : w.heap.size < w2.heap.size := by (have hq := b2.size; omega))
  have V2 : Hid (VarsOk w2) := V1.out.below b2
  go_wp2_with fail
  (go_at_call 88; refine (readNumber_bad _ _ sY H2.out V2.out).mono ?_; rintro e w3 ⟨t3, p3, rfl, b3⟩; obtain ⟨c3, f3⟩ := bcell b3)
  go_wp2
  obtain ⟨q0, q1, q2⟩ := set_two (w := w3) (b := w.heap.size) (x := .int .i64 0) (y := .int .i64 0) (.int .i64 0) (.int .i64 0) (by rw [c3 _ _ z2, c2 _ _ z1, c1 _ _ (by simp)]; simp) (by rw [c3 _ _ z2, c2 _ _ z1, c1 _ _ (by simp)]; simp)
  refine bodyPost_ret (v := .tuple #[.agg #[.int .i64 0, .int .i64 0], .iface t3 p3]) (by simp [results, Tryz.results72, go_sem, q1, q2]) rfl ⟨_, _, rfl, ?_⟩
  exact ((((below_box b1).trans ((b2.mono (by omega)).trans (b3.mono (by omega)))).setCell (Nat.le_refl _) _).setCell (Nat.le_refl _) _)

/-- The variable errNoEnd, in a later world. -/
theorem noEnd_at {w w' : World} {t : TypeId} {p : Value} (h : w.cell? ⟨1, 0, none⟩ = some (.iface t p)) (hb : Below w.heap.size w w') : w'.cell? ⟨1, 0, none⟩ = some (.iface t p) :=
  (hb.cell (World.block_lt_of_cell? _ _ h)).trans h

set_option maxRecDepth 100000 in
set_option maxHeartbeats 1600000 in
theorem readEnd_last (s : ByteArray) (a p : Int) (w : World) (hs : s.size ≤ 281474976710656) (h : numI (Lib.cut s.data.toList [32]).1 = some a) (h2 : numI (Lib.cut s.data.toList [32]).2.1 = some p) (hv : VarsOk w) :
    Calls Tryz.prog 72 #[.string s] w fun e w' => (endB a p = true → e = .returned (.tuple #[.agg #[.int .i64 a, .int .i64 p], .nilIface])) ∧ (endB a p = false → ∃ t q, e = .returned (.tuple #[.agg #[.int .i64 0, .int .i64 0], .iface t q])) ∧ Below w.heap.size w w' := by
  obtain ⟨X, Y, f, hX, hY, sX, sY, hc⟩ := cut_parts s hs
  rw [← hX] at h
  rw [← hY] at h2
  obtain ⟨te, pe, hne⟩ := hv.noEnd
  have HC := Lib.hid hc
  have H := Lib.hid h
  have H2 := Lib.hid h2
  have HV := Lib.hid hv
  have HE := Lib.hid hne
  clear hc h h2 hv hX hY hne
  go_enter Tryz.func72, Tryz.ntmps72
  go_wp2_with fail
  (go_at_call 48; refine (HC.out _).mono ?_; rintro e w1 ⟨rfl, b1⟩; obtain ⟨c1, f1⟩ := bcell b1; have z1 : w.heap.size < w1.heap.size := by (have hq := b1.size; simp at hq; omega))
  have V1 : Hid (VarsOk w1) := HV.out.below (below_box b1)
  go_wp2_with fail
  (go_at_call 88; refine (readNumber_ok _ _ _ sX H.out V1.out).mono ?_; rintro e w2 ⟨rfl, b2⟩; obtain ⟨c2, f2⟩ := bcell b2; have z2 : w.heap.size < w2.heap.size := by (have hq := b2.size; omega))
  have V2 : Hid (VarsOk w2) := V1.out.below b2
  go_wp2_with fail
  (go_at_call 88; refine (readNumber_ok _ _ _ sY H2.out V2.out).mono ?_; rintro e w3 ⟨rfl, b3⟩; obtain ⟨c3, f3⟩ := bcell b3; have z3 : w.heap.size < w3.heap.size := by (have hq := b3.size; omega))
  have b13 : Below w.heap.size w w3 := (below_box b1).trans ((b2.mono (by omega)).trans (b3.mono (by omega)))
  go_wp2_with fail
  (go_at_call 75; refine (implOk_any _ _ _).mono ?_; rintro e w4 ⟨rfl, b4⟩; obtain ⟨c4, f4⟩ := bcell b4)
  have b14 : Below w.heap.size w w4 := b13.trans (((Below.refl _ w3).alloc (Nat.le_refl _) _ |>.trans (b4.mono (by simp))).mono (by omega))
  have k0 : w4.cell? ⟨w.heap.size, 0, none⟩ = some (.int .i64 0) := by rw [c4 _ _ (by simp; omega), cell_alloc_lt z3, c3 _ _ z2, c2 _ _ z1, c1 _ _ (by simp)]; simp
  have k1 : w4.cell? ⟨w.heap.size, 1, none⟩ = some (.int .i64 0) := by rw [c4 _ _ (by simp; omega), cell_alloc_lt z3, c3 _ _ z2, c2 _ _ z1, c1 _ _ (by simp)]; simp
  by_cases hb : endB a p = true
  · obtain ⟨q0, q1, q2⟩ := set_two (.int .i64 a) (.int .i64 p) k0 k1
    go_wp2
    refine bodyPost_ret (v := .tuple #[.agg #[.int .i64 a, .int .i64 p], .nilIface]) (by simp [results, Tryz.results72, go_sem, q1, q2]) rfl ⟨fun _ => rfl, fun h => absurd hb (by simp [h]), ?_⟩
    exact (b14.setCell (Nat.le_refl _) _).setCell (Nat.le_refl _) _
  · have hE := noEnd_at HE.out b14
    obtain ⟨q0, q1, q2⟩ := set_two (.int .i64 0) (.int .i64 0) k0 k1
    have r0 : w4.frozen? ⟨w.heap.size, 0, none⟩ = false := by rw [f4 _ _ (by simp; omega), frozen_alloc_lt z3, f3 _ _ z2, f2 _ _ z1, f1 _ _ (by simp)]; simp
    have r1 : w4.frozen? ⟨w.heap.size, 1, none⟩ = false := by rw [f4 _ _ (by simp; omega), frozen_alloc_lt z3, f3 _ _ z2, f2 _ _ z1, f1 _ _ (by simp)]; simp
    have hlt : 1 < w.heap.size := World.block_lt_of_cell? w _ HE.out
    have hE2 : (w4.setCell ⟨w.heap.size, 0, none⟩ (.int .i64 0)).cell? ⟨1, 0, none⟩ = some (.iface te pe) := by
      rw [World.cell?_setCell_far _ _ _ _ (Nat.ne_of_gt hlt)]; exact hE
    clear c1 c2 c3 c4 f1 f2 f3 f4
    go_wp2
    go_region
    go_wp2
    refine bodyPost_ret (v := .tuple #[.agg #[.int .i64 0, .int .i64 0], .iface te pe]) (by simp [results, Tryz.results72, go_sem, q1, q2]) rfl ⟨fun h => absurd h hb, fun _ => ⟨_, _, rfl⟩, ?_⟩
    exact ((b14.setCell (Nat.le_refl _) _).setCell (Nat.le_refl _) _).drew

end Go.Proofs.YtbhpogddnpaacaaGreatDoor

/- EndRead of the program and of the specification answer the same of every text. Conditions: the text has at most 2^20 bytes; the variables that are read hold what they are laid with. -/
namespace Go.Proofs.YtbhpogddnpaacaaGreatDoor
open Go.RowKit Go.Sort

set_option maxRecDepth 100000 in
set_option maxHeartbeats 800000 in
theorem implRead_good (s : ByteArray) (a p : Int) (w : World) (hv : VarsOk w)
    (h : ∀ w, VarsOk w → Calls Tryz.prog 72 #[.string s] w fun e w' => e = .returned (.tuple #[.agg #[.int .i64 a, .int .i64 p], .nilIface]) ∧ Below w.heap.size w w') :
    Calls Tryz.prog 51 #[.string s] w fun e w' => e = .returned (.tuple #[.agg #[.int .i64 a, .int .i64 p], .bool true]) ∧ Below w.heap.size w w' := by
  have H := Lib.hid h
  have HV := Lib.hid hv
  clear h hv
  go_enter Tryz.func51, Tryz.ntmps51
  go_wp2_with (go_at_call 72; refine (H.out _ (HV.out.below ((Below.refl _ _).alloc (Nat.le_refl _) _))).mono ?_; rintro e w1 ⟨rfl, b1⟩; obtain ⟨c1, f1⟩ := bcell b1)
  have z1 : w.heap.size < w1.heap.size := by have hq := b1.size; simp at hq; omega
  have k0 : w1.cell? ⟨w.heap.size, 0, none⟩ = some (.int .i64 0) := by rw [c1 _ _ (by simp)]; simp
  have k1 : w1.cell? ⟨w.heap.size, 1, none⟩ = some (.int .i64 0) := by rw [c1 _ _ (by simp)]; simp
  have r0 : w1.frozen? ⟨w.heap.size, 0, none⟩ = false := by rw [f1 _ _ (by simp)]; simp
  have r1 : w1.frozen? ⟨w.heap.size, 1, none⟩ = false := by rw [f1 _ _ (by simp)]; simp
  clear c1 f1
  go_region
  go_wp2
  obtain ⟨q0, q1, q2⟩ := set_two (w := w1) (.int .i64 a) (.int .i64 p) k0 k1
  refine bodyPost_ret (v := .tuple #[.agg #[.int .i64 a, .int .i64 p], .bool true]) (by simp [results, Tryz.results51, go_sem, cell_alloc_lt, z1, q1, q2]) rfl ⟨rfl, ?_⟩
  exact ((((((below_box b1).setCell (Nat.le_refl _) _).setCell (Nat.le_refl _) _).alloc (by simp; omega) _)).drew)

set_option maxRecDepth 100000 in
set_option maxHeartbeats 800000 in
theorem implRead_bad (s : ByteArray) (w : World) (hv : VarsOk w)
    (h : ∀ w, VarsOk w → Calls Tryz.prog 72 #[.string s] w fun e w' => ∃ t q, e = .returned (.tuple #[.agg #[.int .i64 0, .int .i64 0], .iface t q]) ∧ Below w.heap.size w w') :
    Calls Tryz.prog 51 #[.string s] w fun e w' => e = .returned (.tuple #[.agg #[.int .i64 0, .int .i64 0], .bool false]) ∧ Below w.heap.size w w' := by
  have H := Lib.hid h
  have HV := Lib.hid hv
  clear h hv
  go_enter Tryz.func51, Tryz.ntmps51
  go_wp2_with (go_at_call 72; refine (H.out _ (HV.out.below ((Below.refl _ _).alloc (Nat.le_refl _) _))).mono ?_; rintro e w1 ⟨t1, p1, rfl, b1⟩; obtain ⟨c1, f1⟩ := bcell b1)
  have z1 : w.heap.size < w1.heap.size := by have hq := b1.size; simp at hq; omega
  have k0 : w1.cell? ⟨w.heap.size, 0, none⟩ = some (.int .i64 0) := by rw [c1 _ _ (by simp)]; simp
  have k1 : w1.cell? ⟨w.heap.size, 1, none⟩ = some (.int .i64 0) := by rw [c1 _ _ (by simp)]; simp
  have r0 : w1.frozen? ⟨w.heap.size, 0, none⟩ = false := by rw [f1 _ _ (by simp)]; simp
  have r1 : w1.frozen? ⟨w.heap.size, 1, none⟩ = false := by rw [f1 _ _ (by simp)]; simp
  clear c1 f1
  go_region
  go_wp2
  obtain ⟨q0, q1, q2⟩ := set_two (w := w1) (.int .i64 0) (.int .i64 0) k0 k1
  refine bodyPost_ret (v := .tuple #[.agg #[.int .i64 0, .int .i64 0], .bool false]) (by simp [results, Tryz.results51, go_sem, cell_alloc_lt, z1, q1, q2]) rfl ⟨rfl, ?_⟩
  exact ((((((below_box b1).setCell (Nat.le_refl _) _).setCell (Nat.le_refl _) _).alloc (by simp; omega) _)).drew)

/-- What the program reads. -/
def rdO (l : List UInt8) : Value := match numI (Lib.cut l [32]).1, numI (Lib.cut l [32]).2.1 with | some a, some p => rdV a p | _, _ => noneV
theorem numI_dec {k : Nat} (hk : k ≤ 1000000000000000000) : numI (Lib.decDigits k) = some (k : Int) := by
  unfold numI; rw [atoi_dec k hk]; simp [itoa_nat]
theorem numI_inv {l : List UInt8} {v : Int} (h : numI l = some v) : Lib.itoa v = l := by
  unfold numI at h
  split at h
  · split at h
    · simp at h; subst h; assumption
    · cases h
  · cases h
theorem itoa_pos {v : Int} (h : 0 ≤ v) : Lib.itoa v = Lib.decDigits v.toNat := by
  unfold Lib.itoa; rw [if_neg (by omega)]

theorem rdO_yes {a p : Nat} (h : endB a p = true) : rdO (endL a p) = rdV a p := by
  obtain ⟨h1, h2, h3, h4⟩ := end_bounds h
  have hi : 0 ≤ Lib.index (endL a p) [32] := by
    rcases Int.lt_or_le (Lib.index (endL a p) [32]) 0 with hn | hn
    · exact absurd rfl (index_none hn 32 (by simp [endL]))
    · exact hn
  obtain ⟨e1, e2⟩ := cut_yes hi
  obtain ⟨u1, u2⟩ := split_uniq (dec_no_space a) e2 (show Lib.decDigits a ++ 32 :: Lib.decDigits p = _ from e1)
  unfold rdO
  rw [← u1, ← u2, numI_dec (by omega), numI_dec (by omega)]
theorem rdO_no {l : List UInt8} (h : ∀ a p : Nat, endB a p = true → l ≠ endL a p) : rdO l = noneV := by
  unfold rdO
  split
  · rename_i a p ha hp
    by_cases hb : endB a p = true
    · obtain ⟨h1, h2, h3, h4⟩ := end_bounds hb
      have ea := numI_inv ha
      have ep := numI_inv hp
      rw [itoa_pos (by omega)] at ea ep
      refine absurd ?_ (h a.toNat p.toNat (by rw [Int.toNat_of_nonneg (by omega), Int.toNat_of_nonneg (by omega)]; exact hb))
      by_cases hi : 0 ≤ Lib.index l [32]
      · rw [endL, ea, ep]; exact (cut_yes hi).1
      · rw [cut_no hi] at ep
        have := dec_pos p.toNat
        rw [ep] at this; simp at this
    · exact rdV_none (by simpa using hb)
  · rfl
theorem rd_same (l : List UInt8) : rdO l = rdS l := by
  by_cases h : ∃ a p : Nat, endB a p = true ∧ l = endL a p
  · obtain ⟨a, p, h1, rfl⟩ := h; rw [rdO_yes h1, rdS_yes h1]
  · have h' : ∀ a p : Nat, endB a p = true → l ≠ endL a p := fun a p h1 h2 => h ⟨a, p, h1, h2⟩
    rw [rdO_no h', rdS_no h']

theorem implRead_any (s : ByteArray) (w : World) (hs : s.size ≤ 281474976710656) (hv : VarsOk w) :
    Calls Tryz.prog 51 #[.string s] w fun e w' => e = .returned (rdO s.data.toList) ∧ Below w.heap.size w w' := by
  rcases ha : numI (Lib.cut s.data.toList [32]).1 with _ | a
  · have e : rdO s.data.toList = noneV := by unfold rdO; rw [ha]
    rw [e]
    exact implRead_bad s w hv fun w hv => (readEnd_bad1 s w hs ha hv).mono fun _ _ ⟨t, p, he, hb⟩ => ⟨t, p, he, hb⟩
  · rcases hp : numI (Lib.cut s.data.toList [32]).2.1 with _ | p
    · have e : rdO s.data.toList = noneV := by unfold rdO; rw [ha, hp]
      rw [e]
      exact implRead_bad s w hv fun w hv => (readEnd_bad2 s a w hs ha hp hv).mono fun _ _ ⟨t, p, he, hb⟩ => ⟨t, p, he, hb⟩
    · have e : rdO s.data.toList = rdV a p := by unfold rdO; rw [ha, hp]
      rw [e]
      by_cases hb : endB a p = true
      · rw [show rdV a p = _ from if_pos hb]
        exact implRead_good s a p w hv fun w hv => (readEnd_last s a p w hs ha hp hv).mono fun _ _ ⟨h1, _, h3⟩ => ⟨h1 hb, h3⟩
      · rw [show rdV a p = _ from if_neg hb]
        exact implRead_bad s w hv fun w hv => (readEnd_last s a p w hs ha hp hv).mono fun _ _ ⟨_, h2, h3⟩ => by
          obtain ⟨t, q, he⟩ := h2 (by simpa using hb)
          exact ⟨t, q, he, h3⟩

end Go.Proofs.YtbhpogddnpaacaaGreatDoor

/- LinPort of the program, and the end that a line of the form of LinPort's says. Conditions: the text has at most 2^48 bytes; the variables that are read hold what they are laid with. -/
namespace Go.Proofs.YtbhpogddnpaacaaGreatDoor
open Go.RowKit Go.Sort

set_option maxRecDepth 100000 in
set_option maxHeartbeats 800000 in
theorem implLinPort_any (a p : Int) (w : World) (ht : TabOk w) :
    Calls Tryz.prog 60 #[.agg #[.int .i64 a, .int .i64 p]] w fun e w' => e = .returned (.string ⟨(lpL a p).toArray⟩) ∧ Below w.heap.size w w' := by
  have HT0 := Lib.hid ht
  clear ht
  by_cases hb : endB a p = true
  · obtain ⟨h1, h2, h3, h4⟩ := end_bounds hb
    obtain ⟨m, rfl⟩ := Int.eq_ofNat_of_zero_le (show 0 ≤ a by omega)
    obtain ⟨n, rfl⟩ := Int.eq_ofNat_of_zero_le (show 0 ≤ p by omega)
    have HL : Hid (lpL m n = portL ++ endL m n) := if_pos hb
    have n1 : ¬ 9223372036854775807 < 5 + (endL m n).length := by
      have := dec_len4 (k := m) (by omega); have := dec_len4 (k := n) (by omega)
      simp [endL]; omega
    have HI : Hid (∀ w, TabOk w → Calls Tryz.prog 76 #[.agg #[.int .i64 (m : Int), .int .i64 (n : Int)]] w fun e w' => e = .returned (.string ⟨(endL m n).toArray⟩) ∧ Below w.heap.size w w') := fun w ht => implText_yes m n w hb ht
    go_enter Tryz.func60, Tryz.ntmps60
    go_wp2_with (first
      | (go_at_call 75; refine (implOk_any _ _ _).mono ?_; rintro e w1 ⟨rfl, b1⟩; obtain ⟨c1, f1⟩ := bcell b1; have T1 : Hid (TabOk w1) := HT0.out.below (below_box b1) (Nat.le_refl _))
      | (go_at_call 76; refine (HI.out _ T1.out).mono ?_; rintro e w2 ⟨rfl, b2⟩))
    go_ret
    refine ⟨?_, (below_box b1).trans (b2.mono (by have := b1.size; simp at this; omega))⟩
    rw [HL.out, ← port_cat]; rfl
  · have HL : Hid (lpL a p = []) := if_neg hb
    go_enter Tryz.func60, Tryz.ntmps60
    go_wp2_with (go_at_call 75; refine (implOk_any _ _ _).mono ?_; rintro e w1 ⟨rfl, b1⟩)
    go_ret
    exact ⟨by rw [HL.out]; rfl, below_box b1⟩

/-- The end, of whichever side, that a line says. -/
def rpE (l : List UInt8) : Option (Int × Int) := if l.take 5 = portL then rdE (l.drop 5) else none

set_option maxRecDepth 100000 in
set_option maxHeartbeats 800000 in
theorem prefix_any (s : ByteArray) (w : World) :
    Calls Tryz.prog 87 #[.string s, .string ⟨#[112, 111, 114, 116, 32]⟩] w fun e w' => e = .returned (.bool (decide (s.data.toList.take 5 = portL))) ∧ w' = w := by
  by_cases h5 : s.size < 5
  · have hno : ¬ s.data.toList.take 5 = portL := by
      intro h; have := congrArg List.length h; simp [portL] at this; omega
    have HD : Hid (decide (s.data.toList.take 5 = portL) = false) := decide_eq_false hno
    clear hno
    go_enter Tryz.func87, Tryz.ntmps87
    go_wp2_with fail
    go_ret
    exact ⟨ret_bool HD.out.symm, rfl⟩
  · have HD : Hid (((s.extract 0 5).toList == [112, 111, 114, 116, 32]) = decide (s.data.toList.take 5 = portL)) := by
      show ((s.extract 0 5).toList == [112, 111, 114, 116, 32]) = decide (s.data.toList.take 5 = portL)
      rw [Lib.toList_data, ext_take, Bool.eq_iff_iff, beq_iff_eq, decide_eq_true_iff]; rfl
    go_enter Tryz.func87, Tryz.ntmps87
    go_wp2_with fail
    go_ret
    exact ⟨ret_bool HD.out, rfl⟩

set_option maxRecDepth 100000 in
set_option maxHeartbeats 800000 in
theorem cutPortS_yes (s : ByteArray) (w : World) (ht : s.data.toList.take 5 = portL) :
    Calls Tryz.prog 71 #[.string s, .string ⟨#[112, 111, 114, 116, 32]⟩] w fun e w' => e = .returned (.tuple #[.string (s.extract 5 s.size), .bool true]) ∧ w' = w := by
  have h5 : 5 ≤ s.size := by have := congrArg List.length ht; simp [portL] at this; omega
  have HD : Hid (decide (s.data.toList.take 5 = portL) = true) := decide_eq_true ht
  clear ht
  go_enter Tryz.func71, Tryz.ntmps71
  go_wp2_with (go_at_call 87; refine (prefix_any _ _).mono ?_; rintro e w' ⟨rfl, rfl⟩; rw [HD.out])
  go_ret2
  exact ⟨rfl, rfl⟩

set_option maxRecDepth 100000 in
set_option maxHeartbeats 800000 in
theorem cutPortS_no (s : ByteArray) (w : World) (ht : ¬ s.data.toList.take 5 = portL) :
    Calls Tryz.prog 71 #[.string s, .string ⟨#[112, 111, 114, 116, 32]⟩] w fun e w' => e = .returned (.tuple #[.string s, .bool false]) ∧ w' = w := by
  have HD : Hid (decide (s.data.toList.take 5 = portL) = false) := decide_eq_false ht
  clear ht
  go_enter Tryz.func71, Tryz.ntmps71
  go_wp2_with (go_at_call 87; refine (prefix_any _ _).mono ?_; rintro e w' ⟨rfl, rfl⟩; rw [HD.out])
  go_ret2
  exact ⟨rfl, rfl⟩

set_option maxRecDepth 100000 in
set_option maxHeartbeats 800000 in
theorem cutPort_yes (s : ByteArray) (w : World) (ht : s.data.toList.take 5 = portL) :
    Calls Tryz.prog 50 #[.string s, .string ⟨#[112, 111, 114, 116, 32]⟩] w fun e w' => e = .returned (.tuple #[.string (s.extract 5 s.size), .bool true]) ∧ w' = w := by
  have HC := Lib.hid (fun w => cutPortS_yes s w ht)
  clear ht
  go_enter Tryz.func50, Tryz.ntmps50
  go_wp2_with (go_at_call 71; refine (HC.out _).mono ?_; rintro e w' ⟨rfl, rfl⟩)
  go_ret2
  exact ⟨rfl, rfl⟩

set_option maxRecDepth 100000 in
set_option maxHeartbeats 800000 in
theorem cutPort_no (s : ByteArray) (w : World) (ht : ¬ s.data.toList.take 5 = portL) :
    Calls Tryz.prog 50 #[.string s, .string ⟨#[112, 111, 114, 116, 32]⟩] w fun e w' => e = .returned (.tuple #[.string s, .bool false]) ∧ w' = w := by
  have HC := Lib.hid (fun w => cutPortS_no s w ht)
  clear ht
  go_enter Tryz.func50, Tryz.ntmps50
  go_wp2_with (go_at_call 71; refine (HC.out _).mono ?_; rintro e w' ⟨rfl, rfl⟩)
  go_ret2
  exact ⟨rfl, rfl⟩

end Go.Proofs.YtbhpogddnpaacaaGreatDoor

/- LinSays and LinBox of the program: as the specification's, of every text. Conditions: the text has at most 2^21 bytes; the variables that are read hold what they are laid with. -/
namespace Go.Proofs.YtbhpogddnpaacaaGreatDoor
open Go.RowKit Go.Sort

/-- EndRead of the program at what is behind the word. -/
theorem implRead_drop (s : ByteArray) (w : World) (hs : s.size ≤ 2097152) (hv : VarsOk w) :
    Calls Tryz.prog 51 #[.string (s.extract 5 s.size)] w fun e w' => e = .returned (saysV (rdE (s.data.toList.drop 5))) ∧ Below w.heap.size w w' := by
  have h := implRead_any (s.extract 5 s.size) w (by simp; omega) hv
  rw [ext_drop, rd_same] at h
  rcases hr : rdE (s.data.toList.drop 5) with _ | ⟨a, p⟩
  · rw [rdE_none hr] at h; exact h
  · rw [(rdE_some hr).1] at h; exact h

set_option maxRecDepth 100000 in
set_option maxHeartbeats 800000 in
theorem readPort_form (s : ByteArray) (a p : Int) (b : Bool) (w : World) (hv : VarsOk w) (ht : s.data.toList.take 5 = portL)
    (h : ∀ w, VarsOk w → Calls Tryz.prog 51 #[.string (s.extract 5 s.size)] w fun e w' => e = .returned (.tuple #[.agg #[.int .i64 a, .int .i64 p], .bool b]) ∧ Below w.heap.size w w') :
    Calls Tryz.prog 26 #[.string s] w fun e w' => e = .returned (.tuple #[.agg #[.int .i64 a, .int .i64 p], .bool b]) ∧ Below w.heap.size w w' := by
  have H := Lib.hid h
  have HV := Lib.hid hv
  have HC := Lib.hid (fun w => cutPort_yes s w ht)
  clear h hv ht
  go_enter Tryz.func26, Tryz.ntmps26
  go_wp2_with (first
    | (go_at_call 50; refine (HC.out _).mono ?_; rintro e w' ⟨rfl, rfl⟩)
    | (go_at_call 51; refine (H.out _ (HV.out.below ((Below.refl _ _).alloc (Nat.le_refl _) _))).mono ?_; rintro e w1 ⟨rfl, b1⟩; obtain ⟨c1, f1⟩ := bcell b1; have z1 : w.heap.size < w1.heap.size := by (have hq := b1.size; simp at hq; omega)))
  obtain ⟨q0, q1, q2⟩ := set_two (w := w1) (b := w.heap.size) (x := .int .i64 0) (y := .int .i64 0) (.int .i64 a) (.int .i64 p) (by rw [c1 _ _ (by simp)]; simp) (by rw [c1 _ _ (by simp)]; simp)
  refine bodyPost_ret (v := .tuple #[.agg #[.int .i64 a, .int .i64 p], .bool b]) (by simp [results, Tryz.results26, go_sem, q1, q2]) rfl ⟨rfl, ?_⟩
  exact ((below_box b1).setCell (Nat.le_refl _) _).setCell (Nat.le_refl _) _

set_option maxRecDepth 100000 in
set_option maxHeartbeats 800000 in
theorem readPort_no (s : ByteArray) (w : World) (ht : ¬ s.data.toList.take 5 = portL) :
    Calls Tryz.prog 26 #[.string s] w fun e w' => e = .returned (.tuple #[.agg #[.int .i64 0, .int .i64 0], .bool false]) ∧ Below w.heap.size w w' := by
  have HC := Lib.hid (fun w => cutPort_no s w ht)
  clear ht
  go_enter Tryz.func26, Tryz.ntmps26
  go_wp2_with (go_at_call 50; refine (HC.out _).mono ?_; rintro e w' ⟨rfl, rfl⟩)
  refine bodyPost_ret (v := .tuple #[.agg #[.int .i64 0, .int .i64 0], .bool false]) (by simp [results, Tryz.results26, go_sem]) rfl ⟨rfl, ?_⟩
  exact (Below.refl _ _).alloc (Nat.le_refl _) _

theorem readPort_any (s : ByteArray) (w : World) (hs : s.size ≤ 2097152) (hv : VarsOk w) :
    Calls Tryz.prog 26 #[.string s] w fun e w' => e = .returned (saysV (rpE s.data.toList)) ∧ Below w.heap.size w w' := by
  by_cases ht : s.data.toList.take 5 = portL
  · have e : rpE s.data.toList = rdE (s.data.toList.drop 5) := if_pos ht
    rw [e]
    have hd := fun w hv => implRead_drop s w hs hv
    rcases hr : rdE (s.data.toList.drop 5) with _ | ⟨a, p⟩
    · simp only [hr] at hd; exact readPort_form s 0 0 false w hv ht hd
    · simp only [hr] at hd; exact readPort_form s a p true w hv ht hd
  · have e : rpE s.data.toList = none := if_neg ht
    rw [e]; exact readPort_no s w ht

/-- What LinSays and LinBox make of the end that a line says. -/
theorem says_none {l : List UInt8} (h : rpE l = none) : saysE l = none ∧ boxE l = none := by
  unfold rpE at h
  unfold saysE boxE
  split
  · rename_i ht
    rw [if_pos ht] at h
    rw [h]; exact ⟨rfl, rfl⟩
  · exact ⟨rfl, rfl⟩
theorem says_some {l : List UInt8} {a p : Int} (h : rpE l = some (a, p)) : saysE l = (if insB a p = true then some (a, p) else none) ∧ boxE l = (if boxB a p = true then some p else none) := by
  unfold rpE at h
  unfold saysE boxE
  split
  · rename_i ht
    rw [if_pos ht] at h
    rw [h]
    refine ⟨rfl, ?_⟩
    have hb := (rdE_some h).2
    by_cases ha : a = 50
    · subst ha
      have : boxB 50 p = true := by
        simp [endB, insB, outB, boxB, inB] at hb ⊢; omega
      simp [this]
    · simp [boxB, ha]
  · rename_i ht
    rw [if_neg ht] at h; cases h

set_option maxRecDepth 100000 in
set_option maxHeartbeats 800000 in
theorem implSays_some (s : ByteArray) (a p : Int) (w : World) (hv : VarsOk w)
    (h : ∀ w, VarsOk w → Calls Tryz.prog 26 #[.string s] w fun e w' => e = .returned (.tuple #[.agg #[.int .i64 a, .int .i64 p], .bool true]) ∧ Below w.heap.size w w') :
    Calls Tryz.prog 11 #[.string s] w fun e w' => e = .returned (saysV (if insB a p = true then some (a, p) else none)) ∧ Below w.heap.size w w' := by
  have H := Lib.hid h
  have HV := Lib.hid hv
  clear h hv
  by_cases hin : insB a p = true
  · rw [if_pos hin]
    go_enter Tryz.func11, Tryz.ntmps11
    go_wp2_with (first
      | (go_at_call 26; refine (H.out _ (HV.out.below ((Below.refl _ _).alloc (Nat.le_refl _) _))).mono ?_; rintro e w1 ⟨rfl, b1⟩; obtain ⟨c1, f1⟩ := bcell b1; have z1 : w.heap.size < w1.heap.size := by (have hq := b1.size; simp at hq; omega))
      | (go_at_call 27; refine (implInside_any _ _ _).mono ?_; rintro e w3 ⟨rfl, b3⟩; obtain ⟨c3, f3⟩ := bcell b3; have z3 : w1.heap.size < w3.heap.size := by (have hq := b3.size; simp at hq; omega)))
    obtain ⟨q0, q1, q2⟩ := set_two (w := w3) (b := w.heap.size) (x := .int .i64 0) (y := .int .i64 0) (.int .i64 a) (.int .i64 p) (by rw [c3 _ _ (by simp; omega), cell_alloc_lt z1, c1 _ _ (by simp)]; simp) (by rw [c3 _ _ (by simp; omega), cell_alloc_lt z1, c1 _ _ (by simp)]; simp)
    refine bodyPost_ret (v := .tuple #[.agg #[.int .i64 a, .int .i64 p], .bool true]) (by simp [results, Tryz.results11, go_sem, q1, q2]) rfl ⟨rfl, ?_⟩
    exact ((((below_box b1).trans (((Below.refl _ w1).alloc (Nat.le_refl _) _ |>.trans (b3.mono (by simp))).mono (by omega))).setCell (Nat.le_refl _) _).setCell (Nat.le_refl _) _)
  · rw [if_neg hin]
    go_enter Tryz.func11, Tryz.ntmps11
    go_wp2_with (first
      | (go_at_call 26; refine (H.out _ (HV.out.below ((Below.refl _ _).alloc (Nat.le_refl _) _))).mono ?_; rintro e w1 ⟨rfl, b1⟩; obtain ⟨c1, f1⟩ := bcell b1; have z1 : w.heap.size < w1.heap.size := by (have hq := b1.size; simp at hq; omega))
      | (go_at_call 27; refine (implInside_any _ _ _).mono ?_; rintro e w3 ⟨rfl, b3⟩; obtain ⟨c3, f3⟩ := bcell b3; have z3 : w1.heap.size < w3.heap.size := by (have hq := b3.size; simp at hq; omega)))
    obtain ⟨q0, q1, q2⟩ := set_two (w := w3) (b := w.heap.size) (x := .int .i64 0) (y := .int .i64 0) (.int .i64 0) (.int .i64 0) (by rw [c3 _ _ (by simp; omega), cell_alloc_lt z1, c1 _ _ (by simp)]; simp) (by rw [c3 _ _ (by simp; omega), cell_alloc_lt z1, c1 _ _ (by simp)]; simp)
    refine bodyPost_ret (v := .tuple #[.agg #[.int .i64 0, .int .i64 0], .bool false]) (by simp [results, Tryz.results11, go_sem, q1, q2]) rfl ⟨rfl, ?_⟩
    exact ((((below_box b1).trans (((Below.refl _ w1).alloc (Nat.le_refl _) _ |>.trans (b3.mono (by simp))).mono (by omega))).setCell (Nat.le_refl _) _).setCell (Nat.le_refl _) _)

set_option maxRecDepth 100000 in
set_option maxHeartbeats 800000 in
theorem implSays_none (s : ByteArray) (w : World) (hv : VarsOk w)
    (h : ∀ w, VarsOk w → Calls Tryz.prog 26 #[.string s] w fun e w' => e = .returned (.tuple #[.agg #[.int .i64 0, .int .i64 0], .bool false]) ∧ Below w.heap.size w w') :
    Calls Tryz.prog 11 #[.string s] w fun e w' => e = .returned (saysV none) ∧ Below w.heap.size w w' := by
  have H := Lib.hid h
  have HV := Lib.hid hv
  clear h hv
  go_enter Tryz.func11, Tryz.ntmps11
  go_wp2_with (go_at_call 26; refine (H.out _ (HV.out.below ((Below.refl _ _).alloc (Nat.le_refl _) _))).mono ?_; rintro e w1 ⟨rfl, b1⟩; obtain ⟨c1, f1⟩ := bcell b1; have z1 : w.heap.size < w1.heap.size := by (have hq := b1.size; simp at hq; omega))
  obtain ⟨q0, q1, q2⟩ := set_two (w := w1) (b := w.heap.size) (x := .int .i64 0) (y := .int .i64 0) (.int .i64 0) (.int .i64 0) (by rw [c1 _ _ (by simp)]; simp) (by rw [c1 _ _ (by simp)]; simp)
  refine bodyPost_ret (v := .tuple #[.agg #[.int .i64 0, .int .i64 0], .bool false]) (by simp [results, Tryz.results11, go_sem, cell_alloc_lt, z1, q1, q2]) rfl ⟨rfl, ?_⟩
  exact (((below_box b1).setCell (Nat.le_refl _) _).setCell (Nat.le_refl _) _).alloc (by simp; omega) _

theorem implSays_any (s : ByteArray) (w : World) (hs : s.size ≤ 2097152) (hv : VarsOk w) :
    Calls Tryz.prog 11 #[.string s] w fun e w' => e = .returned (saysV (saysE s.data.toList)) ∧ Below w.heap.size w w' := by
  have hd := fun w hv => readPort_any s w hs hv
  rcases hr : rpE s.data.toList with _ | ⟨a, p⟩
  · rw [(says_none hr).1]; simp only [hr] at hd; exact implSays_none s w hv hd
  · rw [(says_some hr).1]; simp only [hr] at hd; exact implSays_some s a p w hv hd

end Go.Proofs.YtbhpogddnpaacaaGreatDoor
