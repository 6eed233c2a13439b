/- The law of MapEnd, out of a contract of the program's MapEnd (a premise: to be paid by the landed code's own contract). Condition: the argument is a table in the machine's memory. -/
import Derived.Test.YtpilmldcmpbabaaLawMapPort
import Derived.Test.YtpilmldcmpbabaaSPuts
import Derived.Deep.RegionWith
import Derived.Deep.DeepCutAuto
namespace Go.Proofs.Ytpilmldcmpbabaa
open Go.RowKit Go.Sort

/-- What the program's MapEnd must answer. -/
def ImplMapEnd : Prop := ∀ (v : Value) (es : List (Int × Int)) (port : Int) (w : World), es.length ≤ 4194304 → wfE es → (Lit.int .i64 port).wf = true → TabAt w v es → Calls Try.prog 16 #[.agg #[v], .int .i64 port] w fun e w' => e = .returned (endV (endI es port)) ∧ Below w.heap.size w w'
theorem endV_form (x : Option (Int × Int)) : ∃ (a p : Int) (b : Bool), endV x = .tuple #[.agg #[.int .i64 a, .int .i64 p], .bool b] := by
  rcases x with _ | ⟨a, p⟩
  · exact ⟨0, 0, false, rfl⟩
  · exact ⟨a, p, true, rfl⟩

set_option maxRecDepth 100000 in
set_option maxHeartbeats 3200000 in
theorem lawMapEnd_of (HI : ImplMapEnd) (v : Value) (es : List (Int × Int)) (port : Int) (w : World) (hL : es.length ≤ 9223372036854775807) (ht : ArgTab w v es) (hwf : wfE es) (wp : (Lit.int .i64 port).wf = true) :
    Calls Try.prog 5 #[.agg #[v], .int .i64 port] w fun e w' => e = .returned (.bool true) ∧ Below w.heap.size w w' := by
  have HT := Lib.hid ht
  obtain ⟨ad, cap, rfl, _, _⟩ := ht
  rcases Nat.lt_or_ge 1048576 es.length with h | h
  · have HS : Hid (∀ w, ArgTab w (.slice ad es.length cap) es → Calls Try.prog 7 #[.agg #[.slice ad es.length cap], .int .i64 1048576] w fun e w' => e = .returned (.int .i64 (-1)) ∧ Below w.heap.size w w') := fun w ht => szTab_big es _ w hL h ht
    go_enter Try.func5, Try.ntmps5
    go_wp2_with (go_at_call 7; refine (HS.out _ (HT.out.below ((Below.refl _ _).alloc (Nat.le_refl _) _))).mono ?_; rintro e w1 ⟨rfl, b1⟩)
    go_ret
    exact ⟨rfl, ((Below.refl _ _).alloc (Nat.le_refl _) _).trans (b1.mono (by simp))⟩
  · have hn : es.length ≤ 4194304 := by omega
    obtain ⟨q, hq⟩ : ∃ q : Int, q = 1048576 - es.length := ⟨_, rfl⟩
    have hq0 : 0 ≤ q := by omega
    have HS : Hid (∀ w, ArgTab w (.slice ad es.length cap) es → Calls Try.prog 7 #[.agg #[.slice ad es.length cap], .int .i64 1048576] w fun e w' => e = .returned (.int .i64 q) ∧ Below w.heap.size w w') := fun w ht => szTab_small es _ q w h hq ht
    have HTo : Hid (∀ w, ArgTab w (.slice ad es.length cap) es → Calls Try.prog 9 #[.agg #[.slice ad es.length cap]] w fun e w' => ∃ g c, e = .returned (.agg #[.slice (some ⟨g, 0, none⟩) es.length c]) ∧ TabRoom w' w.heap.size (.slice (some ⟨g, 0, none⟩) es.length c) es ∧ Below w.heap.size w w') := fun w ht => toTab_form _ es w hn ht
    obtain ⟨a, p, b, hv⟩ := endV_form (endI es port)
    have HM : Hid (∀ v w, TabAt w v es → Calls Try.prog 15 #[.agg #[v], .int .i64 port] w fun e w' => e = .returned (.tuple #[.agg #[.int .i64 a, .int .i64 p], .bool b]) ∧ Below w.heap.size w w') := fun v w ht => by rw [← hv]; exact specMapEnd_any v es port w hn ht
    have HI' : Hid (∀ v w, TabAt w v es → Calls Try.prog 16 #[.agg #[v], .int .i64 port] w fun e w' => e = .returned (.tuple #[.agg #[.int .i64 a, .int .i64 p], .bool b]) ∧ Below w.heap.size w w') := fun v w ht => by rw [← hv]; exact HI v es port w hn hwf wp ht
    have HE : Hid (∀ u v w, TabAt w u es → TabAt w v es → Calls Try.prog 11 #[.agg #[u], .agg #[v]] w fun e w' => e = .returned (.bool true) ∧ Below w.heap.size w w') := fun u v w h1 h2 => eqTab_same u v es w hn h1 h2
    clear HI hv hq hL hwf wp
    go_enter Try.func5, Try.ntmps5
    go_wp2_with fail
    (go_at_call 7; refine (HS.out _ (HT.out.below ((Below.refl _ _).alloc (Nat.le_refl _) _))).mono ?_; rintro e w1 ⟨rfl, b1⟩; have t1 : w1.cell? ⟨w.heap.size, 0, none⟩ = some (.slice ad es.length cap) := (by rw [b1.cell (by simp)]; simp); have B1 : Hid (Below w.heap.size w w1) := (((Below.refl _ _).alloc (Nat.le_refl _) _).trans (b1.mono (by simp))); have z1 : w.heap.size < w1.heap.size := (by have := b1.size; simp at this; omega); clear b1)
    have HT1 : Hid (∀ wx, Below w1.heap.size w1 wx → ArgTab wx (.slice ad es.length cap) es) := fun wx hb => (HT.out.below B1.out).below hb
    have T1 : Hid (∀ wx, Below w1.heap.size w1 wx → wx.cell? ⟨w.heap.size, 0, none⟩ = some (.slice ad es.length cap)) := fun wx hb => by rw [hb.cell (by simp; omega)]; exact t1
    go_wp2_with fail
    (go_at_call 9; refine (HTo.out _ (HT1.out _ (Below.refl _ _))).mono ?_; rintro e w2 ⟨ga, ca, rfl, ra, c2⟩; have RA := Lib.hid ra; clear ra)
    go_wp2_with fail
    (go_at_call 15; refine (HM.out _ _ RA.out.tab).mono ?_; rintro e w3 ⟨rfl, b3⟩; have c3 := c2.trans (b3.mono c2.size); have t3 : ∀ o, (w3.alloc o).cell? ⟨w.heap.size, 0, none⟩ = some (.slice ad es.length cap) := (fun o => T1.out _ (c3.alloc c3.size o)))
    go_wp2_with fail
    (go_at_call 9; refine (HTo.out _ (HT1.out _ (c3.alloc c3.size _))).mono ?_; rintro e w4 ⟨gx, cx, rfl, rx, b4⟩; have c4 : Below w1.heap.size w1 w4 := (c3.alloc c3.size _).trans (b4.mono (by have := c3.size; simp; omega)); have z3 : w3.heap.size < w4.heap.size := (by have := b4.size; simp at this; omega); have y40 : w4.cell? ⟨w3.heap.size, 0, none⟩ = some (.int .i64 a) := (by rw [b4.cell (by simp)]; simp); have y41 : w4.cell? ⟨w3.heap.size, 1, none⟩ = some (.int .i64 p) := (by rw [b4.cell (by simp)]; simp); have RX := Lib.hid rx; clear rx b4 t3)
    go_wp2_with fail
    (go_at_call 16; refine (HI'.out _ _ (RX.out.tab.below ((Below.refl _ _).alloc (Nat.le_refl _) _))).mono ?_; rintro e w5 ⟨rfl, b5⟩; have d5 : Below w4.heap.size w4 w5 := ((Below.refl _ _).alloc (Nat.le_refl _) _).trans (b5.mono (by simp)); have c5 : Below w1.heap.size w1 w5 := c4.trans (d5.mono c4.size); have z4 : w4.heap.size < w5.heap.size := (by have := b5.size; simp at this; omega); have x5 : w5.cell? ⟨w4.heap.size, 0, none⟩ = some (.slice (some ⟨gx, 0, none⟩) es.length cx) := (by rw [b5.cell (by simp)]; simp); have y5 : ∀ o, (w5.alloc o).cell? ⟨w3.heap.size, 0, none⟩ = some (.int .i64 a) := (fun o => by rw [cell_alloc_lt (by omega), d5.cell z3]; exact y40); have y5' : ∀ o, (w5.alloc o).cell? ⟨w3.heap.size, 1, none⟩ = some (.int .i64 p) := (fun o => by rw [cell_alloc_lt (by omega), d5.cell z3]; exact y41))
    go_wp2_with fail
    (go_at_call 17; refine (eqEnd_same a p _).mono ?_; rintro e w6 ⟨rfl, b6⟩; have d6 : Below w5.heap.size w5 w6 := ((Below.refl _ _).alloc (Nat.le_refl _) _).trans (b6.mono (by simp)); have c6 : Below w1.heap.size w1 w6 := c5.trans (d6.mono c5.size); have x6 : w6.cell? ⟨w4.heap.size, 0, none⟩ = some (.slice (some ⟨gx, 0, none⟩) es.length cx) := (by rw [d6.cell z4]; exact x5); have t6 := T1.out _ c6; have R6 := Lib.hid ((RX.out.below d5).below d6); have z6 : w4.heap.size < w6.heap.size := (by have := d6.size; omega); clear b6 b5 y5 y5' x5)
    go_upto_region 10 with fail
    go_region_with (first
      | (go_at_call 9; refine (HTo.out _ (HT1.out _ c6.drew)).mono ?_; rintro e w8 ⟨gy, cy, rfl, ry, b8⟩; have RY := Lib.hid ry; have d8 : Below w6.heap.size w6 w8 := ((Below.refl _ _).drew).trans b8; have x8 : w8.cell? ⟨w4.heap.size, 0, none⟩ = some (.slice (some ⟨gx, 0, none⟩) es.length cx) := (by rw [d8.cell z6]; exact x6); clear ry b8)
      | (go_at_call 11; refine (HE.out _ _ _ (R6.out.below d8).tab RY.out.tab).mono ?_; rintro e w9 ⟨rfl, b9⟩; have c9 := c6.trans ((d8.trans (b9.mono d8.size)).mono c6.size)))
    all_goals
      go_wp2
      go_ret
      exact ⟨rfl, B1.out.trans (c9.mono (by omega))⟩

end Go.Proofs.Ytpilmldcmpbabaa
